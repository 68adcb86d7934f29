/-
  The walk of landfalllaw01's WideMore.
-/
import Derived.Test.YtbldmenaaedffaaWx
import Derived.Test.YtbldmenaaedffaaWv
namespace Go.Proofs.Ytbldmenaaedffaa
open Go.RowKit

/-- What More tells: its bool, and its number of an error. -/
def moreX (a : Nat) (n : Int) (b : Nat) (m : Int) : Bool := if n < 0 ∨ m < 0 then false else moreB (a * n.toNat) (b * m.toNat)
def moreE (n m : Int) : Int := if n < 0 ∨ m < 0 then 3 else 0

theorem More_x (a b : Nat) (n m : Int) (w : World) (ha : a < W128) (hb : b < W128) (hn : n ≤ 9223372036854775807) (hm : m ≤ 9223372036854775807) :
    Calls Try.prog 25 #[wv a, .int .i64 n, wv b, .int .i64 m] w fun e w' => e = .returned (.tuple #[.bool (moreX a n b m), .int .i64 (moreE n m)]) ∧ Below w.heap.size w w' := by
  unfold moreX moreE
  by_cases h : n < 0 ∨ m < 0
  · rw [if_pos h, if_pos h]
    exact More_neg a b n m w h
  · rw [if_neg h, if_neg h]
    have q := More_any a b n.toNat m.toNat w ha hb (by omega) (by omega)
    rwa [show ((n.toNat : Nat) : Int) = n by omega, show ((m.toNat : Nat) : Int) = m by omega] at q

theorem refMore_x (a b : Nat) (n m : Int) (w : World) (ha : a < W128) (hb : b < W128) (hn : n ≤ 9223372036854775807) (hm : m ≤ 9223372036854775807) :
    Calls Try.prog 26 #[wv a, .int .i64 n, wv b, .int .i64 m] w fun e w' => e = .returned (.tuple #[.bool (moreX a n b m), .int .i64 (moreE n m)]) ∧ Below w.heap.size w w' := by
  unfold moreX moreE
  by_cases h : n < 0 ∨ m < 0
  · rw [if_pos h, if_pos h]
    exact refMore_neg a b n m w h
  · rw [if_neg h, if_neg h]
    have q := refMore_any a b n.toNat m.toNat w ha hb (by omega) (by omega)
    rwa [show ((n.toNat : Nat) : Int) = n by omega, show ((m.toNat : Nat) : Int) = m by omega] at q

theorem lawMore_any (a b : Nat) (n m : Int) (w : World) (ha : a < W128) (hb : b < W128) (hn : n ≤ 9223372036854775807) (hm : m ≤ 9223372036854775807) :
    Calls Try.prog 4 #[wv a, .int .i64 n, wv b, .int .i64 m] w fun e w' => e = .returned (.bool true) ∧ Below w.heap.size w w' := by
  have HA := hidp ha; have HB := hidp hb; clear ha hb
  go_enter Try.func4, Try.ntmps4
  go_wp2_with (first | (go_at_call 25; refine (More_x a b n m _ HA.out HB.out hn hm).mono ?_; rintro e wA ⟨rfl, hBA⟩; (try (have q_ := hBA.cell (p := ⟨w.heap.size, 0, none⟩) (by first | omega | (simp; done) | (simp; omega)); (try simp at q_))); (try (have q_ := hBA.frozen (p := ⟨w.heap.size, 0, none⟩) (by first | omega | (simp; done) | (simp; omega)); (try simp at q_))); (try (have q_ := hBA.cell (p := ⟨w.heap.size, 1, none⟩) (by first | omega | (simp; done) | (simp; omega)); (try simp at q_))); (try (have q_ := hBA.frozen (p := ⟨w.heap.size, 1, none⟩) (by first | omega | (simp; done) | (simp; omega)); (try simp at q_))); (try (have q_ := hBA.cell (p := ⟨w.heap.size, 2, none⟩) (by first | omega | (simp; done) | (simp; omega)); (try simp at q_))); (try (have q_ := hBA.frozen (p := ⟨w.heap.size, 2, none⟩) (by first | omega | (simp; done) | (simp; omega)); (try simp at q_))); (try (have q_ : w.heap.size < wA.heap.size := by have i_ := hBA.size; (try simp at i_); omega)); (try (have q_ := hBA.cell (p := ⟨w.heap.size + 1, 0, none⟩) (by first | omega | (simp; done) | (simp; omega)); (try simp at q_))); (try (have q_ := hBA.frozen (p := ⟨w.heap.size + 1, 0, none⟩) (by first | omega | (simp; done) | (simp; omega)); (try simp at q_))); (try (have q_ := hBA.cell (p := ⟨w.heap.size + 1, 1, none⟩) (by first | omega | (simp; done) | (simp; omega)); (try simp at q_))); (try (have q_ := hBA.frozen (p := ⟨w.heap.size + 1, 1, none⟩) (by first | omega | (simp; done) | (simp; omega)); (try simp at q_))); (try (have q_ := hBA.cell (p := ⟨w.heap.size + 1, 2, none⟩) (by first | omega | (simp; done) | (simp; omega)); (try simp at q_))); (try (have q_ := hBA.frozen (p := ⟨w.heap.size + 1, 2, none⟩) (by first | omega | (simp; done) | (simp; omega)); (try simp at q_))); (try (have q_ : w.heap.size + 1 < wA.heap.size := by have i_ := hBA.size; (try simp at i_); omega))) | (go_at_call 26; refine (refMore_x a b n m _ HA.out HB.out hn hm).mono ?_; rintro e wB ⟨rfl, hBB⟩; (try (have q_ := hBB.cell (p := ⟨w.heap.size, 0, none⟩) (by first | omega | (simp; done) | (simp; omega)); (try simp at q_))); (try (have q_ := hBB.frozen (p := ⟨w.heap.size, 0, none⟩) (by first | omega | (simp; done) | (simp; omega)); (try simp at q_))); (try (have q_ := hBB.cell (p := ⟨w.heap.size, 1, none⟩) (by first | omega | (simp; done) | (simp; omega)); (try simp at q_))); (try (have q_ := hBB.frozen (p := ⟨w.heap.size, 1, none⟩) (by first | omega | (simp; done) | (simp; omega)); (try simp at q_))); (try (have q_ := hBB.cell (p := ⟨w.heap.size, 2, none⟩) (by first | omega | (simp; done) | (simp; omega)); (try simp at q_))); (try (have q_ := hBB.frozen (p := ⟨w.heap.size, 2, none⟩) (by first | omega | (simp; done) | (simp; omega)); (try simp at q_))); (try (have q_ : w.heap.size < wB.heap.size := by have i_ := hBB.size; (try simp at i_); omega)); (try (have q_ := hBB.cell (p := ⟨w.heap.size + 1, 0, none⟩) (by first | omega | (simp; done) | (simp; omega)); (try simp at q_))); (try (have q_ := hBB.frozen (p := ⟨w.heap.size + 1, 0, none⟩) (by first | omega | (simp; done) | (simp; omega)); (try simp at q_))); (try (have q_ := hBB.cell (p := ⟨w.heap.size + 1, 1, none⟩) (by first | omega | (simp; done) | (simp; omega)); (try simp at q_))); (try (have q_ := hBB.frozen (p := ⟨w.heap.size + 1, 1, none⟩) (by first | omega | (simp; done) | (simp; omega)); (try simp at q_))); (try (have q_ := hBB.cell (p := ⟨w.heap.size + 1, 2, none⟩) (by first | omega | (simp; done) | (simp; omega)); (try simp at q_))); (try (have q_ := hBB.frozen (p := ⟨w.heap.size + 1, 2, none⟩) (by first | omega | (simp; done) | (simp; omega)); (try simp at q_))); (try (have q_ : w.heap.size + 1 < wB.heap.size := by have i_ := hBB.size; (try simp at i_); omega))) | (go_at_call 10; refine (awake_any _).mono ?_; rintro e wC ⟨rfl, hBC⟩))
  go_ret
  exact ⟨rfl, by (repeat' (first | (with_reducible exact Below.refl _ _) | (with_reducible refine Below.alloc ?_ ?_ _) | (with_reducible refine Below.drew ?_) | (with_reducible refine Below.drewN ?_ _) | (with_reducible refine Below.setCell ?_ ?_ _) | (with_reducible refine Below.trans ?_ (Below.mono hBA ?_)) | (with_reducible refine Below.trans ?_ (Below.mono hBB ?_)) | (with_reducible refine Below.trans ?_ (Below.mono hBC ?_)) | go_size | (have i0_ := hBA.size; (try simp at i0_); (try simp); omega) | (have i0_ := hBA.size; (try simp at i0_); have i1_ := hBB.size; (try simp at i1_); (try simp); omega) | (have i0_ := hBA.size; (try simp at i0_); have i1_ := hBB.size; (try simp at i1_); have i2_ := hBC.size; (try simp at i2_); (try simp); omega)))⟩
end Go.Proofs.Ytbldmenaaedffaa
