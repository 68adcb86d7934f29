/-
  Contracts: More of package wide.
-/
import Derived.Test.YtbldmenaaedffaaWi
import Derived.Deep.RegionHeld3
import Derived.Deep.DeepCutAuto
namespace Go.Proofs.Ytbldmenaaedffaa
open Go.RowKit

/-- Is the first of two numbers greater? -/
def moreB (x y : Nat) : Bool := decide (y < x)

theorem more_ret (x y : Nat) : Ending.returned (.tuple #[.bool (decide (0 < cmpI x y)), .int .i64 0]) = .returned (.tuple #[.bool (moreB x y), .int .i64 0]) := by
  have h : decide (0 < cmpI x y) = moreB x y := by
    unfold moreB cmpI
    by_cases h1 : y < x
    · rw [if_neg (by omega), if_pos (by omega)]; simp [h1]
    · split
      · simp [h1]
      · rw [if_neg (by omega)]; simp [h1]
  rw [h]

theorem More_neg (a b : Nat) (n m : Int) (w : World) (h : n < 0 ∨ m < 0) :
    Calls Try.prog 25 #[wv a, .int .i64 n, wv b, .int .i64 m] w fun e w' => e = .returned (.tuple #[.bool false, .int .i64 3]) ∧ Below w.heap.size w w' := by
  by_cases hn : n < 0
  · go_enter Try.func25, Try.ntmps25
    go_wp2
    go_ret2
    exact ⟨rfl, by (repeat' (first | (with_reducible exact Below.refl _ _) | (with_reducible refine Below.alloc ?_ ?_ _) | (with_reducible refine Below.drew ?_) | (with_reducible refine Below.drewN ?_ _) | (with_reducible refine Below.setCell ?_ ?_ _) | go_size))⟩
  · have hm : m < 0 := by omega
    go_enter Try.func25, Try.ntmps25
    go_wp2
    go_ret2
    exact ⟨rfl, by (repeat' (first | (with_reducible exact Below.refl _ _) | (with_reducible refine Below.alloc ?_ ?_ _) | (with_reducible refine Below.drew ?_) | (with_reducible refine Below.drewN ?_ _) | (with_reducible refine Below.setCell ?_ ?_ _) | go_size))⟩

set_option maxHeartbeats 8000000 in
theorem More_any (a b n m : Nat) (w : World) (ha : a < W128) (hb : b < W128) (hn : n ≤ 9223372036854775807) (hm : m ≤ 9223372036854775807) :
    Calls Try.prog 25 #[wv a, .int .i64 n, wv b, .int .i64 m] w fun e w' => e = .returned (.tuple #[.bool (moreB (a * n) (b * m)), .int .i64 0]) ∧ Below w.heap.size w w' := by
  have HA := hidp ha; have HB := hidp hb; clear ha hb
  go_enter Try.func25, Try.ntmps25
  go_wp2
  obtain ⟨W0, hW0⟩ : ∃ W0, ((w.alloc (.cells #[.int .u64 (hiw a), .int .u64 (low a)] 24)).alloc (.cells #[.int .u64 (hiw b), .int .u64 (low b)] 24)) = W0 := ⟨_, rfl⟩
  have c0 : W0.cell? ⟨w.heap.size, 0, none⟩ = some (.int .u64 (hiw a)) := by subst hW0; simp
  have c1 : W0.cell? ⟨w.heap.size, 1, none⟩ = some (.int .u64 (low a)) := by subst hW0; simp
  have c2 : W0.cell? ⟨w.heap.size + 1, 0, none⟩ = some (.int .u64 (hiw b)) := by subst hW0; simp
  have c3 : W0.cell? ⟨w.heap.size + 1, 1, none⟩ = some (.int .u64 (low b)) := by subst hW0; simp
  have hs0 : w.heap.size + 2 ≤ W0.heap.size := by subst hW0; simp
  have hBW : Below w.heap.size w W0 := by subst hW0; (repeat' (first | (with_reducible exact Below.refl _ _) | (with_reducible refine Below.alloc ?_ ?_ _) | (with_reducible refine Below.drew ?_) | (with_reducible refine Below.drewN ?_ _) | (with_reducible refine Below.setCell ?_ ?_ _) | go_size))
  rw [hW0]
  clear hW0
  go_region_held3 (fun w' => w'.cell? ⟨w.heap.size, 0, none⟩ = some (.int .u64 (hiw a)) ∧ w'.cell? ⟨w.heap.size, 1, none⟩ = some (.int .u64 (low a)) ∧ w'.cell? ⟨w.heap.size + 1, 0, none⟩ = some (.int .u64 (hiw b)) ∧ w'.cell? ⟨w.heap.size + 1, 1, none⟩ = some (.int .u64 (low b)))
    (first | (refine ⟨?_, ?_, ?_, ?_⟩ <;> first | (refine Eq.trans (Below.cell (B := w.heap.size + 2) (w := W0) ?_ (by simp)) (by assumption); (repeat' (first | (with_reducible exact Below.refl _ _) | (with_reducible refine Below.alloc ?_ ?_ _) | (with_reducible refine Below.drew ?_) | (with_reducible refine Below.drewN ?_ _) | (with_reducible refine Below.setCell ?_ ?_ _) | go_size)); done) | go_size) | (refine ⟨?_, ?_, ?_, ?_⟩ <;> first | (refine Eq.trans (Below.cell (B := w.heap.size + 2) (w := W0) ?_ (by simp)) (by assumption); (repeat' (first | (with_reducible exact Below.refl _ _) | (with_reducible refine Below.alloc ?_ ?_ _) | (with_reducible refine Below.drew ?_) | (with_reducible refine Below.drewN ?_ _) | (with_reducible refine Below.setCell ?_ ?_ _) | (with_reducible refine Below.trans ?_ (Below.mono hBA ?_)) | (with_reducible refine Below.trans ?_ (Below.mono hBB ?_)) | go_size | (have i0_ := hBA.size; (try simp at i0_); (try simp); omega) | (have i0_ := hBA.size; (try simp at i0_); have i1_ := hBB.size; (try simp at i1_); (try simp); omega))); done) | go_size | (have i0_ := hBA.size; (try simp at i0_); (try simp); omega) | (have i0_ := hBA.size; (try simp at i0_); have i1_ := hBB.size; (try simp at i1_); (try simp); omega)) | (refine ⟨?_, ?_, ?_, ?_⟩ <;> first | (refine Eq.trans (Below.cell (B := w.heap.size + 2) (w := W0) ?_ (by simp)) (by assumption); (repeat' (first | (with_reducible exact Below.refl _ _) | (with_reducible refine Below.alloc ?_ ?_ _) | (with_reducible refine Below.drew ?_) | (with_reducible refine Below.drewN ?_ _) | (with_reducible refine Below.setCell ?_ ?_ _) | (with_reducible refine Below.trans ?_ (Below.mono hBA ?_)) | go_size | (have i0_ := hBA.size; (try simp at i0_); (try simp); omega))); done) | go_size | (have i0_ := hBA.size; (try simp at i0_); (try simp); omega)))
    (first | (go_at_call_of 40 (hiw a); refine (multiply_any a n _ HA.out hn).mono ?_; rintro e wA ⟨rfl, hBA⟩; (try (have q_ := hBA.cell (p := ⟨W0.heap.size, 0, none⟩) (by first | omega | (simp; done) | (simp; omega)); (try simp at q_))); (try (have q_ := hBA.frozen (p := ⟨W0.heap.size, 0, none⟩) (by first | omega | (simp; done) | (simp; omega)); (try simp at q_))); (try (have q_ := hBA.cell (p := ⟨W0.heap.size, 1, none⟩) (by first | omega | (simp; done) | (simp; omega)); (try simp at q_))); (try (have q_ := hBA.frozen (p := ⟨W0.heap.size, 1, none⟩) (by first | omega | (simp; done) | (simp; omega)); (try simp at q_))); (try (have q_ := hBA.cell (p := ⟨W0.heap.size, 2, none⟩) (by first | omega | (simp; done) | (simp; omega)); (try simp at q_))); (try (have q_ := hBA.frozen (p := ⟨W0.heap.size, 2, none⟩) (by first | omega | (simp; done) | (simp; omega)); (try simp at q_))); (try (have q_ : W0.heap.size < wA.heap.size := by have i_ := hBA.size; (try simp at i_); omega)); (try (have q_ := hBA.cell (p := ⟨W0.heap.size + 1, 0, none⟩) (by first | omega | (simp; done) | (simp; omega)); (try simp at q_))); (try (have q_ := hBA.frozen (p := ⟨W0.heap.size + 1, 0, none⟩) (by first | omega | (simp; done) | (simp; omega)); (try simp at q_))); (try (have q_ := hBA.cell (p := ⟨W0.heap.size + 1, 1, none⟩) (by first | omega | (simp; done) | (simp; omega)); (try simp at q_))); (try (have q_ := hBA.frozen (p := ⟨W0.heap.size + 1, 1, none⟩) (by first | omega | (simp; done) | (simp; omega)); (try simp at q_))); (try (have q_ := hBA.cell (p := ⟨W0.heap.size + 1, 2, none⟩) (by first | omega | (simp; done) | (simp; omega)); (try simp at q_))); (try (have q_ := hBA.frozen (p := ⟨W0.heap.size + 1, 2, none⟩) (by first | omega | (simp; done) | (simp; omega)); (try simp at q_))); (try (have q_ : W0.heap.size + 1 < wA.heap.size := by have i_ := hBA.size; (try simp at i_); omega))) | (go_at_call_of 40 (hiw b); refine (multiply_any b m _ HB.out hm).mono ?_; rintro e wB ⟨rfl, hBB⟩; (try (have q_ := hBB.cell (p := ⟨W0.heap.size, 0, none⟩) (by first | omega | (simp; done) | (simp; omega)); (try simp at q_))); (try (have q_ := hBB.frozen (p := ⟨W0.heap.size, 0, none⟩) (by first | omega | (simp; done) | (simp; omega)); (try simp at q_))); (try (have q_ := hBB.cell (p := ⟨W0.heap.size, 1, none⟩) (by first | omega | (simp; done) | (simp; omega)); (try simp at q_))); (try (have q_ := hBB.frozen (p := ⟨W0.heap.size, 1, none⟩) (by first | omega | (simp; done) | (simp; omega)); (try simp at q_))); (try (have q_ := hBB.cell (p := ⟨W0.heap.size, 2, none⟩) (by first | omega | (simp; done) | (simp; omega)); (try simp at q_))); (try (have q_ := hBB.frozen (p := ⟨W0.heap.size, 2, none⟩) (by first | omega | (simp; done) | (simp; omega)); (try simp at q_))); (try (have q_ : W0.heap.size < wB.heap.size := by have i_ := hBB.size; (try simp at i_); omega)); (try (have q_ := hBB.cell (p := ⟨W0.heap.size + 1, 0, none⟩) (by first | omega | (simp; done) | (simp; omega)); (try simp at q_))); (try (have q_ := hBB.frozen (p := ⟨W0.heap.size + 1, 0, none⟩) (by first | omega | (simp; done) | (simp; omega)); (try simp at q_))); (try (have q_ := hBB.cell (p := ⟨W0.heap.size + 1, 1, none⟩) (by first | omega | (simp; done) | (simp; omega)); (try simp at q_))); (try (have q_ := hBB.frozen (p := ⟨W0.heap.size + 1, 1, none⟩) (by first | omega | (simp; done) | (simp; omega)); (try simp at q_))); (try (have q_ := hBB.cell (p := ⟨W0.heap.size + 1, 2, none⟩) (by first | omega | (simp; done) | (simp; omega)); (try simp at q_))); (try (have q_ := hBB.frozen (p := ⟨W0.heap.size + 1, 2, none⟩) (by first | omega | (simp; done) | (simp; omega)); (try simp at q_))); (try (have q_ : W0.heap.size + 1 < wB.heap.size := by have i_ := hBB.size; (try simp at i_); omega)); (try (have q_ := hBB.cell (p := ⟨wA.heap.size, 0, none⟩) (by first | omega | (simp; done) | (simp; omega)); (try simp at q_))); (try (have q_ := hBB.frozen (p := ⟨wA.heap.size, 0, none⟩) (by first | omega | (simp; done) | (simp; omega)); (try simp at q_))); (try (have q_ := hBB.cell (p := ⟨wA.heap.size, 1, none⟩) (by first | omega | (simp; done) | (simp; omega)); (try simp at q_))); (try (have q_ := hBB.frozen (p := ⟨wA.heap.size, 1, none⟩) (by first | omega | (simp; done) | (simp; omega)); (try simp at q_))); (try (have q_ := hBB.cell (p := ⟨wA.heap.size, 2, none⟩) (by first | omega | (simp; done) | (simp; omega)); (try simp at q_))); (try (have q_ := hBB.frozen (p := ⟨wA.heap.size, 2, none⟩) (by first | omega | (simp; done) | (simp; omega)); (try simp at q_))); (try (have q_ : wA.heap.size < wB.heap.size := by have i_ := hBB.size; (try simp at i_); omega)); (try (have q_ := hBB.cell (p := ⟨wA.heap.size + 1, 0, none⟩) (by first | omega | (simp; done) | (simp; omega)); (try simp at q_))); (try (have q_ := hBB.frozen (p := ⟨wA.heap.size + 1, 0, none⟩) (by first | omega | (simp; done) | (simp; omega)); (try simp at q_))); (try (have q_ := hBB.cell (p := ⟨wA.heap.size + 1, 1, none⟩) (by first | omega | (simp; done) | (simp; omega)); (try simp at q_))); (try (have q_ := hBB.frozen (p := ⟨wA.heap.size + 1, 1, none⟩) (by first | omega | (simp; done) | (simp; omega)); (try simp at q_))); (try (have q_ := hBB.cell (p := ⟨wA.heap.size + 1, 2, none⟩) (by first | omega | (simp; done) | (simp; omega)); (try simp at q_))); (try (have q_ := hBB.frozen (p := ⟨wA.heap.size + 1, 2, none⟩) (by first | omega | (simp; done) | (simp; omega)); (try simp at q_))); (try (have q_ : wA.heap.size + 1 < wB.heap.size := by have i_ := hBB.size; (try simp at i_); omega))))
  all_goals go_wp2_with (go_at_call 46; refine (compare_any (a * n) (b * m) _).mono ?_; rintro e wC ⟨rfl, hBC⟩)
  all_goals go_ret2
  all_goals refine ⟨more_ret _ _, ?_⟩
  all_goals refine hBW.trans ?_
  all_goals (repeat' (first | (with_reducible exact Below.refl _ _) | (with_reducible refine Below.alloc ?_ ?_ _) | (with_reducible refine Below.drew ?_) | (with_reducible refine Below.drewN ?_ _) | (with_reducible refine Below.setCell ?_ ?_ _) | (with_reducible refine Below.trans ?_ (Below.mono hBA ?_)) | (with_reducible refine Below.trans ?_ (Below.mono hBB ?_)) | (with_reducible refine Below.trans ?_ (Below.mono hBC ?_)) | go_size | (have i0_ := hBA.size; (try simp at i0_); (try simp); omega) | (have i0_ := hBA.size; (try simp at i0_); have i1_ := hBB.size; (try simp at i1_); (try simp); omega) | (have i0_ := hBA.size; (try simp at i0_); have i1_ := hBB.size; (try simp at i1_); have i2_ := hBC.size; (try simp at i2_); (try simp); omega)))
end Go.Proofs.Ytbldmenaaedffaa
