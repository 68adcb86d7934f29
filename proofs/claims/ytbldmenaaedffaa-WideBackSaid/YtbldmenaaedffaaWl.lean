/-
  Contracts: Sum of package wide.
-/
import Derived.Test.YtbldmenaaedffaaWk
namespace Go.Proofs.Ytbldmenaaedffaa
open Go.RowKit

theorem wv_nat {n : Nat} (h : n ≤ 9223372036854775807) : wv n = .agg #[.int .u64 0, .int .u64 n] := by
  have h1 : hiw n = 0 := by unfold hiw B64; omega
  have h2 : low n = n := by unfold low B64; omega
  unfold wv; rw [h1, h2]; rfl
theorem Of_nat (n : Nat) (w : World) (hn : n ≤ 9223372036854775807) :
    Calls Try.prog 12 #[.int .i64 n] w fun e w' => e = .returned (.tuple #[wv n, .int .i64 0]) ∧ Below w.heap.size w w' := by
  rw [wv_nat hn]; exact Of_ok n w (by omega) (by omega)
theorem refOf_nat (n : Nat) (w : World) (hn : n ≤ 9223372036854775807) :
    Calls Try.prog 13 #[.int .i64 n] w fun e w' => e = .returned (.tuple #[wv n, .int .i64 0]) ∧ Below w.heap.size w w' := by
  rw [wv_nat hn]; exact refOf_ok n w (by omega) (by omega)

set_option maxHeartbeats 400000 in
theorem step_neg (s : Nat) (z : Int) (w : World) (hz : z < 0) :
    Calls Try.prog 43 #[wv s, .int .i64 z] w fun e w' => e = .returned (.tuple #[wz, .int .i64 3]) ∧ Below w.heap.size w w' := by
  go_enter Try.func43, Try.ntmps43
  go_wp2_with fail
  refine (Of_neg z _ hz).mono ?_
  rintro e w1 ⟨rfl, hB⟩
  obtain ⟨hc, hf⟩ := bcell hB
  have HB := hidp hB; have hs := hB.size; clear hB
  simp only [World.size_alloc] at hs
  have hz : w.heap.size + 1 < w1.heap.size := by omega
  go_wp2
  exact bodyPost_ret (v := .tuple #[wz, .int .i64 3]) (by simp [results, Try.results43, go_sem, hc, hz]) rfl ⟨rfl, by (repeat' (first | (with_reducible exact Below.refl _ _) | (with_reducible refine Below.alloc ?_ ?_ _) | (with_reducible refine Below.drew ?_) | (with_reducible refine Below.drewN ?_ _) | (with_reducible refine Below.setCell ?_ ?_ _) | (with_reducible refine Below.trans ?_ (Below.mono HB.out ?_)) | go_size | (have i0_ := HB.out.size; (try simp at i0_); (try simp); omega)))⟩

set_option maxHeartbeats 400000 in
theorem step_ok (s n : Nat) (w : World) (hn : n ≤ 9223372036854775807) (h : s + n < W128) :
    Calls Try.prog 43 #[wv s, .int .i64 n] w fun e w' => e = .returned (.tuple #[wv (s + n), .int .i64 0]) ∧ Below w.heap.size w w' := by
  have H := hidp h; clear h
  go_enter Try.func43, Try.ntmps43
  go_wp2_with fail
  refine (Of_nat n _ hn).mono ?_
  rintro e w1 ⟨rfl, hB⟩
  obtain ⟨hc, hf⟩ := bcell hB
  have HB := hidp hB; have hs := hB.size; clear hB
  simp only [World.size_alloc] at hs
  have hz0 : w.heap.size < w1.heap.size := by omega
  have hz : w.heap.size + 1 < w1.heap.size := by omega
  go_wp2_with fail
  refine (Plus_ok s n _ H.out).mono ?_
  rintro e w2 ⟨rfl, hB2⟩
  obtain ⟨hc2, hf2⟩ := bcell hB2
  have HB2 := hidp hB2; have hs2 := hB2.size; clear hB2
  simp only [World.size_alloc] at hs2
  have hz2 : w.heap.size + 1 < w2.heap.size := by omega
  go_wp2
  exact bodyPost_ret (v := .tuple #[wv (s + n), .int .i64 0]) (by simp [results, Try.results43, go_sem, hc2, hc, hz0, hz]) rfl ⟨rfl, by (repeat' (first | (with_reducible exact Below.refl _ _) | (with_reducible refine Below.alloc ?_ ?_ _) | (with_reducible refine Below.drew ?_) | (with_reducible refine Below.drewN ?_ _) | (with_reducible refine Below.setCell ?_ ?_ _) | (with_reducible refine Below.trans ?_ (Below.mono HB.out ?_)) | (with_reducible refine Below.trans ?_ (Below.mono HB2.out ?_)) | go_size | (have i0_ := HB.out.size; (try simp at i0_); (try simp); omega) | (have i0_ := HB.out.size; (try simp at i0_); have i1_ := HB2.out.size; (try simp at i1_); (try simp); omega)))⟩
end Go.Proofs.Ytbldmenaaedffaa
