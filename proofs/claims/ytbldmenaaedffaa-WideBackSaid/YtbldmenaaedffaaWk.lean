/-
  Contracts: Times where it is full; landfallref01's Times.
-/
import Derived.Test.YtbldmenaaedffaaWi
namespace Go.Proofs.Ytbldmenaaedffaa
open Go.RowKit

set_option maxHeartbeats 400000 in
theorem Times_full (a n : Nat) (w : World) (ha : a < W128) (hn : n ≤ 9223372036854775807) (h : ¬ a * n < W128) :
    Calls Try.prog 16 #[wv a, .int .i64 n] w fun e w' => e = .returned (.tuple #[wz, .int .i64 7]) ∧ Below w.heap.size w w' := by
  have HM := hidp (fun w => multiply_any a n w ha hn)
  have h2 := wd2_pos h
  clear h ha
  go_enter Try.func16, Try.ntmps16
  go_wp2_with fail
  refine (HM.out _).mono ?_
  rintro e w1 ⟨rfl, hB⟩
  obtain ⟨hc, hf⟩ := bcell hB
  have HB := hidp hB; have hs := hB.size; clear hB
  simp only [World.size_alloc] at hs
  have hz : w.heap.size + 1 < w1.heap.size := by omega
  go_wp2
  exact bodyPost_ret (v := .tuple #[wz, .int .i64 7]) (by simp [results, Try.results16, go_sem, hc, hz]) rfl ⟨rfl, by (repeat' (first | (with_reducible exact Below.refl _ _) | (with_reducible refine Below.alloc ?_ ?_ _) | (with_reducible refine Below.drew ?_) | (with_reducible refine Below.drewN ?_ _) | (with_reducible refine Below.setCell ?_ ?_ _) | (with_reducible refine Below.trans ?_ (Below.mono HB.out ?_)) | go_size | (have i0_ := HB.out.size; (try simp at i0_); (try simp); omega)))⟩

theorem refTimes_neg (a : Nat) (n : Int) (w : World) (h : n < 0) :
    Calls Try.prog 17 #[wv a, .int .i64 n] w fun e w' => e = .returned (.tuple #[wz, .int .i64 3]) ∧ Below w.heap.size w w' := by
  go_enter Try.func17, Try.ntmps17
  go_wp2
  exact bodyPost_ret (v := .tuple #[wz, .int .i64 3]) (by simp [results, Try.results17, go_sem]) rfl ⟨rfl, by (repeat' (first | (with_reducible exact Below.refl _ _) | (with_reducible refine Below.alloc ?_ ?_ _) | (with_reducible refine Below.drew ?_) | (with_reducible refine Below.drewN ?_ _) | (with_reducible refine Below.setCell ?_ ?_ _) | go_size))⟩

theorem product_ok (a n : Nat) (w : World) (ha : a < W128) (hn : n ≤ 9223372036854775807) (h : a * n < W128) :
    Calls Try.prog 41 #[wv a, .int .i64 n] w fun e w' => e = .returned (.agg #[.int .u64 (low (a * n)), .int .u64 (hiw (a * n)), .int .u64 0]) ∧ Below w.heap.size w w' := by
  have hm := product_any a n w ha hn
  unfold pcs at hm
  rw [wd2_zero h, wd1_hiw h, wd0_low] at hm
  exact hm

set_option maxHeartbeats 400000 in
theorem refTimes_ok (a n : Nat) (w : World) (ha : a < W128) (hn : n ≤ 9223372036854775807) (h : a * n < W128) :
    Calls Try.prog 17 #[wv a, .int .i64 n] w fun e w' => e = .returned (.tuple #[wv (a * n), .int .i64 0]) ∧ Below w.heap.size w w' := by
  have HM := hidp (fun w => product_ok a n w ha hn h); clear h ha
  go_enter Try.func17, Try.ntmps17
  go_wp2_with fail
  refine (HM.out _).mono ?_
  rintro e w1 ⟨rfl, hB⟩
  obtain ⟨hc, hf⟩ := bcell hB
  have HB := hidp hB; have hs := hB.size; clear hB
  simp only [World.size_alloc] at hs
  have hz : w.heap.size + 1 < w1.heap.size := by omega
  go_wp2
  exact bodyPost_ret (v := .tuple #[wv (a * n), .int .i64 0]) (by simp [results, Try.results17, go_sem, hc, hz]) rfl ⟨rfl, by (repeat' (first | (with_reducible exact Below.refl _ _) | (with_reducible refine Below.alloc ?_ ?_ _) | (with_reducible refine Below.drew ?_) | (with_reducible refine Below.drewN ?_ _) | (with_reducible refine Below.setCell ?_ ?_ _) | (with_reducible refine Below.trans ?_ (Below.mono HB.out ?_)) | go_size | (have i0_ := HB.out.size; (try simp at i0_); (try simp); omega)))⟩

set_option maxHeartbeats 400000 in
theorem refTimes_full (a n : Nat) (w : World) (ha : a < W128) (hn : n ≤ 9223372036854775807) (h : ¬ a * n < W128) :
    Calls Try.prog 17 #[wv a, .int .i64 n] w fun e w' => e = .returned (.tuple #[wz, .int .i64 7]) ∧ Below w.heap.size w w' := by
  have HM := hidp (fun w => product_any a n w ha hn)
  have h2 := wd2_pos h
  clear h ha
  go_enter Try.func17, Try.ntmps17
  go_wp2_with fail
  refine (HM.out _).mono ?_
  rintro e w1 ⟨rfl, hB⟩
  obtain ⟨hc, hf⟩ := bcell hB
  have HB := hidp hB; have hs := hB.size; clear hB
  simp only [World.size_alloc] at hs
  have hz : w.heap.size + 1 < w1.heap.size := by omega
  go_wp2
  exact bodyPost_ret (v := .tuple #[wz, .int .i64 7]) (by simp [results, Try.results17, go_sem, hc, hz]) rfl ⟨rfl, by (repeat' (first | (with_reducible exact Below.refl _ _) | (with_reducible refine Below.alloc ?_ ?_ _) | (with_reducible refine Below.drew ?_) | (with_reducible refine Below.drewN ?_ _) | (with_reducible refine Below.setCell ?_ ?_ _) | (with_reducible refine Below.trans ?_ (Below.mono HB.out ?_)) | go_size | (have i0_ := HB.out.size; (try simp at i0_); (try simp); omega)))⟩
end Go.Proofs.Ytbldmenaaedffaa
