/-
  Contracts: Times, compare, More of package wide.
-/
import Derived.Test.YtbldmenaaedffaaWf
import Derived.Test.YtbldmenaaedffaaMb
namespace Go.Proofs.Ytbldmenaaedffaa
open Go.RowKit

theorem Times_neg (a : Nat) (n : Int) (w : World) (h : n < 0) :
    Calls Try.prog 16 #[wv a, .int .i64 n] w fun e w' => e = .returned (.tuple #[wz, .int .i64 3]) ∧ Below w.heap.size w w' := by
  go_enter Try.func16, Try.ntmps16
  go_wp2
  exact bodyPost_ret (v := .tuple #[wz, .int .i64 3]) (by simp [results, Try.results16, go_sem]) rfl ⟨rfl, by (repeat' (first | (with_reducible exact Below.refl _ _) | (with_reducible refine Below.alloc ?_ ?_ _) | (with_reducible refine Below.drew ?_) | (with_reducible refine Below.drewN ?_ _) | (with_reducible refine Below.setCell ?_ ?_ _) | go_size))⟩

theorem multiply_ok (a n : Nat) (w : World) (ha : a < W128) (hn : n ≤ 9223372036854775807) (h : a * n < W128) :
    Calls Try.prog 40 #[wv a, .int .i64 n] w fun e w' => e = .returned (.agg #[.int .u64 (low (a * n)), .int .u64 (hiw (a * n)), .int .u64 0]) ∧ Below w.heap.size w w' := by
  have hm := multiply_any a n w ha hn
  unfold pcs at hm
  rw [wd2_zero h, wd1_hiw h, wd0_low] at hm
  exact hm

set_option maxHeartbeats 400000 in
theorem Times_ok (a n : Nat) (w : World) (ha : a < W128) (hn : n ≤ 9223372036854775807) (h : a * n < W128) :
    Calls Try.prog 16 #[wv a, .int .i64 n] w fun e w' => e = .returned (.tuple #[wv (a * n), .int .i64 0]) ∧ Below w.heap.size w w' := by
  have HM := hidp (fun w => multiply_ok a n w ha hn h); clear h ha
  go_enter Try.func16, Try.ntmps16
  go_wp2_with fail
  refine (HM.out _).mono ?_
  rintro e w1 ⟨rfl, hB⟩
  obtain ⟨hc, hf⟩ := bcell hB
  have HB := hidp hB; have hs := hB.size; clear hB
  simp only [World.size_alloc] at hs
  have hz : w.heap.size + 1 < w1.heap.size := by omega
  go_wp2
  exact bodyPost_ret (v := .tuple #[wv (a * n), .int .i64 0]) (by simp [results, Try.results16, go_sem, hc, hz]) rfl ⟨rfl, by (repeat' (first | (with_reducible exact Below.refl _ _) | (with_reducible refine Below.alloc ?_ ?_ _) | (with_reducible refine Below.drew ?_) | (with_reducible refine Below.drewN ?_ _) | (with_reducible refine Below.setCell ?_ ?_ _) | (with_reducible refine Below.trans ?_ (Below.mono HB.out ?_)) | go_size | (have i0_ := HB.out.size; (try simp at i0_); (try simp); omega)))⟩

theorem firstNZ_cons (x y : Nat) (r : List Int) : firstNZ (cmpI x y :: r) = if x < y then -1 else if y < x then 1 else firstNZ r := by
  rw [firstNZ]; unfold cmpI
  repeat' split
  all_goals omega
theorem firstNZ_cmp3 (a b : Nat) : firstNZ [cmpI (wd2 a) (wd2 b), cmpI (wd1 a) (wd1 b), cmpI (wd0 a) (wd0 b)] = cmpI a b := by
  rw [cmp_lex3 a b, firstNZ_cons, firstNZ_cons, firstNZ_cons, firstNZ]

set_option maxHeartbeats 400000 in
theorem compare_any (a b : Nat) (w : World) :
    Calls Try.prog 46 #[.agg (pcs a).toArray, .agg (pcs b).toArray] w fun e w' => e = .returned (.int .i64 (cmpI a b)) ∧ Below w.heap.size w w' := by
  rw [← firstNZ_cmp3]
  go_enter Try.func46, Try.ntmps46
  go_wp2
  refine wp_region_still_tail 15 (by kernel_rfl) (by kernel_rfl) ?_
  simp only [List.take_succ_cons, List.take_zero, List.drop_succ_cons, List.drop_zero]
  change wpStill _ _ (World.drew _) _ _ _
  repeat (first | still_step | still_call (Compare_still _ _ _))
  refine wpStill_nil ?_
  change wpList _ _ _ _ _ (World.drew _)
  go_wp2_with fail
  refine (Or_any _ 3 [cmpI (wd2 a) (wd2 b), cmpI (wd1 a) (wd1 b), cmpI (wd0 a) (wd0 b)] _ rfl (by omega) ?_).mono ?_
  · intro k hk
    have : k = 0 ∨ k = 1 ∨ k = 2 := by omega
    rw [cell_at_drew _ _ _ _ _ (by simp)]
    rcases this with rfl | rfl | rfl <;> rfl
  · rintro e w' ⟨rfl, rfl⟩
    go_wp2
    go_ret
    exact ⟨rfl, by (repeat' (first | (with_reducible exact Below.refl _ _) | (with_reducible refine Below.alloc ?_ ?_ _) | (with_reducible refine Below.drew ?_) | (with_reducible refine Below.drewN ?_ _) | (with_reducible refine Below.setCell ?_ ?_ _) | go_size))⟩
end Go.Proofs.Ytbldmenaaedffaa
