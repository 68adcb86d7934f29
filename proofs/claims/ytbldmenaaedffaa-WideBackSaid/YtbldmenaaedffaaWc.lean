/-
  Contracts: landfallref01's Plus, Of, Cmp, Clamp; wide's Clamp.
-/
import Derived.Test.YtbldmenaaedffaaWb
namespace Go.Proofs.Ytbldmenaaedffaa
open Go.RowKit

theorem refOf_ok (n : Int) (w : World) (h : 0 ≤ n) (hn : n ≤ 9223372036854775807) :
    Calls Try.prog 13 #[.int .i64 n] w fun e w' => e = .returned (.tuple #[.agg #[.int .u64 0, .int .u64 n], .int .i64 0]) ∧ Below w.heap.size w w' := by
  go_enter Try.func13, Try.ntmps13
  go_wp2
  exact bodyPost_ret (v := .tuple #[.agg #[.int .u64 0, .int .u64 n], .int .i64 0]) (by simp [results, Try.results13, go_sem]) rfl ⟨rfl, by (repeat' (first | (with_reducible exact Below.refl _ _) | (with_reducible refine Below.alloc ?_ ?_ _) | (with_reducible refine Below.drew ?_) | (with_reducible refine Below.drewN ?_ _) | (with_reducible refine Below.setCell ?_ ?_ _) | go_size))⟩

theorem refplus_lo (a b : Nat) (w : World) :
    Calls Try.prog 39 #[.int .u64 (low a), .int .u64 (low b), .int .u64 0] w fun e w' => e = .returned (.tuple #[.int .u64 (low (a + b)), .int .u64 (carry a b)]) ∧ w = w' := by
  have h := refplus_any (low a) (low b) 0 (low_lt a) (low_lt b) (by omega) w
  rw [Nat.add_zero, add_low] at h
  exact h
theorem refplus_hi (a b : Nat) (ha : a < W128) (hb : b < W128) (w : World) :
    Calls Try.prog 39 #[.int .u64 (hiw a), .int .u64 (hiw b), .int .u64 (carry a b)] w fun e w' => e = .returned (.tuple #[.int .u64 (hi2 a b), .int .u64 (full a b)]) ∧ w = w' :=
  refplus_any (hiw a) (hiw b) (carry a b) (hiw_lt ha) (hiw_lt hb) (carry_le a b) w

set_option maxHeartbeats 400000 in
theorem refPlus_ok (a b : Nat) (w : World) (h : a + b < W128) :
    Calls Try.prog 15 #[wv a, wv b] w fun e w' => e = .returned (.tuple #[wv (a + b), .int .i64 0]) ∧ Below w.heap.size w w' := by
  have k2 := refplus_hi a b (by omega) (by omega)
  rw [hi2_eq h, full_no h] at k2
  have H2 := hidp k2; clear k2
  go_enter Try.func15, Try.ntmps15
  go_wp2_with fail
  refine (refplus_lo a b _).mono ?_
  rintro e w' ⟨rfl, rfl⟩
  go_wp2_with fail
  refine (H2.out _).mono ?_
  rintro e w' ⟨rfl, rfl⟩
  go_wp2
  exact bodyPost_ret (v := .tuple #[wv (a + b), .int .i64 0]) (by simp [results, Try.results15, go_sem]) rfl ⟨rfl, by (repeat' (first | (with_reducible exact Below.refl _ _) | (with_reducible refine Below.alloc ?_ ?_ _) | (with_reducible refine Below.drew ?_) | (with_reducible refine Below.drewN ?_ _) | (with_reducible refine Below.setCell ?_ ?_ _) | go_size))⟩

set_option maxHeartbeats 400000 in
theorem refPlus_full (a b : Nat) (w : World) (ha : a < W128) (hb : b < W128) (h : ¬ a + b < W128) :
    Calls Try.prog 15 #[wv a, wv b] w fun e w' => e = .returned (.tuple #[wz, .int .i64 7]) ∧ Below w.heap.size w w' := by
  have k2 := refplus_hi a b ha hb
  rw [full_yes ha hb h] at k2
  have H2 := hidp k2; clear k2
  go_enter Try.func15, Try.ntmps15
  go_wp2_with fail
  refine (refplus_lo a b _).mono ?_
  rintro e w' ⟨rfl, rfl⟩
  go_wp2_with fail
  refine (H2.out _).mono ?_
  rintro e w' ⟨rfl, rfl⟩
  go_wp2
  exact bodyPost_ret (v := .tuple #[wz, .int .i64 7]) (by simp [results, Try.results15, go_sem]) rfl ⟨rfl, by (repeat' (first | (with_reducible exact Below.refl _ _) | (with_reducible refine Below.alloc ?_ ?_ _) | (with_reducible refine Below.drew ?_) | (with_reducible refine Below.drewN ?_ _) | (with_reducible refine Below.setCell ?_ ?_ _) | go_size))⟩

set_option maxHeartbeats 400000 in
theorem refCmp_any (a b : Nat) (w : World) :
    Calls Try.prog 21 #[wv a, wv b] w fun e w' => e = .returned (.int .i64 (cmpI a b)) ∧ Below w.heap.size w w' := by
  go_enter Try.func21, Try.ntmps21
  go_wp2
  all_goals go_ret
  all_goals exact ⟨ret_int (by rw [cmp_lex]; repeat' split <;> omega), by (repeat' (first | (with_reducible exact Below.refl _ _) | (with_reducible refine Below.alloc ?_ ?_ _) | (with_reducible refine Below.drew ?_) | (with_reducible refine Below.drewN ?_ _) | (with_reducible refine Below.setCell ?_ ?_ _) | go_size))⟩

set_option maxHeartbeats 400000 in
theorem refClamp_any (a : Nat) (w : World) :
    Calls Try.prog 23 #[wv a] w fun e w' => e = .returned (.int .i64 (clampI a)) ∧ Below w.heap.size w w' := by
  go_enter Try.func23, Try.ntmps23
  go_wp2
  all_goals go_ret
  all_goals refine ⟨ret_int ?_, by (repeat' (first | (with_reducible exact Below.refl _ _) | (with_reducible refine Below.alloc ?_ ?_ _) | (with_reducible refine Below.drew ?_) | (with_reducible refine Below.drewN ?_ _) | (with_reducible refine Below.setCell ?_ ?_ _) | go_size))⟩
  all_goals first | rw [clamp_hi ‹_›] | (rw [clamp_lo ‹_›]; split <;> omega)
set_option maxHeartbeats 400000 in
theorem Clamp_any (a : Nat) (w : World) :
    Calls Try.prog 22 #[wv a] w fun e w' => e = .returned (.int .i64 (clampI a)) ∧ Below w.heap.size w w' := by
  go_enter Try.func22, Try.ntmps22
  go_wp2
  all_goals go_ret
  all_goals refine ⟨ret_int ?_, by (repeat' (first | (with_reducible exact Below.refl _ _) | (with_reducible refine Below.alloc ?_ ?_ _) | (with_reducible refine Below.drew ?_) | (with_reducible refine Below.drewN ?_ _) | (with_reducible refine Below.setCell ?_ ?_ _) | go_size))⟩
  all_goals first | rw [clamp_hi ‹_›] | (rw [clamp_lo ‹_›]; split <;> omega)
end Go.Proofs.Ytbldmenaaedffaa
