/-
  Contracts of the small functions of package wide and of its answers by definition.
-/
import Derived.Test.YtbldmenaaedffaaRows
import Derived.Test.YtbldmenaaedffaaMa
import Derived.Test.YtbldmenaaedffaaMem
import Derived.WalkKit
import Derived.WalkSpells
import Derived.WalkLawsBesides
namespace Go.Proofs.Ytbldmenaaedffaa
open Go.RowKit

/-- A wide as a value: both of its words. -/
abbrev wv (x : Nat) : Value := .agg #[.int .u64 (hiw x), .int .u64 (low x)]

/-- The wide 0, as the walk writes it. -/
abbrev wz : Value := .agg #[.int .u64 0, .int .u64 0]
theorem ret_int {k : IntKind} {a b : Int} (h : a = b) : Ending.returned (.int k a) = .returned (.int k b) := by rw [h]
theorem ret_bool {a b : Bool} (h : a = b) : Ending.returned (.bool a) = .returned (.bool b) := by rw [h]

theorem isNaN_any (a : Int) (w : World) :
    Calls Try.prog 57 #[.int .u64 a] w fun e w' => e = .returned (.bool false) ∧ w = w' := by
  go_enter Try.func57, Try.ntmps57
  go_wp2
  go_ret
  exact ⟨rfl, rfl⟩

theorem Compare_any (a b : Int) (w : World) :
    Calls Try.prog 45 #[.int .u64 a, .int .u64 b] w fun e w' => e = .returned (.int .i64 (cmpI a b)) ∧ w = w' := by
  go_enter Try.func45, Try.ntmps45
  go_wp2_with (go_at_call 57; refine (isNaN_any _ _).mono ?_; rintro e w' ⟨rfl, rfl⟩)
  all_goals go_ret
  all_goals exact ⟨ret_int (by unfold cmpI; split <;> (try split) <;> omega), rfl⟩

theorem Of_neg (n : Int) (w : World) (h : n < 0) :
    Calls Try.prog 12 #[.int .i64 n] w fun e w' => e = .returned (.tuple #[wz, .int .i64 3]) ∧ Below w.heap.size w w' := by
  go_enter Try.func12, Try.ntmps12
  go_wp2
  exact bodyPost_ret (v := .tuple #[wz, .int .i64 3]) (by simp [results, Try.results12, go_sem]) rfl ⟨rfl, (Below.refl _ _).alloc (Nat.le_refl _) _⟩

/-- bits.Add64, with 2^64 behind its name. -/
theorem Add64_law (x y c : Nat) (hc : c ≤ 1) (w : World) :
    (callFunc 38 #[.int .u64 x, .int .u64 y, .int .u64 c]).run Try.prog w =
      .ok (.value (.tuple #[.int .u64 (((x + y + c) % B64 : Nat) : Int), .int .u64 (((x + y + c) / B64 : Nat) : Int)])) w := by
  rw [run_callFunc_extern Try.func38 (by kernel_rfl) (by kernel_rfl) (by kernel_rfl) (e := add64Entry) (by kernel_rfl), run_add64 x y c (by omega) (by omega) (by omega) (by omega)]
  simp only [Result.andThen, B64]
  congr 5 <;> omega

theorem Add64_lo (a b : Nat) (w : World) :
    (callFunc 38 #[.int .u64 (low a), .int .u64 (low b), .int .u64 0]).run Try.prog w = .ok (.value (.tuple #[.int .u64 (low (a + b)), .int .u64 (carry a b)])) w := by
  have h := Add64_law (low a) (low b) 0 (by omega) w
  rw [Nat.add_zero, add_low] at h
  exact h
theorem Add64_hi (a b : Nat) (w : World) :
    (callFunc 38 #[.int .u64 (hiw a), .int .u64 (hiw b), .int .u64 (carry a b)]).run Try.prog w = .ok (.value (.tuple #[.int .u64 (hi2 a b), .int .u64 (full a b)])) w :=
  Add64_law (hiw a) (hiw b) (carry a b) (carry_le a b) w

set_option maxHeartbeats 400000 in
theorem Plus_ok (a b : Nat) (w : World) (h : a + b < W128) :
    Calls Try.prog 14 #[wv a, wv b] w fun e w' => e = .returned (.tuple #[wv (a + b), .int .i64 0]) ∧ Below w.heap.size w w' := by
  have k1 := Add64_lo a b
  have k2 := Add64_hi a b
  rw [hi2_eq h, full_no h] at k2
  go_enter Try.func14, Try.ntmps14
  go_wp2
  exact bodyPost_ret (v := .tuple #[wv (a + b), .int .i64 0]) (by simp [results, Try.results14, go_sem]) rfl ⟨rfl, by (repeat' (first | (with_reducible exact Below.refl _ _) | (with_reducible refine Below.alloc ?_ ?_ _) | (with_reducible refine Below.drew ?_) | (with_reducible refine Below.drewN ?_ _) | (with_reducible refine Below.setCell ?_ ?_ _) | go_size))⟩

set_option maxHeartbeats 400000 in
theorem Plus_full (a b : Nat) (w : World) (ha : a < W128) (hb : b < W128) (h : ¬ a + b < W128) :
    Calls Try.prog 14 #[wv a, wv b] w fun e w' => e = .returned (.tuple #[wz, .int .i64 7]) ∧ Below w.heap.size w w' := by
  have k1 := Add64_lo a b
  have k2 := Add64_hi a b
  rw [full_yes ha hb h] at k2
  go_enter Try.func14, Try.ntmps14
  go_wp2
  exact bodyPost_ret (v := .tuple #[wz, .int .i64 7]) (by simp [results, Try.results14, go_sem]) rfl ⟨rfl, by (repeat' (first | (with_reducible exact Below.refl _ _) | (with_reducible refine Below.alloc ?_ ?_ _) | (with_reducible refine Below.drew ?_) | (with_reducible refine Below.drewN ?_ _) | (with_reducible refine Below.setCell ?_ ?_ _) | go_size))⟩
end Go.Proofs.Ytbldmenaaedffaa
