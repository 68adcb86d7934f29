/-
  Contracts of package pace: the order, and what it is made of.
-/
import Derived.Test.YtajklipfdjaejaaRows
import Derived.Test.YtajklipfdjaejaaEa
import Derived.Test.YtajklipfdjaejaaMem
import Derived.WalkKit
import Derived.WalkSpells
import Derived.WalkLawsBesides
namespace Go.Proofs.Ytajklipfdjaejaa
open Go.RowKit
theorem btrans {w w1 w2 : World} (h : Below w.heap.size w w1) (k : Below w1.heap.size w1 w2) : Below w.heap.size w w2 := h.trans (k.mono h.size)
theorem ret_int {k : IntKind} {a b : Int} (h : a = b) : Ending.returned (.int k a) = .returned (.int k b) := by rw [h]
theorem ret_bool {a b : Bool} (h : a = b) : Ending.returned (.bool a) = .returned (.bool b) := by rw [h]

theorem run_bits (x : Nat) (w : World) : (callFunc 30 #[.float .f64 x]).run Try.prog w = .ok (.value (.int .u64 x)) w := by
  rw [run_callFunc_extern Try.func30 (by kernel_rfl) (by kernel_rfl) (by kernel_rfl) (e := Extern.MathFloatBits.float64bits) (by kernel_rfl)]
  rfl
theorem run_frombits (n : Int) (w : World) : (callFunc 37 #[.int .u64 n]).run Try.prog w = .ok (.value (.float .f64 n.toNat)) w := by
  rw [run_callFunc_extern Try.func37 (by kernel_rfl) (by kernel_rfl) (by kernel_rfl) (e := Extern.MathFloatBits.float64frombits) (by kernel_rfl)]
  rfl
attribute [local go_sem] run_bits run_frombits

theorem of_any (n : Int) (w : World) :
    Calls Try.prog 11 #[.int .u64 n] w fun e w' => e = .returned (.float .f64 n.toNat) ∧ w = w' := by
  go_enter Try.func11, Try.ntmps11
  go_wp2
  go_ret
  exact ⟨rfl, rfl⟩

theorem IsNaN_any (x : Nat) (w : World) :
    Calls Try.prog 40 #[.float .f64 x] w fun e w' => e = .returned (.bool (nanB x)) ∧ w = w' := by
  go_enter Try.func40, Try.ntmps40
  go_wp2
  go_ret
  exact ⟨rfl, rfl⟩

theorem Bits_any (x : Nat) (w : World) :
    Calls Try.prog 16 #[.float .f64 x] w fun e w' => e = .returned (.int .u64 (formN x)) ∧ w = w' := by
  cases h : nanB x
  · have h1 := formN_no h
    rw [h1]
    have H := hidp (fun w => h ▸ IsNaN_any x w); clear h h1
    go_enter Try.func16, Try.ntmps16
    go_wp2_with (go_at_call 40; refine (H.out _).mono ?_; rintro e w' ⟨rfl, rfl⟩)
    go_ret
    exact ⟨rfl, rfl⟩
  · have h1 := formN_yes h
    rw [h1]
    have H := hidp (fun w => h ▸ IsNaN_any x w); clear h h1
    go_enter Try.func16, Try.ntmps16
    go_wp2_with (go_at_call 40; refine (H.out _).mono ?_; rintro e w' ⟨rfl, rfl⟩)
    go_ret
    exact ⟨rfl, rfl⟩

theorem refBits_any (x : Nat) (w : World) :
    Calls Try.prog 17 #[.float .f64 x] w fun e w' => e = .returned (.int .u64 (formN x)) ∧ w = w' := by
  cases h : nanB x
  · have h1 := formN_no h
    rw [h1]
    have h2 : (FloatKind.f64.format.order x x != some .eq) = false := h
    clear h h1
    go_enter Try.func17, Try.ntmps17
    go_wp2
    go_ret
    exact ⟨rfl, rfl⟩
  · have h1 := formN_yes h
    rw [h1]
    have h2 : (FloatKind.f64.format.order x x != some .eq) = true := h
    clear h h1
    go_enter Try.func17, Try.ntmps17
    go_wp2
    go_ret
    exact ⟨rfl, rfl⟩

theorem pos_eq (x : Nat) : (((formN x : Nat) : Int) / 9223372036854775808 == 0) = posB x := by
  unfold posB top63
  rw [Bool.eq_iff_iff, beq_iff_eq, decide_eq_true_eq]
  omega
theorem positive_any (x : Nat) (w : World) :
    Calls Try.prog 43 #[.float .f64 x] w fun e w' => e = .returned (.bool (posB x)) ∧ w = w' := by
  go_enter Try.func43, Try.ntmps43
  go_wp2_with (go_at_call 16; refine (Bits_any _ _).mono ?_; rintro e w' ⟨rfl, rfl⟩)
  go_ret
  exact ⟨ret_bool (pos_eq x), rfl⟩

theorem order_any (a b : Bool) (w : World) :
    Calls Try.prog 42 #[.agg #[.bool a, .bool b]] w fun e w' => e = .returned (.int .i64 (ord3 a b)) ∧ Below w.heap.size w w' := by
  cases a <;> cases b
  all_goals go_enter Try.func42, Try.ntmps42
  all_goals go_wp2
  all_goals go_ret
  all_goals exact ⟨rfl, by (repeat' (first | (with_reducible exact Below.refl _ _) | (with_reducible refine Below.alloc ?_ ?_ _) | (with_reducible refine Below.drew ?_) | (with_reducible refine Below.drewN ?_ _) | (with_reducible refine Below.setCell ?_ ?_ _) | go_size))⟩

theorem sign_any (x : Nat) (w : World) :
    Calls Try.prog 44 #[.float .f64 x] w fun e w' => e = .returned (.int .i64 (sgN x)) ∧ w = w' := by
  by_cases h : x / top63 = 1
  · have h1 : sgN x = 1 := by unfold sgN; simp [h]
    have h2 : ((x : Int) / 9223372036854775808 == 1) = true := by unfold top63 at h; rw [beq_iff_eq]; omega
    rw [h1]
    clear h h1
    go_enter Try.func44, Try.ntmps44
    go_wp2
    go_ret
    exact ⟨rfl, rfl⟩
  · have h1 : sgN x = 0 := by unfold sgN; simp [h]
    have h2 : ((x : Int) / 9223372036854775808 == 1) = false := by unfold top63 at h; rw [beq_eq_false_iff_ne]; omega
    rw [h1]
    clear h h1
    go_enter Try.func44, Try.ntmps44
    go_wp2
    go_ret
    exact ⟨rfl, rfl⟩
end Go.Proofs.Ytajklipfdjaejaa
