/-
  Contracts of package pace, as in layer 2: Bits, Of.
-/
import Derived.Test.YtlfmmmlheloloaaJa
import Derived.Test.YtlfmmmlheloloaaEa
namespace Go.Proofs.Ytlfmmmlheloloaa
open Go.RowKit
theorem run_bits (x : Nat) (w : World) : (callFunc 128 #[.float .f64 x]).run Try.prog w = .ok (.value (.int .u64 x)) w := by
  rw [run_callFunc_extern Try.func128 (by kernel_rfl) (by kernel_rfl) (by kernel_rfl) (e := Extern.MathFloatBits.float64bits) (by kernel_rfl)]
  rfl
theorem run_frombits (n : Int) (w : World) : (callFunc 74 #[.int .u64 n]).run Try.prog w = .ok (.value (.float .f64 n.toNat)) w := by
  rw [run_callFunc_extern Try.func74 (by kernel_rfl) (by kernel_rfl) (by kernel_rfl) (e := Extern.MathFloatBits.float64frombits) (by kernel_rfl)]
  rfl
attribute [local go_sem] run_bits run_frombits
theorem IsNaN_any (x : Nat) (w : World) :
    Calls Try.prog 169 #[.float .f64 x] w fun e w' => e = .returned (.bool (nanB x)) ∧ w = w' := by
  go_enter Try.func169, Try.ntmps169
  go_wp2
  go_ret
  exact ⟨rfl, rfl⟩
theorem Bits_any (x : Nat) (w : World) :
    Calls Try.prog 140 #[.float .f64 x] w fun e w' => e = .returned (.int .u64 (formN x)) ∧ w = w' := by
  cases h : nanB x
  · have h1 := formN_no h
    rw [h1]
    have H := hidp (fun w => h ▸ IsNaN_any x w); clear h h1
    go_enter Try.func140, Try.ntmps140
    go_wp2_with (go_at_call 169; refine (H.out _).mono ?_; rintro e w' ⟨rfl, rfl⟩)
    go_ret
    exact ⟨rfl, rfl⟩
  · have h1 := formN_yes h
    rw [h1]
    have H := hidp (fun w => h ▸ IsNaN_any x w); clear h h1
    go_enter Try.func140, Try.ntmps140
    go_wp2_with (go_at_call 169; refine (H.out _).mono ?_; rintro e w' ⟨rfl, rfl⟩)
    go_ret
    exact ⟨rfl, rfl⟩
theorem refBits_any (x : Nat) (w : World) :
    Calls Try.prog 91 #[.float .f64 x] w fun e w' => e = .returned (.int .u64 (formN x)) ∧ w = w' := by
  cases h : nanB x
  · have h1 := formN_no h
    rw [h1]
    have h2 : (FloatKind.f64.format.order x x != some .eq) = false := h
    clear h h1
    go_enter Try.func91, Try.ntmps91
    go_wp2
    go_ret
    exact ⟨rfl, rfl⟩
  · have h1 := formN_yes h
    rw [h1]
    have h2 : (FloatKind.f64.format.order x x != some .eq) = true := h
    clear h h1
    go_enter Try.func91, Try.ntmps91
    go_wp2
    go_ret
    exact ⟨rfl, rfl⟩
/-- Whether a word is a form; what Of tells. -/
def ofE (n : Nat) : Int := if formN n = n then 0 else 5
def ofV (n : Nat) : Nat := if formN n = n then n else 0
theorem Of_any (n : Nat) (w : World) : Calls Try.prog 160 #[.int .u64 n] w fun e w' => e = .returned (.tuple #[.float .f64 (ofV n), .int .i64 (ofE n)]) ∧ w = w' := by
  unfold ofE ofV
  by_cases h : formN n = n
  · rw [if_pos h, if_pos h]
    have HB := hidp (Bits_any n)
    rw [h] at HB
    clear h
    go_enter Try.func160, Try.ntmps160
    go_wp2_with (go_at_call 140; refine (HB.out _).mono ?_; rintro e w' ⟨rfl, rfl⟩)
    go_ret2
    exact ⟨rfl, rfl⟩
  · rw [if_neg h, if_neg h]
    have h1 : (((formN n : Nat) : Int) != (n : Int)) = true := by rw [bne_iff_ne]; omega
    clear h
    go_enter Try.func160, Try.ntmps160
    go_wp2_with (go_at_call 140; refine (Bits_any _ _).mono ?_; rintro e w' ⟨rfl, rfl⟩)
    go_ret2
    exact ⟨rfl, rfl⟩
theorem refOf_any (n : Nat) (w : World) : Calls Try.prog 148 #[.int .u64 n] w fun e w' => e = .returned (.tuple #[.float .f64 (ofV n), .int .i64 (ofE n)]) ∧ w = w' := by
  unfold ofE ofV
  cases hn : nanB n
  · have h := formN_no hn
    rw [if_pos h, if_pos h]
    have h1 : (FloatKind.f64.format.order n n != some .eq) = false := hn
    clear h hn
    go_enter Try.func148, Try.ntmps148
    go_wp2
    go_ret2
    exact ⟨rfl, rfl⟩
  · have h := formN_yes hn
    have h1 : (FloatKind.f64.format.order n n != some .eq) = true := hn
    by_cases hf : formN n = n
    · rw [if_pos hf, if_pos hf]
      have h2 : ((n : Int) != 9221120237041090560) = false := by rw [h] at hf; unfold nanForm at hf; rw [bne_eq_false_iff_eq]; omega
      clear h hn hf
      go_enter Try.func148, Try.ntmps148
      go_wp2
      go_ret2
      exact ⟨rfl, rfl⟩
    · rw [if_neg hf, if_neg hf]
      have h2 : ((n : Int) != 9221120237041090560) = true := by rw [h] at hf; unfold nanForm at hf; rw [bne_iff_ne]; omega
      clear h hn hf
      go_enter Try.func148, Try.ntmps148
      go_wp2
      go_ret2
      exact ⟨rfl, rfl⟩
end Go.Proofs.Ytlfmmmlheloloaa
