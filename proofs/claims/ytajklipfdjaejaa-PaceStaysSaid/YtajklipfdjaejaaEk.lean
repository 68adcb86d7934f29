/-
  Contracts: Of, strings.IndexByte over the digits, Read.
-/
import Derived.Test.YtajklipfdjaejaaEf
import Derived.Test.YtajklipfdjaejaaEh
namespace Go.Proofs.Ytajklipfdjaejaa
open Go.RowKit
attribute [local go_sem] run_bits run_frombits

/-- Whether a word is a form; what Of tells. -/
def ofE (n : Nat) : Int := if formN n = n then 0 else 5
def ofV (n : Nat) : Nat := if formN n = n then n else 0
theorem Of_any (n : Nat) (w : World) : Calls Try.prog 12 #[.int .u64 n] w fun e w' => e = .returned (.tuple #[.float .f64 (ofV n), .int .i64 (ofE n)]) ∧ w = w' := by
  unfold ofE ofV
  by_cases h : formN n = n
  · rw [if_pos h, if_pos h]
    have HB := hidp (Bits_any n)
    rw [h] at HB
    clear h
    go_enter Try.func12, Try.ntmps12
    go_wp2_with (go_at_call 16; refine (HB.out _).mono ?_; rintro e w' ⟨rfl, rfl⟩)
    go_ret2
    exact ⟨rfl, rfl⟩
  · rw [if_neg h, if_neg h]
    have h1 : (((formN n : Nat) : Int) != (n : Int)) = true := by rw [bne_iff_ne]; omega
    clear h
    go_enter Try.func12, Try.ntmps12
    go_wp2_with (go_at_call 16; refine (Bits_any _ _).mono ?_; rintro e w' ⟨rfl, rfl⟩)
    go_ret2
    exact ⟨rfl, rfl⟩
theorem refOf_any (n : Nat) (w : World) : Calls Try.prog 13 #[.int .u64 n] w fun e w' => e = .returned (.tuple #[.float .f64 (ofV n), .int .i64 (ofE n)]) ∧ w = w' := by
  unfold ofE ofV
  cases hn : nanB n
  · have h := formN_no hn
    rw [if_pos h, if_pos h]
    have h1 : (FloatKind.f64.format.order n n != some .eq) = false := hn
    clear h hn
    go_enter Try.func13, Try.ntmps13
    go_wp2
    go_ret2
    exact ⟨rfl, rfl⟩
  · have h := formN_yes hn
    have h1 : (FloatKind.f64.format.order n n != some .eq) = true := hn
    by_cases hf : formN n = n
    · rw [if_pos hf, if_pos hf]
      have h2 : ((n : Int) != 9221120237041090560) = false := by rw [h] at hf; unfold nanForm at hf; rw [bne_eq_false_iff_eq]; omega
      clear h hn hf
      go_enter Try.func13, Try.ntmps13
      go_wp2
      go_ret2
      exact ⟨rfl, rfl⟩
    · rw [if_neg hf, if_neg hf]
      have h2 : ((n : Int) != 9221120237041090560) = true := by rw [h] at hf; unfold nanForm at hf; rw [bne_iff_ne]; omega
      clear h hn hf
      go_enter Try.func13, Try.ntmps13
      go_wp2
      go_ret2
      exact ⟨rfl, rfl⟩

/-- A digit's number, 16 if it is none. -/
def hexV (c : Nat) : Nat := if 48 ≤ c ∧ c ≤ 57 then c - 48 else if 97 ≤ c ∧ c ≤ 102 then c - 87 else 16
abbrev digS : ByteArray := ⟨#[48, 49, 50, 51, 52, 53, 54, 55, 56, 57, 97, 98, 99, 100, 101, 102]⟩
theorem first_all : ∀ n : Fin 256, firstIdx digS (UInt8.ofNat n.val) = if hexV n.val < 16 then (hexV n.val : Int) else -1 := by decide +kernel
theorem first_any (c : UInt8) : firstIdx digS (((c.toNat : Nat) : Int).toNat.toUInt8) = if hexV c.toNat < 16 then (hexV c.toNat : Int) else -1 := by
  have h := first_all ⟨c.toNat, c.toNat_lt⟩
  rw [Int.toNat_natCast]
  exact h
theorem run_index (c : UInt8) (w : World) : (callFunc 48 #[.string digS, .int .u8 c.toNat]).run Try.prog w = .ok (.value (.int .i64 (if hexV c.toNat < 16 then (hexV c.toNat : Int) else -1))) w := by
  rw [run_callFunc_extern Try.func48 (by kernel_rfl) (by kernel_rfl) (by kernel_rfl) (e := Extern.BytealgIndexByte.indexByte) (by kernel_rfl), run_indexByte_string, first_any]
  rfl
theorem Index_yes (c : UInt8) (w : World) (h : hexV c.toNat < 16) : Calls Try.prog 38 #[.string digS, .int .u8 c.toNat] w fun e w' => e = .returned (.int .i64 (hexV c.toNat : Nat)) ∧ w = w' := by
  have k := run_index c
  rw [if_pos h] at k
  clear h
  go_enter Try.func38, Try.ntmps38
  go_wp2
  go_ret
  exact ⟨rfl, rfl⟩
theorem Index_no (c : UInt8) (w : World) (h : ¬ hexV c.toNat < 16) : Calls Try.prog 38 #[.string digS, .int .u8 c.toNat] w fun e w' => e = .returned (.int .i64 (-1)) ∧ w = w' := by
  have k := run_index c
  rw [if_neg h] at k
  clear h
  go_enter Try.func38, Try.ntmps38
  go_wp2
  go_ret
  exact ⟨rfl, rfl⟩
end Go.Proofs.Ytajklipfdjaejaa
