/-
  Contracts: the answer's Text.
-/
import Derived.Test.YtajklipfdjaejaaEm
import Derived.Test.YtajklipfdjaejaaEg
namespace Go.Proofs.Ytajklipfdjaejaa
open Go.RowKit
attribute [local go_sem] run_bits run_frombits

/-- The last k digits. -/
def hexR (n : Nat) : Nat → ByteArray
  | 0 => ⟨#[]⟩
  | k + 1 => ⟨#[UInt8.ofNat (hexC (n / 16 ^ k % 16))]⟩ ++ hexR n k
theorem hexR_list (n : Nat) : ∀ k, (hexR n k).data.toList = ((List.range k).map fun i => UInt8.ofNat (hexC (n / 16 ^ i % 16))).reverse
  | 0 => rfl
  | k + 1 => by
    rw [hexR, List.range_succ, List.map_append, List.reverse_append, ← hexR_list n k]
    simp
theorem hexR_size (n k : Nat) : (hexR n k).size = k := by
  have h := congrArg List.length (hexR_list n k)
  simpa using h
theorem hexR_step (n k q r : Nat) (hq : q = n / 16 ^ k) (hr : q % 16 = r) : (⟨#[UInt8.ofNat (hexC r)]⟩ : ByteArray) ++ hexR n k = hexR n (k + 1) := by
  subst hq; subst hr; rfl
theorem quo_step (n k q : Nat) (hq : q = n / 16 ^ k) : q / 16 = n / 16 ^ (k + 1) := by
  subst hq; rw [Nat.div_div_eq_div_mul, Nat.pow_succ]
theorem hexR_all (n : Nat) : hexR n 16 = hexT n := by
  apply ByteArray.ext
  apply Array.toList_inj.1
  rw [hexR_list]
  show _ = (hexL n 16).map UInt8.ofNat
  simp [hexL, nib, List.range_succ]
theorem run_sdig (d : Nat) (h : d < 16) (w : World) : (Instr.slice 9 (.string digS) (some (.int .u64 d)) (some (.int .u64 ((d : Int) + 1))) none).run Try.prog w = .ok (.string ⟨#[UInt8.ofNat (hexC d)]⟩) w := by
  have h1 : d = 0 ∨ d = 1 ∨ d = 2 ∨ d = 3 ∨ d = 4 ∨ d = 5 ∨ d = 6 ∨ d = 7 ∨ d = 8 ∨ d = 9 ∨ d = 10 ∨ d = 11 ∨ d = 12 ∨ d = 13 ∨ d = 14 ∨ d = 15 := by omega
  rcases h1 with rfl | rfl | rfl | rfl | rfl | rfl | rfl | rfl | rfl | rfl | rfl | rfl | rfl | rfl | rfl | rfl <;> (show _ = _; kernel_rfl)
theorem and15 (m : Nat) (h : m < 18446744073709551616) : bits .and .u64 (m : Int) 15 = ((m % 16 : Nat) : Int) := by
  have h2 := bits_and_u64_nat m 15 h (by decide)
  rw [show m &&& 15 = m % 16 from Nat.and_two_pow_sub_one_eq_mod _ 4] at h2
  exact h2

set_option maxHeartbeats 1000000 in
theorem refText_any (x : Nat) (w : World) (hx : x < 18446744073709551616) : Calls Try.prog 19 #[.float .f64 x] w fun e w' => e = .returned (.string (hexT (formN x))) ∧ w = w' := by
  have HF := hidp (formN_lt hx); clear hx
  have HBt := hidp (refBits_any x)
  generalize formN x = n at HF HBt ⊢
  go_enter Try.func19, Try.ntmps19
  go_wp2_with (go_at_call 17; refine (HBt.out _).mono ?_; rintro e w' ⟨rfl, rfl⟩)
  go_loop [3, 4, 5] (fun o m i => ∃ (k q : Nat), k ≤ 16 ∧ i = .int .i64 k ∧ m = .int .u64 q ∧ o = .string (hexR n k) ∧ Hid (q = n / 16 ^ k)) (fun _ _ i => 16 - (intOf i).toNat)
  case atStart => exact ⟨0, n, by omega, rfl, rfl, rfl, by show n = _; simp⟩
  case round =>
    obtain ⟨k, q, hk, rfl, rfl, rfl, hq⟩ := hrel
    by_cases hlt : k < 16
    · have hql : q < 18446744073709551616 := by rw [hq.out]; exact Nat.lt_of_le_of_lt (Nat.div_le_self _ _) HF.out
      have ha := and15 q hql
      have hs := run_sdig (q % 16) (Nat.mod_lt _ (by decide))
      have hb := Nat.mod_lt q (show 0 < 16 by decide)
      have HQ := hidp hql; clear hql
      generalize hr : q % 16 = r at ha hs hb
      have HR := hidp hr; clear hr
      have hsz : (hexR n k).size ≤ 16 := by rw [hexR_size]; exact hk
      go_wp2_with (go_at_call 39; refine (digits_any _).mono ?_; rintro e w' ⟨rfl, rfl⟩)
      exact ⟨⟨k + 1, q / 16, by omega, by go_num, by go_num, congrArg Value.string (hexR_step n k q r hq.out HR.out), quo_step n k q hq.out⟩, by simp [intOf]; omega⟩
    · obtain rfl : k = 16 := by omega
      have hall := hexR_all n
      go_wp2
      go_ret
      exact ⟨rfl, rfl⟩
end Go.Proofs.Ytajklipfdjaejaa
