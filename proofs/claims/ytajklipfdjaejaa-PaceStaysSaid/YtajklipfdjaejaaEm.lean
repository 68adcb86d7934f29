/-
  Contracts: the answer's Read.
-/
import Derived.Test.YtajklipfdjaejaaEl
namespace Go.Proofs.Ytajklipfdjaejaa
open Go.RowKit
attribute [local go_sem] run_bits run_frombits

theorem digits_any (w : World) : Calls Try.prog 39 #[] w fun e w' => e = .returned (.string digS) ∧ w' = w := by
  go_enter Try.func39, Try.ntmps39
  go_wp2
  go_ret
  exact ⟨rfl, rfl⟩
theorem run_dig (d : Nat) (h : d < 16) (w : World) : (Instr.index 9 (.string digS) (.int .i64 d)).run Try.prog w = .ok (.int .u8 ((hexC d : Nat) : Int)) w := by
  have h1 : d = 0 ∨ d = 1 ∨ d = 2 ∨ d = 3 ∨ d = 4 ∨ d = 5 ∨ d = 6 ∨ d = 7 ∨ d = 8 ∨ d = 9 ∨ d = 10 ∨ d = 11 ∨ d = 12 ∨ d = 13 ∨ d = 14 ∨ d = 15 := by omega
  rcases h1 with rfl | rfl | rfl | rfl | rfl | rfl | rfl | rfl | rfl | rfl | rfl | rfl | rfl | rfl | rfl | rfl <;> (show _ = _; kernel_rfl)
theorem dig_ne {c d : Nat} (h : d < hexV c) (hd : d < 16) : (((hexC d : Nat) : Int) != (c : Int)) = true := by
  rw [bne_iff_ne]
  unfold hexC; unfold hexV at h
  split at h <;> (try split at h) <;> split <;> omega
theorem dig_eq {c : Nat} (h : hexV c < 16) : (((hexC (hexV c) : Nat) : Int) != (c : Int)) = false := by
  rw [bne_eq_false_iff_eq]
  revert h
  unfold hexC hexV
  split <;> (try split) <;> (try split) <;> omega
theorem hexV_le (c : Nat) : hexV c ≤ 16 := by unfold hexV; split <;> (try split) <;> omega

theorem refRead_len (s : ByteArray) (w : World) (hs : ¬ s.size = 16) : Calls Try.prog 15 #[.string s] w fun e w' => e = .returned (.tuple #[.float .f64 0, .int .i64 5]) ∧ w = w' := by
  have h1 : ((s.size : Int) != 16) = true := by rw [bne_iff_ne]; omega
  clear hs
  go_enter Try.func15, Try.ntmps15
  go_wp2
  go_ret2
  exact ⟨rfl, rfl⟩

set_option maxHeartbeats 1000000 in
theorem refRead_ok (s : ByteArray) (w : World) (hs : s.size = 16) (hg : ∀ j, ¬ badH s j) : Calls Try.prog 15 #[.string s] w fun e w' => e = .returned (.tuple #[.float .f64 (ofV (numK s 16)), .int .i64 (ofE (numK s 16))]) ∧ Below w.heap.size w w' := by
  have h1 : ((s.size : Int) != 16) = false := by rw [bne_eq_false_iff_eq]; omega
  have hsz : s.size ≤ 16 := by omega
  have hsz2 : 16 ≤ s.size := by omega
  have HM := hidp hg; have HS := hidp hs; clear hg hs
  go_enter Try.func15, Try.ntmps15
  go_wp2
  go_loopw [4, 5] (fun f x wr => ∃ k : Nat, k ≤ 16 ∧ x = .int .i64 k ∧ f = .int .u64 (numK s k) ∧ Below w.heap.size w wr) (fun _ x _ => 16 - (intOf x).toNat)
  case atStart => exact ⟨0, Nat.zero_le _, rfl, rfl, Below.refl _ _⟩
  case round =>
    obtain ⟨k, hk, rfl, rfl, hB⟩ := hrel
    have HB := hidp hB; clear hB
    by_cases hki : k < 16
    · have hks : k < s.size := by omega
      have hd := not_badH (HM.out k) hks
      have hm2 := numK_60 s HM.out k hki
      have ho := or_dig (numK s k) (hexV s[k].toNat) hm2 hd
      rw [← numK_succ s k hks] at ho
      have HD := hidp hd
      go_wp2
      obtain ⟨wo, rfl⟩ : ∃ wo : World, wo = wr := ⟨_, rfl⟩
      go_loopw [6] (fun y wq => ∃ d : Nat, d ≤ hexV s[k].toNat ∧ y = .int .i64 d ∧ Below wo.heap.size wo wq) (fun y _ => 16 - (intOf y).toNat)
      case atStart => exact ⟨0, Nat.zero_le _, rfl, Below.refl _ _⟩
      case round =>
        obtain ⟨d, hd2, rfl, hB2⟩ := hrel
        have HB2 := hidp hB2; clear hB2
        have hd16 : d < 16 := by omega
        have hdi : decide ((d : Int) < 16) = true := by simp; omega
        have hrd := run_dig d hd16
        by_cases hdd : d < hexV s[k].toNat
        · have hne := dig_ne hdd hd16
          go_wp2
          go_quiet ((go_at_call 39; exact Calls.quiet_of_same (digits_any _)))
          go_wp2
          exact ⟨⟨d + 1, by omega, by go_num, HB2.out.drewN _⟩, by simp [intOf]; omega⟩
        · obtain rfl : d = hexV s[k].toNat := by omega
          have hne := dig_eq HD.out
          go_wp2
          go_quiet ((go_at_call 39; exact Calls.quiet_of_same (digits_any _)))
          go_wp2
          exact ⟨⟨k + 1, by omega, by go_num, rfl, (btrans HB.out HB2.out).drewN _⟩, by simp [intOf]; omega⟩
    · obtain rfl : k = 16 := by omega
      go_wp2_with (go_at_call 13; refine (refOf_any _ _).mono ?_; rintro e w' ⟨rfl, rfl⟩)
      go_ret2
      exact ⟨rfl, HB.out⟩

set_option maxHeartbeats 1000000 in
theorem refRead_bad (s : ByteArray) (w : World) (hs : s.size = 16) (i : Nat) (hi : badH s i) (hmin : ∀ j, j < i → ¬ badH s j) : Calls Try.prog 15 #[.string s] w fun e w' => e = .returned (.tuple #[.float .f64 0, .int .i64 5]) ∧ Below w.heap.size w w' := by
  have h1 : ((s.size : Int) != 16) = false := by rw [bne_eq_false_iff_eq]; omega
  have hsz : s.size ≤ 16 := by omega
  have hsz2 : 16 ≤ s.size := by omega
  obtain ⟨hlt, hb⟩ := hi
  have hv16 : hexV s[i].toNat = 16 := by have := hexV_le s[i].toNat; omega
  have HM := hidp hmin; have HS := hidp hs; have HV := hidp hv16; clear hmin hs hv16 hb
  go_enter Try.func15, Try.ntmps15
  go_wp2
  go_loopw [4, 5] (fun f x wr => ∃ k m : Nat, k ≤ i ∧ x = .int .i64 k ∧ f = .int .u64 m ∧ m < 16 ^ k ∧ Below w.heap.size w wr) (fun _ x _ => 16 - (intOf x).toNat)
  case atStart => exact ⟨0, 0, Nat.zero_le _, rfl, rfl, by simp, Below.refl _ _⟩
  case round =>
    obtain ⟨k, m, hk, rfl, rfl, hm, hB⟩ := hrel
    have HB := hidp hB; clear hB
    by_cases hki : k < i
    · have hks : k < s.size := by omega
      have hd := not_badH (HM.out k hki) hks
      have hm2 : m < 1152921504606846976 := Nat.lt_of_lt_of_le hm (Nat.pow_le_pow_right (n := 16) (by decide) (show k ≤ 15 by omega))
      have ho := or_dig m (hexV s[k].toNat) hm2 hd
      have hpow : m * 16 + hexV s[k].toNat < 16 ^ (k + 1) := by rw [Nat.pow_succ]; omega
      have HP := hidp hpow
      clear hm hpow
      have HD := hidp hd
      go_wp2
      obtain ⟨wo, rfl⟩ : ∃ wo : World, wo = wr := ⟨_, rfl⟩
      go_loopw [6] (fun y wq => ∃ d : Nat, d ≤ hexV s[k].toNat ∧ y = .int .i64 d ∧ Below wo.heap.size wo wq) (fun y _ => 16 - (intOf y).toNat)
      case atStart => exact ⟨0, Nat.zero_le _, rfl, Below.refl _ _⟩
      case round =>
        obtain ⟨d, hd2, rfl, hB2⟩ := hrel
        have HB2 := hidp hB2; clear hB2
        have hd16 : d < 16 := by omega
        have hdi : decide ((d : Int) < 16) = true := by simp; omega
        have hrd := run_dig d hd16
        by_cases hdd : d < hexV s[k].toNat
        · have hne := dig_ne hdd hd16
          go_wp2
          go_quiet ((go_at_call 39; exact Calls.quiet_of_same (digits_any _)))
          go_wp2
          exact ⟨⟨d + 1, by omega, by go_num, HB2.out.drewN _⟩, by simp [intOf]; omega⟩
        · obtain rfl : d = hexV s[k].toNat := by omega
          have hne := dig_eq HD.out
          go_wp2
          go_quiet ((go_at_call 39; exact Calls.quiet_of_same (digits_any _)))
          go_wp2
          exact ⟨⟨k + 1, m * 16 + hexV s[k].toNat, by omega, by go_num, by go_num, HP.out, (btrans HB.out HB2.out).drewN _⟩, by simp [intOf]; omega⟩
    · obtain rfl : k = i := by omega
      have hks : k < s.size := by omega
      clear hm
      go_wp2
      obtain ⟨wo, rfl⟩ : ∃ wo : World, wo = wr := ⟨_, rfl⟩
      go_loopw [6] (fun y wq => ∃ d : Nat, d ≤ 16 ∧ y = .int .i64 d ∧ Below wo.heap.size wo wq) (fun y _ => 16 - (intOf y).toNat)
      case atStart => exact ⟨0, Nat.zero_le _, rfl, Below.refl _ _⟩
      case round =>
        obtain ⟨d, hd2, rfl, hB2⟩ := hrel
        have HB2 := hidp hB2; clear hB2
        by_cases hd16 : d < 16
        · have hdi : decide ((d : Int) < 16) = true := by simp; omega
          have hrd := run_dig d hd16
          have hne := dig_ne (show d < hexV s[k].toNat by rw [HV.out]; exact hd16) hd16
          go_wp2
          go_quiet ((go_at_call 39; exact Calls.quiet_of_same (digits_any _)))
          go_wp2
          exact ⟨⟨d + 1, by omega, by go_num, HB2.out.drewN _⟩, by simp [intOf]; omega⟩
        · obtain rfl : d = 16 := by omega
          go_wp2
          go_quiet (fail)
          go_wp2
          go_ret2
          exact ⟨rfl, (btrans HB.out HB2.out).drewN _⟩
end Go.Proofs.Ytajklipfdjaejaa
