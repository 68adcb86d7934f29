/-
  Contracts: Read.
-/
import Derived.Test.YtajklipfdjaejaaEk
import Derived.IntWalk
namespace Go.Proofs.Ytajklipfdjaejaa
open Go.RowKit
attribute [local go_sem] run_bits run_frombits

/-- The number of the first k digits. -/
def numK (s : ByteArray) : Nat → Nat
  | 0 => 0
  | k + 1 => numK s k * 16 + (if h : k < s.size then hexV s[k].toNat else 0)
theorem numK_succ (s : ByteArray) (k : Nat) (h : k < s.size) : numK s (k + 1) = numK s k * 16 + hexV s[k].toNat := by
  rw [numK, dif_pos h]
/-- Is the byte at place i no digit? -/
def badH (s : ByteArray) (i : Nat) : Prop := ∃ h : i < s.size, ¬ hexV s[i].toNat < 16
theorem not_badH {s : ByteArray} {i : Nat} (h : ¬ badH s i) (hi : i < s.size) : hexV s[i].toNat < 16 := by
  by_cases h1 : hexV s[i].toNat < 16
  · exact h1
  · exact absurd ⟨hi, h1⟩ h
theorem numK_lt (s : ByteArray) (hg : ∀ j, ¬ badH s j) : ∀ k, numK s k < 16 ^ k
  | 0 => by simp [numK]
  | k + 1 => by
    have ih := numK_lt s hg k
    rw [numK, Nat.pow_succ]
    split
    · rename_i h
      have := not_badH (hg k) h
      omega
    · omega
theorem numK_60 (s : ByteArray) (hg : ∀ j, ¬ badH s j) (k : Nat) (hk : k < 16) : numK s k < 1152921504606846976 :=
  Nat.lt_of_lt_of_le (numK_lt s hg k) (Nat.pow_le_pow_right (n := 16) (by decide) (show k ≤ 15 by omega))
theorem numK_64 (s : ByteArray) (hg : ∀ j, ¬ badH s j) : numK s 16 < 18446744073709551616 := numK_lt s hg 16
theorem or_dig (n d : Nat) (hn : n < 1152921504606846976) (hd : d < 16) : bits .or .u64 ((n : Int) * 16) (d : Int) = ((n * 16 + d : Nat) : Int) := by
  have h := bits_or_u64_nat (n * 16) d (by omega) (by omega)
  have h2 := Nat.shiftLeft_add_eq_or_of_lt (i := 4) (b := d) hd n
  rw [Nat.shiftLeft_eq] at h2
  have e1 : (((n * 16 : Nat) : Int)) = (n : Int) * 16 := by omega
  rw [e1] at h
  rw [h]
  exact congrArg _ h2.symm

theorem Read_len (s : ByteArray) (w : World) (hs : ¬ s.size = 16) : Calls Try.prog 14 #[.string s] w fun e w' => e = .returned (.tuple #[.float .f64 0, .int .i64 5]) ∧ w = w' := by
  have h1 : ((s.size : Int) != 16) = true := by rw [bne_iff_ne]; omega
  clear hs
  go_enter Try.func14, Try.ntmps14
  go_wp2
  go_ret2
  exact ⟨rfl, rfl⟩

set_option maxHeartbeats 1000000 in
theorem Read_bad (s : ByteArray) (w : World) (hs : s.size = 16) (i : Nat) (hi : badH s i) (hmin : ∀ j, j < i → ¬ badH s j) : Calls Try.prog 14 #[.string s] w fun e w' => e = .returned (.tuple #[.float .f64 0, .int .i64 5]) ∧ w = w' := by
  obtain ⟨hlt, hb⟩ := hi
  have h1 : ((s.size : Int) != 16) = false := by rw [bne_eq_false_iff_eq]; omega
  have hsz : s.size ≤ 16 := by omega
  have hsz2 : 16 ≤ s.size := by omega
  have HM := hidp hmin; have HS := hidp hs; have HB := hidp hb; clear hmin hs hb
  go_enter Try.func14, Try.ntmps14
  go_wp2
  go_loop [4, 12] (fun f x => ∃ k m : Nat, k ≤ i ∧ x = .int .i64 k ∧ f = .int .u64 m ∧ m < 16 ^ k) (fun _ x => i - (intOf x).toNat)
  case atStart => exact ⟨0, 0, Nat.zero_le _, rfl, rfl, by simp⟩
  case round =>
    obtain ⟨k, m, hk, rfl, rfl, hm⟩ := hrel
    by_cases hki : k < i
    · have hks : k < s.size := by omega
      have hd := not_badH (HM.out k hki) hks
      have hm2 : m < 1152921504606846976 := Nat.lt_of_lt_of_le hm (Nat.pow_le_pow_right (n := 16) (by decide) (show k ≤ 15 by omega))
      have ho := or_dig m (hexV s[k].toNat) hm2 hd
      have hpow : m * 16 + hexV s[k].toNat < 16 ^ (k + 1) := by rw [Nat.pow_succ]; omega
      have HP := hidp hpow
      have HD := hidp hd
      clear hm hpow
      go_wp2_with (go_at_call 38; refine (Index_yes _ _ HD.out).mono ?_; rintro e w' ⟨rfl, rfl⟩)
      exact ⟨⟨k + 1, m * 16 + hexV s[k].toNat, by omega, by go_num, by go_num, HP.out⟩, by simp [intOf]; omega⟩
    · obtain rfl : k = i := by omega
      go_wp2_with (go_at_call 38; refine (Index_no _ _ HB.out).mono ?_; rintro e w' ⟨rfl, rfl⟩)
      go_ret2
      exact ⟨rfl, rfl⟩

set_option maxHeartbeats 1000000 in
theorem Read_ok (s : ByteArray) (w : World) (hs : s.size = 16) (hg : ∀ j, ¬ badH s j) : Calls Try.prog 14 #[.string s] w fun e w' => e = .returned (.tuple #[.float .f64 (ofV (numK s 16)), .int .i64 (ofE (numK s 16))]) ∧ w = w' := by
  have h1 : ((s.size : Int) != 16) = false := by rw [bne_eq_false_iff_eq]; omega
  have hsz : s.size ≤ 16 := by omega
  have hsz2 : 16 ≤ s.size := by omega
  have HM := hidp hg; have HS := hidp hs; clear hg hs
  go_enter Try.func14, Try.ntmps14
  go_wp2
  go_loop [4, 12] (fun f x => ∃ k : Nat, k ≤ 16 ∧ x = .int .i64 k ∧ f = .int .u64 (numK s k)) (fun _ x => 16 - (intOf x).toNat)
  case atStart => exact ⟨0, Nat.zero_le _, rfl, rfl⟩
  case round =>
    obtain ⟨k, hk, rfl, rfl⟩ := hrel
    by_cases hki : k < 16
    · have hks : k < s.size := by omega
      have hd := not_badH (HM.out k) hks
      have hm2 := numK_60 s HM.out k hki
      have ho := or_dig (numK s k) (hexV s[k].toNat) hm2 hd
      rw [← numK_succ s k hks] at ho
      have HD := hidp hd
      go_wp2_with (go_at_call 38; refine (Index_yes _ _ HD.out).mono ?_; rintro e w' ⟨rfl, rfl⟩)
      exact ⟨⟨k + 1, by omega, by go_num, rfl⟩, by simp [intOf]; omega⟩
    · obtain rfl : k = 16 := by omega
      go_wp2_with (go_at_call 12; refine (Of_any _ _).mono ?_; rintro e w' ⟨rfl, rfl⟩)
      go_ret2
      exact ⟨rfl, rfl⟩
end Go.Proofs.Ytajklipfdjaejaa
