/-
  The walk of landfalllaw02's PaceBack: a form, and a text, is read as it was.
-/
import Derived.Test.YtajklipfdjaejaaEr
import Derived.Test.YtajklipfdjaejaaEu
namespace Go.Proofs.Ytajklipfdjaejaa
open Go.RowKit
attribute [local go_sem] run_bits run_frombits

theorem form_form (n : Nat) : formN (formN n) = formN n := by
  cases h : nanB n
  · rw [formN_no h, formN_no h]
  · rw [formN_yes h, formN_yes nan_form]
theorem hexV_hexC {d : Nat} (h : d < 16) : hexV (hexC d) = d := by
  unfold hexC hexV
  split <;> (try split) <;> (try split) <;> omega
theorem hexC_hexV {c : Nat} (h : hexV c < 16) : hexC (hexV c) = c := by
  revert h
  unfold hexC hexV
  split <;> (try split) <;> (try split) <;> omega
theorem hexT_at (n k : Nat) (h : k < (hexT n).size) : (hexT n)[k].toNat = hexC (nib n k) := by
  have hk : k < 16 := by rw [hexT_size] at h; exact h
  have h4 : (hexT n)[k]'h = UInt8.ofNat (hexC (nib n k)) := by
    show (((hexL n 16).map UInt8.ofNat).toArray)[k]'(by simpa [hexL_len] using hk) = _
    simp [hexL]
  exact (congrArg UInt8.toNat h4).trans (UInt8.toNat_ofNat_of_lt' (hexC_lt (nib_lt n k)))
theorem hexT_good (n : Nat) : ∀ j, ¬ badH (hexT n) j := by
  rintro j ⟨h, hb⟩
  rw [hexT_at, hexV_hexC (nib_lt _ _)] at hb
  exact hb (nib_lt _ _)
theorem pow4 (j : Nat) : 2 ^ (4 * j) = 16 ^ j := by rw [Nat.pow_mul]
theorem num_hexT (m : Nat) (hm : m < 18446744073709551616) : ∀ k, k ≤ 16 → numK (hexT m) k = m / 16 ^ (16 - k)
  | 0, _ => by
    rw [numK]; exact (Nat.div_eq_of_lt hm).symm
  | k + 1, hk => by
    have h : k < (hexT m).size := by rw [hexT_size]; omega
    rw [numK_succ _ k h, hexT_at, hexV_hexC (nib_lt _ _), num_hexT m hm k (by omega)]
    unfold nib
    rw [pow4]
    obtain ⟨j, hj⟩ : ∃ j, k + j = 15 := ⟨15 - k, by omega⟩
    have e1 : 16 - k = j + 1 := by omega
    have e2 : 15 - k = j := by omega
    have e3 : 16 - (k + 1) = j := by omega
    rw [e1, e2, e3, Nat.pow_succ, ← Nat.div_div_eq_div_mul]
    omega
theorem numK_div (s : ByteArray) (hs : s.size = 16) (hg : ∀ j, ¬ badH s j) (k : Nat) : ∀ i, k + i ≤ 16 → numK s (k + i) / 16 ^ i = numK s k
  | 0, _ => by simp
  | i + 1, h => by
    have h1 : k + i < s.size := by omega
    rw [← Nat.add_assoc, numK_succ s (k + i) h1, Nat.pow_succ, Nat.mul_comm (16 ^ i), ← Nat.div_div_eq_div_mul]
    have := not_badH (hg (k + i)) h1
    rw [show (numK s (k + i) * 16 + hexV s[k + i].toNat) / 16 = numK s (k + i) by omega]
    exact numK_div s hs hg k i (by omega)
theorem hexT_num (s : ByteArray) (hs : s.size = 16) (hg : ∀ j, ¬ badH s j) : hexT (numK s 16) = s := by
  apply ByteArray.ext
  apply Array.ext
  · show (hexT (numK s 16)).size = s.size
    rw [hexT_size, hs]
  · intro k h1 h2
    have hk : k < (hexT (numK s 16)).size := h1
    have hk2 : k < s.size := h2
    have hv := not_badH (hg k) hk2
    show (hexT (numK s 16))[k] = s[k]
    apply UInt8.toNat_inj.1
    rw [hexT_at]
    have hd := numK_div s hs hg (k + 1) (15 - k) (by omega)
    rw [show k + 1 + (15 - k) = 16 by omega, numK_succ s k hk2] at hd
    unfold nib
    rw [pow4, hd, show (numK s k * 16 + hexV s[k].toNat) % 16 = hexV s[k].toNat by omega]
    exact hexC_hexV hv
theorem num_back {m : Nat} (hm : m < 18446744073709551616) : numK (hexT m) 16 = m := by
  rw [num_hexT m hm 16 (by omega)]; simp
theorem Read_text (n : Nat) (hn : n < 18446744073709551616) (w : World) : Calls Try.prog 14 #[.string (hexT (formN n))] w fun e w' => e = .returned (.tuple #[.float .f64 (formN n), .int .i64 0]) ∧ w = w' := by
  have h := Read_ok (hexT (formN n)) w (hexT_size _) (hexT_good _)
  rw [num_back (formN_lt hn)] at h
  unfold ofV ofE at h
  rw [if_pos (form_form n), if_pos (form_form n)] at h
  exact h
theorem Of_bits (n : Nat) (w : World) : Calls Try.prog 12 #[.int .u64 (formN n)] w fun e w' => e = .returned (.tuple #[.float .f64 (formN n), .int .i64 0]) ∧ w = w' := by
  have h := Of_any (formN n) w
  unfold ofV ofE at h
  rw [if_pos (form_form n), if_pos (form_form n)] at h
  exact h
theorem Compare_form (n : Nat) (hn : n < 18446744073709551616) (w : World) : Calls Try.prog 21 #[.float .f64 (formN n), .float .f64 n] w fun e w' => e = .returned (.int .i64 0) ∧ Below w.heap.size w w' := by
  refine Compare_val ?_ w
  rw [cmp_key _ _ (formN_lt hn) hn, (key_form _ _ (formN_lt hn) hn).1 (form_form n)]
  unfold sgnI; simp

set_option maxHeartbeats 1000000 in
theorem lawBack_long (a : Int) (s : ByteArray) (w : World) (h : 40 < s.size) :
    Calls Try.prog 8 #[.int .u64 a, .string s] w fun e w' => e = .returned (.bool true) ∧ Below w.heap.size w w' := by
  go_enter Try.func8, Try.ntmps8
  go_wp2_with (go_at_call 6; refine (known_any _).mono ?_; rintro e w6 ⟨rfl, hN⟩; have hV := hidp hN; clear hN)
  go_ret
  exact ⟨rfl, hV.out⟩

/-- The walk where it is known what the word and the text are. -/
def BackW (n : Nat) (s : ByteArray) (g h : Int) (gv hv : Nat) : Prop := ∀ w, n < 18446744073709551616 → ¬ 40 < s.size → hv < 18446744073709551616 →
    (∀ w, Calls Try.prog 12 #[.int .u64 n] w fun e w' => e = .returned (.tuple #[.float .f64 gv, .int .i64 g]) ∧ w = w') →
    (∀ w, Calls Try.prog 14 #[.string s] w fun e w' => e = .returned (.tuple #[.float .f64 hv, .int .i64 h]) ∧ w = w') →
    (g = 0 → formN n = n) → (h = 0 → hexT (formN hv) = s) →
    Calls Try.prog 8 #[.int .u64 n, .string s] w fun e w' => e = .returned (.bool true) ∧ Below w.heap.size w w'
set_option maxHeartbeats 1000000 in
theorem back_00 (n : Nat) (s : ByteArray) (gv hv : Nat) : BackW n s 0 0 gv hv := by
  intro w hn h40 hhv hO hR hg hh
  have HN := hidp hn; have HO := hidp hO; have HR := hidp hR; have HV := hidp hhv
  have HB := hidp (Of_bits n); have HT := hidp (Read_text n hn); have HC := hidp (Compare_form n hn); have HX := hidp (Text_any hv); have HY := hidp (Text_any n)
  have q1 : (((formN n : Nat) : Int) == (n : Int)) = true := by rw [hg rfl]; simp
  have q2 : ((hexT (formN hv)).toList == s.toList) = true := by rw [hh rfl]; exact beq_self_eq_true _
  clear hn hO hR hg hh hhv
  have hV := hidp (Below.refl w.heap.size w)
  go_enter Try.func8, Try.ntmps8
  go_wp2_with (first | (go_at_call 11; refine (of_any _ _).mono ?_; rintro e w' ⟨rfl, rfl⟩) | (go_at_call 16; refine (Bits_any _ _).mono ?_; rintro e w' ⟨rfl, rfl⟩) | (go_at_call 6; refine (known_any _).mono ?_; rintro e w1 ⟨rfl, hN⟩; have hV := hidp (btrans (w := w) (by first | with_reducible exact hV.out | (repeat' (first | (with_reducible exact Below.refl _ _) | (with_reducible refine Below.alloc ?_ ?_ _) | (with_reducible refine Below.drew ?_) | (with_reducible refine Below.drewN ?_ _) | (with_reducible refine Below.setCell ?_ ?_ _) | (with_reducible refine Below.trans ?_ (Below.mono hV.out ?_)) | go_size | (have i0_ := hV.out.size; (try simp at i0_); (try simp); omega)))) hN); clear hN) | (go_at_call 12; (first | (with_reducible refine (HB.out _).mono ?_) | (with_reducible refine (HO.out _).mono ?_)); rintro e w' ⟨rfl, rfl⟩) | (go_at_call 14; (first | (with_reducible refine (HT.out _).mono ?_) | (with_reducible refine (HR.out _).mono ?_)); rintro e w' ⟨rfl, rfl⟩) | (go_at_call 21; with_reducible refine (HC.out _).mono ?_; rintro e w1 ⟨rfl, hN⟩; have hV := hidp (btrans (w := w) (by first | with_reducible exact hV.out | (repeat' (first | (with_reducible exact Below.refl _ _) | (with_reducible refine Below.alloc ?_ ?_ _) | (with_reducible refine Below.drew ?_) | (with_reducible refine Below.drewN ?_ _) | (with_reducible refine Below.setCell ?_ ?_ _) | (with_reducible refine Below.trans ?_ (Below.mono hV.out ?_)) | go_size | (have i0_ := hV.out.size; (try simp at i0_); (try simp); omega)))) hN); clear hN) | (go_at_call 18; (first | (with_reducible refine (HY.out _ HN.out).mono ?_) | (with_reducible refine (HX.out _ HV.out).mono ?_)); rintro e w1 ⟨rfl, hN⟩; have hV := hidp (btrans (w := w) (by first | with_reducible exact hV.out | (repeat' (first | (with_reducible exact Below.refl _ _) | (with_reducible refine Below.alloc ?_ ?_ _) | (with_reducible refine Below.drew ?_) | (with_reducible refine Below.drewN ?_ _) | (with_reducible refine Below.setCell ?_ ?_ _) | (with_reducible refine Below.trans ?_ (Below.mono hV.out ?_)) | go_size | (have i0_ := hV.out.size; (try simp at i0_); (try simp); omega)))) hN); clear hN))
  go_ret
  exact ⟨rfl, hV.out⟩
set_option maxHeartbeats 1000000 in
theorem back_05 (n : Nat) (s : ByteArray) (gv hv : Nat) : BackW n s 0 5 gv hv := by
  intro w hn h40 hhv hO hR hg hh
  have HN := hidp hn; have HO := hidp hO; have HR := hidp hR; have HV := hidp hhv
  have HB := hidp (Of_bits n); have HT := hidp (Read_text n hn); have HC := hidp (Compare_form n hn); have HX := hidp (Text_any hv); have HY := hidp (Text_any n)
  have q1 : (((formN n : Nat) : Int) == (n : Int)) = true := by rw [hg rfl]; simp
  clear hn hO hR hg hh hhv
  have hV := hidp (Below.refl w.heap.size w)
  go_enter Try.func8, Try.ntmps8
  go_wp2_with (first | (go_at_call 11; refine (of_any _ _).mono ?_; rintro e w' ⟨rfl, rfl⟩) | (go_at_call 16; refine (Bits_any _ _).mono ?_; rintro e w' ⟨rfl, rfl⟩) | (go_at_call 6; refine (known_any _).mono ?_; rintro e w1 ⟨rfl, hN⟩; have hV := hidp (btrans (w := w) (by first | with_reducible exact hV.out | (repeat' (first | (with_reducible exact Below.refl _ _) | (with_reducible refine Below.alloc ?_ ?_ _) | (with_reducible refine Below.drew ?_) | (with_reducible refine Below.drewN ?_ _) | (with_reducible refine Below.setCell ?_ ?_ _) | (with_reducible refine Below.trans ?_ (Below.mono hV.out ?_)) | go_size | (have i0_ := hV.out.size; (try simp at i0_); (try simp); omega)))) hN); clear hN) | (go_at_call 12; (first | (with_reducible refine (HB.out _).mono ?_) | (with_reducible refine (HO.out _).mono ?_)); rintro e w' ⟨rfl, rfl⟩) | (go_at_call 14; (first | (with_reducible refine (HT.out _).mono ?_) | (with_reducible refine (HR.out _).mono ?_)); rintro e w' ⟨rfl, rfl⟩) | (go_at_call 21; with_reducible refine (HC.out _).mono ?_; rintro e w1 ⟨rfl, hN⟩; have hV := hidp (btrans (w := w) (by first | with_reducible exact hV.out | (repeat' (first | (with_reducible exact Below.refl _ _) | (with_reducible refine Below.alloc ?_ ?_ _) | (with_reducible refine Below.drew ?_) | (with_reducible refine Below.drewN ?_ _) | (with_reducible refine Below.setCell ?_ ?_ _) | (with_reducible refine Below.trans ?_ (Below.mono hV.out ?_)) | go_size | (have i0_ := hV.out.size; (try simp at i0_); (try simp); omega)))) hN); clear hN) | (go_at_call 18; (first | (with_reducible refine (HY.out _ HN.out).mono ?_) | (with_reducible refine (HX.out _ HV.out).mono ?_)); rintro e w1 ⟨rfl, hN⟩; have hV := hidp (btrans (w := w) (by first | with_reducible exact hV.out | (repeat' (first | (with_reducible exact Below.refl _ _) | (with_reducible refine Below.alloc ?_ ?_ _) | (with_reducible refine Below.drew ?_) | (with_reducible refine Below.drewN ?_ _) | (with_reducible refine Below.setCell ?_ ?_ _) | (with_reducible refine Below.trans ?_ (Below.mono hV.out ?_)) | go_size | (have i0_ := hV.out.size; (try simp at i0_); (try simp); omega)))) hN); clear hN))
  go_ret
  exact ⟨rfl, hV.out⟩
set_option maxHeartbeats 1000000 in
theorem back_50 (n : Nat) (s : ByteArray) (gv hv : Nat) : BackW n s 5 0 gv hv := by
  intro w hn h40 hhv hO hR hg hh
  have HN := hidp hn; have HO := hidp hO; have HR := hidp hR; have HV := hidp hhv
  have HB := hidp (Of_bits n); have HT := hidp (Read_text n hn); have HC := hidp (Compare_form n hn); have HX := hidp (Text_any hv); have HY := hidp (Text_any n)
  have q2 : ((hexT (formN hv)).toList == s.toList) = true := by rw [hh rfl]; exact beq_self_eq_true _
  clear hn hO hR hg hh hhv
  have hV := hidp (Below.refl w.heap.size w)
  go_enter Try.func8, Try.ntmps8
  go_wp2_with (first | (go_at_call 11; refine (of_any _ _).mono ?_; rintro e w' ⟨rfl, rfl⟩) | (go_at_call 16; refine (Bits_any _ _).mono ?_; rintro e w' ⟨rfl, rfl⟩) | (go_at_call 6; refine (known_any _).mono ?_; rintro e w1 ⟨rfl, hN⟩; have hV := hidp (btrans (w := w) (by first | with_reducible exact hV.out | (repeat' (first | (with_reducible exact Below.refl _ _) | (with_reducible refine Below.alloc ?_ ?_ _) | (with_reducible refine Below.drew ?_) | (with_reducible refine Below.drewN ?_ _) | (with_reducible refine Below.setCell ?_ ?_ _) | (with_reducible refine Below.trans ?_ (Below.mono hV.out ?_)) | go_size | (have i0_ := hV.out.size; (try simp at i0_); (try simp); omega)))) hN); clear hN) | (go_at_call 12; (first | (with_reducible refine (HB.out _).mono ?_) | (with_reducible refine (HO.out _).mono ?_)); rintro e w' ⟨rfl, rfl⟩) | (go_at_call 14; (first | (with_reducible refine (HT.out _).mono ?_) | (with_reducible refine (HR.out _).mono ?_)); rintro e w' ⟨rfl, rfl⟩) | (go_at_call 21; with_reducible refine (HC.out _).mono ?_; rintro e w1 ⟨rfl, hN⟩; have hV := hidp (btrans (w := w) (by first | with_reducible exact hV.out | (repeat' (first | (with_reducible exact Below.refl _ _) | (with_reducible refine Below.alloc ?_ ?_ _) | (with_reducible refine Below.drew ?_) | (with_reducible refine Below.drewN ?_ _) | (with_reducible refine Below.setCell ?_ ?_ _) | (with_reducible refine Below.trans ?_ (Below.mono hV.out ?_)) | go_size | (have i0_ := hV.out.size; (try simp at i0_); (try simp); omega)))) hN); clear hN) | (go_at_call 18; (first | (with_reducible refine (HY.out _ HN.out).mono ?_) | (with_reducible refine (HX.out _ HV.out).mono ?_)); rintro e w1 ⟨rfl, hN⟩; have hV := hidp (btrans (w := w) (by first | with_reducible exact hV.out | (repeat' (first | (with_reducible exact Below.refl _ _) | (with_reducible refine Below.alloc ?_ ?_ _) | (with_reducible refine Below.drew ?_) | (with_reducible refine Below.drewN ?_ _) | (with_reducible refine Below.setCell ?_ ?_ _) | (with_reducible refine Below.trans ?_ (Below.mono hV.out ?_)) | go_size | (have i0_ := hV.out.size; (try simp at i0_); (try simp); omega)))) hN); clear hN))
  go_ret
  exact ⟨rfl, hV.out⟩
set_option maxHeartbeats 1000000 in
theorem back_55 (n : Nat) (s : ByteArray) (gv hv : Nat) : BackW n s 5 5 gv hv := by
  intro w hn h40 hhv hO hR hg hh
  have HN := hidp hn; have HO := hidp hO; have HR := hidp hR; have HV := hidp hhv
  have HB := hidp (Of_bits n); have HT := hidp (Read_text n hn); have HC := hidp (Compare_form n hn); have HX := hidp (Text_any hv); have HY := hidp (Text_any n)
  clear hn hO hR hg hh hhv
  have hV := hidp (Below.refl w.heap.size w)
  go_enter Try.func8, Try.ntmps8
  go_wp2_with (first | (go_at_call 11; refine (of_any _ _).mono ?_; rintro e w' ⟨rfl, rfl⟩) | (go_at_call 16; refine (Bits_any _ _).mono ?_; rintro e w' ⟨rfl, rfl⟩) | (go_at_call 6; refine (known_any _).mono ?_; rintro e w1 ⟨rfl, hN⟩; have hV := hidp (btrans (w := w) (by first | with_reducible exact hV.out | (repeat' (first | (with_reducible exact Below.refl _ _) | (with_reducible refine Below.alloc ?_ ?_ _) | (with_reducible refine Below.drew ?_) | (with_reducible refine Below.drewN ?_ _) | (with_reducible refine Below.setCell ?_ ?_ _) | (with_reducible refine Below.trans ?_ (Below.mono hV.out ?_)) | go_size | (have i0_ := hV.out.size; (try simp at i0_); (try simp); omega)))) hN); clear hN) | (go_at_call 12; (first | (with_reducible refine (HB.out _).mono ?_) | (with_reducible refine (HO.out _).mono ?_)); rintro e w' ⟨rfl, rfl⟩) | (go_at_call 14; (first | (with_reducible refine (HT.out _).mono ?_) | (with_reducible refine (HR.out _).mono ?_)); rintro e w' ⟨rfl, rfl⟩) | (go_at_call 21; with_reducible refine (HC.out _).mono ?_; rintro e w1 ⟨rfl, hN⟩; have hV := hidp (btrans (w := w) (by first | with_reducible exact hV.out | (repeat' (first | (with_reducible exact Below.refl _ _) | (with_reducible refine Below.alloc ?_ ?_ _) | (with_reducible refine Below.drew ?_) | (with_reducible refine Below.drewN ?_ _) | (with_reducible refine Below.setCell ?_ ?_ _) | (with_reducible refine Below.trans ?_ (Below.mono hV.out ?_)) | go_size | (have i0_ := hV.out.size; (try simp at i0_); (try simp); omega)))) hN); clear hN) | (go_at_call 18; (first | (with_reducible refine (HY.out _ HN.out).mono ?_) | (with_reducible refine (HX.out _ HV.out).mono ?_)); rintro e w1 ⟨rfl, hN⟩; have hV := hidp (btrans (w := w) (by first | with_reducible exact hV.out | (repeat' (first | (with_reducible exact Below.refl _ _) | (with_reducible refine Below.alloc ?_ ?_ _) | (with_reducible refine Below.drew ?_) | (with_reducible refine Below.drewN ?_ _) | (with_reducible refine Below.setCell ?_ ?_ _) | (with_reducible refine Below.trans ?_ (Below.mono hV.out ?_)) | go_size | (have i0_ := hV.out.size; (try simp at i0_); (try simp); omega)))) hN); clear hN))
  go_ret
  exact ⟨rfl, hV.out⟩

theorem lawBack_w (a : Int) (s : ByteArray) (w : World) (ha : 0 ≤ a ∧ a ≤ 18446744073709551615) (_hs : s.size ≤ 9223372036854775807) :
    Calls Try.prog 8 #[.int .u64 a, .string s] w fun e w' => e = .returned (.bool true) ∧ Below w.heap.size w w' := by
  by_cases h : 40 < s.size
  · exact lawBack_long a s w h
  · obtain ⟨n, rfl⟩ := Int.eq_ofNat_of_zero_le ha.1
    have hn : n < 18446744073709551616 := by omega
    obtain ⟨v, e, h1, _, h3⟩ := Read_both s
    have hO := Of_any n
    have hv : v < 18446744073709551616 := by
      rcases h3 with ⟨_, rfl⟩ | ⟨_, hg, rfl, _⟩
      · decide
      · unfold ofV; split
        · exact numK_64 s hg
        · decide
    have he : (e = 0 ∧ hexT (formN v) = s) ∨ e = 5 := by
      rcases h3 with ⟨rfl, _⟩ | ⟨h16, hg, rfl, rfl⟩
      · right; rfl
      · unfold ofV ofE
        by_cases hf : formN (numK s 16) = numK s 16
        · left; rw [if_pos hf, if_pos hf]; exact ⟨rfl, by rw [hf]; exact hexT_num s h16 hg⟩
        · right; rw [if_neg hf]
    by_cases hf : formN n = n
    · rw [show ofE n = 0 by unfold ofE; rw [if_pos hf]] at hO
      rcases he with ⟨rfl, he⟩ | rfl
      · exact back_00 n s _ v w hn h hv hO h1 (fun _ => hf) (fun _ => he)
      · exact back_05 n s _ v w hn h hv hO h1 (fun _ => hf) (fun h => by cases h)
    · rw [show ofE n = 5 by unfold ofE; rw [if_neg hf]] at hO
      rcases he with ⟨rfl, he⟩ | rfl
      · exact back_50 n s _ v w hn h hv hO h1 (fun h => by cases h) (fun _ => he)
      · exact back_55 n s _ v w hn h hv hO h1 (fun h => by cases h) (fun h => by cases h)
end Go.Proofs.Ytajklipfdjaejaa
