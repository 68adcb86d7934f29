/-
  The walk of landfalllaw02's PaceForms.
-/
import Derived.Test.YtajklipfdjaejaaEn
import Derived.Test.YtajklipfdjaejaaEj
namespace Go.Proofs.Ytajklipfdjaejaa
open Go.RowKit
attribute [local go_sem] run_bits run_frombits

theorem least_one {P : Nat → Prop} : ∀ i, P i → ∃ i, P i ∧ ∀ j, j < i → ¬ P j := by
  intro i
  induction i using Nat.strongRecOn with
  | _ i ih =>
    intro h
    by_cases hj : ∃ j, j < i ∧ P j
    · obtain ⟨j, h1, h2⟩ := hj
      exact ih j h1 h2
    · exact ⟨i, h, fun j h1 h2 => hj ⟨j, h1, h2⟩⟩

/-- What Read tells: the same as the answer. -/
theorem Read_both (s : ByteArray) : ∃ v e, (∀ w, Calls Try.prog 14 #[.string s] w fun r w' => r = .returned (.tuple #[.float .f64 v, .int .i64 e]) ∧ w = w') ∧
    (∀ w, Calls Try.prog 15 #[.string s] w fun r w' => r = .returned (.tuple #[.float .f64 v, .int .i64 e]) ∧ Below w.heap.size w w') ∧
    (e = 5 ∧ v = 0 ∨ (s.size = 16 ∧ (∀ j, ¬ badH s j) ∧ v = ofV (numK s 16) ∧ e = ofE (numK s 16))) := by
  by_cases hs : s.size = 16
  · by_cases hb : ∃ i, badH s i
    · obtain ⟨i, hi, hm⟩ := least_one (P := badH s) _ hb.choose_spec
      exact ⟨0, 5, fun w => Read_bad s w hs i hi hm, fun w => refRead_bad s w hs i hi hm, .inl ⟨rfl, rfl⟩⟩
    · have hg : ∀ j, ¬ badH s j := fun j h => hb ⟨j, h⟩
      exact ⟨_, _, fun w => Read_ok s w hs hg, fun w => refRead_ok s w hs hg, .inr ⟨hs, hg, rfl, rfl⟩⟩
  · exact ⟨0, 5, fun w => Read_len s w hs, fun w => (refRead_len s w hs).mono fun e w' ⟨h, k⟩ => ⟨h, k ▸ Below.refl _ _⟩, .inl ⟨rfl, rfl⟩⟩

set_option maxHeartbeats 1000000 in
theorem lawForms_long (a : Int) (s : ByteArray) (w : World) (h : 40 < s.size) :
    Calls Try.prog 3 #[.int .u64 a, .string s] w fun e w' => e = .returned (.bool true) ∧ Below w.heap.size w w' := by
  go_enter Try.func3, Try.ntmps3
  go_wp2_with (go_at_call 10; refine (awake_any _).mono ?_; rintro e w6 ⟨rfl, hN⟩; have hV := hidp hN; clear hN)
  go_ret
  exact ⟨rfl, hV.out⟩

set_option maxHeartbeats 1000000 in
theorem lawForms_short (a : Nat) (s : ByteArray) (w : World) (ha : a < 18446744073709551616) (h : ¬ 40 < s.size) :
    Calls Try.prog 3 #[.int .u64 a, .string s] w fun e w' => e = .returned (.bool true) ∧ Below w.heap.size w w' := by
  obtain ⟨v, e, h1, h2, _⟩ := Read_both s
  have H1 := hidp h1; have H2 := hidp h2
  have HA := hidp ha
  have hV := hidp (Below.refl w.heap.size w)
  clear h1 h2 ha
  go_enter Try.func3, Try.ntmps3
  go_wp2_with (first | (go_at_call 11; refine (of_any _ _).mono ?_; rintro e w' ⟨rfl, rfl⟩) | (go_at_call 12; refine (Of_any _ _).mono ?_; rintro e w' ⟨rfl, rfl⟩) | (go_at_call 13; refine (refOf_any _ _).mono ?_; rintro e w' ⟨rfl, rfl⟩) | (go_at_call 14; refine (H1.out _).mono ?_; rintro e w' ⟨rfl, rfl⟩) | (go_at_call 15; refine (H2.out _).mono ?_; rintro e w1 ⟨rfl, hN⟩; have hV := hidp (btrans (w := w) (by first | with_reducible exact hV.out | (repeat' (first | (with_reducible exact Below.refl _ _) | (with_reducible refine Below.alloc ?_ ?_ _) | (with_reducible refine Below.drew ?_) | (with_reducible refine Below.drewN ?_ _) | (with_reducible refine Below.setCell ?_ ?_ _) | (with_reducible refine Below.trans ?_ (Below.mono hV.out ?_)) | go_size | (have i0_ := hV.out.size; (try simp at i0_); (try simp); omega)))) hN); clear hN) | (go_at_call 16; refine (Bits_any _ _).mono ?_; rintro e w' ⟨rfl, rfl⟩) | (go_at_call 17; refine (refBits_any _ _).mono ?_; rintro e w' ⟨rfl, rfl⟩) | (go_at_call 18; refine (Text_any _ _ HA.out).mono ?_; rintro e w2 ⟨rfl, hN⟩; have hV := hidp (btrans (w := w) (by first | with_reducible exact hV.out | (repeat' (first | (with_reducible exact Below.refl _ _) | (with_reducible refine Below.alloc ?_ ?_ _) | (with_reducible refine Below.drew ?_) | (with_reducible refine Below.drewN ?_ _) | (with_reducible refine Below.setCell ?_ ?_ _) | (with_reducible refine Below.trans ?_ (Below.mono hV.out ?_)) | go_size | (have i0_ := hV.out.size; (try simp at i0_); (try simp); omega)))) hN); clear hN) | (go_at_call 19; refine (refText_any _ _ HA.out).mono ?_; rintro e w2 ⟨rfl, rfl⟩) | (go_at_call 20; refine (same_yes rfl _).mono ?_; rintro e w5 ⟨rfl, rfl⟩) | (go_at_call 10; refine (awake_any _).mono ?_; rintro e w6 ⟨rfl, hN⟩; have hV := hidp (btrans (w := w) (by first | with_reducible exact hV.out | (repeat' (first | (with_reducible exact Below.refl _ _) | (with_reducible refine Below.alloc ?_ ?_ _) | (with_reducible refine Below.drew ?_) | (with_reducible refine Below.drewN ?_ _) | (with_reducible refine Below.setCell ?_ ?_ _) | (with_reducible refine Below.trans ?_ (Below.mono hV.out ?_)) | go_size | (have i0_ := hV.out.size; (try simp at i0_); (try simp); omega)))) hN); clear hN))
  go_ret
  exact ⟨rfl, hV.out⟩

theorem lawForms_w (a : Int) (s : ByteArray) (w : World) (ha : 0 ≤ a ∧ a ≤ 18446744073709551615) (_hs : s.size ≤ 9223372036854775807) :
    Calls Try.prog 3 #[.int .u64 a, .string s] w fun e w' => e = .returned (.bool true) ∧ Below w.heap.size w w' := by
  by_cases h : 40 < s.size
  · exact lawForms_long a s w h
  · obtain ⟨n, rfl⟩ := Int.eq_ofNat_of_zero_le ha.1
    exact lawForms_short n s w (by omega) h
end Go.Proofs.Ytajklipfdjaejaa
