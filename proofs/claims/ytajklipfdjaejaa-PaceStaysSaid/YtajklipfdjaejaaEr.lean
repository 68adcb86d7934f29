/-
  The walk of landfalllaw02's PaceKnown.
-/
import Derived.Test.YtajklipfdjaejaaEo
import Derived.Test.YtajklipfdjaejaaEq
namespace Go.Proofs.Ytajklipfdjaejaa
open Go.RowKit
attribute [local go_sem] run_bits run_frombits

theorem form_true (n : Nat) (h : ofE n = 5) (w : World) : Calls Try.prog 34 #[.int .u64 n] w fun e w' => e = .returned (.bool true) ∧ w = w' := by
  have HO := hidp (fun w => h ▸ Of_any n w); clear h
  go_enter Try.func34, Try.ntmps34
  go_wp2_with (go_at_call 12; refine (HO.out _).mono ?_; rintro e w' ⟨rfl, rfl⟩)
  go_ret
  exact ⟨rfl, rfl⟩
theorem refused_true (s : ByteArray) (h : ∀ w, Calls Try.prog 14 #[.string s] w fun e w' => e = .returned (.tuple #[.float .f64 0, .int .i64 5]) ∧ w = w') (w : World) : Calls Try.prog 35 #[.string s] w fun e w' => e = .returned (.bool true) ∧ w = w' := by
  have HO := hidp h; clear h
  go_enter Try.func35, Try.ntmps35
  go_wp2_with (go_at_call 14; refine (HO.out _).mono ?_; rintro e w' ⟨rfl, rfl⟩)
  go_ret
  exact ⟨rfl, rfl⟩
def oneS : ByteArray := ⟨#[51, 102, 102, 48, 48, 48, 48, 48, 48, 48, 48, 48, 48, 48, 48, 48]⟩
def bigS : ByteArray := ⟨#[51, 70, 70, 48, 48, 48, 48, 48, 48, 48, 48, 48, 48, 48, 48, 48]⟩
theorem one_good : ∀ j, ¬ badH oneS j := by
  rintro j ⟨h, hb⟩
  have h16 : j < 16 := h
  have hall : ∀ i : Fin 16, hexV (oneS.data[i.val]!).toNat < 16 := by decide +kernel
  have := hall ⟨j, h16⟩
  apply hb
  rw [getElem!_pos oneS.data j h] at this
  exact this
theorem Read_one (w : World) : Calls Try.prog 14 #[.string ⟨#[51, 102, 102, 48, 48, 48, 48, 48, 48, 48, 48, 48, 48, 48, 48, 48]⟩] w fun e w' => e = .returned (.tuple #[.float .f64 4607182418800017408, .int .i64 0]) ∧ w = w' := by
  have h := Read_ok oneS w rfl one_good
  rw [show ofV (numK oneS 16) = 4607182418800017408 by decide +kernel, show ofE (numK oneS 16) = 0 by decide +kernel] at h
  exact h
theorem Read_big (w : World) : Calls Try.prog 35 #[.string ⟨#[51, 70, 70, 48, 48, 48, 48, 48, 48, 48, 48, 48, 48, 48, 48, 48]⟩] w fun e w' => e = .returned (.bool true) ∧ w = w' :=
  refused_true bigS (fun w => Read_bad bigS w rfl 1 ⟨by decide, by decide +kernel⟩ (fun j hj => by
    obtain rfl : j = 0 := by omega
    rintro ⟨h, hb⟩
    have h0 : hexV (bigS[0]'(by decide)).toNat < 16 := by decide +kernel
    exact hb h0)) w
theorem Read_none (w : World) : Calls Try.prog 35 #[.string ⟨#[]⟩] w fun e w' => e = .returned (.bool true) ∧ w = w' :=
  refused_true _ (fun w => Read_len _ w (by decide)) w
theorem form_a (w : World) : Calls Try.prog 34 #[.int .u64 9221120237041090561] w fun e w' => e = .returned (.bool true) ∧ w = w' := form_true 9221120237041090561 (by decide +kernel) w
theorem form_b (w : World) : Calls Try.prog 34 #[.int .u64 18444492273895866368] w fun e w' => e = .returned (.bool true) ∧ w = w' := form_true 18444492273895866368 (by decide +kernel) w

theorem cmp_nan {r s : Nat} (h : nanB r = true) (k : nanB s = true) : cmpN r s = 0 := by
  have hn : fo r s = none := fo_nan.2 (.inl h)
  have hs := fo_swap r s
  unfold cmpN gtB
  rw [hs, hn, posB_yes h, posB_yes k, h, k]
  rfl
theorem cmp_3 : cmpN 9221120237041090561 9221120237041090561 = 0 := by decide +kernel
theorem cmp_4 : cmpN 4607182418800017408 4611686018427387904 = -1 := by decide +kernel
theorem cmp_5 : cmpN 18442240474082181120 13830554455654793216 = -1 := by decide +kernel
theorem form_2 : formN 9221120237041090561 = 9221120237041090560 := by decide +kernel
theorem form_3 : formN 0 = 0 := by decide +kernel
theorem sm_a : SmE 9221120237041090561 9223372036854775808 9223372036854775808 := by unfold SmE; decide +kernel
theorem sm_b : SmE 9223372036854775808 9223372036854775808 0 := by unfold SmE; decide +kernel
theorem sm_c : smO 9218868437227405312 9218868437227405312 = none := by decide +kernel
theorem sm_d : SmE 0 9218868437227405312 9218868437227405312 := by unfold SmE; decide +kernel
theorem eq_1 : (FloatKind.f64.format.order 4607182418800017408 4607182418800017408 == some .eq) = true := by decide +kernel
theorem eq_inf : (FloatKind.f64.format.order 9218868437227405312 9218868437227405312 == some .eq) = true := by decide +kernel
theorem Smooth_inf (w : World) : Calls Try.prog 23 #[.float .f64 9218868437227405312, .float .f64 9218868437227405312] w fun e w' => (∃ r, e = .returned (.float .f64 r) ∧ Hid (nanB r = true)) ∧ Below w.heap.size w w' :=
  (Smooth_any _ _ w).mono fun e w' ⟨s, he, hs, hb⟩ => by
    rw [sm_c] at hs
    exact ⟨⟨s, he, hs⟩, hb⟩
theorem mean_9 {r : Nat} (h : MeanR [4620693217682128896, 4625196817309499392] r) : r = 4621256167635550208 := by
  obtain ⟨q, ⟨p, h1, h2⟩, h3⟩ := h
  have h1' : nanB p = true := h1
  have e1 : q = 4620693217682128896 := by unfold smO at h2; rw [if_pos h1'] at h2; exact h2
  subst e1
  rw [show smO 4620693217682128896 4625196817309499392 = some 4621256167635550208 from sm_8_16] at h3
  exact h3
theorem slF_two (w : World) (x y : Nat) : SlF (w.alloc (.cells #[.float .f64 x, .float .f64 y] 24)) (.slice (some ⟨w.heap.size, 0, none⟩) 2 2) [x, y] := by
  refine .inr ⟨w.heap.size, 2, rfl, by simp, ?_⟩
  have hb := Blk.new w [.float .f64 x, .float .f64 y] 24
  intro k hk
  have hk' : k < 2 := hk
  have : k = 0 ∨ k = 1 := by omega
  rcases this with rfl | rfl
  · exact hb.cell 0
  · exact hb.cell 1
theorem slF_three (w : World) (x y z : Nat) : SlF (w.alloc (.cells #[.float .f64 x, .float .f64 y, .float .f64 z] 24)) (.slice (some ⟨w.heap.size, 0, none⟩) 3 3) [x, y, z] := by
  refine .inr ⟨w.heap.size, 3, rfl, by simp, ?_⟩
  have hb := Blk.new w [.float .f64 x, .float .f64 y, .float .f64 z] 24
  intro k hk
  have hk' : k < 3 := hk
  have : k = 0 ∨ k = 1 ∨ k = 2 := by omega
  rcases this with rfl | rfl | rfl
  · exact hb.cell 0
  · exact hb.cell 1
  · exact hb.cell 2
theorem Mean_two (w : World) : Calls Try.prog 26 #[.slice (some ⟨w.heap.size, 0, none⟩) 2 2] (w.alloc (.cells #[.float .f64 4620693217682128896, .float .f64 4625196817309499392] 24)) fun e w' => e = .returned (.float .f64 4621256167635550208) ∧ Below w.heap.size w w' :=
  (Mean_any _ _ _ (by simp) (slF_two w _ _)).mono fun e w' ⟨r, he, hr, hb⟩ => ⟨by rw [he, mean_9 hr], ((Below.refl _ w).alloc (Nat.le_refl _) _).trans (hb.mono (by simp))⟩
theorem Mean_nil (w : World) : Calls Try.prog 26 #[.slice none 0 0] w fun e w' => (∃ r, e = .returned (.float .f64 r) ∧ Hid (nanB r = true)) ∧ Below w.heap.size w w' :=
  (Mean_any _ [] w (by simp) (.inl ⟨rfl, rfl⟩)).mono fun e w' ⟨r, he, hr, hb⟩ => ⟨⟨r, he, hr⟩, hb⟩
theorem Least_three (w : World) : Calls Try.prog 28 #[.slice (some ⟨w.heap.size, 0, none⟩) 3 3] (w.alloc (.cells #[.float .f64 4607182418800017408, .float .f64 9223372036854775808, .float .f64 0] 24)) fun e w' => e = .returned (.int .i64 1) ∧ Below w.heap.size w w' :=
  (Least_any _ _ _ (by simp) (slF_three w _ _ _)).mono fun e w' ⟨he, hb⟩ => ⟨by rw [he]; exact ret_int (by decide +kernel), ((Below.refl _ w).alloc (Nat.le_refl _) _).trans (hb.mono (by simp))⟩
theorem Least_two (w : World) : Calls Try.prog 28 #[.slice (some ⟨w.heap.size, 0, none⟩) 2 2] (w.alloc (.cells #[.float .f64 9221120237041090561, .float .f64 9221120237041090561] 24)) fun e w' => e = .returned (.int .i64 0) ∧ Below w.heap.size w w' :=
  (Least_any _ _ _ (by simp) (slF_two w _ _)).mono fun e w' ⟨he, hb⟩ => ⟨by rw [he]; exact ret_int (by decide +kernel), ((Below.refl _ w).alloc (Nat.le_refl _) _).trans (hb.mono (by simp))⟩
theorem Least_nil (w : World) : Calls Try.prog 28 #[.slice none 0 0] w fun e w' => e = .returned (.int .i64 (-1)) ∧ Below w.heap.size w w' :=
  Least_any _ [] w (by simp) (.inl ⟨rfl, rfl⟩)

theorem run_neg (w : World) : (Op.unary .neg (.float .f64 9218868437227405312)).run Try.prog w = .ok (.float .f64 18442240474082181120) w := by kernel_rfl

set_option maxHeartbeats 4000000 in
set_option maxRecDepth 100000 in
theorem known_any (w : World) : Calls Try.prog 6 #[] w fun e w' => e = .returned (.bool true) ∧ Below w.heap.size w w' := by
  have k1 := eq_1
  have kn := run_neg
  have ki := eq_inf
  have k9 := eq_9
  have hV := hidp (Below.refl w.heap.size w)
  go_enter Try.func6, Try.ntmps6
  go_wp2_with (first
    | (go_at_call 31; refine (Copysign_minus _).mono ?_; rintro e w' ⟨rfl, rfl⟩)
    | (go_at_call 32; refine (Inf_one _).mono ?_; rintro e w' ⟨rfl, rfl⟩)
    | (go_at_call 33; refine (NaN_any _).mono ?_; rintro e w' ⟨rfl, rfl⟩)
    | (go_at_call 34; (first | (with_reducible refine (form_a _).mono ?_) | (with_reducible refine (form_b _).mono ?_)); rintro e w' ⟨rfl, rfl⟩)
    | (go_at_call 35; (first | (with_reducible refine (Read_big _).mono ?_) | (with_reducible refine (Read_none _).mono ?_)); rintro e w' ⟨rfl, rfl⟩)
    | (go_at_call 14; with_reducible refine (Read_one _).mono ?_; rintro e w' ⟨rfl, rfl⟩)
    | (go_at_call 16; (first | (with_reducible refine (Bits_val form_1 _).mono ?_) | (with_reducible refine (Bits_val form_2 _).mono ?_) | (with_reducible refine (Bits_val form_3 _).mono ?_)); rintro e w' ⟨rfl, rfl⟩)
    | (go_at_call 10; refine (awake_any _).mono ?_; rintro e w1 ⟨rfl, hN⟩; have hV := hidp (btrans (w := w) (by first | with_reducible exact hV.out | (repeat' (first | (with_reducible exact Below.refl _ _) | (with_reducible refine Below.alloc ?_ ?_ _) | (with_reducible refine Below.drew ?_) | (with_reducible refine Below.drewN ?_ _) | (with_reducible refine Below.setCell ?_ ?_ _) | (with_reducible refine Below.trans ?_ (Below.mono hV.out ?_)) | go_size | (have i0_ := hV.out.size; (try simp at i0_); (try simp); omega)))) hN); clear hN)
    | (go_at_call 23; (first | (with_reducible refine (Smooth_some sm_a _).mono ?_) | (with_reducible refine (Smooth_some sm_b _).mono ?_) | (with_reducible refine (Smooth_some sm_d _).mono ?_)); rintro e w1 ⟨rfl, hN⟩; have hV := hidp (btrans (w := w) (by first | with_reducible exact hV.out | (repeat' (first | (with_reducible exact Below.refl _ _) | (with_reducible refine Below.alloc ?_ ?_ _) | (with_reducible refine Below.drew ?_) | (with_reducible refine Below.drewN ?_ _) | (with_reducible refine Below.setCell ?_ ?_ _) | (with_reducible refine Below.trans ?_ (Below.mono hV.out ?_)) | go_size | (have i0_ := hV.out.size; (try simp at i0_); (try simp); omega)))) hN); clear hN)
    | (go_at_call 23; with_reducible refine (Smooth_inf _).mono ?_; rintro e w1 ⟨⟨r, rfl, hr⟩, hN⟩; have hV := hidp (btrans (w := w) (by first | with_reducible exact hV.out | (repeat' (first | (with_reducible exact Below.refl _ _) | (with_reducible refine Below.alloc ?_ ?_ _) | (with_reducible refine Below.drew ?_) | (with_reducible refine Below.drewN ?_ _) | (with_reducible refine Below.setCell ?_ ?_ _) | (with_reducible refine Below.trans ?_ (Below.mono hV.out ?_)) | go_size | (have i0_ := hV.out.size; (try simp at i0_); (try simp); omega)))) hN); clear hN)
    | (go_at_call 26; with_reducible refine (Mean_two _).mono ?_; rintro e w1 ⟨rfl, hN⟩; have hV := hidp (btrans (w := w) (by first | with_reducible exact hV.out | (repeat' (first | (with_reducible exact Below.refl _ _) | (with_reducible refine Below.alloc ?_ ?_ _) | (with_reducible refine Below.drew ?_) | (with_reducible refine Below.drewN ?_ _) | (with_reducible refine Below.setCell ?_ ?_ _) | (with_reducible refine Below.trans ?_ (Below.mono hV.out ?_)) | go_size | (have i0_ := hV.out.size; (try simp at i0_); (try simp); omega)))) hN); clear hN)
    | (go_at_call 26; with_reducible refine (Mean_nil _).mono ?_; rintro e w1 ⟨⟨r, rfl, hr⟩, hN⟩; have hV := hidp (btrans (w := w) (by first | with_reducible exact hV.out | (repeat' (first | (with_reducible exact Below.refl _ _) | (with_reducible refine Below.alloc ?_ ?_ _) | (with_reducible refine Below.drew ?_) | (with_reducible refine Below.drewN ?_ _) | (with_reducible refine Below.setCell ?_ ?_ _) | (with_reducible refine Below.trans ?_ (Below.mono hV.out ?_)) | go_size | (have i0_ := hV.out.size; (try simp at i0_); (try simp); omega)))) hN); clear hN)
    | (go_at_call 28; (first | (with_reducible refine (Least_three _).mono ?_) | (with_reducible refine (Least_two _).mono ?_) | (with_reducible refine (Least_nil _).mono ?_)); rintro e w1 ⟨rfl, hN⟩; have hV := hidp (btrans (w := w) (by first | with_reducible exact hV.out | (repeat' (first | (with_reducible exact Below.refl _ _) | (with_reducible refine Below.alloc ?_ ?_ _) | (with_reducible refine Below.drew ?_) | (with_reducible refine Below.drewN ?_ _) | (with_reducible refine Below.setCell ?_ ?_ _) | (with_reducible refine Below.trans ?_ (Below.mono hV.out ?_)) | go_size | (have i0_ := hV.out.size; (try simp at i0_); (try simp); omega)))) hN); clear hN)
    | (go_at_call 21; (first | (with_reducible refine (Compare_val cmp_3 _).mono ?_) | (with_reducible refine (Compare_val cmp_4 _).mono ?_) | (with_reducible refine (Compare_val cmp_5 _).mono ?_) | (with_reducible refine (Compare_val (cmp_nan hr.out nan_01) _).mono ?_)); rintro e w1 ⟨rfl, hN⟩; have hV := hidp (btrans (w := w) (by first | with_reducible exact hV.out | (repeat' (first | (with_reducible exact Below.refl _ _) | (with_reducible refine Below.alloc ?_ ?_ _) | (with_reducible refine Below.drew ?_) | (with_reducible refine Below.drewN ?_ _) | (with_reducible refine Below.setCell ?_ ?_ _) | (with_reducible refine Below.trans ?_ (Below.mono hV.out ?_)) | go_size | (have i0_ := hV.out.size; (try simp at i0_); (try simp); omega)))) hN); clear hN))
  go_ret
  exact ⟨rfl, hV.out⟩
end Go.Proofs.Ytajklipfdjaejaa
