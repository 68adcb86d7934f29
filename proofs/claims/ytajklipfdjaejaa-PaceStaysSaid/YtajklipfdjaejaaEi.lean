/-
  Contract: awake (what each statement of the stage meets).
-/
import Derived.Test.YtajklipfdjaejaaEc
import Derived.Test.YtajklipfdjaejaaEg
namespace Go.Proofs.Ytajklipfdjaejaa
open Go.RowKit
attribute [local go_sem] run_bits run_frombits

theorem NaN_any (w : World) : Calls Try.prog 33 #[] w fun e w' => e = .returned (.float .f64 9221120237041090561) ∧ w = w' := by
  go_enter Try.func33, Try.ntmps33
  go_wp2
  go_ret
  exact ⟨rfl, rfl⟩
theorem Inf_one (w : World) : Calls Try.prog 32 #[.int .i64 1] w fun e w' => e = .returned (.float .f64 9218868437227405312) ∧ w = w' := by
  go_enter Try.func32, Try.ntmps32
  go_wp2
  go_ret
  exact ⟨rfl, rfl⟩
theorem Copysign_minus (w : World) : Calls Try.prog 31 #[.float .f64 0, .float .f64 13830554455654793216] w fun e w' => e = .returned (.float .f64 9223372036854775808) ∧ w = w' := by
  go_enter Try.func31, Try.ntmps31
  go_wp2
  go_ret
  exact ⟨rfl, rfl⟩
def SmE (x y r : Nat) : Prop := smO x y = some r
theorem Smooth_some {x y r : Nat} (h : SmE x y r) (w : World) : Calls Try.prog 23 #[.float .f64 x, .float .f64 y] w fun e w' => e = .returned (.float .f64 r) ∧ Below w.heap.size w w' :=
  (Smooth_any x y w).mono fun e w' ⟨s, he, hs, hb⟩ => by
    unfold SmE at h
    rw [h] at hs
    have hs' : s = r := hs
    subst hs'
    exact ⟨he, hb⟩
theorem sm_8_16 : SmE 4620693217682128896 4625196817309499392 4621256167635550208 := by unfold SmE; decide +kernel
theorem Compare_val {x y : Nat} {c : Int} (h : cmpN x y = c) (w : World) : Calls Try.prog 21 #[.float .f64 x, .float .f64 y] w fun e w' => e = .returned (.int .i64 c) ∧ Below w.heap.size w w' := by
  subst h; exact Compare_any x y w
theorem Bits_val {x n : Nat} (h : formN x = n) (w : World) : Calls Try.prog 16 #[.float .f64 x] w fun e w' => e = .returned (.int .u64 n) ∧ w = w' := by
  subst h; exact Bits_any x w
theorem Text_one (w : World) : Calls Try.prog 18 #[.float .f64 4607182418800017408] w fun e w' => e = .returned (.string ⟨#[51, 102, 102, 48, 48, 48, 48, 48, 48, 48, 48, 48, 48, 48, 48, 48]⟩) ∧ Below w.heap.size w w' := by
  have h := Text_any 4607182418800017408 w (by decide)
  rw [show formN 4607182418800017408 = 4607182418800017408 by decide +kernel, hexT_one] at h
  exact h
theorem cmp_1 : cmpN 9223372036854775808 0 = -1 := by decide +kernel
theorem cmp_2 : cmpN 9221120237041090561 9218868437227405312 = 1 := by decide +kernel
theorem form_1 : formN 9223372036854775808 = 9223372036854775808 := by decide +kernel
theorem eq_9 : (FloatKind.f64.format.order 4621256167635550208 4621256167635550208 == some .eq) = true := by decide +kernel

set_option maxHeartbeats 1000000 in
set_option maxRecDepth 100000 in
theorem awake_any (w : World) : Calls Try.prog 10 #[] w fun e w' => e = .returned (.bool true) ∧ Below w.heap.size w w' := by
  have k9 := eq_9
  have hV := hidp (Below.refl w.heap.size w)
  go_enter Try.func10, Try.ntmps10
  go_wp2_with (first | (go_at_call 31; refine (Copysign_minus _).mono ?_; rintro e w' ⟨rfl, rfl⟩) | (go_at_call 32; refine (Inf_one _).mono ?_; rintro e w' ⟨rfl, rfl⟩) | (go_at_call 33; refine (NaN_any _).mono ?_; rintro e w' ⟨rfl, rfl⟩))
  with_reducible refine (Compare_val cmp_1 _).mono ?_
  rintro e w1 ⟨rfl, hN⟩
  have hV := hidp (btrans (w := w) (by first | with_reducible exact hV.out | (repeat' (first | (with_reducible exact Below.refl _ _) | (with_reducible refine Below.alloc ?_ ?_ _) | (with_reducible refine Below.drew ?_) | (with_reducible refine Below.drewN ?_ _) | (with_reducible refine Below.setCell ?_ ?_ _) | (with_reducible refine Below.trans ?_ (Below.mono hV.out ?_)) | go_size | (have i0_ := hV.out.size; (try simp at i0_); (try simp); omega)))) hN)
  clear hN
  go_wp2_with fail
  with_reducible refine (Compare_val cmp_2 _).mono ?_
  rintro e w2 ⟨rfl, hN⟩
  have hV := hidp (btrans (w := w) (by first | with_reducible exact hV.out | (repeat' (first | (with_reducible exact Below.refl _ _) | (with_reducible refine Below.alloc ?_ ?_ _) | (with_reducible refine Below.drew ?_) | (with_reducible refine Below.drewN ?_ _) | (with_reducible refine Below.setCell ?_ ?_ _) | (with_reducible refine Below.trans ?_ (Below.mono hV.out ?_)) | go_size | (have i0_ := hV.out.size; (try simp at i0_); (try simp); omega)))) hN)
  clear hN
  go_wp2_with fail
  with_reducible refine (Smooth_some sm_8_16 _).mono ?_
  rintro e w3 ⟨rfl, hN⟩
  have hV := hidp (btrans (w := w) (by first | with_reducible exact hV.out | (repeat' (first | (with_reducible exact Below.refl _ _) | (with_reducible refine Below.alloc ?_ ?_ _) | (with_reducible refine Below.drew ?_) | (with_reducible refine Below.drewN ?_ _) | (with_reducible refine Below.setCell ?_ ?_ _) | (with_reducible refine Below.trans ?_ (Below.mono hV.out ?_)) | go_size | (have i0_ := hV.out.size; (try simp at i0_); (try simp); omega)))) hN)
  clear hN
  go_wp2_with fail
  with_reducible refine (Bits_val form_1 _).mono ?_
  rintro e w4 ⟨rfl, rfl⟩
  go_wp2_with fail
  with_reducible refine (Text_one _).mono ?_
  rintro e w5 ⟨rfl, hN⟩
  have hV := hidp (btrans (w := w) (by first | with_reducible exact hV.out | (repeat' (first | (with_reducible exact Below.refl _ _) | (with_reducible refine Below.alloc ?_ ?_ _) | (with_reducible refine Below.drew ?_) | (with_reducible refine Below.drewN ?_ _) | (with_reducible refine Below.setCell ?_ ?_ _) | (with_reducible refine Below.trans ?_ (Below.mono hV.out ?_)) | go_size | (have i0_ := hV.out.size; (try simp at i0_); (try simp); omega)))) hN)
  clear hN
  go_wp2
  go_ret
  exact ⟨rfl, hV.out⟩
end Go.Proofs.Ytajklipfdjaejaa
