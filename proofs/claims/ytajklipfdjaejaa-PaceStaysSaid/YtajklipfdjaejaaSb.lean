/-
  The walk of landfalllaw02's PaceStays.
-/
import Derived.Test.YtajklipfdjaejaaSa
import Derived.Test.YtajklipfdjaejaaEr
import Derived.Laws.BitsAllLaws
namespace Go.Proofs.Ytajklipfdjaejaa
open Go.RowKit
attribute [local go_sem] run_bits run_frombits

def maxF : Nat := 9218868437227405311
def infB (x : Nat) : Bool := gtB (rung x) maxF
theorem andNot_top (x : Nat) (h : x < 18446744073709551616) : bits .andNot .u64 (x : Int) 9223372036854775808 = ((rung x : Nat) : Int) := by
  have h1 := u64_andNot_nat x 9223372036854775808 h (by decide)
  have h2 : x &&& (18446744073709551615 - 9223372036854775808) = rung x := Nat.and_two_pow_sub_one_eq_mod x 63
  rw [h2] at h1
  exact h1
theorem IsInf_any (x : Nat) (w : World) (hx : x < 18446744073709551616) : Calls Try.prog 36 #[.float .f64 x, .int .i64 0] w fun e w' => e = .returned (.bool (infB x)) ∧ w = w' := by
  have ha := andNot_top x hx
  clear hx
  have hb : (FloatKind.f64.format.order (rung x) 9218868437227405311 == some .gt) = infB x := rfl
  generalize infB x = b at hb ⊢
  cases b
  all_goals go_enter Try.func36, Try.ntmps36
  all_goals go_wp2
  all_goals go_ret
  all_goals exact ⟨rfl, rfl⟩

theorem sm_new (y : Nat) : SmE 9221120237041090561 y y := by unfold SmE smO; rw [if_pos nan_01]
theorem cmp_same (y : Nat) (hy : y < 18446744073709551616) : cmpN y y = 0 := by rw [cmp_key y y hy hy]; unfold sgnI; simp

set_option maxHeartbeats 1000000 in
theorem stays_1 (x y : Nat) (w : World) (hy : y < 18446744073709551616) (hx : x < 18446744073709551616) (hi : infB x = true) :
    Calls Try.prog 9 #[.int .u64 x, .int .u64 y] w fun e w' => e = .returned (.bool true) ∧ Below w.heap.size w w' := by
  have HS0 := hidp (Smooth_some (sm_new y))
  have HC0 := hidp (Compare_val (cmp_same y hy))
  have HI1 := hidp (fun w => hi ▸ IsInf_any x w hx)
  clear hi hx hy
  have hV := hidp (Below.refl w.heap.size w)
  go_enter Try.func9, Try.ntmps9
  go_wp2_with (first | (go_at_call 11; refine (of_any _ _).mono ?_; rintro e w' ⟨rfl, rfl⟩) | (go_at_call 33; refine (NaN_any _).mono ?_; rintro e w' ⟨rfl, rfl⟩) | (go_at_call 6; refine (known_any _).mono ?_; rintro e w1 ⟨rfl, hN⟩; have hV := hidp (btrans (w := w) (by first | with_reducible exact hV.out | (repeat' (first | (with_reducible exact Below.refl _ _) | (with_reducible refine Below.alloc ?_ ?_ _) | (with_reducible refine Below.drew ?_) | (with_reducible refine Below.drewN ?_ _) | (with_reducible refine Below.setCell ?_ ?_ _) | (with_reducible refine Below.trans ?_ (Below.mono hV.out ?_)) | go_size | (have i0_ := hV.out.size; (try simp at i0_); (try simp); omega)))) hN); clear hN) | (go_at_call 23; (first | (with_reducible refine (HS0.out _).mono ?_)); rintro e w1 ⟨rfl, hN⟩; have hV := hidp (btrans (w := w) (by first | with_reducible exact hV.out | (repeat' (first | (with_reducible exact Below.refl _ _) | (with_reducible refine Below.alloc ?_ ?_ _) | (with_reducible refine Below.drew ?_) | (with_reducible refine Below.drewN ?_ _) | (with_reducible refine Below.setCell ?_ ?_ _) | (with_reducible refine Below.trans ?_ (Below.mono hV.out ?_)) | go_size | (have i0_ := hV.out.size; (try simp at i0_); (try simp); omega)))) hN); clear hN) | (go_at_call 21; with_reducible refine (HC0.out _).mono ?_; rintro e w1 ⟨rfl, hN⟩; have hV := hidp (btrans (w := w) (by first | with_reducible exact hV.out | (repeat' (first | (with_reducible exact Below.refl _ _) | (with_reducible refine Below.alloc ?_ ?_ _) | (with_reducible refine Below.drew ?_) | (with_reducible refine Below.drewN ?_ _) | (with_reducible refine Below.setCell ?_ ?_ _) | (with_reducible refine Below.trans ?_ (Below.mono hV.out ?_)) | go_size | (have i0_ := hV.out.size; (try simp at i0_); (try simp); omega)))) hN); clear hN) | (go_at_call 36; (first | (with_reducible refine (HI1.out _).mono ?_) ); rintro e w' ⟨rfl, rfl⟩))
  go_ret
  exact ⟨rfl, hV.out⟩

set_option maxHeartbeats 1000000 in
theorem stays_2 (x y : Nat) (w : World) (hy : y < 18446744073709551616) (hx : x < 18446744073709551616) (hi : infB x = false) (hj : infB y = true) :
    Calls Try.prog 9 #[.int .u64 x, .int .u64 y] w fun e w' => e = .returned (.bool true) ∧ Below w.heap.size w w' := by
  have HS0 := hidp (Smooth_some (sm_new y))
  have HC0 := hidp (Compare_val (cmp_same y hy))
  have HI1 := hidp (fun w => hi ▸ IsInf_any x w hx)
  have HI2 := hidp (fun w => hj ▸ IsInf_any y w hy)
  clear hi hj hx hy
  have hV := hidp (Below.refl w.heap.size w)
  go_enter Try.func9, Try.ntmps9
  go_wp2_with (first | (go_at_call 11; refine (of_any _ _).mono ?_; rintro e w' ⟨rfl, rfl⟩) | (go_at_call 33; refine (NaN_any _).mono ?_; rintro e w' ⟨rfl, rfl⟩) | (go_at_call 6; refine (known_any _).mono ?_; rintro e w1 ⟨rfl, hN⟩; have hV := hidp (btrans (w := w) (by first | with_reducible exact hV.out | (repeat' (first | (with_reducible exact Below.refl _ _) | (with_reducible refine Below.alloc ?_ ?_ _) | (with_reducible refine Below.drew ?_) | (with_reducible refine Below.drewN ?_ _) | (with_reducible refine Below.setCell ?_ ?_ _) | (with_reducible refine Below.trans ?_ (Below.mono hV.out ?_)) | go_size | (have i0_ := hV.out.size; (try simp at i0_); (try simp); omega)))) hN); clear hN) | (go_at_call 23; (first | (with_reducible refine (HS0.out _).mono ?_)); rintro e w1 ⟨rfl, hN⟩; have hV := hidp (btrans (w := w) (by first | with_reducible exact hV.out | (repeat' (first | (with_reducible exact Below.refl _ _) | (with_reducible refine Below.alloc ?_ ?_ _) | (with_reducible refine Below.drew ?_) | (with_reducible refine Below.drewN ?_ _) | (with_reducible refine Below.setCell ?_ ?_ _) | (with_reducible refine Below.trans ?_ (Below.mono hV.out ?_)) | go_size | (have i0_ := hV.out.size; (try simp at i0_); (try simp); omega)))) hN); clear hN) | (go_at_call 21; with_reducible refine (HC0.out _).mono ?_; rintro e w1 ⟨rfl, hN⟩; have hV := hidp (btrans (w := w) (by first | with_reducible exact hV.out | (repeat' (first | (with_reducible exact Below.refl _ _) | (with_reducible refine Below.alloc ?_ ?_ _) | (with_reducible refine Below.drew ?_) | (with_reducible refine Below.drewN ?_ _) | (with_reducible refine Below.setCell ?_ ?_ _) | (with_reducible refine Below.trans ?_ (Below.mono hV.out ?_)) | go_size | (have i0_ := hV.out.size; (try simp at i0_); (try simp); omega)))) hN); clear hN) | (go_at_call 36; (first | (with_reducible refine (HI1.out _).mono ?_) | (with_reducible refine (HI2.out _).mono ?_) ); rintro e w' ⟨rfl, rfl⟩))
  go_ret
  exact ⟨rfl, hV.out⟩

set_option maxHeartbeats 1000000 in
theorem stays_3 (x y : Nat) (w : World) (hy : y < 18446744073709551616) (hx : x < 18446744073709551616) (hi : infB x = false) (hj : infB y = false) (hn : nanB x = true) :
    Calls Try.prog 9 #[.int .u64 x, .int .u64 y] w fun e w' => e = .returned (.bool true) ∧ Below w.heap.size w w' := by
  have HS0 := hidp (Smooth_some (sm_new y))
  have HC0 := hidp (Compare_val (cmp_same y hy))
  have HI1 := hidp (fun w => hi ▸ IsInf_any x w hx)
  have HI2 := hidp (fun w => hj ▸ IsInf_any y w hy)
  have k1 : (FloatKind.f64.format.order x x != some .eq) = true := hn
  clear hi hj hx hy hn
  have hV := hidp (Below.refl w.heap.size w)
  go_enter Try.func9, Try.ntmps9
  go_wp2_with (first | (go_at_call 11; refine (of_any _ _).mono ?_; rintro e w' ⟨rfl, rfl⟩) | (go_at_call 33; refine (NaN_any _).mono ?_; rintro e w' ⟨rfl, rfl⟩) | (go_at_call 6; refine (known_any _).mono ?_; rintro e w1 ⟨rfl, hN⟩; have hV := hidp (btrans (w := w) (by first | with_reducible exact hV.out | (repeat' (first | (with_reducible exact Below.refl _ _) | (with_reducible refine Below.alloc ?_ ?_ _) | (with_reducible refine Below.drew ?_) | (with_reducible refine Below.drewN ?_ _) | (with_reducible refine Below.setCell ?_ ?_ _) | (with_reducible refine Below.trans ?_ (Below.mono hV.out ?_)) | go_size | (have i0_ := hV.out.size; (try simp at i0_); (try simp); omega)))) hN); clear hN) | (go_at_call 23; (first | (with_reducible refine (HS0.out _).mono ?_)); rintro e w1 ⟨rfl, hN⟩; have hV := hidp (btrans (w := w) (by first | with_reducible exact hV.out | (repeat' (first | (with_reducible exact Below.refl _ _) | (with_reducible refine Below.alloc ?_ ?_ _) | (with_reducible refine Below.drew ?_) | (with_reducible refine Below.drewN ?_ _) | (with_reducible refine Below.setCell ?_ ?_ _) | (with_reducible refine Below.trans ?_ (Below.mono hV.out ?_)) | go_size | (have i0_ := hV.out.size; (try simp at i0_); (try simp); omega)))) hN); clear hN) | (go_at_call 21; with_reducible refine (HC0.out _).mono ?_; rintro e w1 ⟨rfl, hN⟩; have hV := hidp (btrans (w := w) (by first | with_reducible exact hV.out | (repeat' (first | (with_reducible exact Below.refl _ _) | (with_reducible refine Below.alloc ?_ ?_ _) | (with_reducible refine Below.drew ?_) | (with_reducible refine Below.drewN ?_ _) | (with_reducible refine Below.setCell ?_ ?_ _) | (with_reducible refine Below.trans ?_ (Below.mono hV.out ?_)) | go_size | (have i0_ := hV.out.size; (try simp at i0_); (try simp); omega)))) hN); clear hN) | (go_at_call 36; (first | (with_reducible refine (HI1.out _).mono ?_) | (with_reducible refine (HI2.out _).mono ?_) ); rintro e w' ⟨rfl, rfl⟩))
  go_ret
  exact ⟨rfl, hV.out⟩

set_option maxHeartbeats 1000000 in
theorem stays_4 (x y : Nat) (w : World) (hy : y < 18446744073709551616) (hx : x < 18446744073709551616) (hi : infB x = false) (hj : infB y = false) (hn : nanB x = false) (hm : nanB y = true) :
    Calls Try.prog 9 #[.int .u64 x, .int .u64 y] w fun e w' => e = .returned (.bool true) ∧ Below w.heap.size w w' := by
  have HS0 := hidp (Smooth_some (sm_new y))
  have HC0 := hidp (Compare_val (cmp_same y hy))
  have HI1 := hidp (fun w => hi ▸ IsInf_any x w hx)
  have HI2 := hidp (fun w => hj ▸ IsInf_any y w hy)
  have k1 : (FloatKind.f64.format.order x x != some .eq) = false := hn
  have k2 : (FloatKind.f64.format.order y y != some .eq) = true := hm
  clear hi hj hx hy hn hm
  have hV := hidp (Below.refl w.heap.size w)
  go_enter Try.func9, Try.ntmps9
  go_wp2_with (first | (go_at_call 11; refine (of_any _ _).mono ?_; rintro e w' ⟨rfl, rfl⟩) | (go_at_call 33; refine (NaN_any _).mono ?_; rintro e w' ⟨rfl, rfl⟩) | (go_at_call 6; refine (known_any _).mono ?_; rintro e w1 ⟨rfl, hN⟩; have hV := hidp (btrans (w := w) (by first | with_reducible exact hV.out | (repeat' (first | (with_reducible exact Below.refl _ _) | (with_reducible refine Below.alloc ?_ ?_ _) | (with_reducible refine Below.drew ?_) | (with_reducible refine Below.drewN ?_ _) | (with_reducible refine Below.setCell ?_ ?_ _) | (with_reducible refine Below.trans ?_ (Below.mono hV.out ?_)) | go_size | (have i0_ := hV.out.size; (try simp at i0_); (try simp); omega)))) hN); clear hN) | (go_at_call 23; (first | (with_reducible refine (HS0.out _).mono ?_)); rintro e w1 ⟨rfl, hN⟩; have hV := hidp (btrans (w := w) (by first | with_reducible exact hV.out | (repeat' (first | (with_reducible exact Below.refl _ _) | (with_reducible refine Below.alloc ?_ ?_ _) | (with_reducible refine Below.drew ?_) | (with_reducible refine Below.drewN ?_ _) | (with_reducible refine Below.setCell ?_ ?_ _) | (with_reducible refine Below.trans ?_ (Below.mono hV.out ?_)) | go_size | (have i0_ := hV.out.size; (try simp at i0_); (try simp); omega)))) hN); clear hN) | (go_at_call 21; with_reducible refine (HC0.out _).mono ?_; rintro e w1 ⟨rfl, hN⟩; have hV := hidp (btrans (w := w) (by first | with_reducible exact hV.out | (repeat' (first | (with_reducible exact Below.refl _ _) | (with_reducible refine Below.alloc ?_ ?_ _) | (with_reducible refine Below.drew ?_) | (with_reducible refine Below.drewN ?_ _) | (with_reducible refine Below.setCell ?_ ?_ _) | (with_reducible refine Below.trans ?_ (Below.mono hV.out ?_)) | go_size | (have i0_ := hV.out.size; (try simp at i0_); (try simp); omega)))) hN); clear hN) | (go_at_call 36; (first | (with_reducible refine (HI1.out _).mono ?_) | (with_reducible refine (HI2.out _).mono ?_) ); rintro e w' ⟨rfl, rfl⟩))
  go_ret
  exact ⟨rfl, hV.out⟩

set_option maxHeartbeats 1000000 in
theorem stays_5 (x y : Nat) (w : World) (hy : y < 18446744073709551616) (hx : x < 18446744073709551616) (hi : infB x = false) (hj : infB y = false) (hn : nanB x = false) (hm : nanB y = false) (d : Nat) (hd : d < 18446744073709551616) (hs : fsub y x = some d) (hk : infB d = true) :
    Calls Try.prog 9 #[.int .u64 x, .int .u64 y] w fun e w' => e = .returned (.bool true) ∧ Below w.heap.size w w' := by
  have HS0 := hidp (Smooth_some (sm_new y))
  have HC0 := hidp (Compare_val (cmp_same y hy))
  have HI1 := hidp (fun w => hi ▸ IsInf_any x w hx)
  have HI2 := hidp (fun w => hj ▸ IsInf_any y w hy)
  have HI3 := hidp (fun w => hk ▸ IsInf_any d w hd)
  have k1 : (FloatKind.f64.format.order x x != some .eq) = false := hn
  have k2 : (FloatKind.f64.format.order y y != some .eq) = false := hm
  have k3 := run_sub_some hs
  clear hi hj hx hy hn hm hd hs hk
  have hV := hidp (Below.refl w.heap.size w)
  go_enter Try.func9, Try.ntmps9
  go_wp2_with (first | (go_at_call 11; refine (of_any _ _).mono ?_; rintro e w' ⟨rfl, rfl⟩) | (go_at_call 33; refine (NaN_any _).mono ?_; rintro e w' ⟨rfl, rfl⟩) | (go_at_call 6; refine (known_any _).mono ?_; rintro e w1 ⟨rfl, hN⟩; have hV := hidp (btrans (w := w) (by first | with_reducible exact hV.out | (repeat' (first | (with_reducible exact Below.refl _ _) | (with_reducible refine Below.alloc ?_ ?_ _) | (with_reducible refine Below.drew ?_) | (with_reducible refine Below.drewN ?_ _) | (with_reducible refine Below.setCell ?_ ?_ _) | (with_reducible refine Below.trans ?_ (Below.mono hV.out ?_)) | go_size | (have i0_ := hV.out.size; (try simp at i0_); (try simp); omega)))) hN); clear hN) | (go_at_call 23; (first | (with_reducible refine (HS0.out _).mono ?_)); rintro e w1 ⟨rfl, hN⟩; have hV := hidp (btrans (w := w) (by first | with_reducible exact hV.out | (repeat' (first | (with_reducible exact Below.refl _ _) | (with_reducible refine Below.alloc ?_ ?_ _) | (with_reducible refine Below.drew ?_) | (with_reducible refine Below.drewN ?_ _) | (with_reducible refine Below.setCell ?_ ?_ _) | (with_reducible refine Below.trans ?_ (Below.mono hV.out ?_)) | go_size | (have i0_ := hV.out.size; (try simp at i0_); (try simp); omega)))) hN); clear hN) | (go_at_call 21; with_reducible refine (HC0.out _).mono ?_; rintro e w1 ⟨rfl, hN⟩; have hV := hidp (btrans (w := w) (by first | with_reducible exact hV.out | (repeat' (first | (with_reducible exact Below.refl _ _) | (with_reducible refine Below.alloc ?_ ?_ _) | (with_reducible refine Below.drew ?_) | (with_reducible refine Below.drewN ?_ _) | (with_reducible refine Below.setCell ?_ ?_ _) | (with_reducible refine Below.trans ?_ (Below.mono hV.out ?_)) | go_size | (have i0_ := hV.out.size; (try simp at i0_); (try simp); omega)))) hN); clear hN) | (go_at_call 36; (first | (with_reducible refine (HI1.out _).mono ?_) | (with_reducible refine (HI2.out _).mono ?_) | (with_reducible refine (HI3.out _).mono ?_) ); rintro e w' ⟨rfl, rfl⟩))
  go_ret
  exact ⟨rfl, hV.out⟩

set_option maxHeartbeats 1000000 in
theorem stays_6 (x y : Nat) (w : World) (hy : y < 18446744073709551616) (hx : x < 18446744073709551616) (hi : infB x = false) (hj : infB y = false) (hn : nanB x = false) (hm : nanB y = false) (d : Nat) (hd : d < 18446744073709551616) (hs : fsub y x = some d) (hk : infB d = false) (z u mn mx : Nat) (hz : SmE x y z) (hu : SmE x x u) (hmn : ∀ w, (Builtin.min_ #[24, 24] 24 #[.float .f64 x, .float .f64 y]).run Try.prog w = .ok (.float .f64 mn) w) (hmx : ∀ w, (Builtin.max_ #[24, 24] 24 #[.float .f64 x, .float .f64 y]).run Try.prog w = .ok (.float .f64 mx) w) (g1 : (FloatKind.f64.format.order z mn == some .gt || FloatKind.f64.format.order z mn == some .eq) = true) (g2 : (FloatKind.f64.format.order z mx == some .lt || FloatKind.f64.format.order z mx == some .eq) = true) (g3 : (FloatKind.f64.format.order u x == some .eq) = true) :
    Calls Try.prog 9 #[.int .u64 x, .int .u64 y] w fun e w' => e = .returned (.bool true) ∧ Below w.heap.size w w' := by
  have HS0 := hidp (Smooth_some (sm_new y))
  have HC0 := hidp (Compare_val (cmp_same y hy))
  have HI1 := hidp (fun w => hi ▸ IsInf_any x w hx)
  have HI2 := hidp (fun w => hj ▸ IsInf_any y w hy)
  have HI3 := hidp (fun w => hk ▸ IsInf_any d w hd)
  have k1 : (FloatKind.f64.format.order x x != some .eq) = false := hn
  have k2 : (FloatKind.f64.format.order y y != some .eq) = false := hm
  have k3 := run_sub_some hs
  have HZ := hidp (Smooth_some hz); have HU := hidp (Smooth_some hu)
  clear hi hj hx hy hn hm hd hs hk hz hu
  have hV := hidp (Below.refl w.heap.size w)
  go_enter Try.func9, Try.ntmps9
  go_wp2_with (first | (go_at_call 11; refine (of_any _ _).mono ?_; rintro e w' ⟨rfl, rfl⟩) | (go_at_call 33; refine (NaN_any _).mono ?_; rintro e w' ⟨rfl, rfl⟩) | (go_at_call 6; refine (known_any _).mono ?_; rintro e w1 ⟨rfl, hN⟩; have hV := hidp (btrans (w := w) (by first | with_reducible exact hV.out | (repeat' (first | (with_reducible exact Below.refl _ _) | (with_reducible refine Below.alloc ?_ ?_ _) | (with_reducible refine Below.drew ?_) | (with_reducible refine Below.drewN ?_ _) | (with_reducible refine Below.setCell ?_ ?_ _) | (with_reducible refine Below.trans ?_ (Below.mono hV.out ?_)) | go_size | (have i0_ := hV.out.size; (try simp at i0_); (try simp); omega)))) hN); clear hN) | (go_at_call 23; (first | (with_reducible refine (HZ.out _).mono ?_) | (with_reducible refine (HU.out _).mono ?_) | (with_reducible refine (HS0.out _).mono ?_)); rintro e w1 ⟨rfl, hN⟩; have hV := hidp (btrans (w := w) (by first | with_reducible exact hV.out | (repeat' (first | (with_reducible exact Below.refl _ _) | (with_reducible refine Below.alloc ?_ ?_ _) | (with_reducible refine Below.drew ?_) | (with_reducible refine Below.drewN ?_ _) | (with_reducible refine Below.setCell ?_ ?_ _) | (with_reducible refine Below.trans ?_ (Below.mono hV.out ?_)) | go_size | (have i0_ := hV.out.size; (try simp at i0_); (try simp); omega)))) hN); clear hN) | (go_at_call 21; with_reducible refine (HC0.out _).mono ?_; rintro e w1 ⟨rfl, hN⟩; have hV := hidp (btrans (w := w) (by first | with_reducible exact hV.out | (repeat' (first | (with_reducible exact Below.refl _ _) | (with_reducible refine Below.alloc ?_ ?_ _) | (with_reducible refine Below.drew ?_) | (with_reducible refine Below.drewN ?_ _) | (with_reducible refine Below.setCell ?_ ?_ _) | (with_reducible refine Below.trans ?_ (Below.mono hV.out ?_)) | go_size | (have i0_ := hV.out.size; (try simp at i0_); (try simp); omega)))) hN); clear hN) | (go_at_call 36; (first | (with_reducible refine (HI1.out _).mono ?_) | (with_reducible refine (HI2.out _).mono ?_) | (with_reducible refine (HI3.out _).mono ?_) ); rintro e w' ⟨rfl, rfl⟩))
  go_ret
  exact ⟨rfl, hV.out⟩
end Go.Proofs.Ytajklipfdjaejaa
