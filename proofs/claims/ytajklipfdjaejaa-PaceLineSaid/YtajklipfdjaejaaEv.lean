/-
  The walk of landfalllaw02's PaceLine.
-/
import Derived.Test.YtajklipfdjaejaaEr
import Derived.Test.YtajklipfdjaejaaEu
namespace Go.Proofs.Ytajklipfdjaejaa
open Go.RowKit
attribute [local go_sem] run_bits run_frombits

theorem cmp_lit {x y : Nat} {c : Int} (h : cmpN x y = c) : Hid (∀ w, Calls Try.prog 21 #[.float .f64 x, .float .f64 y] w fun e w' => e = .returned (.int .i64 c) ∧ Below w.heap.size w w') := fun w => Compare_val h w

/-- The walk where the four answers are known. -/
def LineW (x y z : Nat) (A B C D : Int) (q : Bool) : Prop := ∀ w, cmpN x y = A → cmpN y z = B → cmpN x z = C → cmpN y x = D → cmpN x x = 0 → (((formN x : Nat) : Int) == ((formN y : Nat) : Int)) = q →
    Calls Try.prog 7 #[.int .u64 x, .int .u64 y, .int .u64 z] w fun e w' => e = .returned (.bool true) ∧ Below w.heap.size w w'
set_option maxHeartbeats 2000000 in
theorem line_mmm (x y z : Nat) : LineW x y z (-1) (-1) (-1) 1 false := by
  intro w h1 h2 h3 h4 h5 h6
  have k1 := cmp_lit h1; have k2 := cmp_lit h2; have k3 := cmp_lit h3; have k4 := cmp_lit h4; have k5 := cmp_lit h5
  clear h1 h2 h3 h4 h5
  have hV := hidp (Below.refl w.heap.size w)
  go_enter Try.func7, Try.ntmps7
  go_wp2_with (first | (go_at_call 11; refine (of_any _ _).mono ?_; rintro e w' ⟨rfl, rfl⟩) | (go_at_call 16; refine (Bits_any _ _).mono ?_; rintro e w' ⟨rfl, rfl⟩) | (go_at_call 6; refine (known_any _).mono ?_; rintro e w1 ⟨rfl, hN⟩; have hV := hidp (btrans (w := w) (by first | with_reducible exact hV.out | (repeat' (first | (with_reducible exact Below.refl _ _) | (with_reducible refine Below.alloc ?_ ?_ _) | (with_reducible refine Below.drew ?_) | (with_reducible refine Below.drewN ?_ _) | (with_reducible refine Below.setCell ?_ ?_ _) | (with_reducible refine Below.trans ?_ (Below.mono hV.out ?_)) | go_size | (have i0_ := hV.out.size; (try simp at i0_); (try simp); omega)))) hN); clear hN) | (go_at_call 21; (first | (with_reducible refine (k1.out _).mono ?_) | (with_reducible refine (k2.out _).mono ?_) | (with_reducible refine (k3.out _).mono ?_) | (with_reducible refine (k4.out _).mono ?_) | (with_reducible refine (k5.out _).mono ?_)); rintro e w1 ⟨rfl, hN⟩; have hV := hidp (btrans (w := w) (by first | with_reducible exact hV.out | (repeat' (first | (with_reducible exact Below.refl _ _) | (with_reducible refine Below.alloc ?_ ?_ _) | (with_reducible refine Below.drew ?_) | (with_reducible refine Below.drewN ?_ _) | (with_reducible refine Below.setCell ?_ ?_ _) | (with_reducible refine Below.trans ?_ (Below.mono hV.out ?_)) | go_size | (have i0_ := hV.out.size; (try simp at i0_); (try simp); omega)))) hN); clear hN))
  go_ret
  exact ⟨rfl, hV.out⟩
set_option maxHeartbeats 2000000 in
theorem line_mzm (x y z : Nat) : LineW x y z (-1) 0 (-1) 1 false := by
  intro w h1 h2 h3 h4 h5 h6
  have k1 := cmp_lit h1; have k2 := cmp_lit h2; have k3 := cmp_lit h3; have k4 := cmp_lit h4; have k5 := cmp_lit h5
  clear h1 h2 h3 h4 h5
  have hV := hidp (Below.refl w.heap.size w)
  go_enter Try.func7, Try.ntmps7
  go_wp2_with (first | (go_at_call 11; refine (of_any _ _).mono ?_; rintro e w' ⟨rfl, rfl⟩) | (go_at_call 16; refine (Bits_any _ _).mono ?_; rintro e w' ⟨rfl, rfl⟩) | (go_at_call 6; refine (known_any _).mono ?_; rintro e w1 ⟨rfl, hN⟩; have hV := hidp (btrans (w := w) (by first | with_reducible exact hV.out | (repeat' (first | (with_reducible exact Below.refl _ _) | (with_reducible refine Below.alloc ?_ ?_ _) | (with_reducible refine Below.drew ?_) | (with_reducible refine Below.drewN ?_ _) | (with_reducible refine Below.setCell ?_ ?_ _) | (with_reducible refine Below.trans ?_ (Below.mono hV.out ?_)) | go_size | (have i0_ := hV.out.size; (try simp at i0_); (try simp); omega)))) hN); clear hN) | (go_at_call 21; (first | (with_reducible refine (k1.out _).mono ?_) | (with_reducible refine (k2.out _).mono ?_) | (with_reducible refine (k3.out _).mono ?_) | (with_reducible refine (k4.out _).mono ?_) | (with_reducible refine (k5.out _).mono ?_)); rintro e w1 ⟨rfl, hN⟩; have hV := hidp (btrans (w := w) (by first | with_reducible exact hV.out | (repeat' (first | (with_reducible exact Below.refl _ _) | (with_reducible refine Below.alloc ?_ ?_ _) | (with_reducible refine Below.drew ?_) | (with_reducible refine Below.drewN ?_ _) | (with_reducible refine Below.setCell ?_ ?_ _) | (with_reducible refine Below.trans ?_ (Below.mono hV.out ?_)) | go_size | (have i0_ := hV.out.size; (try simp at i0_); (try simp); omega)))) hN); clear hN))
  go_ret
  exact ⟨rfl, hV.out⟩
set_option maxHeartbeats 2000000 in
theorem line_mpm (x y z : Nat) : LineW x y z (-1) 1 (-1) 1 false := by
  intro w h1 h2 h3 h4 h5 h6
  have k1 := cmp_lit h1; have k2 := cmp_lit h2; have k3 := cmp_lit h3; have k4 := cmp_lit h4; have k5 := cmp_lit h5
  clear h1 h2 h3 h4 h5
  have hV := hidp (Below.refl w.heap.size w)
  go_enter Try.func7, Try.ntmps7
  go_wp2_with (first | (go_at_call 11; refine (of_any _ _).mono ?_; rintro e w' ⟨rfl, rfl⟩) | (go_at_call 16; refine (Bits_any _ _).mono ?_; rintro e w' ⟨rfl, rfl⟩) | (go_at_call 6; refine (known_any _).mono ?_; rintro e w1 ⟨rfl, hN⟩; have hV := hidp (btrans (w := w) (by first | with_reducible exact hV.out | (repeat' (first | (with_reducible exact Below.refl _ _) | (with_reducible refine Below.alloc ?_ ?_ _) | (with_reducible refine Below.drew ?_) | (with_reducible refine Below.drewN ?_ _) | (with_reducible refine Below.setCell ?_ ?_ _) | (with_reducible refine Below.trans ?_ (Below.mono hV.out ?_)) | go_size | (have i0_ := hV.out.size; (try simp at i0_); (try simp); omega)))) hN); clear hN) | (go_at_call 21; (first | (with_reducible refine (k1.out _).mono ?_) | (with_reducible refine (k2.out _).mono ?_) | (with_reducible refine (k3.out _).mono ?_) | (with_reducible refine (k4.out _).mono ?_) | (with_reducible refine (k5.out _).mono ?_)); rintro e w1 ⟨rfl, hN⟩; have hV := hidp (btrans (w := w) (by first | with_reducible exact hV.out | (repeat' (first | (with_reducible exact Below.refl _ _) | (with_reducible refine Below.alloc ?_ ?_ _) | (with_reducible refine Below.drew ?_) | (with_reducible refine Below.drewN ?_ _) | (with_reducible refine Below.setCell ?_ ?_ _) | (with_reducible refine Below.trans ?_ (Below.mono hV.out ?_)) | go_size | (have i0_ := hV.out.size; (try simp at i0_); (try simp); omega)))) hN); clear hN))
  go_ret
  exact ⟨rfl, hV.out⟩
set_option maxHeartbeats 2000000 in
theorem line_mpz (x y z : Nat) : LineW x y z (-1) 1 0 1 false := by
  intro w h1 h2 h3 h4 h5 h6
  have k1 := cmp_lit h1; have k2 := cmp_lit h2; have k3 := cmp_lit h3; have k4 := cmp_lit h4; have k5 := cmp_lit h5
  clear h1 h2 h3 h4 h5
  have hV := hidp (Below.refl w.heap.size w)
  go_enter Try.func7, Try.ntmps7
  go_wp2_with (first | (go_at_call 11; refine (of_any _ _).mono ?_; rintro e w' ⟨rfl, rfl⟩) | (go_at_call 16; refine (Bits_any _ _).mono ?_; rintro e w' ⟨rfl, rfl⟩) | (go_at_call 6; refine (known_any _).mono ?_; rintro e w1 ⟨rfl, hN⟩; have hV := hidp (btrans (w := w) (by first | with_reducible exact hV.out | (repeat' (first | (with_reducible exact Below.refl _ _) | (with_reducible refine Below.alloc ?_ ?_ _) | (with_reducible refine Below.drew ?_) | (with_reducible refine Below.drewN ?_ _) | (with_reducible refine Below.setCell ?_ ?_ _) | (with_reducible refine Below.trans ?_ (Below.mono hV.out ?_)) | go_size | (have i0_ := hV.out.size; (try simp at i0_); (try simp); omega)))) hN); clear hN) | (go_at_call 21; (first | (with_reducible refine (k1.out _).mono ?_) | (with_reducible refine (k2.out _).mono ?_) | (with_reducible refine (k3.out _).mono ?_) | (with_reducible refine (k4.out _).mono ?_) | (with_reducible refine (k5.out _).mono ?_)); rintro e w1 ⟨rfl, hN⟩; have hV := hidp (btrans (w := w) (by first | with_reducible exact hV.out | (repeat' (first | (with_reducible exact Below.refl _ _) | (with_reducible refine Below.alloc ?_ ?_ _) | (with_reducible refine Below.drew ?_) | (with_reducible refine Below.drewN ?_ _) | (with_reducible refine Below.setCell ?_ ?_ _) | (with_reducible refine Below.trans ?_ (Below.mono hV.out ?_)) | go_size | (have i0_ := hV.out.size; (try simp at i0_); (try simp); omega)))) hN); clear hN))
  go_ret
  exact ⟨rfl, hV.out⟩
set_option maxHeartbeats 2000000 in
theorem line_mpp (x y z : Nat) : LineW x y z (-1) 1 1 1 false := by
  intro w h1 h2 h3 h4 h5 h6
  have k1 := cmp_lit h1; have k2 := cmp_lit h2; have k3 := cmp_lit h3; have k4 := cmp_lit h4; have k5 := cmp_lit h5
  clear h1 h2 h3 h4 h5
  have hV := hidp (Below.refl w.heap.size w)
  go_enter Try.func7, Try.ntmps7
  go_wp2_with (first | (go_at_call 11; refine (of_any _ _).mono ?_; rintro e w' ⟨rfl, rfl⟩) | (go_at_call 16; refine (Bits_any _ _).mono ?_; rintro e w' ⟨rfl, rfl⟩) | (go_at_call 6; refine (known_any _).mono ?_; rintro e w1 ⟨rfl, hN⟩; have hV := hidp (btrans (w := w) (by first | with_reducible exact hV.out | (repeat' (first | (with_reducible exact Below.refl _ _) | (with_reducible refine Below.alloc ?_ ?_ _) | (with_reducible refine Below.drew ?_) | (with_reducible refine Below.drewN ?_ _) | (with_reducible refine Below.setCell ?_ ?_ _) | (with_reducible refine Below.trans ?_ (Below.mono hV.out ?_)) | go_size | (have i0_ := hV.out.size; (try simp at i0_); (try simp); omega)))) hN); clear hN) | (go_at_call 21; (first | (with_reducible refine (k1.out _).mono ?_) | (with_reducible refine (k2.out _).mono ?_) | (with_reducible refine (k3.out _).mono ?_) | (with_reducible refine (k4.out _).mono ?_) | (with_reducible refine (k5.out _).mono ?_)); rintro e w1 ⟨rfl, hN⟩; have hV := hidp (btrans (w := w) (by first | with_reducible exact hV.out | (repeat' (first | (with_reducible exact Below.refl _ _) | (with_reducible refine Below.alloc ?_ ?_ _) | (with_reducible refine Below.drew ?_) | (with_reducible refine Below.drewN ?_ _) | (with_reducible refine Below.setCell ?_ ?_ _) | (with_reducible refine Below.trans ?_ (Below.mono hV.out ?_)) | go_size | (have i0_ := hV.out.size; (try simp at i0_); (try simp); omega)))) hN); clear hN))
  go_ret
  exact ⟨rfl, hV.out⟩
set_option maxHeartbeats 2000000 in
theorem line_zmm (x y z : Nat) : LineW x y z 0 (-1) (-1) 0 true := by
  intro w h1 h2 h3 h4 h5 h6
  have k1 := cmp_lit h1; have k2 := cmp_lit h2; have k3 := cmp_lit h3; have k4 := cmp_lit h4; have k5 := cmp_lit h5
  clear h1 h2 h3 h4 h5
  have hV := hidp (Below.refl w.heap.size w)
  go_enter Try.func7, Try.ntmps7
  go_wp2_with (first | (go_at_call 11; refine (of_any _ _).mono ?_; rintro e w' ⟨rfl, rfl⟩) | (go_at_call 16; refine (Bits_any _ _).mono ?_; rintro e w' ⟨rfl, rfl⟩) | (go_at_call 6; refine (known_any _).mono ?_; rintro e w1 ⟨rfl, hN⟩; have hV := hidp (btrans (w := w) (by first | with_reducible exact hV.out | (repeat' (first | (with_reducible exact Below.refl _ _) | (with_reducible refine Below.alloc ?_ ?_ _) | (with_reducible refine Below.drew ?_) | (with_reducible refine Below.drewN ?_ _) | (with_reducible refine Below.setCell ?_ ?_ _) | (with_reducible refine Below.trans ?_ (Below.mono hV.out ?_)) | go_size | (have i0_ := hV.out.size; (try simp at i0_); (try simp); omega)))) hN); clear hN) | (go_at_call 21; (first | (with_reducible refine (k1.out _).mono ?_) | (with_reducible refine (k2.out _).mono ?_) | (with_reducible refine (k3.out _).mono ?_) | (with_reducible refine (k4.out _).mono ?_) | (with_reducible refine (k5.out _).mono ?_)); rintro e w1 ⟨rfl, hN⟩; have hV := hidp (btrans (w := w) (by first | with_reducible exact hV.out | (repeat' (first | (with_reducible exact Below.refl _ _) | (with_reducible refine Below.alloc ?_ ?_ _) | (with_reducible refine Below.drew ?_) | (with_reducible refine Below.drewN ?_ _) | (with_reducible refine Below.setCell ?_ ?_ _) | (with_reducible refine Below.trans ?_ (Below.mono hV.out ?_)) | go_size | (have i0_ := hV.out.size; (try simp at i0_); (try simp); omega)))) hN); clear hN))
  go_ret
  exact ⟨rfl, hV.out⟩
set_option maxHeartbeats 2000000 in
theorem line_zzz (x y z : Nat) : LineW x y z 0 0 0 0 true := by
  intro w h1 h2 h3 h4 h5 h6
  have k1 := cmp_lit h1; have k2 := cmp_lit h2; have k3 := cmp_lit h3; have k4 := cmp_lit h4; have k5 := cmp_lit h5
  clear h1 h2 h3 h4 h5
  have hV := hidp (Below.refl w.heap.size w)
  go_enter Try.func7, Try.ntmps7
  go_wp2_with (first | (go_at_call 11; refine (of_any _ _).mono ?_; rintro e w' ⟨rfl, rfl⟩) | (go_at_call 16; refine (Bits_any _ _).mono ?_; rintro e w' ⟨rfl, rfl⟩) | (go_at_call 6; refine (known_any _).mono ?_; rintro e w1 ⟨rfl, hN⟩; have hV := hidp (btrans (w := w) (by first | with_reducible exact hV.out | (repeat' (first | (with_reducible exact Below.refl _ _) | (with_reducible refine Below.alloc ?_ ?_ _) | (with_reducible refine Below.drew ?_) | (with_reducible refine Below.drewN ?_ _) | (with_reducible refine Below.setCell ?_ ?_ _) | (with_reducible refine Below.trans ?_ (Below.mono hV.out ?_)) | go_size | (have i0_ := hV.out.size; (try simp at i0_); (try simp); omega)))) hN); clear hN) | (go_at_call 21; (first | (with_reducible refine (k1.out _).mono ?_) | (with_reducible refine (k2.out _).mono ?_) | (with_reducible refine (k3.out _).mono ?_) | (with_reducible refine (k4.out _).mono ?_) | (with_reducible refine (k5.out _).mono ?_)); rintro e w1 ⟨rfl, hN⟩; have hV := hidp (btrans (w := w) (by first | with_reducible exact hV.out | (repeat' (first | (with_reducible exact Below.refl _ _) | (with_reducible refine Below.alloc ?_ ?_ _) | (with_reducible refine Below.drew ?_) | (with_reducible refine Below.drewN ?_ _) | (with_reducible refine Below.setCell ?_ ?_ _) | (with_reducible refine Below.trans ?_ (Below.mono hV.out ?_)) | go_size | (have i0_ := hV.out.size; (try simp at i0_); (try simp); omega)))) hN); clear hN))
  go_ret
  exact ⟨rfl, hV.out⟩
set_option maxHeartbeats 2000000 in
theorem line_zpp (x y z : Nat) : LineW x y z 0 1 1 0 true := by
  intro w h1 h2 h3 h4 h5 h6
  have k1 := cmp_lit h1; have k2 := cmp_lit h2; have k3 := cmp_lit h3; have k4 := cmp_lit h4; have k5 := cmp_lit h5
  clear h1 h2 h3 h4 h5
  have hV := hidp (Below.refl w.heap.size w)
  go_enter Try.func7, Try.ntmps7
  go_wp2_with (first | (go_at_call 11; refine (of_any _ _).mono ?_; rintro e w' ⟨rfl, rfl⟩) | (go_at_call 16; refine (Bits_any _ _).mono ?_; rintro e w' ⟨rfl, rfl⟩) | (go_at_call 6; refine (known_any _).mono ?_; rintro e w1 ⟨rfl, hN⟩; have hV := hidp (btrans (w := w) (by first | with_reducible exact hV.out | (repeat' (first | (with_reducible exact Below.refl _ _) | (with_reducible refine Below.alloc ?_ ?_ _) | (with_reducible refine Below.drew ?_) | (with_reducible refine Below.drewN ?_ _) | (with_reducible refine Below.setCell ?_ ?_ _) | (with_reducible refine Below.trans ?_ (Below.mono hV.out ?_)) | go_size | (have i0_ := hV.out.size; (try simp at i0_); (try simp); omega)))) hN); clear hN) | (go_at_call 21; (first | (with_reducible refine (k1.out _).mono ?_) | (with_reducible refine (k2.out _).mono ?_) | (with_reducible refine (k3.out _).mono ?_) | (with_reducible refine (k4.out _).mono ?_) | (with_reducible refine (k5.out _).mono ?_)); rintro e w1 ⟨rfl, hN⟩; have hV := hidp (btrans (w := w) (by first | with_reducible exact hV.out | (repeat' (first | (with_reducible exact Below.refl _ _) | (with_reducible refine Below.alloc ?_ ?_ _) | (with_reducible refine Below.drew ?_) | (with_reducible refine Below.drewN ?_ _) | (with_reducible refine Below.setCell ?_ ?_ _) | (with_reducible refine Below.trans ?_ (Below.mono hV.out ?_)) | go_size | (have i0_ := hV.out.size; (try simp at i0_); (try simp); omega)))) hN); clear hN))
  go_ret
  exact ⟨rfl, hV.out⟩
set_option maxHeartbeats 2000000 in
theorem line_pmm (x y z : Nat) : LineW x y z 1 (-1) (-1) (-1) false := by
  intro w h1 h2 h3 h4 h5 h6
  have k1 := cmp_lit h1; have k2 := cmp_lit h2; have k3 := cmp_lit h3; have k4 := cmp_lit h4; have k5 := cmp_lit h5
  clear h1 h2 h3 h4 h5
  have hV := hidp (Below.refl w.heap.size w)
  go_enter Try.func7, Try.ntmps7
  go_wp2_with (first | (go_at_call 11; refine (of_any _ _).mono ?_; rintro e w' ⟨rfl, rfl⟩) | (go_at_call 16; refine (Bits_any _ _).mono ?_; rintro e w' ⟨rfl, rfl⟩) | (go_at_call 6; refine (known_any _).mono ?_; rintro e w1 ⟨rfl, hN⟩; have hV := hidp (btrans (w := w) (by first | with_reducible exact hV.out | (repeat' (first | (with_reducible exact Below.refl _ _) | (with_reducible refine Below.alloc ?_ ?_ _) | (with_reducible refine Below.drew ?_) | (with_reducible refine Below.drewN ?_ _) | (with_reducible refine Below.setCell ?_ ?_ _) | (with_reducible refine Below.trans ?_ (Below.mono hV.out ?_)) | go_size | (have i0_ := hV.out.size; (try simp at i0_); (try simp); omega)))) hN); clear hN) | (go_at_call 21; (first | (with_reducible refine (k1.out _).mono ?_) | (with_reducible refine (k2.out _).mono ?_) | (with_reducible refine (k3.out _).mono ?_) | (with_reducible refine (k4.out _).mono ?_) | (with_reducible refine (k5.out _).mono ?_)); rintro e w1 ⟨rfl, hN⟩; have hV := hidp (btrans (w := w) (by first | with_reducible exact hV.out | (repeat' (first | (with_reducible exact Below.refl _ _) | (with_reducible refine Below.alloc ?_ ?_ _) | (with_reducible refine Below.drew ?_) | (with_reducible refine Below.drewN ?_ _) | (with_reducible refine Below.setCell ?_ ?_ _) | (with_reducible refine Below.trans ?_ (Below.mono hV.out ?_)) | go_size | (have i0_ := hV.out.size; (try simp at i0_); (try simp); omega)))) hN); clear hN))
  go_ret
  exact ⟨rfl, hV.out⟩
set_option maxHeartbeats 2000000 in
theorem line_pmz (x y z : Nat) : LineW x y z 1 (-1) 0 (-1) false := by
  intro w h1 h2 h3 h4 h5 h6
  have k1 := cmp_lit h1; have k2 := cmp_lit h2; have k3 := cmp_lit h3; have k4 := cmp_lit h4; have k5 := cmp_lit h5
  clear h1 h2 h3 h4 h5
  have hV := hidp (Below.refl w.heap.size w)
  go_enter Try.func7, Try.ntmps7
  go_wp2_with (first | (go_at_call 11; refine (of_any _ _).mono ?_; rintro e w' ⟨rfl, rfl⟩) | (go_at_call 16; refine (Bits_any _ _).mono ?_; rintro e w' ⟨rfl, rfl⟩) | (go_at_call 6; refine (known_any _).mono ?_; rintro e w1 ⟨rfl, hN⟩; have hV := hidp (btrans (w := w) (by first | with_reducible exact hV.out | (repeat' (first | (with_reducible exact Below.refl _ _) | (with_reducible refine Below.alloc ?_ ?_ _) | (with_reducible refine Below.drew ?_) | (with_reducible refine Below.drewN ?_ _) | (with_reducible refine Below.setCell ?_ ?_ _) | (with_reducible refine Below.trans ?_ (Below.mono hV.out ?_)) | go_size | (have i0_ := hV.out.size; (try simp at i0_); (try simp); omega)))) hN); clear hN) | (go_at_call 21; (first | (with_reducible refine (k1.out _).mono ?_) | (with_reducible refine (k2.out _).mono ?_) | (with_reducible refine (k3.out _).mono ?_) | (with_reducible refine (k4.out _).mono ?_) | (with_reducible refine (k5.out _).mono ?_)); rintro e w1 ⟨rfl, hN⟩; have hV := hidp (btrans (w := w) (by first | with_reducible exact hV.out | (repeat' (first | (with_reducible exact Below.refl _ _) | (with_reducible refine Below.alloc ?_ ?_ _) | (with_reducible refine Below.drew ?_) | (with_reducible refine Below.drewN ?_ _) | (with_reducible refine Below.setCell ?_ ?_ _) | (with_reducible refine Below.trans ?_ (Below.mono hV.out ?_)) | go_size | (have i0_ := hV.out.size; (try simp at i0_); (try simp); omega)))) hN); clear hN))
  go_ret
  exact ⟨rfl, hV.out⟩
set_option maxHeartbeats 2000000 in
theorem line_pmp (x y z : Nat) : LineW x y z 1 (-1) 1 (-1) false := by
  intro w h1 h2 h3 h4 h5 h6
  have k1 := cmp_lit h1; have k2 := cmp_lit h2; have k3 := cmp_lit h3; have k4 := cmp_lit h4; have k5 := cmp_lit h5
  clear h1 h2 h3 h4 h5
  have hV := hidp (Below.refl w.heap.size w)
  go_enter Try.func7, Try.ntmps7
  go_wp2_with (first | (go_at_call 11; refine (of_any _ _).mono ?_; rintro e w' ⟨rfl, rfl⟩) | (go_at_call 16; refine (Bits_any _ _).mono ?_; rintro e w' ⟨rfl, rfl⟩) | (go_at_call 6; refine (known_any _).mono ?_; rintro e w1 ⟨rfl, hN⟩; have hV := hidp (btrans (w := w) (by first | with_reducible exact hV.out | (repeat' (first | (with_reducible exact Below.refl _ _) | (with_reducible refine Below.alloc ?_ ?_ _) | (with_reducible refine Below.drew ?_) | (with_reducible refine Below.drewN ?_ _) | (with_reducible refine Below.setCell ?_ ?_ _) | (with_reducible refine Below.trans ?_ (Below.mono hV.out ?_)) | go_size | (have i0_ := hV.out.size; (try simp at i0_); (try simp); omega)))) hN); clear hN) | (go_at_call 21; (first | (with_reducible refine (k1.out _).mono ?_) | (with_reducible refine (k2.out _).mono ?_) | (with_reducible refine (k3.out _).mono ?_) | (with_reducible refine (k4.out _).mono ?_) | (with_reducible refine (k5.out _).mono ?_)); rintro e w1 ⟨rfl, hN⟩; have hV := hidp (btrans (w := w) (by first | with_reducible exact hV.out | (repeat' (first | (with_reducible exact Below.refl _ _) | (with_reducible refine Below.alloc ?_ ?_ _) | (with_reducible refine Below.drew ?_) | (with_reducible refine Below.drewN ?_ _) | (with_reducible refine Below.setCell ?_ ?_ _) | (with_reducible refine Below.trans ?_ (Below.mono hV.out ?_)) | go_size | (have i0_ := hV.out.size; (try simp at i0_); (try simp); omega)))) hN); clear hN))
  go_ret
  exact ⟨rfl, hV.out⟩
set_option maxHeartbeats 2000000 in
theorem line_pzp (x y z : Nat) : LineW x y z 1 0 1 (-1) false := by
  intro w h1 h2 h3 h4 h5 h6
  have k1 := cmp_lit h1; have k2 := cmp_lit h2; have k3 := cmp_lit h3; have k4 := cmp_lit h4; have k5 := cmp_lit h5
  clear h1 h2 h3 h4 h5
  have hV := hidp (Below.refl w.heap.size w)
  go_enter Try.func7, Try.ntmps7
  go_wp2_with (first | (go_at_call 11; refine (of_any _ _).mono ?_; rintro e w' ⟨rfl, rfl⟩) | (go_at_call 16; refine (Bits_any _ _).mono ?_; rintro e w' ⟨rfl, rfl⟩) | (go_at_call 6; refine (known_any _).mono ?_; rintro e w1 ⟨rfl, hN⟩; have hV := hidp (btrans (w := w) (by first | with_reducible exact hV.out | (repeat' (first | (with_reducible exact Below.refl _ _) | (with_reducible refine Below.alloc ?_ ?_ _) | (with_reducible refine Below.drew ?_) | (with_reducible refine Below.drewN ?_ _) | (with_reducible refine Below.setCell ?_ ?_ _) | (with_reducible refine Below.trans ?_ (Below.mono hV.out ?_)) | go_size | (have i0_ := hV.out.size; (try simp at i0_); (try simp); omega)))) hN); clear hN) | (go_at_call 21; (first | (with_reducible refine (k1.out _).mono ?_) | (with_reducible refine (k2.out _).mono ?_) | (with_reducible refine (k3.out _).mono ?_) | (with_reducible refine (k4.out _).mono ?_) | (with_reducible refine (k5.out _).mono ?_)); rintro e w1 ⟨rfl, hN⟩; have hV := hidp (btrans (w := w) (by first | with_reducible exact hV.out | (repeat' (first | (with_reducible exact Below.refl _ _) | (with_reducible refine Below.alloc ?_ ?_ _) | (with_reducible refine Below.drew ?_) | (with_reducible refine Below.drewN ?_ _) | (with_reducible refine Below.setCell ?_ ?_ _) | (with_reducible refine Below.trans ?_ (Below.mono hV.out ?_)) | go_size | (have i0_ := hV.out.size; (try simp at i0_); (try simp); omega)))) hN); clear hN))
  go_ret
  exact ⟨rfl, hV.out⟩
set_option maxHeartbeats 2000000 in
theorem line_ppp (x y z : Nat) : LineW x y z 1 1 1 (-1) false := by
  intro w h1 h2 h3 h4 h5 h6
  have k1 := cmp_lit h1; have k2 := cmp_lit h2; have k3 := cmp_lit h3; have k4 := cmp_lit h4; have k5 := cmp_lit h5
  clear h1 h2 h3 h4 h5
  have hV := hidp (Below.refl w.heap.size w)
  go_enter Try.func7, Try.ntmps7
  go_wp2_with (first | (go_at_call 11; refine (of_any _ _).mono ?_; rintro e w' ⟨rfl, rfl⟩) | (go_at_call 16; refine (Bits_any _ _).mono ?_; rintro e w' ⟨rfl, rfl⟩) | (go_at_call 6; refine (known_any _).mono ?_; rintro e w1 ⟨rfl, hN⟩; have hV := hidp (btrans (w := w) (by first | with_reducible exact hV.out | (repeat' (first | (with_reducible exact Below.refl _ _) | (with_reducible refine Below.alloc ?_ ?_ _) | (with_reducible refine Below.drew ?_) | (with_reducible refine Below.drewN ?_ _) | (with_reducible refine Below.setCell ?_ ?_ _) | (with_reducible refine Below.trans ?_ (Below.mono hV.out ?_)) | go_size | (have i0_ := hV.out.size; (try simp at i0_); (try simp); omega)))) hN); clear hN) | (go_at_call 21; (first | (with_reducible refine (k1.out _).mono ?_) | (with_reducible refine (k2.out _).mono ?_) | (with_reducible refine (k3.out _).mono ?_) | (with_reducible refine (k4.out _).mono ?_) | (with_reducible refine (k5.out _).mono ?_)); rintro e w1 ⟨rfl, hN⟩; have hV := hidp (btrans (w := w) (by first | with_reducible exact hV.out | (repeat' (first | (with_reducible exact Below.refl _ _) | (with_reducible refine Below.alloc ?_ ?_ _) | (with_reducible refine Below.drew ?_) | (with_reducible refine Below.drewN ?_ _) | (with_reducible refine Below.setCell ?_ ?_ _) | (with_reducible refine Below.trans ?_ (Below.mono hV.out ?_)) | go_size | (have i0_ := hV.out.size; (try simp at i0_); (try simp); omega)))) hN); clear hN))
  go_ret
  exact ⟨rfl, hV.out⟩
theorem lawLine_w (a b c : Int) (w : World) (ha : 0 ≤ a ∧ a ≤ 18446744073709551615) (hb : 0 ≤ b ∧ b ≤ 18446744073709551615) (hc : 0 ≤ c ∧ c ≤ 18446744073709551615) :
    Calls Try.prog 7 #[.int .u64 a, .int .u64 b, .int .u64 c] w fun e w' => e = .returned (.bool true) ∧ Below w.heap.size w w' := by
  obtain ⟨x, rfl⟩ := Int.eq_ofNat_of_zero_le ha.1
  obtain ⟨y, rfl⟩ := Int.eq_ofNat_of_zero_le hb.1
  obtain ⟨z, rfl⟩ := Int.eq_ofNat_of_zero_le hc.1
  have hx : x < 18446744073709551616 := by omega
  have hy : y < 18446744073709551616 := by omega
  have hz : z < 18446744073709551616 := by omega
  have h5 : cmpN x x = 0 := by rw [cmp_key x x hx hx]; unfold sgnI; simp
  have hq : ∀ q, (q = true ↔ keyN x = keyN y) → (((formN x : Nat) : Int) == ((formN y : Nat) : Int)) = q := by
    intro q h
    rw [Bool.eq_iff_iff, beq_iff_eq, h, ← key_form x y hx hy]; omega
  have e1 := cmp_key x y hx hy
  have e2 := cmp_key y z hy hz
  have e3 := cmp_key x z hx hz
  have e4 := cmp_key y x hy hx
  rcases sgn_cases (keyN x) (keyN y) with ⟨i1, j1⟩ | ⟨i1, j1⟩ | ⟨i1, j1⟩ <;> rcases sgn_cases (keyN y) (keyN z) with ⟨i2, j2⟩ | ⟨i2, j2⟩ | ⟨i2, j2⟩ <;> rcases sgn_cases (keyN x) (keyN z) with ⟨i3, j3⟩ | ⟨i3, j3⟩ | ⟨i3, j3⟩ <;> rcases sgn_cases (keyN y) (keyN x) with ⟨i4, j4⟩ | ⟨i4, j4⟩ | ⟨i4, j4⟩ <;> (try (exfalso; omega)) <;> rw [i1] at e1 <;> rw [i2] at e2 <;> rw [i3] at e3 <;> rw [i4] at e4
  · exact line_mmm x y z w e1 e2 e3 e4 h5 (hq _ ⟨(fun h => by cases h), (fun h => by omega)⟩)
  · exact line_mzm x y z w e1 e2 e3 e4 h5 (hq _ ⟨(fun h => by cases h), (fun h => by omega)⟩)
  · exact line_mpm x y z w e1 e2 e3 e4 h5 (hq _ ⟨(fun h => by cases h), (fun h => by omega)⟩)
  · exact line_mpz x y z w e1 e2 e3 e4 h5 (hq _ ⟨(fun h => by cases h), (fun h => by omega)⟩)
  · exact line_mpp x y z w e1 e2 e3 e4 h5 (hq _ ⟨(fun h => by cases h), (fun h => by omega)⟩)
  · exact line_zmm x y z w e1 e2 e3 e4 h5 (hq _ ⟨fun _ => j1, fun _ => rfl⟩)
  · exact line_zzz x y z w e1 e2 e3 e4 h5 (hq _ ⟨fun _ => j1, fun _ => rfl⟩)
  · exact line_zpp x y z w e1 e2 e3 e4 h5 (hq _ ⟨fun _ => j1, fun _ => rfl⟩)
  · exact line_pmm x y z w e1 e2 e3 e4 h5 (hq _ ⟨(fun h => by cases h), (fun h => by omega)⟩)
  · exact line_pmz x y z w e1 e2 e3 e4 h5 (hq _ ⟨(fun h => by cases h), (fun h => by omega)⟩)
  · exact line_pmp x y z w e1 e2 e3 e4 h5 (hq _ ⟨(fun h => by cases h), (fun h => by omega)⟩)
  · exact line_pzp x y z w e1 e2 e3 e4 h5 (hq _ ⟨(fun h => by cases h), (fun h => by omega)⟩)
  · exact line_ppp x y z w e1 e2 e3 e4 h5 (hq _ ⟨(fun h => by cases h), (fun h => by omega)⟩)
end Go.Proofs.Ytajklipfdjaejaa
