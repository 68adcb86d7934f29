/-
  The walk of landfalllaw02's PaceSmooths.
-/
import Derived.Test.YtajklipfdjaejaaEd
import Derived.Test.YtajklipfdjaejaaEi
namespace Go.Proofs.Ytajklipfdjaejaa
open Go.RowKit
attribute [local go_sem] run_bits run_frombits

theorem same_yes {r s : Nat} (h : formN r = formN s) (w : World) : Calls Try.prog 20 #[.float .f64 r, .float .f64 s] w fun e w' => e = .returned (.bool true) ∧ w = w' := by
  have q := same_any r s w
  rwa [show sameB r s = true by unfold sameB; simp [h]] at q
theorem Compare_ref (x y : Nat) (w : World) (hx : x < 18446744073709551616) (hy : y < 18446744073709551616) : Calls Try.prog 22 #[.float .f64 x, .float .f64 y] w fun e w' => e = .returned (.int .i64 (cmpN x y)) ∧ w = w' := by
  have q := refCompare_any x y w
  rwa [← cmpN_ref x y hx hy] at q

set_option maxHeartbeats 1000000 in
theorem lawSmooths_any (a b : Int) (w : World) (ha : a.toNat < 18446744073709551616) (hb : b.toNat < 18446744073709551616) :
    Calls Try.prog 4 #[.int .u64 a, .int .u64 b] w fun e w' => e = .returned (.bool true) ∧ Below w.heap.size w w' := by
  have HA := hidp ha; have HB := hidp hb; clear ha hb
  have hV := hidp (Below.refl w.heap.size w)
  have hself : (cmpN a.toNat b.toNat == cmpN a.toNat b.toNat) = true := by simp
  go_enter Try.func4, Try.ntmps4
  go_wp2_with (first | (go_at_call 11; refine (of_any _ _).mono ?_; rintro e w' ⟨rfl, rfl⟩) | (go_at_call 21; refine (Compare_any _ _ _).mono ?_; rintro e w1 ⟨rfl, hN⟩; have hV := hidp (btrans (w := w) (by first | with_reducible exact hV.out | (repeat' (first | (with_reducible exact Below.refl _ _) | (with_reducible refine Below.alloc ?_ ?_ _) | (with_reducible refine Below.drew ?_) | (with_reducible refine Below.drewN ?_ _) | (with_reducible refine Below.setCell ?_ ?_ _) | (with_reducible refine Below.trans ?_ (Below.mono hV.out ?_)) | go_size | (have i0_ := hV.out.size; (try simp at i0_); (try simp); omega)))) hN); clear hN) | (go_at_call 22; refine (Compare_ref _ _ _ HA.out HB.out).mono ?_; rintro e w2 ⟨rfl, rfl⟩) | (go_at_call 23; refine (Smooth_any _ _ _).mono ?_; rintro e w3 ⟨r, rfl, hr, hN⟩; have HR := hidp hr; clear hr; have hV := hidp (btrans (w := w) (by first | with_reducible exact hV.out | (repeat' (first | (with_reducible exact Below.refl _ _) | (with_reducible refine Below.alloc ?_ ?_ _) | (with_reducible refine Below.drew ?_) | (with_reducible refine Below.drewN ?_ _) | (with_reducible refine Below.setCell ?_ ?_ _) | (with_reducible refine Below.trans ?_ (Below.mono hV.out ?_)) | go_size | (have i0_ := hV.out.size; (try simp at i0_); (try simp); omega)))) hN); clear hN) | (go_at_call 24; refine (refSmooth_any _ _ _).mono ?_; rintro e w4 ⟨s, rfl, hs, hN⟩; have HS := hidp hs; clear hs; have hV := hidp (btrans (w := w) (by first | with_reducible exact hV.out | (repeat' (first | (with_reducible exact Below.refl _ _) | (with_reducible refine Below.alloc ?_ ?_ _) | (with_reducible refine Below.drew ?_) | (with_reducible refine Below.drewN ?_ _) | (with_reducible refine Below.setCell ?_ ?_ _) | (with_reducible refine Below.trans ?_ (Below.mono hV.out ?_)) | go_size | (have i0_ := hV.out.size; (try simp at i0_); (try simp); omega)))) hN); clear hN) | (go_at_call 20; refine (same_yes (form_isR HR.out HS.out) _).mono ?_; rintro e w5 ⟨rfl, rfl⟩) | (go_at_call 10; refine (awake_any _).mono ?_; rintro e w6 ⟨rfl, hN⟩; have hV := hidp (btrans (w := w) (by first | with_reducible exact hV.out | (repeat' (first | (with_reducible exact Below.refl _ _) | (with_reducible refine Below.alloc ?_ ?_ _) | (with_reducible refine Below.drew ?_) | (with_reducible refine Below.drewN ?_ _) | (with_reducible refine Below.setCell ?_ ?_ _) | (with_reducible refine Below.trans ?_ (Below.mono hV.out ?_)) | go_size | (have i0_ := hV.out.size; (try simp at i0_); (try simp); omega)))) hN); clear hN))
  go_ret
  exact ⟨rfl, hV.out⟩
theorem lawSmooths_w (a b : Int) (w : World) (ha : 0 ≤ a ∧ a ≤ 18446744073709551615) (hb : 0 ≤ b ∧ b ≤ 18446744073709551615) :
    Calls Try.prog 4 #[.int .u64 a, .int .u64 b] w fun e w' => e = .returned (.bool true) ∧ Below w.heap.size w w' :=
  lawSmooths_any a b w (by omega) (by omega)
end Go.Proofs.Ytajklipfdjaejaa
