/-
  Contract: WideKnown.
-/
import Derived.Test.YtbldmenaaedffaaKc
namespace Go.Proofs.Ytbldmenaaedffaa
open Go.RowKit

set_option maxRecDepth 100000 in
set_option maxHeartbeats 4000000 in
theorem known_any (w : World) : Calls Try.prog 6 #[] w fun e w' => e = .returned (.bool true) ∧ Below w.heap.size w w' := by
  go_enter Try.func6, Try.ntmps6
  go_wp2_with fail
  refine (Of_nat 5 _ (by decide)).mono ?_
  rintro e w1 ⟨rfl, h1⟩
  have B1 := hidp h1; clear h1
  go_wp2_with fail
  refine (Of_neg (-1) _ (by decide)).mono ?_
  rintro e w2 ⟨rfl, h2⟩
  have hT : Hid (Sx w w1.heap.size 0 5 w2) := by
    have hb := (Blk.new' w1 [.int .u64 0, .int .u64 5] 24 w1.heap.size rfl).below h2 (by simp)
    have hx := B1.out
    refine hidp ⟨?_, hb.lt, hb.cell 0, hb.cell 1⟩
    exact btrans (hx.alloc hx.size _) h2
  clear h2 B1
  go_wp2_with fail
  have hT := allocS (o := .cells #[.int .u64 0, .int .u64 0] 24) hT
  go_region_held3 (fun w' => Below w.heap.size w w' ∧ w1.heap.size < w'.heap.size ∧ w'.cell? ⟨w1.heap.size, 0, none⟩ = some (.int .u64 0) ∧ w'.cell? ⟨w1.heap.size, 1, none⟩ = some (.int .u64 5))
    (first | (with_reducible exact Hid.out (p := Sx w w1.heap.size 0 5 _) (by with_reducible assumption)) | exact Hid.out (p := Sx w w1.heap.size 0 5 _) (by with_reducible assumption) | exact Hid.out (p := Sx w w1.heap.size 0 5 _) (drewS (by with_reducible assumption)))
    (first
     | (go_at_call 31; refine (low_any _ _).mono ?_; rintro e wN ⟨rfl, hN⟩; have hT := stepS (by first | with_reducible assumption | exact drewS (by with_reducible assumption)) hN; clear hN)
     | (go_at_call 33; refine (most_any _).mono ?_; rintro e wN ⟨rfl, hN⟩; have hT := stepS (by first | with_reducible assumption | exact drewS (by with_reducible assumption)) hN; clear hN)
     | (go_at_call 35; refine (high_any _ _).mono ?_; rintro e wN ⟨rfl, hN⟩; have hT := stepS (by first | with_reducible assumption | exact drewS (by with_reducible assumption)) hN; clear hN)
     | (go_at_call 32; with_reducible refine (kp1 _).mono ?_; rintro e wN ⟨rfl, hN⟩; have hT := stepS (by first | with_reducible assumption | exact drewS (by with_reducible assumption)) hN; clear hN)
     | (go_at_call 34; with_reducible refine (kt1 _).mono ?_; rintro e wN ⟨rfl, hN⟩; have hT := stepS (by first | with_reducible assumption | exact drewS (by with_reducible assumption)) hN; clear hN)
     | (go_at_call 34; with_reducible refine (kt2 _).mono ?_; rintro e wN ⟨rfl, hN⟩; have hT := stepS (by first | with_reducible assumption | exact drewS (by with_reducible assumption)) hN; clear hN)
     | (go_at_call 34; with_reducible refine (kt3 _).mono ?_; rintro e wN ⟨rfl, hN⟩; have hT := stepS (by first | with_reducible assumption | exact drewS (by with_reducible assumption)) hN; clear hN))
  go_wp2_with fail
  have k1 := hidp (ks1 wN)
  refine k1.out.mono ?_
  rintro e w3 ⟨rfl, h3⟩
  have hT := stepS (allocS (o := .cells #[.int .i64 4611686018427387904, .int .i64 4611686018427387904, .int .i64 4611686018427387904, .int .i64 4611686018427387904] 3) hT) h3
  clear h3 k1
  go_wp2_with fail
  have k2 := ks2 (w3.alloc (.cells #[.int .u64 1, .int .u64 0] 24))
  rw [show (w3.alloc (.cells #[.int .u64 1, .int .u64 0] 24)).heap.size = w3.heap.size + 1 by simp] at k2
  have K2 := hidp k2; clear k2
  refine K2.out.mono ?_
  rintro e w4 ⟨rfl, h4⟩
  have hU : Hid (Sx w w3.heap.size 1 0 w4) := by
    have hb := ((Blk.new' w3 [.int .u64 1, .int .u64 0] 24 w3.heap.size rfl).alloc (.cells #[.int .i64 1, .int .i64 (-1)] 3)).below h4 (by simp; omega)
    have hx := hT.out.1
    refine hidp ⟨?_, hb.lt, hb.cell 0, hb.cell 1⟩
    exact btrans (btrans hx (((Below.refl w3.heap.size w3).alloc (Nat.le_refl _) _).alloc (by simp) _)) h4
  clear h4 K2 hT
  go_wp2_with fail
  have hU := allocS (o := .cells #[.int .u64 0, .int .u64 0] 24) hU
  go_region_held3 (fun w' => Below w.heap.size w w' ∧ w3.heap.size < w'.heap.size ∧ w'.cell? ⟨w3.heap.size, 0, none⟩ = some (.int .u64 1) ∧ w'.cell? ⟨w3.heap.size, 1, none⟩ = some (.int .u64 0))
    (first | (with_reducible exact Hid.out (p := Sx w w3.heap.size 1 0 _) (by with_reducible assumption)) | exact Hid.out (p := Sx w w3.heap.size 1 0 _) (by with_reducible assumption) | exact Hid.out (p := Sx w w3.heap.size 1 0 _) (drewS (by with_reducible assumption)))
    (first
     | (go_at_call 31; refine (low_any _ _).mono ?_; rintro e wN ⟨rfl, hN⟩; have hU := stepS (by first | with_reducible assumption | exact drewS (by with_reducible assumption)) hN; clear hN)
     | (go_at_call 35; refine (high_any _ _).mono ?_; rintro e wN ⟨rfl, hN⟩; have hU := stepS (by first | with_reducible assumption | exact drewS (by with_reducible assumption)) hN; clear hN)
     | (go_at_call 22; with_reducible refine (kc1 _).mono ?_; rintro e wN ⟨rfl, hN⟩; have hU := stepS (by first | with_reducible assumption | exact drewS (by with_reducible assumption)) hN; clear hN)
     | (go_at_call 22; with_reducible refine (kc2 _).mono ?_; rintro e wN ⟨rfl, hN⟩; have hU := stepS (by first | with_reducible assumption | exact drewS (by with_reducible assumption)) hN; clear hN))
  have hV := hidp hU.out.1
  clear hU
  go_wp2_with (first
     | (go_at_call 31; refine (low_any _ _).mono ?_; rintro e wN ⟨rfl, hN⟩; have hV := hidp (btrans (by first | with_reducible exact hV.out | (repeat' (first | (with_reducible exact Below.refl _ _) | (with_reducible refine Below.alloc ?_ ?_ _) | (with_reducible refine Below.drew ?_) | (with_reducible refine Below.drewN ?_ _) | (with_reducible refine Below.setCell ?_ ?_ _) | (with_reducible refine Below.trans ?_ (Below.mono hV.out ?_)) | go_size | (have i0_ := hV.out.size; (try simp at i0_); (try simp); omega)))) hN); clear hN)
     | (go_at_call 33; refine (most_any _).mono ?_; rintro e wN ⟨rfl, hN⟩; have hV := hidp (btrans (by first | with_reducible exact hV.out | (repeat' (first | (with_reducible exact Below.refl _ _) | (with_reducible refine Below.alloc ?_ ?_ _) | (with_reducible refine Below.drew ?_) | (with_reducible refine Below.drewN ?_ _) | (with_reducible refine Below.setCell ?_ ?_ _) | (with_reducible refine Below.trans ?_ (Below.mono hV.out ?_)) | go_size | (have i0_ := hV.out.size; (try simp at i0_); (try simp); omega)))) hN); clear hN)
     | (go_at_call 35; refine (high_any _ _).mono ?_; rintro e wN ⟨rfl, hN⟩; have hV := hidp (btrans (by first | with_reducible exact hV.out | (repeat' (first | (with_reducible exact Below.refl _ _) | (with_reducible refine Below.alloc ?_ ?_ _) | (with_reducible refine Below.drew ?_) | (with_reducible refine Below.drewN ?_ _) | (with_reducible refine Below.setCell ?_ ?_ _) | (with_reducible refine Below.trans ?_ (Below.mono hV.out ?_)) | go_size | (have i0_ := hV.out.size; (try simp at i0_); (try simp); omega)))) hN); clear hN)
     | (go_at_call 25; with_reducible refine (km0 _).mono ?_; rintro e wN ⟨rfl, hN⟩; have hV := hidp (btrans (by first | with_reducible exact hV.out | (repeat' (first | (with_reducible exact Below.refl _ _) | (with_reducible refine Below.alloc ?_ ?_ _) | (with_reducible refine Below.drew ?_) | (with_reducible refine Below.drewN ?_ _) | (with_reducible refine Below.setCell ?_ ?_ _) | (with_reducible refine Below.trans ?_ (Below.mono hV.out ?_)) | go_size | (have i0_ := hV.out.size; (try simp at i0_); (try simp); omega)))) hN); clear hN)
     | (go_at_call 36; with_reducible refine (km1 _).mono ?_; rintro e wN ⟨rfl, hN⟩; have hV := hidp (btrans (by first | with_reducible exact hV.out | (repeat' (first | (with_reducible exact Below.refl _ _) | (with_reducible refine Below.alloc ?_ ?_ _) | (with_reducible refine Below.drew ?_) | (with_reducible refine Below.drewN ?_ _) | (with_reducible refine Below.setCell ?_ ?_ _) | (with_reducible refine Below.trans ?_ (Below.mono hV.out ?_)) | go_size | (have i0_ := hV.out.size; (try simp at i0_); (try simp); omega)))) hN); clear hN)
     | (go_at_call 36; with_reducible refine (km2 _).mono ?_; rintro e wN ⟨rfl, hN⟩; have hV := hidp (btrans (by first | with_reducible exact hV.out | (repeat' (first | (with_reducible exact Below.refl _ _) | (with_reducible refine Below.alloc ?_ ?_ _) | (with_reducible refine Below.drew ?_) | (with_reducible refine Below.drewN ?_ _) | (with_reducible refine Below.setCell ?_ ?_ _) | (with_reducible refine Below.trans ?_ (Below.mono hV.out ?_)) | go_size | (have i0_ := hV.out.size; (try simp at i0_); (try simp); omega)))) hN); clear hN)
     | (go_at_call 36; with_reducible refine (km3 _).mono ?_; rintro e wN ⟨rfl, hN⟩; have hV := hidp (btrans (by first | with_reducible exact hV.out | (repeat' (first | (with_reducible exact Below.refl _ _) | (with_reducible refine Below.alloc ?_ ?_ _) | (with_reducible refine Below.drew ?_) | (with_reducible refine Below.drewN ?_ _) | (with_reducible refine Below.setCell ?_ ?_ _) | (with_reducible refine Below.trans ?_ (Below.mono hV.out ?_)) | go_size | (have i0_ := hV.out.size; (try simp at i0_); (try simp); omega)))) hN); clear hN)
     | (go_at_call 10; refine (awake_any _).mono ?_; rintro e wN ⟨rfl, hN⟩; have hV := hidp (btrans (by first | with_reducible exact hV.out | (repeat' (first | (with_reducible exact Below.refl _ _) | (with_reducible refine Below.alloc ?_ ?_ _) | (with_reducible refine Below.drew ?_) | (with_reducible refine Below.drewN ?_ _) | (with_reducible refine Below.setCell ?_ ?_ _) | (with_reducible refine Below.trans ?_ (Below.mono hV.out ?_)) | go_size | (have i0_ := hV.out.size; (try simp at i0_); (try simp); omega)))) hN); clear hN)
     | (go_at_call 29; with_reducible refine (ktx _).mono ?_; rintro e wN ⟨rfl, hN⟩; have hV := hidp (btrans (by first | with_reducible exact hV.out | (repeat' (first | (with_reducible exact Below.refl _ _) | (with_reducible refine Below.alloc ?_ ?_ _) | (with_reducible refine Below.drew ?_) | (with_reducible refine Below.drewN ?_ _) | (with_reducible refine Below.setCell ?_ ?_ _) | (with_reducible refine Below.trans ?_ (Below.mono hV.out ?_)) | go_size | (have i0_ := hV.out.size; (try simp at i0_); (try simp); omega)))) hN); clear hN)
     | (go_at_call 37; with_reducible refine (kr1 _).mono ?_; rintro e wN ⟨rfl, hN⟩; have hV := hidp (btrans (by first | with_reducible exact hV.out | (repeat' (first | (with_reducible exact Below.refl _ _) | (with_reducible refine Below.alloc ?_ ?_ _) | (with_reducible refine Below.drew ?_) | (with_reducible refine Below.drewN ?_ _) | (with_reducible refine Below.setCell ?_ ?_ _) | (with_reducible refine Below.trans ?_ (Below.mono hV.out ?_)) | go_size | (have i0_ := hV.out.size; (try simp at i0_); (try simp); omega)))) hN); clear hN)
     | (go_at_call 37; with_reducible refine (kr2 _).mono ?_; rintro e wN ⟨rfl, hN⟩; have hV := hidp (btrans (by first | with_reducible exact hV.out | (repeat' (first | (with_reducible exact Below.refl _ _) | (with_reducible refine Below.alloc ?_ ?_ _) | (with_reducible refine Below.drew ?_) | (with_reducible refine Below.drewN ?_ _) | (with_reducible refine Below.setCell ?_ ?_ _) | (with_reducible refine Below.trans ?_ (Below.mono hV.out ?_)) | go_size | (have i0_ := hV.out.size; (try simp at i0_); (try simp); omega)))) hN); clear hN)
     | (go_at_call 37; with_reducible refine (kr3 _).mono ?_; rintro e wN ⟨rfl, hN⟩; have hV := hidp (btrans (by first | with_reducible exact hV.out | (repeat' (first | (with_reducible exact Below.refl _ _) | (with_reducible refine Below.alloc ?_ ?_ _) | (with_reducible refine Below.drew ?_) | (with_reducible refine Below.drewN ?_ _) | (with_reducible refine Below.setCell ?_ ?_ _) | (with_reducible refine Below.trans ?_ (Below.mono hV.out ?_)) | go_size | (have i0_ := hV.out.size; (try simp at i0_); (try simp); omega)))) hN); clear hN)
     | (go_at_call 37; with_reducible refine (kr4 _).mono ?_; rintro e wN ⟨rfl, hN⟩; have hV := hidp (btrans (by first | with_reducible exact hV.out | (repeat' (first | (with_reducible exact Below.refl _ _) | (with_reducible refine Below.alloc ?_ ?_ _) | (with_reducible refine Below.drew ?_) | (with_reducible refine Below.drewN ?_ _) | (with_reducible refine Below.setCell ?_ ?_ _) | (with_reducible refine Below.trans ?_ (Below.mono hV.out ?_)) | go_size | (have i0_ := hV.out.size; (try simp at i0_); (try simp); omega)))) hN); clear hN))
  go_ret
  exact ⟨rfl, by first | exact hV.out | (repeat' (first | (with_reducible exact Below.refl _ _) | (with_reducible refine Below.alloc ?_ ?_ _) | (with_reducible refine Below.drew ?_) | (with_reducible refine Below.drewN ?_ _) | (with_reducible refine Below.setCell ?_ ?_ _) | (with_reducible refine Below.trans ?_ (Below.mono hV.out ?_)) | go_size | (have i0_ := hV.out.size; (try simp at i0_); (try simp); omega)))⟩
end Go.Proofs.Ytbldmenaaedffaa
