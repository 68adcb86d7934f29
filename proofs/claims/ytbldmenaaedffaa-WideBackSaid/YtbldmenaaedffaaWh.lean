/-
  Contracts: landfallref01's added, product.
-/
import Derived.Test.YtbldmenaaedffaaWg
import Derived.Deep.RegionWith
namespace Go.Proofs.Ytbldmenaaedffaa
open Go.RowKit

/-- The sum of two words and a carry: the word, the carry. -/
def pm (x y c : Nat) : Nat := (x + y + c) % B64
def pc (x y c : Nat) : Nat := (x + y + c) / B64
theorem pc_le {x y c : Nat} (hx : x < B64) (hy : y < B64) (hc : c ≤ 1) : pc x y c ≤ 1 := by unfold pc B64 at *; omega
theorem refplus_pm (x y c : Nat) (hx : x < B64) (hy : y < B64) (hc : c ≤ 1) (w : World) :
    Calls Try.prog 39 #[.int .u64 x, .int .u64 y, .int .u64 c] w fun e w' => e = .returned (.tuple #[.int .u64 (pm x y c), .int .u64 (pc x y c)]) ∧ w = w' :=
  refplus_any x y c hx hy hc w
theorem refplus_pm0 (x y : Nat) (hx : x < B64) (hy : y < B64) (w : World) :
    Calls Try.prog 39 #[.int .u64 x, .int .u64 y, .int .u64 0] w fun e w' => e = .returned (.tuple #[.int .u64 (pm x y 0), .int .u64 (pc x y 0)]) ∧ w = w' :=
  refplus_any x y 0 hx hy (by omega) w
def c1 (x y : Nat) : Nat := pc (wd0 x) (wd0 y) 0
def c2 (x y : Nat) : Nat := pc (wd1 x) (wd1 y) (c1 x y)
def c3 (x y : Nat) : Nat := pc (wd2 x) (wd2 y) (c2 x y)
def z0 (x y : Nat) : Nat := pm (wd0 x) (wd0 y) 0
def z1 (x y : Nat) : Nat := pm (wd1 x) (wd1 y) (c1 x y)
def z2 (x y : Nat) : Nat := pm (wd2 x) (wd2 y) (c2 x y)
theorem sum3 {x y : Nat} (hx : x < W192) (hy : y < W192) : num3 (z0 x y) (z1 x y) (z2 x y) = (x + y) % W192 := by
  have h1 := num3_wd x; have h2 := num3_wd y
  have a0 := wd0_lt x; have b0 := wd0_lt y; have a1 := wd1_lt x; have b1 := wd1_lt y; have a2 := wd2_lt hx; have b2 := wd2_lt hy
  simp only [z0, z1, z2, c1, c2, num3, pm, pc] at *
  unfold B64 W192 at *
  generalize wd0 x = x0 at *; generalize wd1 x = x1 at *; generalize wd2 x = x2 at *
  generalize wd0 y = y0 at *; generalize wd1 y = y1 at *; generalize wd2 y = y2 at *
  omega
theorem z0_lt (x y : Nat) : z0 x y < B64 := Nat.mod_lt _ (by decide)
theorem z1_lt (x y : Nat) : z1 x y < B64 := Nat.mod_lt _ (by decide)
theorem z0_eq {x y : Nat} (hx : x < W192) (hy : y < W192) : z0 x y = wd0 ((x + y) % W192) := by
  rw [← sum3 hx hy, wd0_num3 (z0_lt x y)]
theorem z1_eq {x y : Nat} (hx : x < W192) (hy : y < W192) : z1 x y = wd1 ((x + y) % W192) := by
  rw [← sum3 hx hy, wd1_num3 (z0_lt x y) (z1_lt x y)]
theorem z2_eq {x y : Nat} (hx : x < W192) (hy : y < W192) : z2 x y = wd2 ((x + y) % W192) := by
  rw [← sum3 hx hy, wd2_num3 (z0_lt x y) (z1_lt x y)]
theorem plus_still {x y c : Nat} (hx : x < B64) (hy : y < B64) (hc : c ≤ 1) (w : World) :
    Calls Try.prog 39 #[.int .u64 x, .int .u64 y, .int .u64 c] w fun e w' => e = .returned (.tuple #[.int .u64 (pm x y c), .int .u64 (pc x y c)]) ∧ w' = w :=
  (refplus_pm x y c hx hy hc w).mono fun _ _ ⟨h, k⟩ => ⟨h, k.symm⟩
theorem plus_still0 {x y : Nat} (hx : x < B64) (hy : y < B64) (w : World) :
    Calls Try.prog 39 #[.int .u64 x, .int .u64 y, .int .u64 0] w fun e w' => e = .returned (.tuple #[.int .u64 (pm x y 0), .int .u64 (pc x y 0)]) ∧ w' = w :=
  (refplus_pm0 x y hx hy w).mono fun _ _ ⟨h, k⟩ => ⟨h, k.symm⟩
theorem c1_le (x y : Nat) : c1 x y ≤ 1 := pc_le (wd0_lt x) (wd0_lt y) (by omega)
theorem c2_le (x y : Nat) : c2 x y ≤ 1 := pc_le (wd1_lt x) (wd1_lt y) (c1_le x y)
/-- What added has written, and carries, ahead of place k. -/
def outk (x y : Nat) : Nat → List Value
  | 0 => xcs 0 0 0
  | 1 => xcs (z0 x y) 0 0
  | 2 => xcs (z0 x y) (z1 x y) 0
  | _ => xcs (z0 x y) (z1 x y) (z2 x y)
def carryk (x y : Nat) : Nat → Nat
  | 0 => 0
  | 1 => c1 x y
  | 2 => c2 x y
  | _ => c3 x y

set_option maxHeartbeats 1000000 in
theorem added_any (x y : Nat) (hx : x < W192) (hy : y < W192) (w : World) :
    Calls Try.prog 56 #[.agg (pcs x).toArray, .agg (pcs y).toArray] w fun e w' => e = .returned (.agg (pcs ((x + y) % W192)).toArray) ∧ Below w.heap.size w w' := by
  have HX := hidp hx; have HY := hidp hy; clear hx hy
  go_enter Try.func56, Try.ntmps56
  go_wp2
  go_loopw [6, 7] (fun c i wr => ∃ k : Nat, ∃ ki ci : Int, k ≤ 3 ∧ ki = k ∧ i = .int .i64 ki ∧ Hid (ci = (carryk x y k : Nat)) ∧ c = .int .u64 ci ∧ Hid (Blk wr (w.heap.size + 3) (outk x y k) 58 ∧ Blk wr w.heap.size (pcs x) 58 ∧ Blk wr (w.heap.size + 1) (pcs y) 58 ∧ Blk wr (w.heap.size + 2) (xcs 0 0 0) 58 ∧ Below w.heap.size w wr)) (fun _ i _ => 3 - (intOf i).toNat)
  case atStart =>
    refine ⟨0, 0, 0, by omega, rfl, rfl, rfl, rfl, ?_, ?_, ?_, ?_, by (repeat' (first | (with_reducible exact Below.refl _ _) | (with_reducible refine Below.alloc ?_ ?_ _) | (with_reducible refine Below.drew ?_) | (with_reducible refine Below.drewN ?_ _) | (with_reducible refine Below.setCell ?_ ?_ _) | go_size))⟩
    · exact Blk.new' _ (xcs 0 0 0) _ _ (by simp)
    · exact (((Blk.new' _ (pcs x) _ _ (by simp)).alloc _).alloc _).alloc _
    · exact ((Blk.new' _ (pcs y) _ _ (by simp)).alloc _).alloc _
    · exact (Blk.new' _ (xcs 0 0 0) _ _ (by simp)).alloc _
  case round =>
    obtain ⟨k, ki, ci, hk, hki, rfl, hci, rfl, hr⟩ := hrel
    have o := hr.out.1.cell k
    have f := hr.out.1.free k
    have a := hr.out.2.1.cell k
    have b := hr.out.2.2.1.cell k
    have hkk : k = 0 ∨ k = 1 ∨ k = 2 ∨ k = 3 := by omega
    rcases hkk with rfl | rfl | rfl | rfl
    · obtain rfl : ki = 0 := by omega
      obtain rfl : ci = 0 := hci.out
      clear hki hci
      simp only [outk, List.getElem?_cons_zero] at o a b
      go_wp2
      go_region_with (go_at_call 39; refine (refplus_pm0 _ _ (wd0_lt x) (wd0_lt y) _).mono ?_; rintro e w' ⟨rfl, rfl⟩)
      all_goals go_wp2
      all_goals go_roundw
      all_goals first | (case rel =>
        obtain ⟨hb, h1, h2, h3, h4⟩ := hr.out
        exact ⟨1, 1, _, by omega, rfl, rfl, rfl, rfl, hb.drew.set 0 _, h1.drew.other _ _ (by simp; omega), h2.drew.other _ _ (by simp), h3.drew.other _ _ (by simp), by (repeat' (first | (with_reducible exact h4) | (with_reducible exact Below.refl _ _) | (with_reducible refine Below.alloc ?_ ?_ _) | (with_reducible refine Below.drew ?_) | (with_reducible refine Below.drewN ?_ _) | (with_reducible refine Below.setCell ?_ ?_ _) | go_size))⟩) | (simp [intOf])
    · obtain rfl : ki = 1 := by omega
      obtain rfl : ci = (c1 x y : Nat) := hci.out
      clear hki hci
      simp only [outk, List.getElem?_cons_zero, List.getElem?_cons_succ] at o a b
      go_wp2
      go_region_with (go_at_call 39; refine (refplus_pm _ _ _ (wd1_lt x) (wd1_lt y) (c1_le x y) _).mono ?_; rintro e w' ⟨rfl, rfl⟩)
      all_goals go_wp2
      all_goals go_roundw
      all_goals first | (case rel =>
        obtain ⟨hb, h1, h2, h3, h4⟩ := hr.out
        exact ⟨2, 2, _, by omega, rfl, rfl, rfl, rfl, hb.drew.set 1 _, h1.drew.other _ _ (by simp; omega), h2.drew.other _ _ (by simp), h3.drew.other _ _ (by simp), by (repeat' (first | (with_reducible exact h4) | (with_reducible exact Below.refl _ _) | (with_reducible refine Below.alloc ?_ ?_ _) | (with_reducible refine Below.drew ?_) | (with_reducible refine Below.drewN ?_ _) | (with_reducible refine Below.setCell ?_ ?_ _) | go_size))⟩) | (simp [intOf])
    · obtain rfl : ki = 2 := by omega
      obtain rfl : ci = (c2 x y : Nat) := hci.out
      clear hki hci
      simp only [outk, List.getElem?_cons_zero, List.getElem?_cons_succ] at o a b
      go_wp2
      go_region_with (go_at_call 39; refine (refplus_pm _ _ _ (wd2_lt HX.out) (wd2_lt HY.out) (c2_le x y) _).mono ?_; rintro e w' ⟨rfl, rfl⟩)
      all_goals go_wp2
      all_goals go_roundw
      all_goals first | (case rel =>
        obtain ⟨hb, h1, h2, h3, h4⟩ := hr.out
        exact ⟨3, 3, _, by omega, rfl, rfl, rfl, rfl, hb.drew.set 2 _, h1.drew.other _ _ (by simp; omega), h2.drew.other _ _ (by simp), h3.drew.other _ _ (by simp), by (repeat' (first | (with_reducible exact h4) | (with_reducible exact Below.refl _ _) | (with_reducible refine Below.alloc ?_ ?_ _) | (with_reducible refine Below.drew ?_) | (with_reducible refine Below.drewN ?_ _) | (with_reducible refine Below.setCell ?_ ?_ _) | go_size))⟩) | (simp [intOf])
    · obtain rfl : ki = 3 := by omega
      clear hki hci o f a b
      obtain ⟨hb, h1, h2, h3, hB⟩ := hr.out
      have r0 := hb.cell 0
      have r1 := hb.cell 1
      have r2 := hb.cell 2
      have y0 := h3.cell 0
      have y1 := h3.cell 1
      have y2 := h3.cell 2
      have f0 := h3.free 0
      have f1 := h3.free 1
      have f2 := h3.free 2
      simp only [outk, List.getElem?_cons_zero, List.getElem?_cons_succ, z0_eq HX.out HY.out, z1_eq HX.out HY.out, z2_eq HX.out HY.out] at r0 r1 r2 y0 y1 y2
      have HB := hidp hB; clear hB h1 h2 h3 hb
      go_wp2
      exact bodyPost_ret (v := .agg (pcs ((x + y) % W192)).toArray) (by simp [results, Try.results56, go_sem, y0, y1, y2]) rfl ⟨rfl, by (repeat' (first | (with_reducible exact HB.out) | (with_reducible exact Below.refl _ _) | (with_reducible refine Below.alloc ?_ ?_ _) | (with_reducible refine Below.drew ?_) | (with_reducible refine Below.drewN ?_ _) | (with_reducible refine Below.setCell ?_ ?_ _) | go_size))⟩
end Go.Proofs.Ytbldmenaaedffaa
