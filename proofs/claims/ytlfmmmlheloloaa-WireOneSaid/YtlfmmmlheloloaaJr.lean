/-
  The walk of landfalllaw04's WireKnown.
-/
import Derived.Test.YtlfmmmlheloloaaJq
namespace Go.Proofs.Ytlfmmmlheloloaa
open Go.RowKit Go.Lib Go.Maps

theorem r_ne (a : Addr) (w : World) : (binOp .eql 48 (.pointer (some a)) (.pointer none)).run Try.prog w = .ok (.bool false) w := by
  have h : ∀ d : Nat, (Op.equalIn (d + 1) 48 (.pointer (some a)) (.pointer none)).run Try.prog w = .ok false w := fun d => by
    simp [Op.equalIn, run_underlying Try.underlying48]
  simp only [binOp]
  simp [Op.equal, Op.maxDepth, h 9999]
theorem RdX.below {w w' : World} {g t b : Nat} {R : List Nat} {e f : Nat} (H : RdX w g t b R e f) (hB : Below w.heap.size w w') : RdX w' g t b R e f := by
  obtain ⟨p, o, c, h⟩ := H
  exact ⟨p, o, c, h.below hB⟩
theorem RdX.bex {c : Nat} {w w' : World} {g t b : Nat} {R : List Nat} {e f : Nat} (H : RdX w g t b R e f) (hx : Bex c w w') (hg : g ≠ c) (hb : c ≠ b) : RdX w' g t b R e f := by
  obtain ⟨p, o, k, h⟩ := H
  exact ⟨p, o, k, h.bex hx hg (fun _ => hb)⟩
theorem RdX.lt {w : World} {g t b : Nat} {R : List Nat} {e f : Nat} (H : RdX w g t b R e f) (h0 : 0 < R.length) : g < w.heap.size ∧ b < w.heap.size := by
  obtain ⟨p, o, k, h⟩ := H
  exact ⟨h.blk.lt, (h.bs.ptr (by have := h.bs.le; omega)).2⟩
theorem ends_yes {w : World} {g t b : Nat} {R : List Nat} {e f : Nat} (H : RdX w g t b R e f) (x y : Nat) (h : endE e t f R = (x, y))
    (hq : ∀ w', (binOp .eql 55 (.agg #[.int .i64 (x : Nat), .int .i64 (y : Nat)]) (.agg #[.int .i64 (x : Nat), .int .i64 (y : Nat)])).run Try.prog w' = .ok (.bool true) w') :
    Calls Try.prog 42 #[.pointer (some ⟨g, 0, none⟩), .int .i64 (x : Nat), .int .i64 (y : Nat)] w fun e' w' => e' = .returned (.bool true) ∧ Below w.heap.size w w' := by
  obtain ⟨p, o, c, hR⟩ := H
  have q := mEnd_any g t p b o c R e f w hR
  rw [h] at q
  have Q := hidp q
  clear q hR h
  go_enter Try.func42, Try.ntmps42
  go_wp2_with fail
  refine Q.out.mono ?_
  rintro e' w' ⟨rfl, hB⟩
  replace hB := hidp hB
  go_wp2
  go_ret
  exact ⟨rfl, hB.out⟩

theorem fq_5_0 (w : World) : (binOp .eql 55 (.agg #[.int .i64 ((5 : Nat) : Int), .int .i64 ((0 : Nat) : Int)]) (.agg #[.int .i64 ((5 : Nat) : Int), .int .i64 ((0 : Nat) : Int)])).run Try.prog w = .ok (.bool true) w := by kernel_rfl
theorem fq_6_0 (w : World) : (binOp .eql 55 (.agg #[.int .i64 ((6 : Nat) : Int), .int .i64 ((0 : Nat) : Int)]) (.agg #[.int .i64 ((6 : Nat) : Int), .int .i64 ((0 : Nat) : Int)])).run Try.prog w = .ok (.bool true) w := by kernel_rfl
theorem fq_4_2 (w : World) : (binOp .eql 55 (.agg #[.int .i64 ((4 : Nat) : Int), .int .i64 ((2 : Nat) : Int)]) (.agg #[.int .i64 ((4 : Nat) : Int), .int .i64 ((2 : Nat) : Int)])).run Try.prog w = .ok (.bool true) w := by kernel_rfl
theorem fq_4_0 (w : World) : (binOp .eql 55 (.agg #[.int .i64 ((4 : Nat) : Int), .int .i64 ((0 : Nat) : Int)]) (.agg #[.int .i64 ((4 : Nat) : Int), .int .i64 ((0 : Nat) : Int)])).run Try.prog w = .ok (.bool true) w := by kernel_rfl
theorem fq_5_2 (w : World) : (binOp .eql 55 (.agg #[.int .i64 ((5 : Nat) : Int), .int .i64 ((2 : Nat) : Int)]) (.agg #[.int .i64 ((5 : Nat) : Int), .int .i64 ((2 : Nat) : Int)])).run Try.prog w = .ok (.bool true) w := by kernel_rfl

theorem pace_bad : pPace [255, 255, 255, 255, 255, 255, 255, 255] = .er 5 := by
  unfold pPace
  rw [if_neg (by decide), if_neg (by decide +kernel)]
set_option maxRecDepth 100000 in
set_option maxHeartbeats 16000000 in
theorem known_any (w : World) : Calls Try.prog 6 #[] w fun e w' => e = .returned (.bool true) ∧ Below w.heap.size w w' := by
  have q1 := fun a w' => w_ne_nil a w'
  have q2 := fun a w' => r_ne a w'
  go_enter Try.func6, Try.ntmps6
  go_wp2_with fail
  refine (newWriter_any 9 w (by decide)).mono ?_
  rintro e w1 ⟨rfl, hW, hB⟩
  have HW1 := hidp hW
  have hV := hidp hB
  have HN0 := hidp hW.blk.lt
  clear hW hB
  go_wp2_with fail
  refine (newWriter_any 2 w1 (by decide)).mono ?_
  rintro e w2 ⟨rfl, hW, hB⟩
  replace HW1 := hidp (HW1.out.below hB)
  have HW2 := hidp hW
  replace hV := hidp (btrans hV.out hB)
  have HN1 := hidp hW.blk.lt
  clear hW hB

  go_wp2_with fail
  have hnew := (Below.refl _ w2).alloc (Nat.le_refl _) (.cells (bvs [1, 0]).toArray 5)
  have hbs := arr_bs (X := [1, 0]) (by decide) (Blk.new w2 (bvs [1, 0]) 5)
  refine (newReader_some ⟨w2.heap.size, 0, none⟩ 2 [1, 0] _ (ByS.of_bs hbs (fun h => by cases h)) (by decide)).mono ?_
  rintro e w3 ⟨g1, b1, rfl, hg, hb, hR, hB⟩
  have hB2 := btrans hnew hB
  replace HW1 := hidp (HW1.out.below hB2)
  replace HW2 := hidp (HW2.out.below hB2)
  replace hV := hidp (btrans hV.out hB2)
  have HR1 := hidp hR
  have HM1 : Hid (w2.heap.size < g1 ∧ w2.heap.size < b1 ∧ g1 < w3.heap.size ∧ b1 < w3.heap.size) := hidp ⟨by simp at hg; omega, by simp at hb; omega, (hR.lt (by decide)).1, (hR.lt (by decide)).2⟩
  clear hnew hbs hg hb hR hB hB2
  go_wp2_with fail
  have hnew := (Below.refl _ w3).alloc (Nat.le_refl _) (.cells (bvs [9]).toArray 5)
  have hbs := arr_bs (X := [9]) (by decide) (Blk.new w3 (bvs [9]) 5)
  refine (newReader_some ⟨w3.heap.size, 0, none⟩ 1 [9] _ (ByS.of_bs hbs (fun h => by cases h)) (by decide)).mono ?_
  rintro e w4 ⟨g2, b2, rfl, hg, hb, hR, hB⟩
  have hB2 := btrans hnew hB
  replace HW1 := hidp (HW1.out.below hB2)
  replace HW2 := hidp (HW2.out.below hB2)
  replace HR1 := hidp (HR1.out.below hB2)
  replace hV := hidp (btrans hV.out hB2)
  have HR2 := hidp hR
  have HM2 : Hid (w3.heap.size < g2 ∧ w3.heap.size < b2 ∧ g2 < w4.heap.size ∧ b2 < w4.heap.size) := hidp ⟨by simp at hg; omega, by simp at hb; omega, (hR.lt (by decide)).1, (hR.lt (by decide)).2⟩
  clear hnew hbs hg hb hR hB hB2
  go_wp2_with fail
  have hnew := (Below.refl _ w4).alloc (Nat.le_refl _) (.cells (bvs [2, 1]).toArray 5)
  have hbs := arr_bs (X := [2, 1]) (by decide) (Blk.new w4 (bvs [2, 1]) 5)
  refine (newReader_some ⟨w4.heap.size, 0, none⟩ 2 [2, 1] _ (ByS.of_bs hbs (fun h => by cases h)) (by decide)).mono ?_
  rintro e w5 ⟨g3, b3, rfl, hg, hb, hR, hB⟩
  have hB2 := btrans hnew hB
  replace HW1 := hidp (HW1.out.below hB2)
  replace HW2 := hidp (HW2.out.below hB2)
  replace HR1 := hidp (HR1.out.below hB2)
  replace HR2 := hidp (HR2.out.below hB2)
  replace hV := hidp (btrans hV.out hB2)
  have HR3 := hidp hR
  have HM3 : Hid (w4.heap.size < g3 ∧ w4.heap.size < b3 ∧ g3 < w5.heap.size ∧ b3 < w5.heap.size) := hidp ⟨by simp at hg; omega, by simp at hb; omega, (hR.lt (by decide)).1, (hR.lt (by decide)).2⟩
  clear hnew hbs hg hb hR hB hB2
  go_wp2_with fail
  have hnew := (Below.refl _ w5).alloc (Nat.le_refl _) (.cells (bvs [1, 5, 0]).toArray 5)
  have hbs := arr_bs (X := [1, 5, 0]) (by decide) (Blk.new w5 (bvs [1, 5, 0]) 5)
  refine (newReader_some ⟨w5.heap.size, 0, none⟩ 3 [1, 5, 0] _ (ByS.of_bs hbs (fun h => by cases h)) (by decide)).mono ?_
  rintro e w6 ⟨g4, b4, rfl, hg, hb, hR, hB⟩
  have hB2 := btrans hnew hB
  replace HW1 := hidp (HW1.out.below hB2)
  replace HW2 := hidp (HW2.out.below hB2)
  replace HR1 := hidp (HR1.out.below hB2)
  replace HR2 := hidp (HR2.out.below hB2)
  replace HR3 := hidp (HR3.out.below hB2)
  replace hV := hidp (btrans hV.out hB2)
  have HR4 := hidp hR
  have HM4 : Hid (w5.heap.size < g4 ∧ w5.heap.size < b4 ∧ g4 < w6.heap.size ∧ b4 < w6.heap.size) := hidp ⟨by simp at hg; omega, by simp at hb; omega, (hR.lt (by decide)).1, (hR.lt (by decide)).2⟩
  clear hnew hbs hg hb hR hB hB2
  go_wp2_with fail
  have hnew := (Below.refl _ w6).alloc (Nat.le_refl _) (.cells (bvs [1, 3, 97]).toArray 5)
  have hbs := arr_bs (X := [1, 3, 97]) (by decide) (Blk.new w6 (bvs [1, 3, 97]) 5)
  refine (newReader_some ⟨w6.heap.size, 0, none⟩ 3 [1, 3, 97] _ (ByS.of_bs hbs (fun h => by cases h)) (by decide)).mono ?_
  rintro e w7 ⟨g5, b5, rfl, hg, hb, hR, hB⟩
  have hB2 := btrans hnew hB
  replace HW1 := hidp (HW1.out.below hB2)
  replace HW2 := hidp (HW2.out.below hB2)
  replace HR1 := hidp (HR1.out.below hB2)
  replace HR2 := hidp (HR2.out.below hB2)
  replace HR3 := hidp (HR3.out.below hB2)
  replace HR4 := hidp (HR4.out.below hB2)
  replace hV := hidp (btrans hV.out hB2)
  have HR5 := hidp hR
  have HM5 : Hid (w6.heap.size < g5 ∧ w6.heap.size < b5 ∧ g5 < w7.heap.size ∧ b5 < w7.heap.size) := hidp ⟨by simp at hg; omega, by simp at hb; omega, (hR.lt (by decide)).1, (hR.lt (by decide)).2⟩
  clear hnew hbs hg hb hR hB hB2
  go_wp2_with fail
  have hnew := (Below.refl _ w7).alloc (Nat.le_refl _) (.cells (bvs [1, 2, 2]).toArray 5)
  have hbs := arr_bs (X := [1, 2, 2]) (by decide) (Blk.new w7 (bvs [1, 2, 2]) 5)
  refine (newReader_some ⟨w7.heap.size, 0, none⟩ 3 [1, 2, 2] _ (ByS.of_bs hbs (fun h => by cases h)) (by decide)).mono ?_
  rintro e w8 ⟨g6, b6, rfl, hg, hb, hR, hB⟩
  have hB2 := btrans hnew hB
  replace HW1 := hidp (HW1.out.below hB2)
  replace HW2 := hidp (HW2.out.below hB2)
  replace HR1 := hidp (HR1.out.below hB2)
  replace HR2 := hidp (HR2.out.below hB2)
  replace HR3 := hidp (HR3.out.below hB2)
  replace HR4 := hidp (HR4.out.below hB2)
  replace HR5 := hidp (HR5.out.below hB2)
  replace hV := hidp (btrans hV.out hB2)
  have HR6 := hidp hR
  have HM6 : Hid (w7.heap.size < g6 ∧ w7.heap.size < b6 ∧ g6 < w8.heap.size ∧ b6 < w8.heap.size) := hidp ⟨by simp at hg; omega, by simp at hb; omega, (hR.lt (by decide)).1, (hR.lt (by decide)).2⟩
  clear hnew hbs hg hb hR hB hB2
  go_wp2_with fail
  have hnew := (Below.refl _ w8).alloc (Nat.le_refl _) (.cells (bvs [255, 255, 255, 255, 255, 255, 255, 255]).toArray 5)
  have hbs := arr_bs (X := [255, 255, 255, 255, 255, 255, 255, 255]) (by decide) (Blk.new w8 (bvs [255, 255, 255, 255, 255, 255, 255, 255]) 5)
  refine (newReader_some ⟨w8.heap.size, 0, none⟩ 8 [255, 255, 255, 255, 255, 255, 255, 255] _ (ByS.of_bs hbs (fun h => by cases h)) (by decide)).mono ?_
  rintro e w9 ⟨g7, b7, rfl, hg, hb, hR, hB⟩
  have hB2 := btrans hnew hB
  replace HW1 := hidp (HW1.out.below hB2)
  replace HW2 := hidp (HW2.out.below hB2)
  replace HR1 := hidp (HR1.out.below hB2)
  replace HR2 := hidp (HR2.out.below hB2)
  replace HR3 := hidp (HR3.out.below hB2)
  replace HR4 := hidp (HR4.out.below hB2)
  replace HR5 := hidp (HR5.out.below hB2)
  replace HR6 := hidp (HR6.out.below hB2)
  replace hV := hidp (btrans hV.out hB2)
  have HR7 := hidp hR
  have HM7 : Hid (w8.heap.size < g7 ∧ w8.heap.size < b7 ∧ g7 < w9.heap.size ∧ b7 < w9.heap.size) := hidp ⟨by simp at hg; omega, by simp at hb; omega, (hR.lt (by decide)).1, (hR.lt (by decide)).2⟩
  clear hnew hbs hg hb hR hB hB2
  have HN : Hid (w.heap.size < w1.heap.size ∧ w1.heap.size < w2.heap.size ∧ (w2.heap.size < g1 ∧ w2.heap.size < b1 ∧ g1 < w3.heap.size ∧ b1 < w3.heap.size) ∧ (w3.heap.size < g2 ∧ w3.heap.size < b2 ∧ g2 < w4.heap.size ∧ b2 < w4.heap.size) ∧ (w4.heap.size < g3 ∧ w4.heap.size < b3 ∧ g3 < w5.heap.size ∧ b3 < w5.heap.size) ∧ (w5.heap.size < g4 ∧ w5.heap.size < b4 ∧ g4 < w6.heap.size ∧ b4 < w6.heap.size) ∧ (w6.heap.size < g5 ∧ w6.heap.size < b5 ∧ g5 < w7.heap.size ∧ b5 < w7.heap.size) ∧ (w7.heap.size < g6 ∧ w7.heap.size < b6 ∧ g6 < w8.heap.size ∧ b6 < w8.heap.size) ∧ (w8.heap.size < g7 ∧ w8.heap.size < b7 ∧ g7 < w9.heap.size ∧ b7 < w9.heap.size)) := hidp ⟨HN0.out, HN1.out, HM1.out, HM2.out, HM3.out, HM4.out, HM5.out, HM6.out, HM7.out⟩
  clear HN0 HN1 HM1 HM2 HM3 HM4 HM5 HM6 HM7
  go_wp2_with fail
  refine (wNum_neg HW1.out (-1) (by decide)).mono ?_
  rintro e y1 ⟨rfl, hW, hx⟩
  have hsz := hV.out.size
  replace hV := hidp (hV.out.trans (hx.keep (by have := HN.out; omega) hsz))
  clear hsz
  replace HW2 := hidp (HW2.out.bex hx (by have := HN.out; omega) (by intro h; cases h))
  replace HR1 := hidp (HR1.out.bex hx (by have := HN.out; omega) (by have := HN.out; omega))
  replace HR2 := hidp (HR2.out.bex hx (by have := HN.out; omega) (by have := HN.out; omega))
  replace HR3 := hidp (HR3.out.bex hx (by have := HN.out; omega) (by have := HN.out; omega))
  replace HR4 := hidp (HR4.out.bex hx (by have := HN.out; omega) (by have := HN.out; omega))
  replace HR5 := hidp (HR5.out.bex hx (by have := HN.out; omega) (by have := HN.out; omega))
  replace HR6 := hidp (HR6.out.bex hx (by have := HN.out; omega) (by have := HN.out; omega))
  replace HR7 := hidp (HR7.out.bex hx (by have := HN.out; omega) (by have := HN.out; omega))
  replace HW1 := hidp hW
  clear hW hx
  go_wp2_with fail
  refine (wNum_dead HW1.out (by decide) 1).mono ?_
  rintro e y2 ⟨rfl, rfl⟩
  go_wp2_with fail
  refine (wNum_long HW2.out 256 2 (by decide) (by decide) (by decide)).mono ?_
  rintro e y3 ⟨rfl, hW, hx⟩
  have hsz := hV.out.size
  replace hV := hidp (hV.out.trans (hx.keep (by have := HN.out; omega) hsz))
  clear hsz
  replace HW1 := hidp (HW1.out.bex hx (by have := HN.out; omega) (by intro h; cases h))
  replace HR1 := hidp (HR1.out.bex hx (by have := HN.out; omega) (by have := HN.out; omega))
  replace HR2 := hidp (HR2.out.bex hx (by have := HN.out; omega) (by have := HN.out; omega))
  replace HR3 := hidp (HR3.out.bex hx (by have := HN.out; omega) (by have := HN.out; omega))
  replace HR4 := hidp (HR4.out.bex hx (by have := HN.out; omega) (by have := HN.out; omega))
  replace HR5 := hidp (HR5.out.bex hx (by have := HN.out; omega) (by have := HN.out; omega))
  replace HR6 := hidp (HR6.out.bex hx (by have := HN.out; omega) (by have := HN.out; omega))
  replace HR7 := hidp (HR7.out.bex hx (by have := HN.out; omega) (by have := HN.out; omega))
  replace HW2 := hidp hW
  clear hW hx
  go_wp2_with fail
  refine (wNum_dead HW2.out (by decide) 1).mono ?_
  rintro e y4 ⟨rfl, rfl⟩
  clear HW2
  go_wp2_with fail
  refine (wDone_dead HW1.out (by decide)).mono ?_
  rintro e y5 ⟨rfl, rfl⟩
  clear HW1
  go_wp2_with fail
  obtain ⟨p1, o1, c1, hR⟩ := HR1.out
  refine (mNum_er g1 0 p1 b1 o1 c1 [1, 0] 5 _ hR rfl).mono ?_
  rintro e z1 ⟨rfl, hR2, hx⟩
  have hsz := hV.out.size
  replace hV := hidp (hV.out.trans (hx.keep (by have := HN.out; omega) hsz))
  clear hsz
  replace HR2 := hidp (HR2.out.bex hx (by have := HN.out; omega) (by have := HN.out; omega))
  replace HR3 := hidp (HR3.out.bex hx (by have := HN.out; omega) (by have := HN.out; omega))
  replace HR4 := hidp (HR4.out.bex hx (by have := HN.out; omega) (by have := HN.out; omega))
  replace HR5 := hidp (HR5.out.bex hx (by have := HN.out; omega) (by have := HN.out; omega))
  replace HR6 := hidp (HR6.out.bex hx (by have := HN.out; omega) (by have := HN.out; omega))
  replace HR7 := hidp (HR7.out.bex hx (by have := HN.out; omega) (by have := HN.out; omega))
  replace HR1 := hidp hR2
  clear hR hR2 hx
  go_wp2_with fail
  refine (ends_yes HR1.out 5 0 rfl fq_5_0).mono ?_
  rintro e z2 ⟨rfl, hB⟩
  clear HR1
  replace HR2 := hidp (HR2.out.below hB)
  replace HR3 := hidp (HR3.out.below hB)
  replace HR4 := hidp (HR4.out.below hB)
  replace HR5 := hidp (HR5.out.below hB)
  replace HR6 := hidp (HR6.out.below hB)
  replace HR7 := hidp (HR7.out.below hB)
  replace hV := hidp (btrans hV.out hB)
  clear hB

  go_wp2_with fail
  obtain ⟨p3, o3, c3, hR⟩ := HR2.out
  refine (mNum_er g2 0 p3 b2 o3 c3 [9] 5 _ hR rfl).mono ?_
  rintro e z3 ⟨rfl, hR2, hx⟩
  have hsz := hV.out.size
  replace hV := hidp (hV.out.trans (hx.keep (by have := HN.out; omega) hsz))
  clear hsz
  replace HR3 := hidp (HR3.out.bex hx (by have := HN.out; omega) (by have := HN.out; omega))
  replace HR4 := hidp (HR4.out.bex hx (by have := HN.out; omega) (by have := HN.out; omega))
  replace HR5 := hidp (HR5.out.bex hx (by have := HN.out; omega) (by have := HN.out; omega))
  replace HR6 := hidp (HR6.out.bex hx (by have := HN.out; omega) (by have := HN.out; omega))
  replace HR7 := hidp (HR7.out.bex hx (by have := HN.out; omega) (by have := HN.out; omega))
  replace HR2 := hidp hR2
  clear hR hR2 hx
  go_wp2_with fail
  refine (ends_yes HR2.out 5 0 rfl fq_5_0).mono ?_
  rintro e z4 ⟨rfl, hB⟩
  clear HR2
  replace HR3 := hidp (HR3.out.below hB)
  replace HR4 := hidp (HR4.out.below hB)
  replace HR5 := hidp (HR5.out.below hB)
  replace HR6 := hidp (HR6.out.below hB)
  replace HR7 := hidp (HR7.out.below hB)
  replace hV := hidp (btrans hV.out hB)
  clear hB

  go_wp2_with fail
  obtain ⟨p5, o5, c5, hR⟩ := HR3.out
  refine (mNum_er g3 0 p5 b3 o5 c5 [2, 1] 6 _ hR rfl).mono ?_
  rintro e z5 ⟨rfl, hR2, hx⟩
  have hsz := hV.out.size
  replace hV := hidp (hV.out.trans (hx.keep (by have := HN.out; omega) hsz))
  clear hsz
  replace HR4 := hidp (HR4.out.bex hx (by have := HN.out; omega) (by have := HN.out; omega))
  replace HR5 := hidp (HR5.out.bex hx (by have := HN.out; omega) (by have := HN.out; omega))
  replace HR6 := hidp (HR6.out.bex hx (by have := HN.out; omega) (by have := HN.out; omega))
  replace HR7 := hidp (HR7.out.bex hx (by have := HN.out; omega) (by have := HN.out; omega))
  replace HR3 := hidp hR2
  clear hR hR2 hx
  go_wp2_with fail
  refine (ends_yes HR3.out 6 0 rfl fq_6_0).mono ?_
  rintro e z6 ⟨rfl, hB⟩
  clear HR3
  replace HR4 := hidp (HR4.out.below hB)
  replace HR5 := hidp (HR5.out.below hB)
  replace HR6 := hidp (HR6.out.below hB)
  replace HR7 := hidp (HR7.out.below hB)
  replace hV := hidp (btrans hV.out hB)
  clear hB

  go_wp2_with fail
  obtain ⟨p7, o7, c7, hR⟩ := HR4.out
  refine (mNum_ok g4 0 p7 b4 o7 c7 [1, 5, 0] 5 2 _ hR rfl).mono ?_
  rintro e z7 ⟨rfl, hR2, hx⟩
  have hsz := hV.out.size
  replace hV := hidp (hV.out.trans (hx.keep (by have := HN.out; omega) hsz))
  clear hsz
  replace HR5 := hidp (HR5.out.bex hx (by have := HN.out; omega) (by have := HN.out; omega))
  replace HR6 := hidp (HR6.out.bex hx (by have := HN.out; omega) (by have := HN.out; omega))
  replace HR7 := hidp (HR7.out.bex hx (by have := HN.out; omega) (by have := HN.out; omega))
  replace HR4 := hidp (show RdX z7 g4 2 b4 [0] 0 0 from hR2)
  clear hR hR2 hx

  go_wp2_with fail
  obtain ⟨pr, or, cr, hR⟩ := HR4.out
  refine (mRest_any g4 2 pr b4 or cr [0] 0 0 _ hR).mono ?_
  rintro e zr ⟨rfl, rfl⟩
  clear hR
  go_wp2_with fail
  refine (ends_yes HR4.out 4 2 rfl fq_4_2).mono ?_
  rintro e z9 ⟨rfl, hB⟩
  clear HR4
  replace HR5 := hidp (HR5.out.below hB)
  replace HR6 := hidp (HR6.out.below hB)
  replace HR7 := hidp (HR7.out.below hB)
  replace hV := hidp (btrans hV.out hB)
  clear hB

  go_wp2_with fail
  obtain ⟨p10, o10, c10, hR⟩ := HR5.out
  refine (mText_er g5 0 p10 b5 o10 c10 [1, 3, 97] 2 4 _ hR rfl).mono ?_
  rintro e z10 ⟨rfl, hR2, hx⟩
  have hsz := hV.out.size
  replace hV := hidp (hV.out.trans (hx.keep (by have := HN.out; omega) hsz))
  clear hsz
  replace HR6 := hidp (HR6.out.bex hx (by have := HN.out; omega) (by have := HN.out; omega))
  replace HR7 := hidp (HR7.out.bex hx (by have := HN.out; omega) (by have := HN.out; omega))
  replace HR5 := hidp hR2
  clear hR hR2 hx
  go_wp2_with fail
  refine (ends_yes HR5.out 4 0 rfl fq_4_0).mono ?_
  rintro e z11 ⟨rfl, hB⟩
  clear HR5
  replace HR6 := hidp (HR6.out.below hB)
  replace HR7 := hidp (HR7.out.below hB)
  replace hV := hidp (btrans hV.out hB)
  clear hB

  go_wp2_with fail
  obtain ⟨p12, o12, c12, hR⟩ := HR6.out
  refine (mNum_ok g6 0 p12 b6 o12 c12 [1, 2, 2] 2 2 _ hR rfl).mono ?_
  rintro e z12 ⟨rfl, hR2, hx⟩
  have hsz := hV.out.size
  replace hV := hidp (hV.out.trans (hx.keep (by have := HN.out; omega) hsz))
  clear hsz
  replace HR7 := hidp (HR7.out.bex hx (by have := HN.out; omega) (by have := HN.out; omega))
  replace HR6 := hidp (show RdX z12 g6 2 b6 [2] 0 0 from hR2)
  clear hR hR2 hx
  go_wp2_with fail
  obtain ⟨p13, o13, c13, hR⟩ := HR6.out
  refine (mBool_er g6 2 p13 b6 o13 c13 [2] 5 _ hR rfl).mono ?_
  rintro e z13 ⟨rfl, hR2, hx⟩
  have hsz := hV.out.size
  replace hV := hidp (hV.out.trans (hx.keep (by have := HN.out; omega) hsz))
  clear hsz
  replace HR7 := hidp (HR7.out.bex hx (by have := HN.out; omega) (by have := HN.out; omega))
  replace HR6 := hidp hR2
  clear hR hR2 hx
  go_wp2_with fail
  refine (ends_yes HR6.out 5 2 rfl fq_5_2).mono ?_
  rintro e z14 ⟨rfl, hB⟩
  clear HR6
  replace HR7 := hidp (HR7.out.below hB)
  replace hV := hidp (btrans hV.out hB)
  clear hB

  go_wp2_with fail
  refine (awake_any _).mono ?_
  rintro e za ⟨rfl, hB⟩
  replace HR7 := hidp (HR7.out.below hB)
  replace hV := hidp (btrans hV.out hB)
  clear hB

  go_wp2_with fail
  obtain ⟨p15, o15, c15, hR⟩ := HR7.out
  refine (mPace_er g7 0 p15 b7 o15 c15 [255, 255, 255, 255, 255, 255, 255, 255] 5 _ hR pace_bad).mono ?_
  rintro e z15 ⟨rfl, hR2, hx⟩
  have hsz := hV.out.size
  replace hV := hidp (hV.out.trans (hx.keep (by have := HN.out; omega) hsz))
  clear hsz
  replace HR7 := hidp hR2
  clear hR hR2 hx
  go_wp2_with fail
  refine (ends_yes HR7.out 5 0 rfl fq_5_0).mono ?_
  rintro e z16 ⟨rfl, hB⟩
  clear HR7
  replace hV := hidp (btrans hV.out hB)
  clear hB

  go_wp2
  go_ret
  exact ⟨rfl, hV.out⟩
end Go.Proofs.Ytlfmmmlheloloaa
