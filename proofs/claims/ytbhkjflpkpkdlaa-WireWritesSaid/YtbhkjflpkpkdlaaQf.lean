/-
  Texts Jr, Js, Jt, Jy, Ju, one behind the other.
-/
import Derived.Test.YtbhkjflpkpkdlaaQe

/-! Jr: The walk of landfalllaw04's WireKnown. -/
namespace Go.Proofs.Ytbhkjflpkpkdlaa
open Go.RowKit Go.Lib Go.Maps

theorem r_ne (a : Addr) (w : World) : (binOp .eql 48 (.pointer (some a)) (.pointer none)).run Try.prog w = .ok (.bool false) w := by
  have h : ∀ d : Nat, (Op.equalIn (d + 1) 48 (.pointer (some a)) (.pointer none)).run Try.prog w = .ok false w := fun d => by
    simp [Op.equalIn, run_underlying Try.underlying48]
  simp only [binOp]
  simp [Op.equal, Op.maxDepth, h 9999]
theorem RdX.below {w w' : World} {g t b : Nat} {R : List Nat} {e f : Nat} (H : RdX w g t b R e f) (hB : Below w.heap.size w w') : RdX w' g t b R e f := by
  obtain ⟨p, o, c, h⟩ := H
  exact ⟨p, o, c, h.below hB⟩
theorem RdX.bex {c : Nat} {w w' : World} {g t b : Nat} {R : List Nat} {e f : Nat} (H : RdX w g t b R e f) (hx : Bex c w w') (hg : g ≠ c) (hb : c ≠ b) : RdX w' g t b R e f := by
  obtain ⟨p, o, k, h⟩ := H
  exact ⟨p, o, k, h.bex hx hg (fun _ => hb)⟩
theorem RdX.lt {w : World} {g t b : Nat} {R : List Nat} {e f : Nat} (H : RdX w g t b R e f) (h0 : 0 < R.length) : g < w.heap.size ∧ b < w.heap.size := by
  obtain ⟨p, o, k, h⟩ := H
  exact ⟨h.blk.lt, (h.bs.ptr (by have := h.bs.le; omega)).2⟩
theorem ends_yes {w : World} {g t b : Nat} {R : List Nat} {e f : Nat} (H : RdX w g t b R e f) (x y : Nat) (h : endE e t f R = (x, y))
    (hq : ∀ w', (binOp .eql 55 (.agg #[.int .i64 (x : Nat), .int .i64 (y : Nat)]) (.agg #[.int .i64 (x : Nat), .int .i64 (y : Nat)])).run Try.prog w' = .ok (.bool true) w') :
    Calls Try.prog 100 #[.pointer (some ⟨g, 0, none⟩), .int .i64 (x : Nat), .int .i64 (y : Nat)] w fun e' w' => e' = .returned (.bool true) ∧ Below w.heap.size w w' := by
  obtain ⟨p, o, c, hR⟩ := H
  have q := mEnd_any g t p b o c R e f w hR
  rw [h] at q
  have Q := hidp q
  clear q hR h
  go_enter Try.func100, Try.ntmps100
  go_wp2_with fail
  refine Q.out.mono ?_
  rintro e' w' ⟨rfl, hB⟩
  replace hB := hidp hB
  go_wp2
  go_ret
  exact ⟨rfl, hB.out⟩

theorem fq_5_0 (w : World) : (binOp .eql 55 (.agg #[.int .i64 ((5 : Nat) : Int), .int .i64 ((0 : Nat) : Int)]) (.agg #[.int .i64 ((5 : Nat) : Int), .int .i64 ((0 : Nat) : Int)])).run Try.prog w = .ok (.bool true) w := by kernel_rfl
theorem fq_6_0 (w : World) : (binOp .eql 55 (.agg #[.int .i64 ((6 : Nat) : Int), .int .i64 ((0 : Nat) : Int)]) (.agg #[.int .i64 ((6 : Nat) : Int), .int .i64 ((0 : Nat) : Int)])).run Try.prog w = .ok (.bool true) w := by kernel_rfl
theorem fq_4_2 (w : World) : (binOp .eql 55 (.agg #[.int .i64 ((4 : Nat) : Int), .int .i64 ((2 : Nat) : Int)]) (.agg #[.int .i64 ((4 : Nat) : Int), .int .i64 ((2 : Nat) : Int)])).run Try.prog w = .ok (.bool true) w := by kernel_rfl
theorem fq_4_0 (w : World) : (binOp .eql 55 (.agg #[.int .i64 ((4 : Nat) : Int), .int .i64 ((0 : Nat) : Int)]) (.agg #[.int .i64 ((4 : Nat) : Int), .int .i64 ((0 : Nat) : Int)])).run Try.prog w = .ok (.bool true) w := by kernel_rfl
theorem fq_5_2 (w : World) : (binOp .eql 55 (.agg #[.int .i64 ((5 : Nat) : Int), .int .i64 ((2 : Nat) : Int)]) (.agg #[.int .i64 ((5 : Nat) : Int), .int .i64 ((2 : Nat) : Int)])).run Try.prog w = .ok (.bool true) w := by kernel_rfl

theorem pace_bad : pPace [255, 255, 255, 255, 255, 255, 255, 255] = .er 5 := by
  unfold pPace
  rw [if_neg (by decide), if_neg (by decide +kernel)]
set_option maxRecDepth 100000 in
set_option maxHeartbeats 16000000 in
theorem known_any (w : World) : Calls Try.prog 29 #[] w fun e w' => e = .returned (.bool true) ∧ Below w.heap.size w w' := by
  have q1 := fun a w' => w_ne_nil a w'
  have q2 := fun a w' => r_ne a w'
  go_enter Try.func29, Try.ntmps29
  go_wp2_with fail
  refine (newWriter_any 9 w (by decide)).mono ?_
  rintro e w1 ⟨rfl, hW, hB⟩
  have HW1 := hidp hW
  have hV := hidp hB
  have HN0 := hidp hW.blk.lt
  clear hW hB
  go_wp2_with fail
  refine (newWriter_any 2 w1 (by decide)).mono ?_
  rintro e w2 ⟨rfl, hW, hB⟩
  replace HW1 := hidp (HW1.out.below hB)
  have HW2 := hidp hW
  replace hV := hidp (btrans hV.out hB)
  have HN1 := hidp hW.blk.lt
  clear hW hB

  go_wp2_with fail
  have hnew := (Below.refl _ w2).alloc (Nat.le_refl _) (.cells (bvs [1, 0]).toArray 5)
  have hbs := arr_bs (X := [1, 0]) (by decide) (Blk.new w2 (bvs [1, 0]) 5)
  refine (newReader_some ⟨w2.heap.size, 0, none⟩ 2 [1, 0] _ (ByS.of_bs hbs (fun h => by cases h)) (by decide)).mono ?_
  rintro e w3 ⟨g1, b1, rfl, hg, hb, hR, hB⟩
  have hB2 := btrans hnew hB
  replace HW1 := hidp (HW1.out.below hB2)
  replace HW2 := hidp (HW2.out.below hB2)
  replace hV := hidp (btrans hV.out hB2)
  have HR1 := hidp hR
  have HM1 : Hid (w2.heap.size < g1 ∧ w2.heap.size < b1 ∧ g1 < w3.heap.size ∧ b1 < w3.heap.size) := hidp ⟨by simp at hg; omega, by simp at hb; omega, (hR.lt (by decide)).1, (hR.lt (by decide)).2⟩
  clear hnew hbs hg hb hR hB hB2
  go_wp2_with fail
  have hnew := (Below.refl _ w3).alloc (Nat.le_refl _) (.cells (bvs [9]).toArray 5)
  have hbs := arr_bs (X := [9]) (by decide) (Blk.new w3 (bvs [9]) 5)
  refine (newReader_some ⟨w3.heap.size, 0, none⟩ 1 [9] _ (ByS.of_bs hbs (fun h => by cases h)) (by decide)).mono ?_
  rintro e w4 ⟨g2, b2, rfl, hg, hb, hR, hB⟩
  have hB2 := btrans hnew hB
  replace HW1 := hidp (HW1.out.below hB2)
  replace HW2 := hidp (HW2.out.below hB2)
  replace HR1 := hidp (HR1.out.below hB2)
  replace hV := hidp (btrans hV.out hB2)
  have HR2 := hidp hR
  have HM2 : Hid (w3.heap.size < g2 ∧ w3.heap.size < b2 ∧ g2 < w4.heap.size ∧ b2 < w4.heap.size) := hidp ⟨by simp at hg; omega, by simp at hb; omega, (hR.lt (by decide)).1, (hR.lt (by decide)).2⟩
  clear hnew hbs hg hb hR hB hB2
  go_wp2_with fail
  have hnew := (Below.refl _ w4).alloc (Nat.le_refl _) (.cells (bvs [2, 1]).toArray 5)
  have hbs := arr_bs (X := [2, 1]) (by decide) (Blk.new w4 (bvs [2, 1]) 5)
  refine (newReader_some ⟨w4.heap.size, 0, none⟩ 2 [2, 1] _ (ByS.of_bs hbs (fun h => by cases h)) (by decide)).mono ?_
  rintro e w5 ⟨g3, b3, rfl, hg, hb, hR, hB⟩
  have hB2 := btrans hnew hB
  replace HW1 := hidp (HW1.out.below hB2)
  replace HW2 := hidp (HW2.out.below hB2)
  replace HR1 := hidp (HR1.out.below hB2)
  replace HR2 := hidp (HR2.out.below hB2)
  replace hV := hidp (btrans hV.out hB2)
  have HR3 := hidp hR
  have HM3 : Hid (w4.heap.size < g3 ∧ w4.heap.size < b3 ∧ g3 < w5.heap.size ∧ b3 < w5.heap.size) := hidp ⟨by simp at hg; omega, by simp at hb; omega, (hR.lt (by decide)).1, (hR.lt (by decide)).2⟩
  clear hnew hbs hg hb hR hB hB2
  go_wp2_with fail
  have hnew := (Below.refl _ w5).alloc (Nat.le_refl _) (.cells (bvs [1, 5, 0]).toArray 5)
  have hbs := arr_bs (X := [1, 5, 0]) (by decide) (Blk.new w5 (bvs [1, 5, 0]) 5)
  refine (newReader_some ⟨w5.heap.size, 0, none⟩ 3 [1, 5, 0] _ (ByS.of_bs hbs (fun h => by cases h)) (by decide)).mono ?_
  rintro e w6 ⟨g4, b4, rfl, hg, hb, hR, hB⟩
  have hB2 := btrans hnew hB
  replace HW1 := hidp (HW1.out.below hB2)
  replace HW2 := hidp (HW2.out.below hB2)
  replace HR1 := hidp (HR1.out.below hB2)
  replace HR2 := hidp (HR2.out.below hB2)
  replace HR3 := hidp (HR3.out.below hB2)
  replace hV := hidp (btrans hV.out hB2)
  have HR4 := hidp hR
  have HM4 : Hid (w5.heap.size < g4 ∧ w5.heap.size < b4 ∧ g4 < w6.heap.size ∧ b4 < w6.heap.size) := hidp ⟨by simp at hg; omega, by simp at hb; omega, (hR.lt (by decide)).1, (hR.lt (by decide)).2⟩
  clear hnew hbs hg hb hR hB hB2
  go_wp2_with fail
  have hnew := (Below.refl _ w6).alloc (Nat.le_refl _) (.cells (bvs [1, 3, 97]).toArray 5)
  have hbs := arr_bs (X := [1, 3, 97]) (by decide) (Blk.new w6 (bvs [1, 3, 97]) 5)
  refine (newReader_some ⟨w6.heap.size, 0, none⟩ 3 [1, 3, 97] _ (ByS.of_bs hbs (fun h => by cases h)) (by decide)).mono ?_
  rintro e w7 ⟨g5, b5, rfl, hg, hb, hR, hB⟩
  have hB2 := btrans hnew hB
  replace HW1 := hidp (HW1.out.below hB2)
  replace HW2 := hidp (HW2.out.below hB2)
  replace HR1 := hidp (HR1.out.below hB2)
  replace HR2 := hidp (HR2.out.below hB2)
  replace HR3 := hidp (HR3.out.below hB2)
  replace HR4 := hidp (HR4.out.below hB2)
  replace hV := hidp (btrans hV.out hB2)
  have HR5 := hidp hR
  have HM5 : Hid (w6.heap.size < g5 ∧ w6.heap.size < b5 ∧ g5 < w7.heap.size ∧ b5 < w7.heap.size) := hidp ⟨by simp at hg; omega, by simp at hb; omega, (hR.lt (by decide)).1, (hR.lt (by decide)).2⟩
  clear hnew hbs hg hb hR hB hB2
  go_wp2_with fail
  have hnew := (Below.refl _ w7).alloc (Nat.le_refl _) (.cells (bvs [1, 2, 2]).toArray 5)
  have hbs := arr_bs (X := [1, 2, 2]) (by decide) (Blk.new w7 (bvs [1, 2, 2]) 5)
  refine (newReader_some ⟨w7.heap.size, 0, none⟩ 3 [1, 2, 2] _ (ByS.of_bs hbs (fun h => by cases h)) (by decide)).mono ?_
  rintro e w8 ⟨g6, b6, rfl, hg, hb, hR, hB⟩
  have hB2 := btrans hnew hB
  replace HW1 := hidp (HW1.out.below hB2)
  replace HW2 := hidp (HW2.out.below hB2)
  replace HR1 := hidp (HR1.out.below hB2)
  replace HR2 := hidp (HR2.out.below hB2)
  replace HR3 := hidp (HR3.out.below hB2)
  replace HR4 := hidp (HR4.out.below hB2)
  replace HR5 := hidp (HR5.out.below hB2)
  replace hV := hidp (btrans hV.out hB2)
  have HR6 := hidp hR
  have HM6 : Hid (w7.heap.size < g6 ∧ w7.heap.size < b6 ∧ g6 < w8.heap.size ∧ b6 < w8.heap.size) := hidp ⟨by simp at hg; omega, by simp at hb; omega, (hR.lt (by decide)).1, (hR.lt (by decide)).2⟩
  clear hnew hbs hg hb hR hB hB2
  go_wp2_with fail
  have hnew := (Below.refl _ w8).alloc (Nat.le_refl _) (.cells (bvs [255, 255, 255, 255, 255, 255, 255, 255]).toArray 5)
  have hbs := arr_bs (X := [255, 255, 255, 255, 255, 255, 255, 255]) (by decide) (Blk.new w8 (bvs [255, 255, 255, 255, 255, 255, 255, 255]) 5)
  refine (newReader_some ⟨w8.heap.size, 0, none⟩ 8 [255, 255, 255, 255, 255, 255, 255, 255] _ (ByS.of_bs hbs (fun h => by cases h)) (by decide)).mono ?_
  rintro e w9 ⟨g7, b7, rfl, hg, hb, hR, hB⟩
  have hB2 := btrans hnew hB
  replace HW1 := hidp (HW1.out.below hB2)
  replace HW2 := hidp (HW2.out.below hB2)
  replace HR1 := hidp (HR1.out.below hB2)
  replace HR2 := hidp (HR2.out.below hB2)
  replace HR3 := hidp (HR3.out.below hB2)
  replace HR4 := hidp (HR4.out.below hB2)
  replace HR5 := hidp (HR5.out.below hB2)
  replace HR6 := hidp (HR6.out.below hB2)
  replace hV := hidp (btrans hV.out hB2)
  have HR7 := hidp hR
  have HM7 : Hid (w8.heap.size < g7 ∧ w8.heap.size < b7 ∧ g7 < w9.heap.size ∧ b7 < w9.heap.size) := hidp ⟨by simp at hg; omega, by simp at hb; omega, (hR.lt (by decide)).1, (hR.lt (by decide)).2⟩
  clear hnew hbs hg hb hR hB hB2
  have HN : Hid (w.heap.size < w1.heap.size ∧ w1.heap.size < w2.heap.size ∧ (w2.heap.size < g1 ∧ w2.heap.size < b1 ∧ g1 < w3.heap.size ∧ b1 < w3.heap.size) ∧ (w3.heap.size < g2 ∧ w3.heap.size < b2 ∧ g2 < w4.heap.size ∧ b2 < w4.heap.size) ∧ (w4.heap.size < g3 ∧ w4.heap.size < b3 ∧ g3 < w5.heap.size ∧ b3 < w5.heap.size) ∧ (w5.heap.size < g4 ∧ w5.heap.size < b4 ∧ g4 < w6.heap.size ∧ b4 < w6.heap.size) ∧ (w6.heap.size < g5 ∧ w6.heap.size < b5 ∧ g5 < w7.heap.size ∧ b5 < w7.heap.size) ∧ (w7.heap.size < g6 ∧ w7.heap.size < b6 ∧ g6 < w8.heap.size ∧ b6 < w8.heap.size) ∧ (w8.heap.size < g7 ∧ w8.heap.size < b7 ∧ g7 < w9.heap.size ∧ b7 < w9.heap.size)) := hidp ⟨HN0.out, HN1.out, HM1.out, HM2.out, HM3.out, HM4.out, HM5.out, HM6.out, HM7.out⟩
  clear HN0 HN1 HM1 HM2 HM3 HM4 HM5 HM6 HM7
  go_wp2_with fail
  refine (wNum_neg HW1.out (-1) (by decide)).mono ?_
  rintro e y1 ⟨rfl, hW, hx⟩
  have hsz := hV.out.size
  replace hV := hidp (hV.out.trans (hx.keep (by have := HN.out; omega) hsz))
  clear hsz
  replace HW2 := hidp (HW2.out.bex hx (by have := HN.out; omega) (by intro h; cases h))
  replace HR1 := hidp (HR1.out.bex hx (by have := HN.out; omega) (by have := HN.out; omega))
  replace HR2 := hidp (HR2.out.bex hx (by have := HN.out; omega) (by have := HN.out; omega))
  replace HR3 := hidp (HR3.out.bex hx (by have := HN.out; omega) (by have := HN.out; omega))
  replace HR4 := hidp (HR4.out.bex hx (by have := HN.out; omega) (by have := HN.out; omega))
  replace HR5 := hidp (HR5.out.bex hx (by have := HN.out; omega) (by have := HN.out; omega))
  replace HR6 := hidp (HR6.out.bex hx (by have := HN.out; omega) (by have := HN.out; omega))
  replace HR7 := hidp (HR7.out.bex hx (by have := HN.out; omega) (by have := HN.out; omega))
  replace HW1 := hidp hW
  clear hW hx
  go_wp2_with fail
  refine (wNum_dead HW1.out (by decide) 1).mono ?_
  rintro e y2 ⟨rfl, rfl⟩
  go_wp2_with fail
  refine (wNum_long HW2.out 256 2 (by decide) (by decide) (by decide)).mono ?_
  rintro e y3 ⟨rfl, hW, hx⟩
  have hsz := hV.out.size
  replace hV := hidp (hV.out.trans (hx.keep (by have := HN.out; omega) hsz))
  clear hsz
  replace HW1 := hidp (HW1.out.bex hx (by have := HN.out; omega) (by intro h; cases h))
  replace HR1 := hidp (HR1.out.bex hx (by have := HN.out; omega) (by have := HN.out; omega))
  replace HR2 := hidp (HR2.out.bex hx (by have := HN.out; omega) (by have := HN.out; omega))
  replace HR3 := hidp (HR3.out.bex hx (by have := HN.out; omega) (by have := HN.out; omega))
  replace HR4 := hidp (HR4.out.bex hx (by have := HN.out; omega) (by have := HN.out; omega))
  replace HR5 := hidp (HR5.out.bex hx (by have := HN.out; omega) (by have := HN.out; omega))
  replace HR6 := hidp (HR6.out.bex hx (by have := HN.out; omega) (by have := HN.out; omega))
  replace HR7 := hidp (HR7.out.bex hx (by have := HN.out; omega) (by have := HN.out; omega))
  replace HW2 := hidp hW
  clear hW hx
  go_wp2_with fail
  refine (wNum_dead HW2.out (by decide) 1).mono ?_
  rintro e y4 ⟨rfl, rfl⟩
  clear HW2
  go_wp2_with fail
  refine (wDone_dead HW1.out (by decide)).mono ?_
  rintro e y5 ⟨rfl, rfl⟩
  clear HW1
  go_wp2_with fail
  obtain ⟨p1, o1, c1, hR⟩ := HR1.out
  refine (mNum_er g1 0 p1 b1 o1 c1 [1, 0] 5 _ hR rfl).mono ?_
  rintro e z1 ⟨rfl, hR2, hx⟩
  have hsz := hV.out.size
  replace hV := hidp (hV.out.trans (hx.keep (by have := HN.out; omega) hsz))
  clear hsz
  replace HR2 := hidp (HR2.out.bex hx (by have := HN.out; omega) (by have := HN.out; omega))
  replace HR3 := hidp (HR3.out.bex hx (by have := HN.out; omega) (by have := HN.out; omega))
  replace HR4 := hidp (HR4.out.bex hx (by have := HN.out; omega) (by have := HN.out; omega))
  replace HR5 := hidp (HR5.out.bex hx (by have := HN.out; omega) (by have := HN.out; omega))
  replace HR6 := hidp (HR6.out.bex hx (by have := HN.out; omega) (by have := HN.out; omega))
  replace HR7 := hidp (HR7.out.bex hx (by have := HN.out; omega) (by have := HN.out; omega))
  replace HR1 := hidp hR2
  clear hR hR2 hx
  go_wp2_with fail
  refine (ends_yes HR1.out 5 0 rfl fq_5_0).mono ?_
  rintro e z2 ⟨rfl, hB⟩
  clear HR1
  replace HR2 := hidp (HR2.out.below hB)
  replace HR3 := hidp (HR3.out.below hB)
  replace HR4 := hidp (HR4.out.below hB)
  replace HR5 := hidp (HR5.out.below hB)
  replace HR6 := hidp (HR6.out.below hB)
  replace HR7 := hidp (HR7.out.below hB)
  replace hV := hidp (btrans hV.out hB)
  clear hB

  go_wp2_with fail
  obtain ⟨p3, o3, c3, hR⟩ := HR2.out
  refine (mNum_er g2 0 p3 b2 o3 c3 [9] 5 _ hR rfl).mono ?_
  rintro e z3 ⟨rfl, hR2, hx⟩
  have hsz := hV.out.size
  replace hV := hidp (hV.out.trans (hx.keep (by have := HN.out; omega) hsz))
  clear hsz
  replace HR3 := hidp (HR3.out.bex hx (by have := HN.out; omega) (by have := HN.out; omega))
  replace HR4 := hidp (HR4.out.bex hx (by have := HN.out; omega) (by have := HN.out; omega))
  replace HR5 := hidp (HR5.out.bex hx (by have := HN.out; omega) (by have := HN.out; omega))
  replace HR6 := hidp (HR6.out.bex hx (by have := HN.out; omega) (by have := HN.out; omega))
  replace HR7 := hidp (HR7.out.bex hx (by have := HN.out; omega) (by have := HN.out; omega))
  replace HR2 := hidp hR2
  clear hR hR2 hx
  go_wp2_with fail
  refine (ends_yes HR2.out 5 0 rfl fq_5_0).mono ?_
  rintro e z4 ⟨rfl, hB⟩
  clear HR2
  replace HR3 := hidp (HR3.out.below hB)
  replace HR4 := hidp (HR4.out.below hB)
  replace HR5 := hidp (HR5.out.below hB)
  replace HR6 := hidp (HR6.out.below hB)
  replace HR7 := hidp (HR7.out.below hB)
  replace hV := hidp (btrans hV.out hB)
  clear hB

  go_wp2_with fail
  obtain ⟨p5, o5, c5, hR⟩ := HR3.out
  refine (mNum_er g3 0 p5 b3 o5 c5 [2, 1] 6 _ hR rfl).mono ?_
  rintro e z5 ⟨rfl, hR2, hx⟩
  have hsz := hV.out.size
  replace hV := hidp (hV.out.trans (hx.keep (by have := HN.out; omega) hsz))
  clear hsz
  replace HR4 := hidp (HR4.out.bex hx (by have := HN.out; omega) (by have := HN.out; omega))
  replace HR5 := hidp (HR5.out.bex hx (by have := HN.out; omega) (by have := HN.out; omega))
  replace HR6 := hidp (HR6.out.bex hx (by have := HN.out; omega) (by have := HN.out; omega))
  replace HR7 := hidp (HR7.out.bex hx (by have := HN.out; omega) (by have := HN.out; omega))
  replace HR3 := hidp hR2
  clear hR hR2 hx
  go_wp2_with fail
  refine (ends_yes HR3.out 6 0 rfl fq_6_0).mono ?_
  rintro e z6 ⟨rfl, hB⟩
  clear HR3
  replace HR4 := hidp (HR4.out.below hB)
  replace HR5 := hidp (HR5.out.below hB)
  replace HR6 := hidp (HR6.out.below hB)
  replace HR7 := hidp (HR7.out.below hB)
  replace hV := hidp (btrans hV.out hB)
  clear hB

  go_wp2_with fail
  obtain ⟨p7, o7, c7, hR⟩ := HR4.out
  refine (mNum_ok g4 0 p7 b4 o7 c7 [1, 5, 0] 5 2 _ hR rfl).mono ?_
  rintro e z7 ⟨rfl, hR2, hx⟩
  have hsz := hV.out.size
  replace hV := hidp (hV.out.trans (hx.keep (by have := HN.out; omega) hsz))
  clear hsz
  replace HR5 := hidp (HR5.out.bex hx (by have := HN.out; omega) (by have := HN.out; omega))
  replace HR6 := hidp (HR6.out.bex hx (by have := HN.out; omega) (by have := HN.out; omega))
  replace HR7 := hidp (HR7.out.bex hx (by have := HN.out; omega) (by have := HN.out; omega))
  replace HR4 := hidp (show RdX z7 g4 2 b4 [0] 0 0 from hR2)
  clear hR hR2 hx

  go_wp2_with fail
  obtain ⟨pr, or, cr, hR⟩ := HR4.out
  refine (mRest_any g4 2 pr b4 or cr [0] 0 0 _ hR).mono ?_
  rintro e zr ⟨rfl, rfl⟩
  clear hR
  go_wp2_with fail
  refine (ends_yes HR4.out 4 2 rfl fq_4_2).mono ?_
  rintro e z9 ⟨rfl, hB⟩
  clear HR4
  replace HR5 := hidp (HR5.out.below hB)
  replace HR6 := hidp (HR6.out.below hB)
  replace HR7 := hidp (HR7.out.below hB)
  replace hV := hidp (btrans hV.out hB)
  clear hB

  go_wp2_with fail
  obtain ⟨p10, o10, c10, hR⟩ := HR5.out
  refine (mText_er g5 0 p10 b5 o10 c10 [1, 3, 97] 2 4 _ hR rfl).mono ?_
  rintro e z10 ⟨rfl, hR2, hx⟩
  have hsz := hV.out.size
  replace hV := hidp (hV.out.trans (hx.keep (by have := HN.out; omega) hsz))
  clear hsz
  replace HR6 := hidp (HR6.out.bex hx (by have := HN.out; omega) (by have := HN.out; omega))
  replace HR7 := hidp (HR7.out.bex hx (by have := HN.out; omega) (by have := HN.out; omega))
  replace HR5 := hidp hR2
  clear hR hR2 hx
  go_wp2_with fail
  refine (ends_yes HR5.out 4 0 rfl fq_4_0).mono ?_
  rintro e z11 ⟨rfl, hB⟩
  clear HR5
  replace HR6 := hidp (HR6.out.below hB)
  replace HR7 := hidp (HR7.out.below hB)
  replace hV := hidp (btrans hV.out hB)
  clear hB

  go_wp2_with fail
  obtain ⟨p12, o12, c12, hR⟩ := HR6.out
  refine (mNum_ok g6 0 p12 b6 o12 c12 [1, 2, 2] 2 2 _ hR rfl).mono ?_
  rintro e z12 ⟨rfl, hR2, hx⟩
  have hsz := hV.out.size
  replace hV := hidp (hV.out.trans (hx.keep (by have := HN.out; omega) hsz))
  clear hsz
  replace HR7 := hidp (HR7.out.bex hx (by have := HN.out; omega) (by have := HN.out; omega))
  replace HR6 := hidp (show RdX z12 g6 2 b6 [2] 0 0 from hR2)
  clear hR hR2 hx
  go_wp2_with fail
  obtain ⟨p13, o13, c13, hR⟩ := HR6.out
  refine (mBool_er g6 2 p13 b6 o13 c13 [2] 5 _ hR rfl).mono ?_
  rintro e z13 ⟨rfl, hR2, hx⟩
  have hsz := hV.out.size
  replace hV := hidp (hV.out.trans (hx.keep (by have := HN.out; omega) hsz))
  clear hsz
  replace HR7 := hidp (HR7.out.bex hx (by have := HN.out; omega) (by have := HN.out; omega))
  replace HR6 := hidp hR2
  clear hR hR2 hx
  go_wp2_with fail
  refine (ends_yes HR6.out 5 2 rfl fq_5_2).mono ?_
  rintro e z14 ⟨rfl, hB⟩
  clear HR6
  replace HR7 := hidp (HR7.out.below hB)
  replace hV := hidp (btrans hV.out hB)
  clear hB

  go_wp2_with fail
  refine (awake_any _).mono ?_
  rintro e za ⟨rfl, hB⟩
  replace HR7 := hidp (HR7.out.below hB)
  replace hV := hidp (btrans hV.out hB)
  clear hB

  go_wp2_with fail
  obtain ⟨p15, o15, c15, hR⟩ := HR7.out
  refine (mPace_er g7 0 p15 b7 o15 c15 [255, 255, 255, 255, 255, 255, 255, 255] 5 _ hR pace_bad).mono ?_
  rintro e z15 ⟨rfl, hR2, hx⟩
  have hsz := hV.out.size
  replace hV := hidp (hV.out.trans (hx.keep (by have := HN.out; omega) hsz))
  clear hsz
  replace HR7 := hidp hR2
  clear hR hR2 hx
  go_wp2_with fail
  refine (ends_yes HR7.out 5 0 rfl fq_5_0).mono ?_
  rintro e z16 ⟨rfl, hB⟩
  clear HR7
  replace hV := hidp (btrans hV.out hB)
  clear hB

  go_wp2
  go_ret
  exact ⟨rfl, hV.out⟩
end Go.Proofs.Ytbhkjflpkpkdlaa

/-! Js: Contracts: writers that nobody made. -/
namespace Go.Proofs.Ytbhkjflpkpkdlaa
open Go.RowKit Go.Lib Go.Maps

theorem w_eq_nil (w : World) : (binOp .eql 25 (.pointer none) (.pointer none)).run Try.prog w = .ok (.bool true) w := by kernel_rfl
theorem w_nil_ne (a : Addr) (w : World) : (binOp .neq 25 (.pointer none) (.pointer (some a))).run Try.prog w = .ok (.bool true) w := by
  have h : ∀ d : Nat, (Op.equalIn (d + 1) 25 (.pointer none) (.pointer (some a))).run Try.prog w = .ok false w := fun d => by
    simp [Op.equalIn, run_underlying Try.underlying25]
  simp only [binOp]
  simp [Op.equal, Op.maxDepth, h 9999]
set_option maxRecDepth 20000 in
theorem refusal_nil (w : World) : Calls Try.prog 84 #[.pointer none] w fun e w' => e = .returned (.int .i64 1) ∧ w = w' := by
  have q := w_eq_nil w
  go_enter Try.func84, Try.ntmps84
  go_wp2
  go_ret
  exact ⟨rfl, rfl⟩
set_option maxRecDepth 20000 in
theorem refusal_zero {w : World} {g : Nat} (h0 : w.cell? ⟨g, 0, none⟩ = some (.pointer none)) : Calls Try.prog 84 #[.pointer (some ⟨g, 0, none⟩)] w fun e w' => e = .returned (.int .i64 1) ∧ w = w' := by
  have q1 := w_ne_nil ⟨g, 0, none⟩ w
  have q2 := w_nil_ne ⟨g, 0, none⟩ w
  go_enter Try.func84, Try.ntmps84
  go_wp2
  go_ret
  exact ⟨rfl, rfl⟩
/-- A writer that nobody made. -/
def BadW (w : World) (x : Value) : Prop := x = .pointer none ∨ ∃ g, x = .pointer (some ⟨g, 0, none⟩) ∧ w.cell? ⟨g, 0, none⟩ = some (.pointer none)
theorem BadW.below {w w' : World} {x : Value} (h : BadW w x) (hB : Below w.heap.size w w') : BadW w' x := by
  rcases h with h | ⟨g, h, hc⟩
  · exact .inl h
  · exact .inr ⟨g, h, (hB.cell (cell_lt hc)).trans hc⟩
theorem refusal_bad {w : World} {x : Value} (h : BadW w x) : Calls Try.prog 84 #[x] w fun e w' => e = .returned (.int .i64 1) ∧ w = w' := by
  rcases h with rfl | ⟨g, rfl, hc⟩
  · exact refusal_nil w
  · exact refusal_zero hc
set_option maxRecDepth 20000 in
theorem wNum_bad {w : World} {x : Value} (h : BadW w x) (n : Int) : Calls Try.prog 62 #[x, .int .i64 n] w fun e w' => e = .returned (.int .i64 1) ∧ w = w' := by
  have HR := hidp (refusal_bad h)
  clear h
  go_enter Try.func62, Try.ntmps62
  go_wp2_with (go_at_call 84; refine HR.out.mono ?_; rintro e wx ⟨rfl, rfl⟩)
  go_ret
  exact ⟨rfl, rfl⟩
set_option maxRecDepth 20000 in
theorem put_bad {w : World} {x : Value} (h : BadW w x) (s : Value) : Calls Try.prog 128 #[x, s] w fun e w' => e = .returned (.int .i64 1) ∧ w = w' := by
  have HR := hidp (refusal_bad h)
  clear h
  go_enter Try.func128, Try.ntmps128
  go_wp2_with (go_at_call 84; refine HR.out.mono ?_; rintro e wx ⟨rfl, rfl⟩)
  go_ret
  exact ⟨rfl, rfl⟩
set_option maxRecDepth 20000 in
theorem wDone_bad {w : World} {x : Value} (h : BadW w x) : Calls Try.prog 19 #[x] w fun e w' => e = .returned (.tuple #[.slice none 0 0, .int .i64 1]) ∧ w = w' := by
  have HR := hidp (refusal_bad h)
  clear h
  go_enter Try.func19, Try.ntmps19
  go_wp2_with (go_at_call 84; refine HR.out.mono ?_; rintro e wx ⟨rfl, rfl⟩)
  go_ret2
  exact ⟨rfl, rfl⟩
/-- What a method of a writer that nobody made tells. -/
def BadP (w : World) (e : Ending) (w' : World) : Prop := e = .returned (.int .i64 1) ∧ Below w.heap.size w w'
set_option maxRecDepth 20000 in
theorem wBool_bad {w : World} {x : Value} (h : BadW w x) (is : Bool) : Calls Try.prog 65 #[x, .bool is] w (BadP w) := by
  have HR := hidp (fun (w' : World) (hB : Below w.heap.size w w') (s : Value) => put_bad (h.below hB) s)
  clear h
  cases is
  · go_enter Try.func65, Try.ntmps65
    go_wp2_with fail
    refine (HR.out _ (((Below.refl _ w).alloc (Nat.le_refl _) _).alloc (by simp) _) _).mono ?_
    rintro e w2 ⟨rfl, rfl⟩
    go_wp2
    go_ret
    exact ⟨rfl, by (repeat' (first | (with_reducible exact Below.refl _ _) | (with_reducible refine Below.alloc ?_ ?_ _) | (with_reducible refine Below.drew ?_) | (with_reducible refine Below.drewN ?_ _) | (with_reducible refine Below.setCell ?_ ?_ _) | go_size))⟩
  · go_enter Try.func65, Try.ntmps65
    go_wp2_with fail
    refine (HR.out _ (((Below.refl _ w).alloc (Nat.le_refl _) _).alloc (by simp) _) _).mono ?_
    rintro e w2 ⟨rfl, rfl⟩
    go_wp2
    go_ret
    exact ⟨rfl, by (repeat' (first | (with_reducible exact Below.refl _ _) | (with_reducible refine Below.alloc ?_ ?_ _) | (with_reducible refine Below.drew ?_) | (with_reducible refine Below.drewN ?_ _) | (with_reducible refine Below.setCell ?_ ?_ _) | go_size))⟩
set_option maxRecDepth 20000 in
theorem wBytes_bad {w : World} {x : Value} (h : BadW w x) (p : Option Addr) (n cap k : Nat) (hn : n ≤ 1000000) (hd : Digs n k) : Calls Try.prog 71 #[x, .slice p n cap] w (BadP w) := by
  have HR := hidp (fun (w' : World) (hB : Below w.heap.size w w') (s : Value) => put_bad (h.below hB) s)
  have HN := hidp (numForm_any n k w (by omega) hd)
  clear h hd
  go_enter Try.func71, Try.ntmps71
  go_wp2_with (first | (go_at_call 129; refine HN.out.mono ?_; rintro e w1 ⟨rfl, hb1, hB1⟩; clear hb1; have hB1 := hidp hB1) | fail)
  have hB2 := hB1.out.alloc hB1.out.size (.cells #[.slice (some ⟨w.heap.size, 8 - k, none⟩) (k + 1) (k + 1), .slice p n cap] 32)
  refine (HR.out _ hB2 _).mono ?_
  rintro e w2 ⟨rfl, rfl⟩
  replace hB2 := hidp hB2
  go_wp2
  go_ret
  exact ⟨rfl, hB2.out⟩
set_option maxRecDepth 20000 in
theorem wText_bad {w : World} {x : Value} (h : BadW w x) (s : ByteArray) (k : Nat) (hn : s.size ≤ 1000000) (hd : Digs s.size k) : Calls Try.prog 63 #[x, .string s] w (BadP w) := by
  have kc := fun W : World => _root_.Go.Lib.run_convert_string_bytes (P := Try.prog) W 9 32 5 s Try.underlying9 Try.underlying32 Try.underlying5
  have HB := hidp (wBytes_bad (h.below (bytesW_below w s)) (some ⟨w.heap.size, 0, none⟩) s.size (grownCap w s.size 0 5) k hn hd)
  clear h hn hd
  go_enter Try.func63, Try.ntmps63
  go_wp2_with fail
  refine HB.out.mono ?_
  rintro e w2 ⟨rfl, hB⟩
  have hB := hidp (btrans (bytesW_below w s) hB)
  go_wp2
  go_ret
  exact ⟨rfl, hB.out⟩
end Go.Proofs.Ytbhkjflpkpkdlaa

/-! Jt: Contracts: writers and readers that nobody made. -/
namespace Go.Proofs.Ytbhkjflpkpkdlaa
open Go.RowKit Go.Lib Go.Maps

set_option maxRecDepth 20000 in
theorem wHash_bad {w : World} {x : Value} (h : BadW w x) (a : List Nat) (_ha : a.length = 32) : Calls Try.prog 72 #[x, .agg (bvs a).toArray] w (BadP w) := by
  have HR := hidp (fun (w' : World) (hB : Below w.heap.size w w') (s : Value) => put_bad (h.below hB) s)
  have hsl := fun w' => run_sliceAt_all (P := Try.prog) (t := 34) (e := 5) (n := 32) Try.underlying34 (by kernel_rfl) (by decide) w.heap.size 0 w'
  clear h
  go_enter Try.func72, Try.ntmps72
  go_wp2_with fail
  refine (HR.out _ (((Below.refl _ w).alloc (Nat.le_refl _) _).alloc (by simp) _) _).mono ?_
  rintro e w2 ⟨rfl, rfl⟩
  go_wp2
  go_ret
  exact ⟨rfl, by (repeat' (first | (with_reducible exact Below.refl _ _) | (with_reducible refine Below.alloc ?_ ?_ _) | (with_reducible refine Below.drew ?_) | (with_reducible refine Below.drewN ?_ _) | (with_reducible refine Below.setCell ?_ ?_ _) | go_size))⟩

set_option maxRecDepth 20000 in
theorem wKey_bad {w : World} {x : Value} (h : BadW w x) (a : List Nat) (_ha : a.length = 4) : Calls Try.prog 73 #[x, .agg (bvs a).toArray] w (BadP w) := by
  have HR := hidp (fun (w' : World) (hB : Below w.heap.size w w') (s : Value) => put_bad (h.below hB) s)
  have hsl := fun w' => run_sliceAt_all (P := Try.prog) (t := 36) (e := 5) (n := 4) Try.underlying36 (by kernel_rfl) (by decide) w.heap.size 0 w'
  clear h
  go_enter Try.func73, Try.ntmps73
  go_wp2_with fail
  refine (HR.out _ (((Below.refl _ w).alloc (Nat.le_refl _) _).alloc (by simp) _) _).mono ?_
  rintro e w2 ⟨rfl, rfl⟩
  go_wp2
  go_ret
  exact ⟨rfl, by (repeat' (first | (with_reducible exact Below.refl _ _) | (with_reducible refine Below.alloc ?_ ?_ _) | (with_reducible refine Below.drew ?_) | (with_reducible refine Below.drewN ?_ _) | (with_reducible refine Below.setCell ?_ ?_ _) | go_size))⟩

set_option maxRecDepth 20000 in
set_option maxHeartbeats 4000000 in
theorem wWord_bad {w : World} {x : Value} (h : BadW w x) (n : Nat) (hn : n < 18446744073709551616) : Calls Try.prog 64 #[x, .int .u64 (n : Nat)] w (BadP w) := by
  have HR := hidp (fun (w' : World) (hB : Below w.heap.size w w') (s : Value) => put_bad (h.below hB) s)
  have h0 := hidp (Blk.new w (bvs (formW n 0)) 172)
  have hB := hidp ((Below.refl _ w).alloc (Nat.le_refl _) (.cells (bvs (formW n 0)).toArray 172))
  rw [formW_zero] at h0 hB
  clear h
  go_enter Try.func64, Try.ntmps64
  go_wp2
  go_loopw [7] (fun x wr => ∃ i : Nat, i ≤ 8 ∧ x = .int .i64 i ∧ Hid (Blk wr w.heap.size (bvs (formW n i)) 172 ∧ Below w.heap.size w wr)) (fun x _ => 8 - (Go.RowKit.intOf x).toNat)
  case atStart => exact ⟨0, by omega, rfl, by rw [formW_zero]; exact hidp ⟨h0.out, hB.out⟩⟩
  case round =>
    obtain ⟨i, hi, rfl, hr⟩ := hrel
    by_cases hik : i < 8
    · have hset := hidp (formW_set n hik)
      obtain ⟨vo, ho⟩ : ∃ v, wr.cell? ⟨w.heap.size, 7 - i, none⟩ = some v := ⟨_, (hr.out.1.cell (7 - i)).trans (bvs_get (by rw [formW_len]; omega))⟩
      have hfree := hr.out.1.free (7 - i)
      have h8 : i = 0 ∨ i = 1 ∨ i = 2 ∨ i = 3 ∨ i = 4 ∨ i = 5 ∨ i = 6 ∨ i = 7 := by omega
      clear h0 hB hi hik
      rcases h8 with rfl | rfl | rfl | rfl | rfl | rfl | rfl | rfl
      · simp only [Int.cast_ofNat_Int]
        have hv : Hid (((n / 256 ^ 0 % 256 : Nat) : Int) = (n : Int) % 256) := hidp (by omega)
        go_wp2
        refine ⟨⟨0 + 1, by omega, rfl, ?_⟩, by simp [Go.RowKit.intOf]⟩
        rw [← hset.out]
        have hE := hv.out
        try rw [← hE]
        exact hidp ⟨bvs_set _ _ _ ▸ hr.out.1.set _ _, hr.out.2.setCell (by simp) _⟩
      · simp only [Int.cast_ofNat_Int]
        have hv : Hid (((n / 256 ^ 1 % 256 : Nat) : Int) = (n : Int) / 256 % 256) := hidp (by omega)
        go_wp2
        refine ⟨⟨1 + 1, by omega, rfl, ?_⟩, by simp [Go.RowKit.intOf]⟩
        rw [← hset.out]
        have hE := hv.out
        try rw [← hE]
        exact hidp ⟨bvs_set _ _ _ ▸ hr.out.1.set _ _, hr.out.2.setCell (by simp) _⟩
      · simp only [Int.cast_ofNat_Int]
        have hv : Hid (((n / 256 ^ 2 % 256 : Nat) : Int) = (n : Int) / 65536 % 256) := hidp (by omega)
        go_wp2
        refine ⟨⟨2 + 1, by omega, rfl, ?_⟩, by simp [Go.RowKit.intOf]⟩
        rw [← hset.out]
        have hE := hv.out
        try rw [← hE]
        exact hidp ⟨bvs_set _ _ _ ▸ hr.out.1.set _ _, hr.out.2.setCell (by simp) _⟩
      · simp only [Int.cast_ofNat_Int]
        have hv : Hid (((n / 256 ^ 3 % 256 : Nat) : Int) = (n : Int) / 16777216 % 256) := hidp (by omega)
        go_wp2
        refine ⟨⟨3 + 1, by omega, rfl, ?_⟩, by simp [Go.RowKit.intOf]⟩
        rw [← hset.out]
        have hE := hv.out
        try rw [← hE]
        exact hidp ⟨bvs_set _ _ _ ▸ hr.out.1.set _ _, hr.out.2.setCell (by simp) _⟩
      · simp only [Int.cast_ofNat_Int]
        have hv : Hid (((n / 256 ^ 4 % 256 : Nat) : Int) = (n : Int) / 4294967296 % 256) := hidp (by omega)
        go_wp2
        refine ⟨⟨4 + 1, by omega, rfl, ?_⟩, by simp [Go.RowKit.intOf]⟩
        rw [← hset.out]
        have hE := hv.out
        try rw [← hE]
        exact hidp ⟨bvs_set _ _ _ ▸ hr.out.1.set _ _, hr.out.2.setCell (by simp) _⟩
      · simp only [Int.cast_ofNat_Int]
        have hv : Hid (((n / 256 ^ 5 % 256 : Nat) : Int) = (n : Int) / 1099511627776 % 256) := hidp (by omega)
        go_wp2
        refine ⟨⟨5 + 1, by omega, rfl, ?_⟩, by simp [Go.RowKit.intOf]⟩
        rw [← hset.out]
        have hE := hv.out
        try rw [← hE]
        exact hidp ⟨bvs_set _ _ _ ▸ hr.out.1.set _ _, hr.out.2.setCell (by simp) _⟩
      · simp only [Int.cast_ofNat_Int]
        have hv : Hid (((n / 256 ^ 6 % 256 : Nat) : Int) = (n : Int) / 281474976710656 % 256) := hidp (by omega)
        go_wp2
        refine ⟨⟨6 + 1, by omega, rfl, ?_⟩, by simp [Go.RowKit.intOf]⟩
        rw [← hset.out]
        have hE := hv.out
        try rw [← hE]
        exact hidp ⟨bvs_set _ _ _ ▸ hr.out.1.set _ _, hr.out.2.setCell (by simp) _⟩
      · simp only [Int.cast_ofNat_Int]
        have hv : Hid (((n / 256 ^ 7 % 256 : Nat) : Int) = (n : Int) / 72057594037927936) := hidp (by omega)
        go_wp2
        refine ⟨⟨7 + 1, by omega, rfl, ?_⟩, by simp [Go.RowKit.intOf]⟩
        rw [← hset.out]
        have hE := hv.out
        try rw [← hE]
        exact hidp ⟨bvs_set _ _ _ ▸ hr.out.1.set _ _, hr.out.2.setCell (by simp) _⟩
    · obtain rfl : i = 8 := by omega
      simp only [Int.cast_ofNat_Int]
      have hsl := fun w' => run_sliceAt_all (P := Try.prog) (t := 172) (e := 5) (n := 8) Try.underlying172 (by kernel_rfl) (by decide) w.heap.size 0 w'
      clear h0 hB hi hik
      go_wp2_with fail
      have hb := hr.out.2.alloc hr.out.2.size (.cells #[.slice (some ⟨w.heap.size, 0, none⟩) 8 8] 32)
      refine (HR.out _ hb _).mono ?_
      rintro e w2 ⟨rfl, rfl⟩
      replace hb := hidp hb
      clear hsl
      go_wp2
      go_ret
      exact ⟨rfl, hb.out⟩
theorem formN_lt (x : Nat) (h : x < 18446744073709551616) : formN x < 18446744073709551616 := by
  unfold formN nanForm
  split <;> omega
set_option maxRecDepth 20000 in
theorem wPace_bad {w : World} {x : Value} (h : BadW w x) (n : Nat) (hn : n < 18446744073709551616) : Calls Try.prog 74 #[x, .float .f64 n] w (BadP w) := by
  have HB := hidp (fun w' => Bits_any n w')
  have HW := hidp (wWord_bad h (formN n) (formN_lt n hn))
  clear h hn
  go_enter Try.func74, Try.ntmps74
  go_wp2_with (go_at_call 145; refine (HB.out _).mono ?_; rintro e w1 ⟨rfl, rfl⟩)
  refine HW.out.mono ?_
  rintro e w2 ⟨rfl, hB⟩
  replace hB := hidp hB
  go_wp2
  go_ret
  exact ⟨rfl, hB.out⟩

/-! Readers that nobody made. -/
def BadR (w : World) (x : Value) : Prop := x = .pointer none ∨ ∃ g, x = .pointer (some ⟨g, 0, none⟩) ∧ w.cell? ⟨g, 0, none⟩ = some (.pointer none)
theorem BadR.below {w w' : World} {x : Value} (h : BadR w x) (hB : Below w.heap.size w w') : BadR w' x := by
  rcases h with h | ⟨g, h, hc⟩
  · exact .inl h
  · exact .inr ⟨g, h, (hB.cell (cell_lt hc)).trans hc⟩
theorem valid_bad {w : World} {x : Value} (h : BadR w x) : Calls Try.prog 99 #[x] w fun e w' => e = .returned (.bool false) ∧ w = w' := by
  rcases h with rfl | ⟨g, rfl, hc⟩
  · exact valid_nil w
  · exact valid_no hc
theorem BadR.cellV {w : World} {x : Value} (h : BadR w x) : x.oneCell' = true := by
  rcases h with rfl | ⟨g, rfl, _⟩ <;> rfl

set_option maxRecDepth 20000 in
theorem elemNum_bad {w : World} {x : Value} (h : BadR w x) (f : Value) : Calls Try.prog 130 #[x, f] w fun e w' => e = .returned (.int .i64 0) ∧ Below w.heap.size w w' := by
  have hmf : ∀ (fn : Fn) (first cap : Array Value) (w : World), (Instr.makeFunc fn first cap).run Try.prog w = .ok (.func fn first cap) w := fun _ _ _ _ => rfl
  have HV := hidp (fun (w' : World) (hB : Below w.heap.size w w') => valid_bad (h.below hB))
  rcases h with rfl | ⟨g, rfl, hc⟩
  · go_enter_defers Try.func130, Try.ntmps130
    go_wp2_with (go_at_call 99; refine (HV.out _ (by (repeat' (first | (with_reducible exact Below.refl _ _) | (with_reducible refine Below.alloc ?_ ?_ _) | (with_reducible refine Below.drew ?_) | (with_reducible refine Below.drewN ?_ _) | (with_reducible refine Below.setCell ?_ ?_ _) | go_size)))).mono ?_; rintro e wx ⟨rfl, rfl⟩)
    exact ⟨_, results_tmp rfl _ _ _, rfl, by (repeat' (first | (with_reducible exact Below.refl _ _) | (with_reducible refine Below.alloc ?_ ?_ _) | (with_reducible refine Below.drew ?_) | (with_reducible refine Below.drewN ?_ _) | (with_reducible refine Below.setCell ?_ ?_ _) | go_size))⟩
  · clear hc
    go_enter_defers Try.func130, Try.ntmps130
    go_wp2_with (go_at_call 99; refine (HV.out _ (by (repeat' (first | (with_reducible exact Below.refl _ _) | (with_reducible refine Below.alloc ?_ ?_ _) | (with_reducible refine Below.drew ?_) | (with_reducible refine Below.drewN ?_ _) | (with_reducible refine Below.setCell ?_ ?_ _) | go_size)))).mono ?_; rintro e wx ⟨rfl, rfl⟩)
    exact ⟨_, results_tmp rfl _ _ _, rfl, by (repeat' (first | (with_reducible exact Below.refl _ _) | (with_reducible refine Below.alloc ?_ ?_ _) | (with_reducible refine Below.drew ?_) | (with_reducible refine Below.drewN ?_ _) | (with_reducible refine Below.setCell ?_ ?_ _) | go_size))⟩

set_option maxRecDepth 20000 in
theorem mNum_bad {w : World} {x : Value} (h : BadR w x) : Calls Try.prog 67 #[x] w fun e w' => e = .returned (.int .i64 0) ∧ Below w.heap.size w w' := by
  have HE := hidp (fun f => elemNum_bad h f)
  clear h
  go_enter Try.func67, Try.ntmps67
  go_wp2_with fail
  refine (HE.out _).mono ?_
  rintro e w1 ⟨rfl, h1⟩
  have HX := hidp h1
  clear h1
  go_wp2
  go_ret
  exact ⟨rfl, HX.out⟩

set_option maxRecDepth 20000 in
theorem elemText_bad {w : World} {x : Value} (h : BadR w x) (f : Value) : Calls Try.prog 132 #[x, f] w fun e w' => e = .returned (.string ⟨#[]⟩) ∧ Below w.heap.size w w' := by
  have hmf : ∀ (fn : Fn) (first cap : Array Value) (w : World), (Instr.makeFunc fn first cap).run Try.prog w = .ok (.func fn first cap) w := fun _ _ _ _ => rfl
  have HV := hidp (fun (w' : World) (hB : Below w.heap.size w w') => valid_bad (h.below hB))
  rcases h with rfl | ⟨g, rfl, hc⟩
  · go_enter_defers Try.func132, Try.ntmps132
    go_wp2_with (go_at_call 99; refine (HV.out _ (by (repeat' (first | (with_reducible exact Below.refl _ _) | (with_reducible refine Below.alloc ?_ ?_ _) | (with_reducible refine Below.drew ?_) | (with_reducible refine Below.drewN ?_ _) | (with_reducible refine Below.setCell ?_ ?_ _) | go_size)))).mono ?_; rintro e wx ⟨rfl, rfl⟩)
    exact ⟨_, results_tmp rfl _ _ _, rfl, by (repeat' (first | (with_reducible exact Below.refl _ _) | (with_reducible refine Below.alloc ?_ ?_ _) | (with_reducible refine Below.drew ?_) | (with_reducible refine Below.drewN ?_ _) | (with_reducible refine Below.setCell ?_ ?_ _) | go_size))⟩
  · clear hc
    go_enter_defers Try.func132, Try.ntmps132
    go_wp2_with (go_at_call 99; refine (HV.out _ (by (repeat' (first | (with_reducible exact Below.refl _ _) | (with_reducible refine Below.alloc ?_ ?_ _) | (with_reducible refine Below.drew ?_) | (with_reducible refine Below.drewN ?_ _) | (with_reducible refine Below.setCell ?_ ?_ _) | go_size)))).mono ?_; rintro e wx ⟨rfl, rfl⟩)
    exact ⟨_, results_tmp rfl _ _ _, rfl, by (repeat' (first | (with_reducible exact Below.refl _ _) | (with_reducible refine Below.alloc ?_ ?_ _) | (with_reducible refine Below.drew ?_) | (with_reducible refine Below.drewN ?_ _) | (with_reducible refine Below.setCell ?_ ?_ _) | go_size))⟩

set_option maxRecDepth 20000 in
theorem mText_bad {w : World} {x : Value} (h : BadR w x) (most : Int) : Calls Try.prog 68 #[x, .int .i64 most] w fun e w' => e = .returned (.string ⟨#[]⟩) ∧ Below w.heap.size w w' := by
  have hmf : ∀ (fn : Fn) (first cap : Array Value) (w : World), (Instr.makeFunc fn first cap).run Try.prog w = .ok (.func fn first cap) w := fun _ _ _ _ => rfl
  have HB : Hid (Below w.heap.size w (w.alloc (.cells #[.int .i64 most] 3))) := hidp ((Below.refl _ w).alloc (Nat.le_refl _) _)
  have HE := hidp (fun f => elemText_bad (h.below HB.out) f)
  clear h
  go_enter Try.func68, Try.ntmps68
  go_wp2_with fail
  refine (HE.out _).mono ?_
  rintro e w1 ⟨rfl, h1⟩
  have HX := hidp (btrans HB.out h1)
  clear h1 HE HB
  go_wp2
  go_ret
  exact ⟨rfl, HX.out⟩

set_option maxRecDepth 20000 in
theorem elemBytes_bad {w : World} {x : Value} (h : BadR w x) (f : Value) : Calls Try.prog 153 #[x, f] w fun e w' => e = .returned (.slice none 0 0) ∧ Below w.heap.size w w' := by
  have hmf : ∀ (fn : Fn) (first cap : Array Value) (w : World), (Instr.makeFunc fn first cap).run Try.prog w = .ok (.func fn first cap) w := fun _ _ _ _ => rfl
  have HV := hidp (fun (w' : World) (hB : Below w.heap.size w w') => valid_bad (h.below hB))
  rcases h with rfl | ⟨g, rfl, hc⟩
  · go_enter_defers Try.func153, Try.ntmps153
    go_wp2_with (go_at_call 99; refine (HV.out _ (by (repeat' (first | (with_reducible exact Below.refl _ _) | (with_reducible refine Below.alloc ?_ ?_ _) | (with_reducible refine Below.drew ?_) | (with_reducible refine Below.drewN ?_ _) | (with_reducible refine Below.setCell ?_ ?_ _) | go_size)))).mono ?_; rintro e wx ⟨rfl, rfl⟩)
    exact ⟨_, results_tmp rfl _ _ _, rfl, by (repeat' (first | (with_reducible exact Below.refl _ _) | (with_reducible refine Below.alloc ?_ ?_ _) | (with_reducible refine Below.drew ?_) | (with_reducible refine Below.drewN ?_ _) | (with_reducible refine Below.setCell ?_ ?_ _) | go_size))⟩
  · clear hc
    go_enter_defers Try.func153, Try.ntmps153
    go_wp2_with (go_at_call 99; refine (HV.out _ (by (repeat' (first | (with_reducible exact Below.refl _ _) | (with_reducible refine Below.alloc ?_ ?_ _) | (with_reducible refine Below.drew ?_) | (with_reducible refine Below.drewN ?_ _) | (with_reducible refine Below.setCell ?_ ?_ _) | go_size)))).mono ?_; rintro e wx ⟨rfl, rfl⟩)
    exact ⟨_, results_tmp rfl _ _ _, rfl, by (repeat' (first | (with_reducible exact Below.refl _ _) | (with_reducible refine Below.alloc ?_ ?_ _) | (with_reducible refine Below.drew ?_) | (with_reducible refine Below.drewN ?_ _) | (with_reducible refine Below.setCell ?_ ?_ _) | go_size))⟩

set_option maxRecDepth 20000 in
theorem mBytes_bad {w : World} {x : Value} (h : BadR w x) (most : Int) : Calls Try.prog 88 #[x, .int .i64 most] w fun e w' => e = .returned (.slice none 0 0) ∧ Below w.heap.size w w' := by
  have hmf : ∀ (fn : Fn) (first cap : Array Value) (w : World), (Instr.makeFunc fn first cap).run Try.prog w = .ok (.func fn first cap) w := fun _ _ _ _ => rfl
  have HB : Hid (Below w.heap.size w (w.alloc (.cells #[.int .i64 most] 3))) := hidp ((Below.refl _ w).alloc (Nat.le_refl _) _)
  have HE := hidp (fun f => elemBytes_bad (h.below HB.out) f)
  clear h
  go_enter Try.func88, Try.ntmps88
  go_wp2_with fail
  refine (HE.out _).mono ?_
  rintro e w1 ⟨rfl, h1⟩
  have HX := hidp (btrans HB.out h1)
  clear h1 HE HB
  go_wp2
  go_ret
  exact ⟨rfl, HX.out⟩

set_option maxRecDepth 20000 in
theorem elemWord_bad {w : World} {x : Value} (h : BadR w x) (f : Value) : Calls Try.prog 137 #[x, f] w fun e w' => e = .returned (.int .u64 0) ∧ Below w.heap.size w w' := by
  have hmf : ∀ (fn : Fn) (first cap : Array Value) (w : World), (Instr.makeFunc fn first cap).run Try.prog w = .ok (.func fn first cap) w := fun _ _ _ _ => rfl
  have HV := hidp (fun (w' : World) (hB : Below w.heap.size w w') => valid_bad (h.below hB))
  rcases h with rfl | ⟨g, rfl, hc⟩
  · go_enter_defers Try.func137, Try.ntmps137
    go_wp2_with (go_at_call 99; refine (HV.out _ (by (repeat' (first | (with_reducible exact Below.refl _ _) | (with_reducible refine Below.alloc ?_ ?_ _) | (with_reducible refine Below.drew ?_) | (with_reducible refine Below.drewN ?_ _) | (with_reducible refine Below.setCell ?_ ?_ _) | go_size)))).mono ?_; rintro e wx ⟨rfl, rfl⟩)
    exact ⟨_, results_tmp rfl _ _ _, rfl, by (repeat' (first | (with_reducible exact Below.refl _ _) | (with_reducible refine Below.alloc ?_ ?_ _) | (with_reducible refine Below.drew ?_) | (with_reducible refine Below.drewN ?_ _) | (with_reducible refine Below.setCell ?_ ?_ _) | go_size))⟩
  · clear hc
    go_enter_defers Try.func137, Try.ntmps137
    go_wp2_with (go_at_call 99; refine (HV.out _ (by (repeat' (first | (with_reducible exact Below.refl _ _) | (with_reducible refine Below.alloc ?_ ?_ _) | (with_reducible refine Below.drew ?_) | (with_reducible refine Below.drewN ?_ _) | (with_reducible refine Below.setCell ?_ ?_ _) | go_size)))).mono ?_; rintro e wx ⟨rfl, rfl⟩)
    exact ⟨_, results_tmp rfl _ _ _, rfl, by (repeat' (first | (with_reducible exact Below.refl _ _) | (with_reducible refine Below.alloc ?_ ?_ _) | (with_reducible refine Below.drew ?_) | (with_reducible refine Below.drewN ?_ _) | (with_reducible refine Below.setCell ?_ ?_ _) | go_size))⟩

set_option maxRecDepth 20000 in
theorem mWord_bad {w : World} {x : Value} (h : BadR w x) : Calls Try.prog 69 #[x] w fun e w' => e = .returned (.int .u64 0) ∧ Below w.heap.size w w' := by
  have HE := hidp (fun f => elemWord_bad h f)
  clear h
  go_enter Try.func69, Try.ntmps69
  go_wp2_with fail
  refine (HE.out _).mono ?_
  rintro e w1 ⟨rfl, h1⟩
  have HX := hidp h1
  clear h1
  go_wp2
  go_ret
  exact ⟨rfl, HX.out⟩

set_option maxRecDepth 20000 in
theorem elemPace_bad {w : World} {x : Value} (h : BadR w x) (f : Value) : Calls Try.prog 164 #[x, f] w fun e w' => e = .returned (.float .f64 0) ∧ Below w.heap.size w w' := by
  have hmf : ∀ (fn : Fn) (first cap : Array Value) (w : World), (Instr.makeFunc fn first cap).run Try.prog w = .ok (.func fn first cap) w := fun _ _ _ _ => rfl
  have HV := hidp (fun (w' : World) (hB : Below w.heap.size w w') => valid_bad (h.below hB))
  rcases h with rfl | ⟨g, rfl, hc⟩
  · go_enter_defers Try.func164, Try.ntmps164
    go_wp2_with (go_at_call 99; refine (HV.out _ (by (repeat' (first | (with_reducible exact Below.refl _ _) | (with_reducible refine Below.alloc ?_ ?_ _) | (with_reducible refine Below.drew ?_) | (with_reducible refine Below.drewN ?_ _) | (with_reducible refine Below.setCell ?_ ?_ _) | go_size)))).mono ?_; rintro e wx ⟨rfl, rfl⟩)
    exact ⟨_, results_tmp rfl _ _ _, rfl, by (repeat' (first | (with_reducible exact Below.refl _ _) | (with_reducible refine Below.alloc ?_ ?_ _) | (with_reducible refine Below.drew ?_) | (with_reducible refine Below.drewN ?_ _) | (with_reducible refine Below.setCell ?_ ?_ _) | go_size))⟩
  · clear hc
    go_enter_defers Try.func164, Try.ntmps164
    go_wp2_with (go_at_call 99; refine (HV.out _ (by (repeat' (first | (with_reducible exact Below.refl _ _) | (with_reducible refine Below.alloc ?_ ?_ _) | (with_reducible refine Below.drew ?_) | (with_reducible refine Below.drewN ?_ _) | (with_reducible refine Below.setCell ?_ ?_ _) | go_size)))).mono ?_; rintro e wx ⟨rfl, rfl⟩)
    exact ⟨_, results_tmp rfl _ _ _, rfl, by (repeat' (first | (with_reducible exact Below.refl _ _) | (with_reducible refine Below.alloc ?_ ?_ _) | (with_reducible refine Below.drew ?_) | (with_reducible refine Below.drewN ?_ _) | (with_reducible refine Below.setCell ?_ ?_ _) | go_size))⟩

set_option maxRecDepth 20000 in
theorem mPace_bad {w : World} {x : Value} (h : BadR w x) : Calls Try.prog 96 #[x] w fun e w' => e = .returned (.float .f64 0) ∧ Below w.heap.size w w' := by
  have HE := hidp (fun f => elemPace_bad h f)
  clear h
  go_enter Try.func96, Try.ntmps96
  go_wp2_with fail
  refine (HE.out _).mono ?_
  rintro e w1 ⟨rfl, h1⟩
  have HX := hidp h1
  clear h1
  go_wp2
  go_ret
  exact ⟨rfl, HX.out⟩

set_option maxRecDepth 20000 in
theorem elemBool_bad {w : World} {x : Value} (h : BadR w x) (f : Value) : Calls Try.prog 141 #[x, f] w fun e w' => e = .returned (.bool false) ∧ Below w.heap.size w w' := by
  have hmf : ∀ (fn : Fn) (first cap : Array Value) (w : World), (Instr.makeFunc fn first cap).run Try.prog w = .ok (.func fn first cap) w := fun _ _ _ _ => rfl
  have HV := hidp (fun (w' : World) (hB : Below w.heap.size w w') => valid_bad (h.below hB))
  rcases h with rfl | ⟨g, rfl, hc⟩
  · go_enter_defers Try.func141, Try.ntmps141
    go_wp2_with (go_at_call 99; refine (HV.out _ (by (repeat' (first | (with_reducible exact Below.refl _ _) | (with_reducible refine Below.alloc ?_ ?_ _) | (with_reducible refine Below.drew ?_) | (with_reducible refine Below.drewN ?_ _) | (with_reducible refine Below.setCell ?_ ?_ _) | go_size)))).mono ?_; rintro e wx ⟨rfl, rfl⟩)
    exact ⟨_, results_tmp rfl _ _ _, rfl, by (repeat' (first | (with_reducible exact Below.refl _ _) | (with_reducible refine Below.alloc ?_ ?_ _) | (with_reducible refine Below.drew ?_) | (with_reducible refine Below.drewN ?_ _) | (with_reducible refine Below.setCell ?_ ?_ _) | go_size))⟩
  · clear hc
    go_enter_defers Try.func141, Try.ntmps141
    go_wp2_with (go_at_call 99; refine (HV.out _ (by (repeat' (first | (with_reducible exact Below.refl _ _) | (with_reducible refine Below.alloc ?_ ?_ _) | (with_reducible refine Below.drew ?_) | (with_reducible refine Below.drewN ?_ _) | (with_reducible refine Below.setCell ?_ ?_ _) | go_size)))).mono ?_; rintro e wx ⟨rfl, rfl⟩)
    exact ⟨_, results_tmp rfl _ _ _, rfl, by (repeat' (first | (with_reducible exact Below.refl _ _) | (with_reducible refine Below.alloc ?_ ?_ _) | (with_reducible refine Below.drew ?_) | (with_reducible refine Below.drewN ?_ _) | (with_reducible refine Below.setCell ?_ ?_ _) | go_size))⟩

set_option maxRecDepth 20000 in
theorem mBool_bad {w : World} {x : Value} (h : BadR w x) : Calls Try.prog 70 #[x] w fun e w' => e = .returned (.bool false) ∧ Below w.heap.size w w' := by
  have HE := hidp (fun f => elemBool_bad h f)
  clear h
  go_enter Try.func70, Try.ntmps70
  go_wp2_with fail
  refine (HE.out _).mono ?_
  rintro e w1 ⟨rfl, h1⟩
  have HX := hidp h1
  clear h1
  go_wp2
  go_ret
  exact ⟨rfl, HX.out⟩

set_option maxRecDepth 20000 in
theorem elemHash_bad {w : World} {x : Value} (h : BadR w x) (f : Value) : Calls Try.prog 156 #[x, f] w fun e w' => e = .returned (.agg (bvs (List.replicate 32 0)).toArray) ∧ Below w.heap.size w w' := by
  have hmf : ∀ (fn : Fn) (first cap : Array Value) (w : World), (Instr.makeFunc fn first cap).run Try.prog w = .ok (.func fn first cap) w := fun _ _ _ _ => rfl
  have HV := hidp (fun (w' : World) (hB : Below w.heap.size w w') => valid_bad (h.below hB))
  have HZ1 := hidp ((Blk.new' (w.alloc (.cells #[x] 48)) (bvs (List.replicate 32 0)) 34 (w.heap.size + 1) (by simp)).alloc (.cells (bvs (List.replicate 32 0)).toArray 34))
  have HZ2 := hidp (Blk.new' ((w.alloc (.cells #[x] 48)).alloc (.cells (bvs (List.replicate 32 0)).toArray 34)) (bvs (List.replicate 32 0)) 34 (w.heap.size + 1 + 1) (by simp))
  rcases h with rfl | ⟨g, rfl, hc⟩
  · go_enter_defers Try.func156, Try.ntmps156
    go_wp2_with (first | (go_at_call 99; refine (HV.out _ (by (repeat' (first | (with_reducible exact Below.refl _ _) | (with_reducible refine Below.alloc ?_ ?_ _) | (with_reducible refine Below.drew ?_) | (with_reducible refine Below.drewN ?_ _) | (with_reducible refine Below.setCell ?_ ?_ _) | go_size)))).mono ?_; rintro e wx ⟨rfl, rfl⟩) | refine wpList_load_blk rfl 34 _ rfl _ _ 34 rfl HZ2.out _ Try.underlying34 rfl (by kernel_rfl) ?_ | (refine wpList_store_blk rfl 34 _ _ rfl _ (bvs (List.replicate 32 0)) (bvs (List.replicate 32 0)) 34 rfl rfl HZ1.out (by kernel_rfl) rfl (bvs_one _) ?_; intro w6 hw6))
    have b2 : Blk w6 (w.heap.size + 1) (bvs (List.replicate 32 0)) 34 := by rw [hw6.out]; exact HZ1.out.row
    refine ⟨.agg (bvs (List.replicate 32 0)).toArray, results_cell_row Try.results156 _ _ (w.heap.size + 1) 34 _ (0, 0) _ rfl b2 Try.underlying34 rfl (by kernel_rfl), rfl, ?_⟩
    rw [hw6.out]
    exact below_setRow (by (repeat' (first | (with_reducible exact Below.refl _ _) | (with_reducible refine Below.alloc ?_ ?_ _) | (with_reducible refine Below.drew ?_) | (with_reducible refine Below.drewN ?_ _) | (with_reducible refine Below.setCell ?_ ?_ _) | go_size))) (by omega) _
  · clear hc
    go_enter_defers Try.func156, Try.ntmps156
    go_wp2_with (first | (go_at_call 99; refine (HV.out _ (by (repeat' (first | (with_reducible exact Below.refl _ _) | (with_reducible refine Below.alloc ?_ ?_ _) | (with_reducible refine Below.drew ?_) | (with_reducible refine Below.drewN ?_ _) | (with_reducible refine Below.setCell ?_ ?_ _) | go_size)))).mono ?_; rintro e wx ⟨rfl, rfl⟩) | refine wpList_load_blk rfl 34 _ rfl _ _ 34 rfl HZ2.out _ Try.underlying34 rfl (by kernel_rfl) ?_ | (refine wpList_store_blk rfl 34 _ _ rfl _ (bvs (List.replicate 32 0)) (bvs (List.replicate 32 0)) 34 rfl rfl HZ1.out (by kernel_rfl) rfl (bvs_one _) ?_; intro w6 hw6))
    have b2 : Blk w6 (w.heap.size + 1) (bvs (List.replicate 32 0)) 34 := by rw [hw6.out]; exact HZ1.out.row
    refine ⟨.agg (bvs (List.replicate 32 0)).toArray, results_cell_row Try.results156 _ _ (w.heap.size + 1) 34 _ (0, 0) _ rfl b2 Try.underlying34 rfl (by kernel_rfl), rfl, ?_⟩
    rw [hw6.out]
    exact below_setRow (by (repeat' (first | (with_reducible exact Below.refl _ _) | (with_reducible refine Below.alloc ?_ ?_ _) | (with_reducible refine Below.drew ?_) | (with_reducible refine Below.drewN ?_ _) | (with_reducible refine Below.setCell ?_ ?_ _) | go_size))) (by omega) _

set_option maxRecDepth 20000 in
theorem elemKey_bad {w : World} {x : Value} (h : BadR w x) (f : Value) : Calls Try.prog 160 #[x, f] w fun e w' => e = .returned (.agg (bvs (List.replicate 4 0)).toArray) ∧ Below w.heap.size w w' := by
  have hmf : ∀ (fn : Fn) (first cap : Array Value) (w : World), (Instr.makeFunc fn first cap).run Try.prog w = .ok (.func fn first cap) w := fun _ _ _ _ => rfl
  have HV := hidp (fun (w' : World) (hB : Below w.heap.size w w') => valid_bad (h.below hB))
  have HZ1 := hidp ((Blk.new' (w.alloc (.cells #[x] 48)) (bvs (List.replicate 4 0)) 36 (w.heap.size + 1) (by simp)).alloc (.cells (bvs (List.replicate 4 0)).toArray 36))
  have HZ2 := hidp (Blk.new' ((w.alloc (.cells #[x] 48)).alloc (.cells (bvs (List.replicate 4 0)).toArray 36)) (bvs (List.replicate 4 0)) 36 (w.heap.size + 1 + 1) (by simp))
  rcases h with rfl | ⟨g, rfl, hc⟩
  · go_enter_defers Try.func160, Try.ntmps160
    go_wp2_with (first | (go_at_call 99; refine (HV.out _ (by (repeat' (first | (with_reducible exact Below.refl _ _) | (with_reducible refine Below.alloc ?_ ?_ _) | (with_reducible refine Below.drew ?_) | (with_reducible refine Below.drewN ?_ _) | (with_reducible refine Below.setCell ?_ ?_ _) | go_size)))).mono ?_; rintro e wx ⟨rfl, rfl⟩) | refine wpList_load_blk rfl 36 _ rfl _ _ 36 rfl HZ2.out _ Try.underlying36 rfl (by kernel_rfl) ?_ | (refine wpList_store_blk rfl 36 _ _ rfl _ (bvs (List.replicate 4 0)) (bvs (List.replicate 4 0)) 36 rfl rfl HZ1.out (by kernel_rfl) rfl (bvs_one _) ?_; intro w6 hw6))
    have b2 : Blk w6 (w.heap.size + 1) (bvs (List.replicate 4 0)) 36 := by rw [hw6.out]; exact HZ1.out.row
    refine ⟨.agg (bvs (List.replicate 4 0)).toArray, results_cell_row Try.results160 _ _ (w.heap.size + 1) 36 _ (0, 0) _ rfl b2 Try.underlying36 rfl (by kernel_rfl), rfl, ?_⟩
    rw [hw6.out]
    exact below_setRow (by (repeat' (first | (with_reducible exact Below.refl _ _) | (with_reducible refine Below.alloc ?_ ?_ _) | (with_reducible refine Below.drew ?_) | (with_reducible refine Below.drewN ?_ _) | (with_reducible refine Below.setCell ?_ ?_ _) | go_size))) (by omega) _
  · clear hc
    go_enter_defers Try.func160, Try.ntmps160
    go_wp2_with (first | (go_at_call 99; refine (HV.out _ (by (repeat' (first | (with_reducible exact Below.refl _ _) | (with_reducible refine Below.alloc ?_ ?_ _) | (with_reducible refine Below.drew ?_) | (with_reducible refine Below.drewN ?_ _) | (with_reducible refine Below.setCell ?_ ?_ _) | go_size)))).mono ?_; rintro e wx ⟨rfl, rfl⟩) | refine wpList_load_blk rfl 36 _ rfl _ _ 36 rfl HZ2.out _ Try.underlying36 rfl (by kernel_rfl) ?_ | (refine wpList_store_blk rfl 36 _ _ rfl _ (bvs (List.replicate 4 0)) (bvs (List.replicate 4 0)) 36 rfl rfl HZ1.out (by kernel_rfl) rfl (bvs_one _) ?_; intro w6 hw6))
    have b2 : Blk w6 (w.heap.size + 1) (bvs (List.replicate 4 0)) 36 := by rw [hw6.out]; exact HZ1.out.row
    refine ⟨.agg (bvs (List.replicate 4 0)).toArray, results_cell_row Try.results160 _ _ (w.heap.size + 1) 36 _ (0, 0) _ rfl b2 Try.underlying36 rfl (by kernel_rfl), rfl, ?_⟩
    rw [hw6.out]
    exact below_setRow (by (repeat' (first | (with_reducible exact Below.refl _ _) | (with_reducible refine Below.alloc ?_ ?_ _) | (with_reducible refine Below.drew ?_) | (with_reducible refine Below.drewN ?_ _) | (with_reducible refine Below.setCell ?_ ?_ _) | go_size))) (by omega) _

end Go.Proofs.Ytbhkjflpkpkdlaa

/-! Jy: Contracts: a valid writer's Hash, Key, Pace. -/
namespace Go.Proofs.Ytbhkjflpkpkdlaa
open Go.RowKit Go.Lib Go.Maps

set_option maxRecDepth 20000 in
theorem wHash_ok {w : World} {g lim : Nat} {v : Value} {L : List Nat} (H : Wr w g lim v L 0) (a : List Nat) (ha : Bytes 32 a) (hs : L.length + 32 ≤ lim) :
    Calls Try.prog 72 #[.pointer (some ⟨g, 0, none⟩), .agg (bvs a).toArray] w (PutP w g lim v (L ++ a)) := by
  have HH := hidp H
  have HS := hidp hs
  have HA := hidp ha
  have hsl := fun w' => run_sliceAt_all (P := Try.prog) (t := 34) (e := 5) (n := 32) Try.underlying34 (by kernel_rfl) (by decide) w.heap.size 0 w'
  clear H hs ha
  go_enter Try.func72, Try.ntmps72
  go_wp2_with fail
  have hpc := new_piece w a HA.out.2 34 (.cells #[.slice (some ⟨w.heap.size, 0, none⟩) 32 32] 32)
  rw [HA.out.1] at hpc
  refine (put1 HH.out (((Below.refl _ w).alloc (Nat.le_refl _) _).alloc (by simp) _) hpc (fun _ => Nat.le_refl _) (fun h => by cases h) (by simp) (by rw [HA.out.1]; exact Blk.new' _ _ _ _ (by simp)) (by rw [HA.out.1]; exact HS.out) _).mono ?_
  rintro e w2 ⟨rfl, h⟩
  replace h := hidp h
  clear hpc
  go_wp2
  go_ret
  exact ⟨rfl, h.out⟩

set_option maxRecDepth 20000 in
theorem wHash_long {w : World} {g lim : Nat} {v : Value} {L : List Nat} (H : Wr w g lim v L 0) (a : List Nat) (ha : Bytes 32 a) (hs : lim < L.length + 32) :
    Calls Try.prog 72 #[.pointer (some ⟨g, 0, none⟩), .agg (bvs a).toArray] w (LongP w g lim) := by
  have HH := hidp H
  have HS := hidp hs
  have HA := hidp ha
  have hsl := fun w' => run_sliceAt_all (P := Try.prog) (t := 34) (e := 5) (n := 32) Try.underlying34 (by kernel_rfl) (by decide) w.heap.size 0 w'
  clear H hs ha
  go_enter Try.func72, Try.ntmps72
  go_wp2_with fail
  have hpc := new_piece w a HA.out.2 34 (.cells #[.slice (some ⟨w.heap.size, 0, none⟩) 32 32] 32)
  rw [HA.out.1] at hpc
  refine (put1_long HH.out (((Below.refl _ w).alloc (Nat.le_refl _) _).alloc (by simp) _) hpc (fun _ => Nat.le_refl _) (fun h => by cases h) (by simp) (by rw [HA.out.1]; exact Blk.new' _ _ _ _ (by simp)) (by rw [HA.out.1]; exact HS.out) (by rw [HA.out.1]; omega) _).mono ?_
  rintro e w2 ⟨rfl, h⟩
  replace h := hidp h
  clear hpc
  go_wp2
  go_ret
  exact ⟨rfl, h.out⟩

set_option maxRecDepth 20000 in
theorem wKey_ok {w : World} {g lim : Nat} {v : Value} {L : List Nat} (H : Wr w g lim v L 0) (a : List Nat) (ha : Bytes 4 a) (hs : L.length + 4 ≤ lim) :
    Calls Try.prog 73 #[.pointer (some ⟨g, 0, none⟩), .agg (bvs a).toArray] w (PutP w g lim v (L ++ a)) := by
  have HH := hidp H
  have HS := hidp hs
  have HA := hidp ha
  have hsl := fun w' => run_sliceAt_all (P := Try.prog) (t := 36) (e := 5) (n := 4) Try.underlying36 (by kernel_rfl) (by decide) w.heap.size 0 w'
  clear H hs ha
  go_enter Try.func73, Try.ntmps73
  go_wp2_with fail
  have hpc := new_piece w a HA.out.2 36 (.cells #[.slice (some ⟨w.heap.size, 0, none⟩) 4 4] 32)
  rw [HA.out.1] at hpc
  refine (put1 HH.out (((Below.refl _ w).alloc (Nat.le_refl _) _).alloc (by simp) _) hpc (fun _ => Nat.le_refl _) (fun h => by cases h) (by simp) (by rw [HA.out.1]; exact Blk.new' _ _ _ _ (by simp)) (by rw [HA.out.1]; exact HS.out) _).mono ?_
  rintro e w2 ⟨rfl, h⟩
  replace h := hidp h
  clear hpc
  go_wp2
  go_ret
  exact ⟨rfl, h.out⟩

set_option maxRecDepth 20000 in
theorem wKey_long {w : World} {g lim : Nat} {v : Value} {L : List Nat} (H : Wr w g lim v L 0) (a : List Nat) (ha : Bytes 4 a) (hs : lim < L.length + 4) :
    Calls Try.prog 73 #[.pointer (some ⟨g, 0, none⟩), .agg (bvs a).toArray] w (LongP w g lim) := by
  have HH := hidp H
  have HS := hidp hs
  have HA := hidp ha
  have hsl := fun w' => run_sliceAt_all (P := Try.prog) (t := 36) (e := 5) (n := 4) Try.underlying36 (by kernel_rfl) (by decide) w.heap.size 0 w'
  clear H hs ha
  go_enter Try.func73, Try.ntmps73
  go_wp2_with fail
  have hpc := new_piece w a HA.out.2 36 (.cells #[.slice (some ⟨w.heap.size, 0, none⟩) 4 4] 32)
  rw [HA.out.1] at hpc
  refine (put1_long HH.out (((Below.refl _ w).alloc (Nat.le_refl _) _).alloc (by simp) _) hpc (fun _ => Nat.le_refl _) (fun h => by cases h) (by simp) (by rw [HA.out.1]; exact Blk.new' _ _ _ _ (by simp)) (by rw [HA.out.1]; exact HS.out) (by rw [HA.out.1]; omega) _).mono ?_
  rintro e w2 ⟨rfl, h⟩
  replace h := hidp h
  clear hpc
  go_wp2
  go_ret
  exact ⟨rfl, h.out⟩

set_option maxRecDepth 20000 in
theorem wPace_ok {w : World} {g lim : Nat} {v : Value} {L : List Nat} (H : Wr w g lim v L 0) (n : Nat) (hn : n < 18446744073709551616) (hs : L.length + 8 ≤ lim) :
    Calls Try.prog 74 #[.pointer (some ⟨g, 0, none⟩), .float .f64 n] w (PutP w g lim v (L ++ wordB (formN n))) := by
  have HB := hidp (fun w' => Bits_any n w')
  have HW := hidp (wWord_ok H (formN n) (formN_lt n hn) hs)
  clear H hn hs
  go_enter Try.func74, Try.ntmps74
  go_wp2_with (go_at_call 145; refine (HB.out _).mono ?_; rintro e w1 ⟨rfl, rfl⟩)
  refine HW.out.mono ?_
  rintro e w2 ⟨rfl, h⟩
  replace h := hidp h
  go_wp2
  go_ret
  exact ⟨rfl, h.out⟩

set_option maxRecDepth 20000 in
theorem wPace_long {w : World} {g lim : Nat} {v : Value} {L : List Nat} (H : Wr w g lim v L 0) (n : Nat) (hn : n < 18446744073709551616) (hs : lim < L.length + 8) :
    Calls Try.prog 74 #[.pointer (some ⟨g, 0, none⟩), .float .f64 n] w (LongP w g lim) := by
  have HB := hidp (fun w' => Bits_any n w')
  have HW := hidp (wWord_long H (formN n) (formN_lt n hn) hs)
  clear H hn hs
  go_enter Try.func74, Try.ntmps74
  go_wp2_with (go_at_call 145; refine (HB.out _).mono ?_; rintro e w1 ⟨rfl, rfl⟩)
  refine HW.out.mono ?_
  rintro e w2 ⟨rfl, h⟩
  replace h := hidp h
  go_wp2
  go_ret
  exact ⟨rfl, h.out⟩

end Go.Proofs.Ytbhkjflpkpkdlaa

/-! Ju: Contracts: readers that nobody made: Hash, Key, Rest, End; puts of a writer that nobody made. -/
namespace Go.Proofs.Ytbhkjflpkpkdlaa
open Go.RowKit Go.Lib Go.Maps
attribute [local go_sem] run_bits run_frombits

set_option maxRecDepth 20000 in
theorem mHash_bad {w : World} {x : Value} (h : BadR w x) : Calls Try.prog 90 #[x] w fun e w' => e = .returned (.agg (bvs (List.replicate 32 0)).toArray) ∧ Below w.heap.size w w' := by
  have HB : Hid (Below w.heap.size w (w.alloc (.cells (bvs (List.replicate 32 0)).toArray 34))) := hidp ((Below.refl _ w).alloc (Nat.le_refl _) _)
  have HZ := hidp (Blk.new w (bvs (List.replicate 32 0)) 34)
  have HE := hidp (fun f => elemHash_bad (h.below HB.out) f)
  clear h
  go_enter Try.func90, Try.ntmps90
  go_wp2_with fail
  refine (HE.out _).mono ?_
  rintro e w1 ⟨rfl, h1⟩
  have HX := hidp (btrans HB.out h1)
  replace HZ := hidp (HZ.out.below h1 (by simp))
  clear h1 HE HB
  go_wp2_with (refine wpList_store_blk rfl 34 _ _ rfl w.heap.size (bvs (List.replicate 32 0)) (bvs (List.replicate 32 0)) 34 rfl rfl HZ.out (by kernel_rfl) rfl (bvs_one _) ?_; intro w6 hw6)
  have b2 : Blk w6 w.heap.size (bvs (List.replicate 32 0)) 34 := by rw [hw6.out]; exact HZ.out.row
  refine bodyPost_ret (v := .agg (bvs (List.replicate 32 0)).toArray) ?_ rfl ⟨rfl, ?_⟩
  · exact results_cell_row Try.results90 _ _ w.heap.size 34 _ (0, 0) _ rfl b2 Try.underlying34 rfl (by kernel_rfl)
  · rw [hw6.out]; exact below_setRow HX.out (Nat.le_refl _) _

set_option maxRecDepth 20000 in
theorem mKey_bad {w : World} {x : Value} (h : BadR w x) : Calls Try.prog 92 #[x] w fun e w' => e = .returned (.agg (bvs (List.replicate 4 0)).toArray) ∧ Below w.heap.size w w' := by
  have HB : Hid (Below w.heap.size w (w.alloc (.cells (bvs (List.replicate 4 0)).toArray 36))) := hidp ((Below.refl _ w).alloc (Nat.le_refl _) _)
  have HZ := hidp (Blk.new w (bvs (List.replicate 4 0)) 36)
  have HE := hidp (fun f => elemKey_bad (h.below HB.out) f)
  clear h
  go_enter Try.func92, Try.ntmps92
  go_wp2_with fail
  refine (HE.out _).mono ?_
  rintro e w1 ⟨rfl, h1⟩
  have HX := hidp (btrans HB.out h1)
  replace HZ := hidp (HZ.out.below h1 (by simp))
  clear h1 HE HB
  go_wp2_with (refine wpList_store_blk rfl 36 _ _ rfl w.heap.size (bvs (List.replicate 4 0)) (bvs (List.replicate 4 0)) 36 rfl rfl HZ.out (by kernel_rfl) rfl (bvs_one _) ?_; intro w6 hw6)
  have b2 : Blk w6 w.heap.size (bvs (List.replicate 4 0)) 36 := by rw [hw6.out]; exact HZ.out.row
  refine bodyPost_ret (v := .agg (bvs (List.replicate 4 0)).toArray) ?_ rfl ⟨rfl, ?_⟩
  · exact results_cell_row Try.results92 _ _ w.heap.size 36 _ (0, 0) _ rfl b2 Try.underlying36 rfl (by kernel_rfl)
  · rw [hw6.out]; exact below_setRow HX.out (Nat.le_refl _) _

theorem mRest_bad {w : World} {x : Value} (h : BadR w x) : Calls Try.prog 25 #[x] w fun e w' => e = .returned (.int .i64 0) ∧ w = w' := by
  have HV := hidp (valid_bad h)
  clear h
  go_enter Try.func25, Try.ntmps25
  go_wp2_with (go_at_call 99; refine HV.out.mono ?_; rintro e wx ⟨rfl, rfl⟩)
  go_ret
  exact ⟨rfl, rfl⟩
set_option maxRecDepth 20000 in
theorem mEnd_bad {w : World} {x : Value} (h : BadR w x) : Calls Try.prog 27 #[x] w fun e w' => e = .returned (.agg #[.int .i64 1, .int .i64 0]) ∧ Below w.heap.size w w' := by
  have HV := hidp (fun (w' : World) (hB : Below w.heap.size w w') => valid_bad (h.below hB))
  clear h
  go_enter Try.func27, Try.ntmps27
  go_wp2_with (go_at_call 99; refine (HV.out _ (by (repeat' (first | (with_reducible exact Below.refl _ _) | (with_reducible refine Below.alloc ?_ ?_ _) | (with_reducible refine Below.drew ?_) | (with_reducible refine Below.drewN ?_ _) | (with_reducible refine Below.setCell ?_ ?_ _) | go_size)))).mono ?_; rintro e wx ⟨rfl, rfl⟩)
  exact bodyPost_ret (v := .agg #[.int .i64 1, .int .i64 0]) (by simp [results, Try.results27, go_sem]) rfl ⟨rfl, by (repeat' (first | (with_reducible exact Below.refl _ _) | (with_reducible refine Below.alloc ?_ ?_ _) | (with_reducible refine Below.drew ?_) | (with_reducible refine Below.drewN ?_ _) | (with_reducible refine Below.setCell ?_ ?_ _) | go_size))⟩

/-! A thing. -/
def thL (kind n : Int) (p : Option Addr) (len cap : Nat) (h k : List Nat) (x : Nat) (is : Bool) : List Value := .int .i64 kind :: .int .i64 n :: .slice p len cap :: (bvs h ++ (bvs k ++ [.int .u64 (x : Nat), .bool is]))
theorem thL_len (kind n : Int) (p : Option Addr) (len cap : Nat) {h k : List Nat} (x : Nat) (is : Bool) (hh : h.length = 32) (hk : k.length = 4) : (thL kind n p len cap h k x is).length = 41 := by
  unfold thL; simp [bvs_len, hh, hk]
/-- A thing lies in block g. -/
structure Th (w : World) (g : Nat) (kind n : Int) (p : Option Addr) (len cap : Nat) (h k : List Nat) (x : Nat) (is : Bool) : Prop where
  blk : Blk w g (thL kind n p len cap h k x is) 39
  hh : Bytes 32 h
  hk : Bytes 4 k
theorem Th.c0 {w : World} {g : Nat} {kind n : Int} {p : Option Addr} {len cap : Nat} {h k : List Nat} {x : Nat} {is : Bool} (H : Th w g kind n p len cap h k x is) : w.cell? ⟨g, 0, none⟩ = some (.int .i64 kind) := H.blk.cell 0
theorem Th.c1 {w : World} {g : Nat} {kind n : Int} {p : Option Addr} {len cap : Nat} {h k : List Nat} {x : Nat} {is : Bool} (H : Th w g kind n p len cap h k x is) : w.cell? ⟨g, 1, none⟩ = some (.int .i64 n) := H.blk.cell 1
theorem Th.c2 {w : World} {g : Nat} {kind n : Int} {p : Option Addr} {len cap : Nat} {h k : List Nat} {x : Nat} {is : Bool} (H : Th w g kind n p len cap h k x is) : w.cell? ⟨g, 2, none⟩ = some (.slice p len cap) := H.blk.cell 2
theorem thL_h {kind n : Int} {p : Option Addr} {len cap : Nat} {h k : List Nat} {x : Nat} {is : Bool} (j : Nat) (v : Value) (hj : (bvs h)[j]? = some v) : (thL kind n p len cap h k x is)[3 + j]? = some v := by
  have hlt := (List.getElem?_eq_some_iff.1 hj).1
  rw [show 3 + j = j + 1 + 1 + 1 by omega]
  unfold thL
  rw [List.getElem?_cons_succ, List.getElem?_cons_succ, List.getElem?_cons_succ, List.getElem?_append_left hlt]
  exact hj
theorem thL_k {kind n : Int} {p : Option Addr} {len cap : Nat} {h k : List Nat} {x : Nat} {is : Bool} (hh : h.length = 32) (j : Nat) (v : Value) (hj : (bvs k)[j]? = some v) : (thL kind n p len cap h k x is)[35 + j]? = some v := by
  have hlt := (List.getElem?_eq_some_iff.1 hj).1
  rw [show 35 + j = (32 + j) + 1 + 1 + 1 by omega]
  unfold thL
  rw [List.getElem?_cons_succ, List.getElem?_cons_succ, List.getElem?_cons_succ, List.getElem?_append_right (by rw [bvs_len]; omega), bvs_len, hh, show 32 + j - 32 = j by omega, List.getElem?_append_left hlt]
  exact hj
theorem thL_e {kind n : Int} {p : Option Addr} {len cap : Nat} {h k : List Nat} {x : Nat} {is : Bool} (hh : h.length = 32) (hk : k.length = 4) (j : Nat) : (thL kind n p len cap h k x is)[39 + j]? = ([Value.int .u64 (x : Nat), .bool is] : List Value)[j]? := by
  rw [show 39 + j = (36 + j) + 1 + 1 + 1 by omega]
  unfold thL
  rw [List.getElem?_cons_succ, List.getElem?_cons_succ, List.getElem?_cons_succ, List.getElem?_append_right (by rw [bvs_len]; omega), bvs_len, hh, List.getElem?_append_right (by rw [bvs_len]; omega), bvs_len, hk, show 36 + j - 32 - 4 = j by omega]
theorem Th.rh {w : World} {g : Nat} {kind n : Int} {p : Option Addr} {len cap : Nat} {h k : List Nat} {x : Nat} {is : Bool} (H : Th w g kind n p len cap h k x is) : w.rangeAt g 3 (bvs h) := fun j v hj => (H.blk.cell _).trans (thL_h j v hj)
theorem Th.rk {w : World} {g : Nat} {kind n : Int} {p : Option Addr} {len cap : Nat} {h k : List Nat} {x : Nat} {is : Bool} (H : Th w g kind n p len cap h k x is) : w.rangeAt g 35 (bvs k) := fun j v hj => (H.blk.cell _).trans (thL_k H.hh.1 j v hj)
theorem Th.c39 {w : World} {g : Nat} {kind n : Int} {p : Option Addr} {len cap : Nat} {h k : List Nat} {x : Nat} {is : Bool} (H : Th w g kind n p len cap h k x is) : w.cell? ⟨g, 39, none⟩ = some (.int .u64 (x : Nat)) := (H.blk.cell 39).trans (thL_e H.hh.1 H.hk.1 0)
theorem Th.c40 {w : World} {g : Nat} {kind n : Int} {p : Option Addr} {len cap : Nat} {h k : List Nat} {x : Nat} {is : Bool} (H : Th w g kind n p len cap h k x is) : w.cell? ⟨g, 40, none⟩ = some (.bool is) := (H.blk.cell 40).trans (thL_e H.hh.1 H.hk.1 1)
theorem digs_ex (n : Nat) (h : n < 65536) : ∃ k, Digs n k := by
  by_cases h0 : n = 0
  · exact ⟨0, by subst h0; decide⟩
  · by_cases h1 : n < 256
    · exact ⟨1, by simpa using h1, fun _ => by simp; omega, by decide⟩
    · exact ⟨2, by simpa using h, fun _ => by simp; omega, by decide⟩
theorem strB_size (L : List Nat) : (strB L).size = L.length := by show (List.map UInt8.ofNat L).toArray.size = _; simp

set_option maxRecDepth 100000 in
set_option maxHeartbeats 8000000 in
theorem puts_bad {w : World} {y : Value} (hy : BadW w y) (kind n : Int) (p : Option Addr) (b o cap : Nat) (L : List Nat) (h k : List Nat) (x : Nat) (is : Bool) (hk0 : 0 ≤ kind) (hk7 : kind ≤ 7) (hL : Bs w p b o L cap) (hn : L.length ≤ 1000) (hh : Bytes 32 h) (hk : Bytes 4 k) (hx : x < 18446744073709551616) :
    Calls Try.prog 15 #[y, .agg (thL kind n p L.length cap h k x is).toArray] w (BadP w) := by
  have hB := hidp ((Below.refl _ w).alloc (Nat.le_refl _) (.cells (thL kind n p L.length cap h k x is).toArray 39))
  have HT : Hid (Th (w.alloc (.cells (thL kind n p L.length cap h k x is).toArray 39)) w.heap.size kind n p L.length cap h k x is) := hidp ⟨Blk.new w _ _, hh, hk⟩
  have c0 := HT.out.c0
  have c1 := HT.out.c1
  have c2 := HT.out.c2
  have c39 := HT.out.c39
  have c40 := HT.out.c40
  have HX := hidp hy
  have HL := hidp hn
  have HW := hidp hx
  obtain ⟨dk, hd⟩ := digs_ex L.length (by omega)
  have HD := hidp hd
  have hcv := conv_bs (hL.below hB.out) cap
  have hcase : kind = 0 ∨ kind = 1 ∨ kind = 2 ∨ kind = 3 ∨ kind = 4 ∨ kind = 5 ∨ kind = 6 ∨ kind = 7 := by omega
  clear hy hn hd hk0 hk7 hL hh hk hx
  rcases hcase with rfl | rfl | rfl | rfl | rfl | rfl | rfl | rfl
  · go_enter Try.func15, Try.ntmps15
    go_wp2_with fail
    refine (wNum_bad (HX.out.below hB.out) n).mono ?_
    rintro e w2 ⟨rfl, rfl⟩
    have h2 := hB
    go_wp2
    go_ret
    exact ⟨rfl, h2.out⟩
  · go_enter Try.func15, Try.ntmps15
    go_wp2_with fail
    refine (wText_bad (HX.out.below hB.out) (strB L) dk (by rw [strB_size]; have := HL.out; omega) (by rw [strB_size]; exact HD.out)).mono ?_
    rintro e w2 ⟨rfl, h2⟩
    replace h2 := hidp (btrans hB.out h2)
    go_wp2
    go_ret
    exact ⟨rfl, h2.out⟩
  · go_enter Try.func15, Try.ntmps15
    go_wp2_with fail
    refine (wBytes_bad (HX.out.below hB.out) p L.length cap dk (by have := HL.out; omega) HD.out).mono ?_
    rintro e w2 ⟨rfl, h2⟩
    replace h2 := hidp (btrans hB.out h2)
    go_wp2
    go_ret
    exact ⟨rfl, h2.out⟩
  · go_enter Try.func15, Try.ntmps15
    go_wp2_with (refine wpList_load_mid rfl 34 _ rfl w.heap.size 3 rfl _ _ HT.out.rh Try.underlying34 rfl (by rw [bvs_len, HT.out.hh.1]; kernel_rfl) ?_)
    refine (wHash_bad (HX.out.below hB.out) h HT.out.hh.1).mono ?_
    rintro e w2 ⟨rfl, h2⟩
    replace h2 := hidp (btrans hB.out h2)
    go_wp2
    go_ret
    exact ⟨rfl, h2.out⟩
  · go_enter Try.func15, Try.ntmps15
    go_wp2_with (refine wpList_load_mid rfl 36 _ rfl w.heap.size 35 rfl _ _ HT.out.rk Try.underlying36 rfl (by rw [bvs_len, HT.out.hk.1]; kernel_rfl) ?_)
    refine (wKey_bad (HX.out.below hB.out) k HT.out.hk.1).mono ?_
    rintro e w2 ⟨rfl, h2⟩
    replace h2 := hidp (btrans hB.out h2)
    go_wp2
    go_ret
    exact ⟨rfl, h2.out⟩
  · go_enter Try.func15, Try.ntmps15
    go_wp2_with fail
    refine (wWord_bad (HX.out.below hB.out) x HW.out).mono ?_
    rintro e w2 ⟨rfl, h2⟩
    replace h2 := hidp (btrans hB.out h2)
    go_wp2
    go_ret
    exact ⟨rfl, h2.out⟩
  · go_enter Try.func15, Try.ntmps15
    go_wp2_with fail
    refine (wPace_bad (HX.out.below hB.out) x HW.out).mono ?_
    rintro e w2 ⟨rfl, h2⟩
    replace h2 := hidp (btrans hB.out h2)
    go_wp2
    go_ret
    exact ⟨rfl, h2.out⟩
  · go_enter Try.func15, Try.ntmps15
    go_wp2_with fail
    refine (wBool_bad (HX.out.below hB.out) is).mono ?_
    rintro e w2 ⟨rfl, h2⟩
    replace h2 := hidp (btrans hB.out h2)
    go_wp2
    go_ret
    exact ⟨rfl, h2.out⟩

end Go.Proofs.Ytbhkjflpkpkdlaa
