/-
  Contracts: SameBytes, written, awake.
-/
import Derived.Test.YtlfmmmlheloloaaJp
import Derived.Below
namespace Go.Proofs.Ytlfmmmlheloloaa
open Go.RowKit Go.Lib Go.Maps

theorem sameBytes_yes {w : World} {p q : Option Addr} {b o cap b2 o2 cap2 : Nat} {X : List Nat} (h : Bs w p b o X cap) (k : Bs w q b2 o2 X cap2) :
    Calls Try.prog 25 #[.slice p X.length cap, .slice q X.length cap2] w fun e w' => e = .returned (.bool true) ∧ w = w' := by
  have c1 := conv_bs h cap
  have c2 := conv_bs k cap2
  generalize strB X = s at c1 c2
  clear h k
  go_enter Try.func25, Try.ntmps25
  go_wp2
  go_ret
  exact ⟨by simp, rfl⟩
def wrL : List Nat := [0, 1, 255, 2, 1, 0, 1, 2, 97, 98, 0, 0, 0, 0, 0, 0, 0, 1, 1]
theorem written_any (w : World) : Calls Try.prog 69 #[] w fun e w' => e = .returned (.slice (some ⟨w.heap.size, 0, none⟩) 19 19) ∧ Bs w' (some ⟨w.heap.size, 0, none⟩) w.heap.size 0 wrL 19 ∧ Below w.heap.size w w' := by
  go_enter Try.func69, Try.ntmps69
  go_wp2
  go_ret
  exact ⟨rfl, arr_bs (X := wrL) (by decide) (Blk.new w (bvs wrL) _), by (repeat' (first | (with_reducible exact Below.refl _ _) | (with_reducible refine Below.alloc ?_ ?_ _) | (with_reducible refine Below.drew ?_) | (with_reducible refine Below.drewN ?_ _) | (with_reducible refine Below.setCell ?_ ?_ _) | go_size))⟩
instance Digs.dec (n k : Nat) : Decidable (Digs n k) := inferInstanceAs (Decidable (_ ∧ _ ∧ _))
theorem eql_f00 (w : World) : (binOp .eql 55 (.agg #[.int .i64 0, .int .i64 0]) (.agg #[.int .i64 0, .int .i64 0])).run Try.prog w = .ok (.bool true) w := by kernel_rfl
/-- A reader's world, reading: what was known below it stays. -/
theorem Bex.keep {B g : Nat} {w w' : World} (h : Bex g w w') (hg : B ≤ g) (hB : B ≤ w.heap.size) : Below B w w' := h.below hg hB

set_option maxRecDepth 100000 in
set_option maxHeartbeats 16000000 in
theorem awake_any (w : World) : Calls Try.prog 15 #[] w fun e w' => e = .returned (.bool true) ∧ Below w.heap.size w w' := by
  have q1 := fun w' => w_ne_nil ⟨w.heap.size, 0, none⟩ w'
  go_enter Try.func15, Try.ntmps15
  go_wp2_with fail
  refine (newWriter_any 100 w (by decide)).mono ?_
  rintro e w1 ⟨rfl, hW, hB⟩
  have HW := hidp hW
  have hV := hidp hB
  clear hW hB

  go_wp2_with fail
  refine (wNum_ok HW.out 0 0 (by decide) (by decide) (by decide)).mono ?_
  rintro e w2 ⟨rfl, v0, hW, hF⟩
  replace hV := hidp (hV.out.trans (hF.toBelow HW.out))
  replace HW := hidp (show Wr w2 w.heap.size 100 v0 [0] 0 from hW)
  clear hW hF

  go_wp2_with fail
  refine (wNum_ok HW.out 255 1 (by decide) (by decide) (by decide)).mono ?_
  rintro e w3 ⟨rfl, v1, hW, hF⟩
  replace hV := hidp (hV.out.trans (hF.toBelow HW.out))
  replace HW := hidp (show Wr w3 w.heap.size 100 v1 [0, 1, 255] 0 from hW)
  clear hW hF

  go_wp2_with fail
  refine (wNum_ok HW.out 256 2 (by decide) (by decide) (by decide)).mono ?_
  rintro e w4 ⟨rfl, v2, hW, hF⟩
  replace hV := hidp (hV.out.trans (hF.toBelow HW.out))
  replace HW := hidp (show Wr w4 w.heap.size 100 v2 [0, 1, 255, 2, 1, 0] 0 from hW)
  clear hW hF

  go_wp2_with fail
  refine (wText_ok HW.out ⟨#[97, 98]⟩ 1 (by decide) (by decide)).mono ?_
  rintro e w5 ⟨rfl, v3, hW, hF⟩
  replace hV := hidp (hV.out.trans (hF.toBelow HW.out))
  replace HW := hidp (show Wr w5 w.heap.size 100 v3 [0, 1, 255, 2, 1, 0, 1, 2, 97, 98] 0 from hW)
  clear hW hF

  go_wp2_with fail
  refine (wWord_ok HW.out 1 (by decide) (by decide)).mono ?_
  rintro e w6 ⟨rfl, v4, hW, hF⟩
  replace hV := hidp (hV.out.trans (hF.toBelow HW.out))
  replace HW := hidp (show Wr w6 w.heap.size 100 v4 [0, 1, 255, 2, 1, 0, 1, 2, 97, 98, 0, 0, 0, 0, 0, 0, 0, 1] 0 from hW)
  clear hW hF

  go_wp2_with fail
  refine (wBool_ok HW.out true (by decide)).mono ?_
  rintro e w7 ⟨rfl, v5, hW, hF⟩
  replace hV := hidp (hV.out.trans (hF.toBelow HW.out))
  replace HW := hidp (show Wr w7 w.heap.size 100 v5 [0, 1, 255, 2, 1, 0, 1, 2, 97, 98, 0, 0, 0, 0, 0, 0, 0, 1, 1] 0 from hW)
  clear hW hF

  go_wp2_with fail
  refine (wDone_ok HW.out).mono ?_
  rintro e w8 ⟨⟨pd, bd, capd, rfl, _, _, hs⟩, hB⟩
  replace hV := hidp (btrans hV.out hB)
  have HD := hidp hs
  clear hs hB HW q1
  go_wp2_with fail
  refine (written_any _).mono ?_
  rintro e w9 ⟨rfl, hs, hB⟩
  replace hV := hidp (btrans hV.out hB)
  replace HD := hidp (HD.out.below hB)
  have HS := hidp hs
  clear hs hB
  go_wp2_with fail
  refine (newReader_some _ 19 wrL w9 (ByS.of_bs HS.out (fun h => by cases h)) (by decide)).mono ?_
  rintro e w10 ⟨g2, b2, rfl, hg2, _, hR, hB⟩
  have hG2 := hidp (Nat.le_trans hV.out.size hg2)
  replace hV := hidp (btrans hV.out hB)
  replace HD := hidp (HD.out.below hB)
  have HR := hidp hR
  have q2 := fun w' => run_ne_nil ⟨g2, 0, none⟩ w'
  clear hg2 hR hB HS
  go_wp2_with fail
  refine (written_any _).mono ?_
  rintro e w11 ⟨rfl, hs, hB⟩
  replace hV := hidp (btrans hV.out hB)
  replace HD := hidp (HD.out.below hB)
  replace HR := hidp (show RdX w11 g2 0 b2 wrL 0 0 from (by obtain ⟨p, o, c, h⟩ := HR.out; exact ⟨p, o, c, h.below hB⟩))
  have HS := hidp hs
  clear hs hB
  go_wp2_with fail
  refine (sameBytes_yes (X := wrL) HD.out HS.out).mono ?_
  rintro e w12 ⟨rfl, rfl⟩
  clear HD HS

  go_wp2_with fail
  obtain ⟨p0, o0, c0, hR⟩ := HR.out
  have hlt := hR.blk.lt
  have hVs := hV.out.size
  refine (mNum_ok g2 0 p0 b2 o0 c0 [0, 1, 255, 2, 1, 0, 1, 2, 97, 98, 0, 0, 0, 0, 0, 0, 0, 1, 1] 0 1 _ hR rfl).mono ?_
  rintro e wr0 ⟨rfl, hR2, hx⟩

  replace hV := hidp (hV.out.trans (hx.keep hG2.out hVs))
  replace HR := hidp (show RdX wr0 g2 1 b2 [1, 255, 2, 1, 0, 1, 2, 97, 98, 0, 0, 0, 0, 0, 0, 0, 1, 1] 0 0 from hR2)
  clear hR hR2 hx hlt hVs

  go_wp2_with fail
  obtain ⟨p1, o1, c1, hR⟩ := HR.out
  have hlt := hR.blk.lt
  have hVs := hV.out.size
  refine (mNum_ok g2 1 p1 b2 o1 c1 [1, 255, 2, 1, 0, 1, 2, 97, 98, 0, 0, 0, 0, 0, 0, 0, 1, 1] 255 2 _ hR rfl).mono ?_
  rintro e wr1 ⟨rfl, hR2, hx⟩

  replace hV := hidp (hV.out.trans (hx.keep hG2.out hVs))
  replace HR := hidp (show RdX wr1 g2 3 b2 [2, 1, 0, 1, 2, 97, 98, 0, 0, 0, 0, 0, 0, 0, 1, 1] 0 0 from hR2)
  clear hR hR2 hx hlt hVs

  go_wp2_with fail
  obtain ⟨p3, o3, c3, hR⟩ := HR.out
  have hlt := hR.blk.lt
  have hVs := hV.out.size
  refine (mNum_ok g2 3 p3 b2 o3 c3 [2, 1, 0, 1, 2, 97, 98, 0, 0, 0, 0, 0, 0, 0, 1, 1] 256 3 _ hR rfl).mono ?_
  rintro e wr3 ⟨rfl, hR2, hx⟩

  replace hV := hidp (hV.out.trans (hx.keep hG2.out hVs))
  replace HR := hidp (show RdX wr3 g2 6 b2 [1, 2, 97, 98, 0, 0, 0, 0, 0, 0, 0, 1, 1] 0 0 from hR2)
  clear hR hR2 hx hlt hVs

  go_wp2_with fail
  obtain ⟨p6, o6, c6, hR⟩ := HR.out
  have hlt := hR.blk.lt
  have hVs := hV.out.size
  refine (mText_ok g2 6 p6 b2 o6 c6 [1, 2, 97, 98, 0, 0, 0, 0, 0, 0, 0, 1, 1] 2 [97, 98] 4 _ hR rfl).mono ?_
  rintro e wr6 ⟨rfl, hR2, hx⟩
  rw [show strB [97, 98] = ⟨#[97, 98]⟩ from rfl]
  replace hV := hidp (hV.out.trans (hx.keep hG2.out hVs))
  replace HR := hidp (show RdX wr6 g2 10 b2 [0, 0, 0, 0, 0, 0, 0, 1, 1] 0 0 from hR2)
  clear hR hR2 hx hlt hVs

  go_wp2_with fail
  obtain ⟨p10, o10, c10, hR⟩ := HR.out
  have hlt := hR.blk.lt
  have hVs := hV.out.size
  refine (mWord_ok g2 10 p10 b2 o10 c10 [0, 0, 0, 0, 0, 0, 0, 1, 1] 1 8 _ hR rfl).mono ?_
  rintro e wr10 ⟨rfl, hR2, hx⟩

  replace hV := hidp (hV.out.trans (hx.keep hG2.out hVs))
  replace HR := hidp (show RdX wr10 g2 18 b2 [1] 0 0 from hR2)
  clear hR hR2 hx hlt hVs

  go_wp2_with fail
  obtain ⟨p18, o18, c18, hR⟩ := HR.out
  have hlt := hR.blk.lt
  have hVs := hV.out.size
  refine (mBool_ok g2 18 p18 b2 o18 c18 [1] true 1 _ hR rfl).mono ?_
  rintro e wr18 ⟨rfl, hR2, hx⟩

  replace hV := hidp (hV.out.trans (hx.keep hG2.out hVs))
  replace HR := hidp (show RdX wr18 g2 19 b2 [] 0 0 from hR2)
  clear hR hR2 hx hlt hVs

  go_wp2_with fail
  obtain ⟨pz, oz, cz, hR⟩ := HR.out
  refine (mRest_any g2 19 pz b2 oz cz [] 0 0 _ hR).mono ?_
  rintro e wz ⟨rfl, rfl⟩
  have q3 := fun w' => eql_f00 w'
  go_wp2_with fail
  refine (mEnd_any g2 19 pz b2 oz cz [] 0 0 _ hR).mono ?_
  rintro e wy ⟨rfl, hB⟩
  replace hV := hidp (btrans hV.out hB)
  clear hR hB HR
  go_wp2
  go_ret
  exact ⟨rfl, hV.out⟩
end Go.Proofs.Ytlfmmmlheloloaa
