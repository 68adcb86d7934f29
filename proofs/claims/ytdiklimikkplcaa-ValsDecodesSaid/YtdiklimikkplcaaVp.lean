/-
  The walk of landfalllaw05's awake.
-/
import Derived.Test.YtdiklimikkplcaaUe
namespace Go.Proofs.Ytdiklimikkplcaa
open Go.RowKit Go.Lib Go.Maps

theorem weq12 (w : World) : (binOp .eql 114 (.agg #[.int .u64 0, .int .u64 12]) (.agg #[.int .u64 0, .int .u64 12])).run Try.prog w = .ok (.bool true) w := by kernel_rfl
set_option maxRecDepth 100000 in
set_option maxHeartbeats 16000000 in
theorem vawake_any (w : World) : Calls Try.prog 35 #[] w fun e w' => e = .returned (.bool true) ∧ Below w.heap.size w w' := by
  have hV : Hid (Below w.heap.size w w) := hidp (Below.refl _ _)
  have HT : ∀ p b c W, Vs W p b 0 c (ofL [1, 5, 2, 7]) → Calls Try.prog 96 #[.slice p 2 c] W fun e w' => e = .returned (.tuple #[.agg #[.int .u64 0, .int .u64 12], .int .i64 0]) ∧ Below W.heap.size W w' := fun p b c W h => by
    have q := total_ok p b 0 c _ W h k1
    rw [k2] at q
    exact q
  have HE : ∀ p b c W, Vs W p b 0 c (ofL [10, 5]) → Calls Try.prog 98 #[.slice p 1 c] W (DoneP W [1, 1, 0, 0, 0, 10, 1, 5]) := fun p b c W h => by
    have q := encode_ok p b 0 c _ W h k3
    rw [k4] at q
    exact q
  have HD : ∀ p b c W, Bs W p b 0 [1, 1, 0, 0, 0, 10, 1, 5] c → Calls Try.prog 36 #[.slice p 8 c] W fun e w' => (∃ p b c, e = .returned (.tuple #[.slice p 1 c, .agg #[.int .i64 0, .int .i64 0]]) ∧ W.heap.size ≤ b ∧ Vs w' p b 0 c (ofL [10, 5])) ∧ Below W.heap.size W w' := fun p b c W h => by
    have q := decode_any p b 0 c [1, 1, 0, 0, 0, 10, 1, 5] W h (by decide)
    rw [k5] at q
    exact q
  have HC : ∀ p b c W, Vs W p b 0 c (ofL [1, 5, 2, 7]) → Calls Try.prog 99 #[.slice p 2 c] W fun e w' => e = .returned (.int .i64 0) ∧ Below W.heap.size W w' := fun p b c W h => by
    have q := check_any p b 0 c _ W h
    rw [k1] at q
    exact q
  replace HT := hidp HT
  replace HE := hidp HE
  replace HD := hidp HD
  replace HC := hidp HC
  have e1 := weq12
  have e2 := eql_f00
  go_enter Try.func35, Try.ntmps35
  go_wp2_with fail
  have hal := hidp (fun o : Obj => (Below.refl w.heap.size w).alloc (Nat.le_refl _) o)
  refine (of_any w.heap.size [1, 5, 2, 7] _ (Blk.new w (ivs [1, 5, 2, 7]) _) (by decide) (by decide)).mono ?_
  rintro e w1 ⟨pV1, qV1, mV1, rfl, _, hv, hB⟩
  have hT := hidp (show Below w.heap.size w w1 from ((hal.out _).trans (hB.mono (hal.out _).size)))
  replace hV := hidp (hV.out.trans (hT.out.mono hV.out.size))
  have V1 := hidp (hv)
  clear hv hB hal hT
  go_wp2_with fail
  refine (HT.out _ _ _ _ V1.out).mono ?_
  rintro e w2 ⟨rfl, hB⟩
  have hT := hidp (show Below w1.heap.size w1 w2 from hB)
  replace hV := hidp (hV.out.trans (hT.out.mono hV.out.size))
  clear hB hT V1 HT
  go_wp2_with fail
  have hal := hidp (fun o o' : Obj => ((Below.refl w2.heap.size w2).alloc (Nat.le_refl _) o).alloc (by simp) o')
  refine (of_any (w2.heap.size + 1) [10, 5] _ (Blk.new' (w2.alloc _) (ivs [10, 5]) _ _ (by simp)) (by decide) (by decide)).mono ?_
  rintro e w3 ⟨pV2, qV2, mV2, rfl, _, hv, hB⟩
  have hT := hidp (show Below w2.heap.size w2 w3 from ((hal.out _ _).trans (hB.mono (hal.out _ _).size)))
  replace hV := hidp (hV.out.trans (hT.out.mono hV.out.size))
  have V2 := hidp (hv)
  have T1 := hidp (hB.blk' ((Blk.new w2 [.int .u64 0, .int .u64 12] 114).alloc _))
  have L1 := hidp (show w2.heap.size < w3.heap.size from by have := hB.size; simp at this; omega)
  clear hv hB hal hT
  go_wp2_with fail
  refine (HE.out _ _ _ _ V2.out).mono ?_
  rintro e w4 ⟨⟨pe, qe, me, rfl, _, _, hs⟩, hB⟩
  have hT := hidp (show Below w3.heap.size w3 w4 from hB)
  replace T1 := hidp (hT.out.blk' T1.out)
  replace L1 := hidp (Nat.lt_of_lt_of_le L1.out hT.out.size)
  replace hV := hidp (hV.out.trans (hT.out.mono hV.out.size))
  have S1 := hidp (hs)
  clear hB hT hs V2 HE
  go_wp2_with fail
  refine (HD.out _ _ _ _ S1.out).mono ?_
  rintro e w5 ⟨⟨pd, qd, md, rfl, _, hv⟩, hB⟩
  have hT := hidp (show Below w4.heap.size w4 w5 from hB)
  replace T1 := hidp (hT.out.blk' T1.out)
  replace L1 := hidp (Nat.lt_of_lt_of_le L1.out hT.out.size)
  replace S1 := hidp (S1.out.below hT.out)
  replace hV := hidp (hV.out.trans (hT.out.mono hV.out.size))
  have D1 := hidp (hv)
  clear hB hT hv HD
  go_wp2_with fail
  have hal := hidp (fun o o' : Obj => ((Below.refl w5.heap.size w5).alloc (Nat.le_refl _) o).alloc (by simp) o')
  refine (of_any (w5.heap.size + 1) [1, 5, 2, 7] _ (Blk.new' (w5.alloc _) (ivs [1, 5, 2, 7]) _ _ (by simp)) (by decide) (by decide)).mono ?_
  rintro e w6 ⟨pV3, qV3, mV3, rfl, _, hv, hB⟩
  have hT := hidp (show Below w5.heap.size w5 w6 from ((hal.out _ _).trans (hB.mono (hal.out _ _).size)))
  replace T1 := hidp (hT.out.blk' T1.out)
  replace L1 := hidp (Nat.lt_of_lt_of_le L1.out hT.out.size)
  replace S1 := hidp (S1.out.below hT.out)
  replace D1 := hidp (D1.out.below hT.out)
  replace hV := hidp (hV.out.trans (hT.out.mono hV.out.size))
  have V3 := hidp (hv)
  have T6 := hidp (hB.blk' ((Blk.new w5 [.int .i64 0, .int .i64 0] 55).alloc _))
  have L6 := hidp (show w5.heap.size < w6.heap.size from by have := hB.size; simp at this; omega)
  clear hv hB hal hT
  go_wp2_with fail
  refine (HC.out _ _ _ _ V3.out).mono ?_
  rintro e w7 ⟨rfl, hB⟩
  have hT := hidp (show Below w6.heap.size w6 w7 from hB)
  replace T1 := hidp (hT.out.blk' T1.out)
  replace L1 := hidp (Nat.lt_of_lt_of_le L1.out hT.out.size)
  replace S1 := hidp (S1.out.below hT.out)
  replace D1 := hidp (D1.out.below hT.out)
  replace T6 := hidp (hT.out.blk' T6.out)
  replace L6 := hidp (Nat.lt_of_lt_of_le L6.out hT.out.size)
  replace hV := hidp (hV.out.trans (hT.out.mono hV.out.size))
  clear hB hT V3 HC
  have x0 := T1.out.cell 0
  have x1 := T1.out.cell 1
  have y0 := T6.out.cell 0
  have y1 := T6.out.cell 1
  simp only [List.getElem?_cons_zero, List.getElem?_cons_succ] at x0 x1 y0 y1
  have l1 := L1.out
  have l6 := L6.out
  have hal0 := hidp ((Below.refl w7.heap.size w7).alloc (Nat.le_refl _) (.cells #[.int .u8 1, .int .u8 1, .int .u8 0, .int .u8 0, .int .u8 0, .int .u8 10, .int .u8 1, .int .u8 5] 5))
  go_wp2_with fail
  refine (sameBytes_yes (S1.out.below hal0.out) (arr_bs (X := [1, 1, 0, 0, 0, 10, 1, 5]) (by decide) (Blk.new w7 (bvs [1, 1, 0, 0, 0, 10, 1, 5]) _))).mono ?_
  rintro e wx ⟨rfl, hwx⟩
  subst hwx
  clear S1
  go_wp2_with fail
  have hal := hidp (fun o o' : Obj => ((Below.refl w7.heap.size w7).alloc (Nat.le_refl _) o).alloc (by simp) o')
  refine (of_any (w7.heap.size + 1) [10, 5] _ (Blk.new' (w7.alloc _) (ivs [10, 5]) _ _ (by simp)) (by decide) (by decide)).mono ?_
  rintro e w8 ⟨pV4, qV4, mV4, rfl, _, hv, hB⟩
  have hT := hidp (show Below w7.heap.size w7 w8 from ((hal.out _ _).trans (hB.mono (hal.out _ _).size)))
  replace D1 := hidp (D1.out.below hT.out)
  replace hV := hidp (hV.out.trans (hT.out.mono hV.out.size))
  have V4 := hidp (hv)
  clear hv hB hal hT
  clear x0 x1 y0 y1 l1 l6 T1 L1 T6 L6
  go_wp2_with fail
  refine (sameVals_any pd qd 0 md (ofL [10, 5]) pV4 qV4 0 mV4 (ofL [10, 5]) _ D1.out V4.out (by decide)).mono ?_
  rintro e w9 ⟨rfl, hB⟩
  have hT := hidp (show Below w8.heap.size w8 w9 from hB)
  replace hV := hidp (hV.out.trans (hT.out.mono hV.out.size))
  clear hB hT D1 V4
  rw [decide_eq_true (rfl : ofL [10, 5] = ofL [10, 5])]
  go_wp2_with fail
  have hal := hidp (fun o : Obj => (Below.refl w9.heap.size w9).alloc (Nat.le_refl _) o)
  refine (of_any w9.heap.size [1, 5, 2, 7] _ (Blk.new w9 (ivs [1, 5, 2, 7]) _) (by decide) (by decide)).mono ?_
  rintro e w10 ⟨pV5, qV5, mV5, rfl, _, hv, hB⟩
  have hT := hidp (show Below w9.heap.size w9 w10 from ((hal.out _).trans (hB.mono (hal.out _).size)))
  replace hV := hidp (hV.out.trans (hT.out.mono hV.out.size))
  have V5 := hidp (hv)
  clear hv hB hal hT
  go_wp2_with fail
  have hal := hidp (fun o : Obj => (Below.refl w10.heap.size w10).alloc (Nat.le_refl _) o)
  refine (of_any w10.heap.size [1, 0, 3, 2] _ (Blk.new w10 (ivs [1, 0, 3, 2]) _) (by decide) (by decide)).mono ?_
  rintro e w11 ⟨pV6, qV6, mV6, rfl, _, hv, hB⟩
  have hT := hidp (show Below w10.heap.size w10 w11 from ((hal.out _).trans (hB.mono (hal.out _).size)))
  replace V5 := hidp (V5.out.below hT.out)
  replace hV := hidp (hV.out.trans (hT.out.mono hV.out.size))
  have V6 := hidp (hv)
  clear hv hB hal hT
  go_wp2_with fail
  have hal := hidp (fun o : Obj => (Below.refl w11.heap.size w11).alloc (Nat.le_refl _) o)
  refine (of_any w11.heap.size [2, 7, 3, 2] _ (Blk.new w11 (ivs [2, 7, 3, 2]) _) (by decide) (by decide)).mono ?_
  rintro e w12 ⟨pV7, qV7, mV7, rfl, _, hv, hB⟩
  have hT := hidp (show Below w11.heap.size w11 w12 from ((hal.out _).trans (hB.mono (hal.out _).size)))
  replace V5 := hidp (V5.out.below hT.out)
  replace V6 := hidp (V6.out.below hT.out)
  replace hV := hidp (hV.out.trans (hT.out.mono hV.out.size))
  have V7 := hidp (hv)
  clear hv hB hal hT
  go_wp2_with fail
  refine (changes_yes pV5 qV5 0 mV5 (ofL [1, 5, 2, 7]) pV6 qV6 0 mV6 (ofL [1, 0, 3, 2]) pV7 qV7 0 mV7 (ofL [2, 7, 3, 2]) 0 _ V5.out V6.out V7.out (by decide) (by decide) (by decide) k6).mono ?_
  rintro e w13 ⟨rfl, hB⟩
  have hT := hidp (show Below w12.heap.size w12 w13 from hB)
  replace hV := hidp (hV.out.trans (hT.out.mono hV.out.size))
  clear hB hT V5 V6 V7
  go_wp2_with fail
  go_ret
  exact ⟨rfl, hV.out⟩
end Go.Proofs.Ytdiklimikkplcaa
