/-
  The walk of landfalllaw05's ValsKnown.
-/
import Derived.Test.YtlfmmmlheloloaaVp
namespace Go.Proofs.Ytlfmmmlheloloaa
open Go.RowKit Go.Lib Go.Maps

theorem Vs.nil (w : World) : Vs w none 0 0 0 [] := ⟨by simp, by simp, fun h => absurd h (by omega), fun i v hi => by simp at hi⟩
set_option maxRecDepth 100000 in
set_option maxHeartbeats 16000000 in
theorem vknown_any (w : World) : Calls Try.prog 11 #[] w fun e w' => e = .returned (.bool true) ∧ Below w.heap.size w w' := by
  have hV : Hid (Below w.heap.size w w) := hidp (Below.refl _ _)
  have HF : ∀ p b c W, Vs W p b 0 c (ofL [1, 5, 2, 7]) → Calls Try.prog 54 #[.slice p 2 c, .agg #[.int .u8 (kd 2 3 : Nat), .int .u8 (kd 2 2 : Nat), .int .u8 (kd 2 1 : Nat), .int .u8 (kd 2 0 : Nat)]] W fun e w' => e = .returned (.tuple #[.int .i64 1, .bool true]) ∧ Below W.heap.size W w' := fun p b c W h => by
    have q := find_any p b 0 c _ 2 W h (by decide) (by decide)
    rw [k16] at q
    exact q
  have H0 : ∀ W, Calls Try.prog 57 #[.slice none 0 0] W fun e w' => e = .returned (.int .i64 6) ∧ Below W.heap.size W w' := fun W => by
    have q := check_any none 0 0 0 [] W (Vs.nil W)
    rw [k11] at q
    exact q
  have HA : ∀ p b c W, Vs W p b 0 c (ofL [2, 1, 1, 1]) → Calls Try.prog 57 #[.slice p 2 c] W fun e w' => e = .returned (.int .i64 9) ∧ Below W.heap.size W w' := fun p b c W h => by
    have q := check_any p b 0 c _ W h
    rw [k12] at q
    exact q
  have HB : ∀ p b c W, Vs W p b 0 c (ofL [1, 1, 1, 1]) → Calls Try.prog 57 #[.slice p 2 c] W fun e w' => e = .returned (.int .i64 9) ∧ Below W.heap.size W w' := fun p b c W h => by
    have q := check_any p b 0 c _ W h
    rw [k13] at q
    exact q
  have HC : ∀ p b c W, Vs W p b 0 c (ofL [1, 0]) → Calls Try.prog 57 #[.slice p 1 c] W fun e w' => e = .returned (.int .i64 3) ∧ Below W.heap.size W w' := fun p b c W h => by
    have q := check_any p b 0 c _ W h
    rw [k14] at q
    exact q
  have HM : ∀ p b c W, Vs W p b 0 c (manyL 65) → Calls Try.prog 57 #[.slice p 65 c] W fun e w' => e = .returned (.int .i64 4) ∧ Below W.heap.size W w' := fun p b c W h => by
    have q := check_any p b 0 c _ W h
    rw [k15, manyL_len] at q
    exact q
  replace HF := hidp HF
  replace H0 := hidp H0
  replace HA := hidp HA
  replace HB := hidp HB
  replace HC := hidp HC
  replace HM := hidp HM
  go_enter Try.func11, Try.ntmps11
  go_wp2_with fail
  have hal := hidp (fun o : Obj => (Below.refl w.heap.size w).alloc (Nat.le_refl _) o)
  refine (of_any w.heap.size [1, 5, 2, 7] _ (Blk.new w (ivs [1, 5, 2, 7]) _) (by decide) (by decide)).mono ?_
  rintro e w1 ⟨pV1, qV1, mV1, rfl, _, hv, hB⟩
  have hT := hidp (show Below w.heap.size w w1 from ((hal.out _).trans (hB.mono (hal.out _).size)))
  replace hV := hidp (hV.out.trans (hT.out.mono hV.out.size))
  have V1 := hidp (hv)
  clear hv hB hal hT
  go_wp2_with fail
  refine (key_any 2 _ (by decide)).mono ?_
  rintro e w2 ⟨rfl, hB⟩
  have hT := hidp (show Below w1.heap.size w1 w2 from hB)
  replace V1 := hidp (V1.out.below hT.out)
  replace hV := hidp (hV.out.trans (hT.out.mono hV.out.size))
  clear hB hT
  go_wp2_with fail
  refine (HF.out _ _ _ _ V1.out).mono ?_
  rintro e w3 ⟨rfl, hB⟩
  have hT := hidp (show Below w2.heap.size w2 w3 from hB)
  replace hV := hidp (hV.out.trans (hT.out.mono hV.out.size))
  clear hB hT V1 HF
  go_wp2_with fail
  refine (H0.out _).mono ?_
  rintro e w4 ⟨rfl, hB⟩
  have hT := hidp (show Below w3.heap.size w3 w4 from hB)
  replace hV := hidp (hV.out.trans (hT.out.mono hV.out.size))
  clear hB hT H0
  go_wp2_with fail
  have hal := hidp (fun o : Obj => (Below.refl w4.heap.size w4).alloc (Nat.le_refl _) o)
  refine (of_any w4.heap.size [2, 1, 1, 1] _ (Blk.new w4 (ivs [2, 1, 1, 1]) _) (by decide) (by decide)).mono ?_
  rintro e w5 ⟨pV2, qV2, mV2, rfl, _, hv, hB⟩
  have hT := hidp (show Below w4.heap.size w4 w5 from ((hal.out _).trans (hB.mono (hal.out _).size)))
  replace hV := hidp (hV.out.trans (hT.out.mono hV.out.size))
  have V2 := hidp (hv)
  clear hv hB hal hT
  go_wp2_with fail
  refine (HA.out _ _ _ _ V2.out).mono ?_
  rintro e w6 ⟨rfl, hB⟩
  have hT := hidp (show Below w5.heap.size w5 w6 from hB)
  replace hV := hidp (hV.out.trans (hT.out.mono hV.out.size))
  clear hB hT V2 HA
  go_wp2_with fail
  have hal := hidp (fun o : Obj => (Below.refl w6.heap.size w6).alloc (Nat.le_refl _) o)
  refine (of_any w6.heap.size [1, 1, 1, 1] _ (Blk.new w6 (ivs [1, 1, 1, 1]) _) (by decide) (by decide)).mono ?_
  rintro e w7 ⟨pV3, qV3, mV3, rfl, _, hv, hB⟩
  have hT := hidp (show Below w6.heap.size w6 w7 from ((hal.out _).trans (hB.mono (hal.out _).size)))
  replace hV := hidp (hV.out.trans (hT.out.mono hV.out.size))
  have V3 := hidp (hv)
  clear hv hB hal hT
  go_wp2_with fail
  refine (HB.out _ _ _ _ V3.out).mono ?_
  rintro e w8 ⟨rfl, hB⟩
  have hT := hidp (show Below w7.heap.size w7 w8 from hB)
  replace hV := hidp (hV.out.trans (hT.out.mono hV.out.size))
  clear hB hT V3 HB
  go_wp2_with fail
  have hal := hidp (fun o : Obj => (Below.refl w8.heap.size w8).alloc (Nat.le_refl _) o)
  refine (of_any w8.heap.size [1, 0] _ (Blk.new w8 (ivs [1, 0]) _) (by decide) (by decide)).mono ?_
  rintro e w9 ⟨pV4, qV4, mV4, rfl, _, hv, hB⟩
  have hT := hidp (show Below w8.heap.size w8 w9 from ((hal.out _).trans (hB.mono (hal.out _).size)))
  replace hV := hidp (hV.out.trans (hT.out.mono hV.out.size))
  have V4 := hidp (hv)
  clear hv hB hal hT
  go_wp2_with fail
  refine (HC.out _ _ _ _ V4.out).mono ?_
  rintro e w10 ⟨rfl, hB⟩
  have hT := hidp (show Below w9.heap.size w9 w10 from hB)
  replace hV := hidp (hV.out.trans (hT.out.mono hV.out.size))
  clear hB hT V4 HC
  go_wp2_with fail
  refine (many_any 65 _ (by decide)).mono ?_
  rintro e w11 ⟨pm, qm, mm, rfl, _, hv, hB⟩
  have hT := hidp (show Below w10.heap.size w10 w11 from hB)
  replace hV := hidp (hV.out.trans (hT.out.mono hV.out.size))
  have VM := hidp (hv)
  clear hv hB hT
  go_wp2_with fail
  refine (HM.out _ _ _ _ VM.out).mono ?_
  rintro e w12 ⟨rfl, hB⟩
  have hT := hidp (show Below w11.heap.size w11 w12 from hB)
  replace hV := hidp (hV.out.trans (hT.out.mono hV.out.size))
  clear hB hT VM HM
  go_wp2_with fail
  have hal := hidp (fun o : Obj => (Below.refl w12.heap.size w12).alloc (Nat.le_refl _) o)
  refine (of_any w12.heap.size [1, 5] _ (Blk.new w12 (ivs [1, 5]) _) (by decide) (by decide)).mono ?_
  rintro e w13 ⟨pV5, qV5, mV5, rfl, _, hv, hB⟩
  have hT := hidp (show Below w12.heap.size w12 w13 from ((hal.out _).trans (hB.mono (hal.out _).size)))
  replace hV := hidp (hV.out.trans (hT.out.mono hV.out.size))
  have V5 := hidp (hv)
  clear hv hB hal hT
  go_wp2_with fail
  have hal := hidp (fun o : Obj => (Below.refl w13.heap.size w13).alloc (Nat.le_refl _) o)
  refine (of_any w13.heap.size [1, 0] _ (Blk.new w13 (ivs [1, 0]) _) (by decide) (by decide)).mono ?_
  rintro e w14 ⟨pV6, qV6, mV6, rfl, _, hv, hB⟩
  have hT := hidp (show Below w13.heap.size w13 w14 from ((hal.out _).trans (hB.mono (hal.out _).size)))
  replace V5 := hidp (V5.out.below hT.out)
  replace hV := hidp (hV.out.trans (hT.out.mono hV.out.size))
  have V6 := hidp (hv)
  clear hv hB hal hT
  go_wp2_with fail
  refine (changes_yes pV5 qV5 0 mV5 (ofL [1, 5]) pV6 qV6 0 mV6 (ofL [1, 0]) none 0 0 0 [] 6 _ V5.out V6.out (Vs.nil _) (by decide) (by decide) (by decide) k7).mono ?_
  rintro e w15 ⟨rfl, hB⟩
  have hT := hidp (show Below w14.heap.size w14 w15 from hB)
  replace hV := hidp (hV.out.trans (hT.out.mono hV.out.size))
  clear hB hT V5 V6
  go_wp2_with fail
  have hal := hidp (fun o : Obj => (Below.refl w15.heap.size w15).alloc (Nat.le_refl _) o)
  refine (of_any w15.heap.size [1, 5] _ (Blk.new w15 (ivs [1, 5]) _) (by decide) (by decide)).mono ?_
  rintro e w16 ⟨pV7, qV7, mV7, rfl, _, hv, hB⟩
  have hT := hidp (show Below w15.heap.size w15 w16 from ((hal.out _).trans (hB.mono (hal.out _).size)))
  replace hV := hidp (hV.out.trans (hT.out.mono hV.out.size))
  have V7 := hidp (hv)
  clear hv hB hal hT
  go_wp2_with fail
  have hal := hidp (fun o : Obj => (Below.refl w16.heap.size w16).alloc (Nat.le_refl _) o)
  refine (of_any w16.heap.size [2, 0] _ (Blk.new w16 (ivs [2, 0]) _) (by decide) (by decide)).mono ?_
  rintro e w17 ⟨pV8, qV8, mV8, rfl, _, hv, hB⟩
  have hT := hidp (show Below w16.heap.size w16 w17 from ((hal.out _).trans (hB.mono (hal.out _).size)))
  replace V7 := hidp (V7.out.below hT.out)
  replace hV := hidp (hV.out.trans (hT.out.mono hV.out.size))
  have V8 := hidp (hv)
  clear hv hB hal hT
  go_wp2_with fail
  refine (changes_yes pV7 qV7 0 mV7 (ofL [1, 5]) pV8 qV8 0 mV8 (ofL [2, 0]) none 0 0 0 [] 10 _ V7.out V8.out (Vs.nil _) (by decide) (by decide) (by decide) k8).mono ?_
  rintro e w18 ⟨rfl, hB⟩
  have hT := hidp (show Below w17.heap.size w17 w18 from hB)
  replace hV := hidp (hV.out.trans (hT.out.mono hV.out.size))
  clear hB hT V7 V8
  go_wp2_with fail
  have hal := hidp (fun o : Obj => (Below.refl w18.heap.size w18).alloc (Nat.le_refl _) o)
  refine (of_any w18.heap.size [1, 5] _ (Blk.new w18 (ivs [1, 5]) _) (by decide) (by decide)).mono ?_
  rintro e w19 ⟨pV9, qV9, mV9, rfl, _, hv, hB⟩
  have hT := hidp (show Below w18.heap.size w18 w19 from ((hal.out _).trans (hB.mono (hal.out _).size)))
  replace hV := hidp (hV.out.trans (hT.out.mono hV.out.size))
  have V9 := hidp (hv)
  clear hv hB hal hT
  go_wp2_with fail
  have hal := hidp (fun o : Obj => (Below.refl w19.heap.size w19).alloc (Nat.le_refl _) o)
  refine (of_any w19.heap.size [1, 9] _ (Blk.new w19 (ivs [1, 9]) _) (by decide) (by decide)).mono ?_
  rintro e w20 ⟨pV10, qV10, mV10, rfl, _, hv, hB⟩
  have hT := hidp (show Below w19.heap.size w19 w20 from ((hal.out _).trans (hB.mono (hal.out _).size)))
  replace V9 := hidp (V9.out.below hT.out)
  replace hV := hidp (hV.out.trans (hT.out.mono hV.out.size))
  have V10 := hidp (hv)
  clear hv hB hal hT
  go_wp2_with fail
  have hal := hidp (fun o : Obj => (Below.refl w20.heap.size w20).alloc (Nat.le_refl _) o)
  refine (of_any w20.heap.size [1, 9] _ (Blk.new w20 (ivs [1, 9]) _) (by decide) (by decide)).mono ?_
  rintro e w21 ⟨pV11, qV11, mV11, rfl, _, hv, hB⟩
  have hT := hidp (show Below w20.heap.size w20 w21 from ((hal.out _).trans (hB.mono (hal.out _).size)))
  replace V9 := hidp (V9.out.below hT.out)
  replace V10 := hidp (V10.out.below hT.out)
  replace hV := hidp (hV.out.trans (hT.out.mono hV.out.size))
  have V11 := hidp (hv)
  clear hv hB hal hT
  go_wp2_with fail
  refine (changes_yes pV9 qV9 0 mV9 (ofL [1, 5]) pV10 qV10 0 mV10 (ofL [1, 9]) pV11 qV11 0 mV11 (ofL [1, 9]) 0 _ V9.out V10.out V11.out (by decide) (by decide) (by decide) k9).mono ?_
  rintro e w22 ⟨rfl, hB⟩
  have hT := hidp (show Below w21.heap.size w21 w22 from hB)
  replace hV := hidp (hV.out.trans (hT.out.mono hV.out.size))
  clear hB hT V9 V10 V11
  go_wp2_with fail
  have hal := hidp (fun o : Obj => (Below.refl w22.heap.size w22).alloc (Nat.le_refl _) o)
  refine (of_any w22.heap.size [1, 5] _ (Blk.new w22 (ivs [1, 5]) _) (by decide) (by decide)).mono ?_
  rintro e w23 ⟨pV12, qV12, mV12, rfl, _, hv, hB⟩
  have hT := hidp (show Below w22.heap.size w22 w23 from ((hal.out _).trans (hB.mono (hal.out _).size)))
  replace hV := hidp (hV.out.trans (hT.out.mono hV.out.size))
  have V12 := hidp (hv)
  clear hv hB hal hT
  go_wp2_with fail
  have hal := hidp (fun o : Obj => (Below.refl w23.heap.size w23).alloc (Nat.le_refl _) o)
  refine (of_any w23.heap.size [3, 1, 2, 1] _ (Blk.new w23 (ivs [3, 1, 2, 1]) _) (by decide) (by decide)).mono ?_
  rintro e w24 ⟨pV13, qV13, mV13, rfl, _, hv, hB⟩
  have hT := hidp (show Below w23.heap.size w23 w24 from ((hal.out _).trans (hB.mono (hal.out _).size)))
  replace V12 := hidp (V12.out.below hT.out)
  replace hV := hidp (hV.out.trans (hT.out.mono hV.out.size))
  have V13 := hidp (hv)
  clear hv hB hal hT
  go_wp2_with fail
  refine (changes_yes pV12 qV12 0 mV12 (ofL [1, 5]) pV13 qV13 0 mV13 (ofL [3, 1, 2, 1]) none 0 0 0 [] 9 _ V12.out V13.out (Vs.nil _) (by decide) (by decide) (by decide) k10).mono ?_
  rintro e w25 ⟨rfl, hB⟩
  have hT := hidp (show Below w24.heap.size w24 w25 from hB)
  replace hV := hidp (hV.out.trans (hT.out.mono hV.out.size))
  clear hB hT V12 V13
  go_wp2_with fail
  refine (vawake_any _).mono ?_
  rintro e w26 ⟨rfl, hB⟩
  have hT := hidp (show Below w25.heap.size w25 w26 from hB)
  replace hV := hidp (hV.out.trans (hT.out.mono hV.out.size))
  clear hB hT
  go_wp2_with fail
  go_ret
  exact ⟨rfl, hV.out⟩
end Go.Proofs.Ytlfmmmlheloloaa
