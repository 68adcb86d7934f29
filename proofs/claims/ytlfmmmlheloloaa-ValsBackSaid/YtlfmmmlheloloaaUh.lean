/-
  The walk of ValsBack.
-/
import Derived.Test.YtlfmmmlheloloaaUg
import Derived.Test.YtlfmmmlheloloaaVq
namespace Go.Proofs.Ytlfmmmlheloloaa
open Go.RowKit Go.Lib Go.Maps

theorem encB_pos (l : List Vd) : 0 < (encB l).length := by unfold encB; rw [List.length_append, nB_len]; omega
theorem flat_le : ∀ l : List Vd, (l.flatMap vB).length ≤ 13 * l.length
  | [] => Nat.le_refl _
  | v :: l => by
    have ih := flat_le l
    have h1 := dg_le v.p.toNat
    have h2 : (kb v.k).length = 4 := rfl
    have h3 : (vB v).length = 4 + (dg v.p.toNat + 1) := by unfold vB; rw [List.length_append, nB_len, h2]
    rw [List.flatMap_cons, List.length_append, List.length_cons]
    omega
theorem encB_le (l : List Vd) : (encB l).length ≤ 9 + 13 * l.length := by
  have h1 := dg_le l.length
  have h2 := flat_le l
  unfold encB
  rw [List.length_append, nB_len]
  omega
theorem bvs_app (a b : List Nat) : bvs (a ++ b) = bvs a ++ bvs b := by unfold bvs; rw [List.map_append]
structure SumI (w wr : World) (B i : Nat) (l : List Vd) : Prop where
  bel : Below w.heap.size w wr
  blk : Blk wr B [.int .u64 (hiw (sumP l i)), .int .u64 (low (sumP l i))] 100
  hB : w.heap.size ≤ B
/-- What is asked of a set that is well formed. -/
structure LawsL (a : Option Addr) (b o cap : Nat) (l : List Vd) (X : List Nat) : Prop where
  hE : ∀ W, Vs W a b o cap l → Calls Try.prog 60 #[.slice a l.length cap] W (DoneP W X)
  hD : ∀ p b c W, Bs W p b 0 X c → Calls Try.prog 47 #[.slice p X.length c] W fun e w' => (∃ p b c, e = .returned (.tuple #[.slice p l.length c, .agg #[.int .i64 0, .int .i64 0]]) ∧ W.heap.size ≤ b ∧ Vs w' p b 0 c l) ∧ Below W.heap.size W w'
  hP : ∀ p b c W (r : Nat), r < X.length → Bs W p b 0 X c → Calls Try.prog 47 #[.slice p r c] W fun e w' => (∃ p n c, ∃ x y : Nat, e = .returned (.tuple #[.slice p n c, .agg #[.int .i64 x, .int .i64 y]]) ∧ x ≠ 0) ∧ Below W.heap.size W w'
  hM : ∀ p b c W, Bs W p b 0 (X ++ [1]) c → Calls Try.prog 47 #[.slice p (X ++ [1]).length c] W fun e w' => (∃ p c, e = .returned (.tuple #[.slice p 0 c, .agg #[.int .i64 4, .int .i64 X.length]])) ∧ Below W.heap.size W w'
  hS : ∀ p b2 c W, Vs W p b2 0 c l → Vs W a b o cap l → Calls Try.prog 49 #[.slice p l.length c, .slice a l.length cap] W fun e w' => e = .returned (.bool true) ∧ Below W.heap.size W w'
  hT : ∀ W, Vs W a b o cap l → Calls Try.prog 64 #[.slice a l.length cap] W fun e w' => e = .returned (.tuple #[.agg #[.int .u64 (hiw (sumP l l.length)), .int .u64 (low (sumP l l.length))], .int .i64 0]) ∧ Below W.heap.size W w'
  pos : 0 < X.length
  le : X.length ≤ 1000
theorem laws_l (a : Option Addr) (b o cap : Nat) (l : List Vd) (hk : ∀ v ∈ l, VdOk v) (hc : chk l = 0) : LawsL a b o cap l (encB l) where
  hE := fun W h => encode_ok a b o cap l W h hc
  hD := fun p b c W h => by
    have hl := encB_le l
    have h64 := chk_ok hc
    have q := decode_any p b 0 c (encB l) W h (by omega)
    rw [decO_back hc hk] at q
    exact q
  hP := fun p b c W r hr h => by
    have hl := encB_le l
    have h64 := chk_ok hc
    have hn : ((encB l).take r).length = r := by rw [List.length_take]; omega
    have q := decode_any p b 0 c ((encB l).take r) W (h.take r) (by omega)
    have hx := decO_cut hc hk hr (encB_byte l)
    rw [hn] at q
    refine q.mono ?_
    rintro e w' ⟨⟨p, b, c, rfl, _, _⟩, hB⟩
    exact ⟨⟨p, _, c, _, _, rfl, hx⟩, hB⟩
  hM := fun p b c W h => by
    have hl := encB_le l
    have h64 := chk_ok hc
    have q := decode_any p b 0 c (encB l ++ [1]) W h (by rw [List.length_append]; simp; omega)
    rw [decO_more hc hk (Y := [1]) (by decide)] at q
    refine q.mono ?_
    rintro e w' ⟨⟨p, b, c, rfl, _, _⟩, hB⟩
    exact ⟨⟨p, c, rfl⟩, hB⟩
  hS := fun p b2 c W h1 h2 => by
    have h64 := chk_ok hc
    have q := sameVals_any p b2 0 c l a b o cap l W h1 h2 (by omega)
    rw [decide_eq_true (rfl : l = l)] at q
    exact q
  hT := fun W h => by
    have q := total_ok a b o cap l W h hc
    rw [← sumP_all] at q
    exact q
  pos := encB_pos l
  le := by
    have hl := encB_le l
    have h64 := chk_ok hc
    omega

set_option maxRecDepth 100000 in
set_option maxHeartbeats 4000000 in
theorem vback_long1 (a : Option Addr) (cap : Nat) (l : List Vd) (x : Int) (a2 : Option Addr) (cap2 : Nat) (L : List Nat) (w : World) (hl : 64 < l.length) : Calls Try.prog 12 #[.slice a l.length cap, .int .i64 x, .slice a2 L.length cap2] w fun e w' => e = .returned (.bool true) ∧ Below w.heap.size w w' := by
  have hV : Hid (Below w.heap.size w w) := hidp (Below.refl _ _)
  go_enter Try.func12, Try.ntmps12
  go_wp2_with fail
  refine (vknown_any w).mono ?_
  rintro e w1 ⟨rfl, hB⟩
  have hT := hidp (show Below w.heap.size w w1 from hB)
  replace hV := hidp (hV.out.trans (hT.out.mono hV.out.size))
  clear hB hT
  go_wp2_with fail
  go_ret
  exact ⟨rfl, hV.out⟩
set_option maxRecDepth 100000 in
set_option maxHeartbeats 4000000 in
theorem vback_long2 (a : Option Addr) (cap : Nat) (l : List Vd) (x : Int) (a2 : Option Addr) (cap2 : Nat) (L : List Nat) (w : World) (hl : l.length ≤ 64) (hL : 1000 < L.length) : Calls Try.prog 12 #[.slice a l.length cap, .int .i64 x, .slice a2 L.length cap2] w fun e w' => e = .returned (.bool true) ∧ Below w.heap.size w w' := by
  have hV : Hid (Below w.heap.size w w) := hidp (Below.refl _ _)
  go_enter Try.func12, Try.ntmps12
  go_wp2_with fail
  refine (vknown_any w).mono ?_
  rintro e w1 ⟨rfl, hB⟩
  have hT := hidp (show Below w.heap.size w w1 from hB)
  replace hV := hidp (hV.out.trans (hT.out.mono hV.out.size))
  clear hB hT
  go_wp2_with fail
  go_ret
  exact ⟨rfl, hV.out⟩
set_option maxRecDepth 100000 in
set_option maxHeartbeats 16000000 in
theorem vback_A (a : Option Addr) (b o cap : Nat) (l : List Vd) (x : Int) (a2 : Option Addr) (b2 o2 cap2 : Nat) (L : List Nat) (w : World) (h : Vs w a b o cap l) (k : Bs w a2 b2 o2 L cap2) (hl : l.length ≤ 64) (hL : L.length ≤ 1000) (m : List Vd) (hm : decO L = (m, 0, 0)) : Calls Try.prog 12 #[.slice a l.length cap, .int .i64 x, .slice a2 L.length cap2] w fun e w' => e = .returned (.bool true) ∧ Below w.heap.size w w' := by
  have hV : Hid (Below w.heap.size w w) := hidp (Below.refl _ _)
  have H := hidp h
  have HL := hidp k
  have q0 := decO_form k.byte
  rw [hm] at q0
  have q1 := q0 rfl
  have HD : ∀ W, Bs W a2 b2 o2 L cap2 → Calls Try.prog 47 #[.slice a2 L.length cap2] W fun e w' => (∃ p b c, e = .returned (.tuple #[.slice p m.length c, .agg #[.int .i64 0, .int .i64 0]]) ∧ W.heap.size ≤ b ∧ Vs w' p b 0 c m) ∧ Below W.heap.size W w' := fun W h => by
    have q := decode_any a2 b2 o2 cap2 L W h (by omega)
    rw [hm] at q
    exact q
  have HE : ∀ p b c W, Vs W p b 0 c m → Calls Try.prog 60 #[.slice p m.length c] W (DoneP W L) := fun p b c W h => by
    have q := encode_ok p b 0 c m W h q1.2.1
    rw [q1.2.2.1] at q
    exact q
  have e1 : ∀ w, (binOp .eql 55 (.agg #[.int .i64 0, .int .i64 0]) (.agg #[.int .i64 0, .int .i64 0])).run Try.prog w = .ok (.bool true) w := fun w => by rw [eqF]; rfl
  clear q1
  have e2 : ∀ w, (binOp .neq 55 (.agg #[.int .i64 0, .int .i64 0]) (.agg #[.int .i64 0, .int .i64 0])).run Try.prog w = .ok (.bool false) w := fun w => by rw [neF]; rfl
  have e3 : ∀ (n : Nat) w, (binOp .neq 55 (.agg #[.int .i64 4, .int .i64 n]) (.agg #[.int .i64 4, .int .i64 n])).run Try.prog w = .ok (.bool false) w := fun n w => by rw [neF]; simp
  have e5 := eqW
  have HK := hidp h.ok
  replace HD := hidp HD
  replace HE := hidp HE
  clear k q0 hm
  go_enter Try.func12, Try.ntmps12
  go_wp2_with fail
  refine (vknown_any w).mono ?_
  rintro e w1 ⟨rfl, hB⟩
  have hT := hidp (show Below w.heap.size w w1 from hB)
  replace H := hidp (H.out.below hT.out)
  replace HL := hidp (HL.out.below hT.out)
  replace hV := hidp (hV.out.trans (hT.out.mono hV.out.size))
  clear hB hT
  go_wp2_with fail
  refine (HD.out _ HL.out).mono ?_
  rintro e w2 ⟨⟨pd, qd, md, rfl, _, hv⟩, hB⟩
  have hT := hidp (show Below w1.heap.size w1 w2 from hB)
  replace H := hidp (H.out.below hT.out)
  replace HL := hidp (HL.out.below hT.out)
  replace hV := hidp (hV.out.trans (hT.out.mono hV.out.size))
  have D1 := hidp (hv)
  clear hB hT hv HD
  go_wp2_with fail
  have hal := hidp (fun o : Obj => (Below.refl w2.heap.size w2).alloc (Nat.le_refl _) o)
  refine (HE.out _ _ _ _ (D1.out.below (hal.out _))).mono ?_
  rintro e w3 ⟨⟨pe, qe, me, rfl, _, _, hs⟩, hB⟩
  have hT := hidp (show Below w2.heap.size w2 w3 from ((hal.out _).trans (hB.mono (hal.out _).size)))
  replace H := hidp (H.out.below hT.out)
  replace HL := hidp (HL.out.below hT.out)
  replace hV := hidp (hV.out.trans (hT.out.mono hV.out.size))
  have E1 := hidp (hs)
  have T1 := hidp (hB.blk' (Blk.new w2 [.int .i64 0, .int .i64 0] 55))
  have L1 := hidp (show w2.heap.size < w3.heap.size from by have := hB.size; simp at this; omega)
  clear hB hT hs D1 HE hal
  have x0 := T1.out.cell 0
  have x1 := T1.out.cell 1
  simp only [List.getElem?_cons_zero, List.getElem?_cons_succ] at x0 x1
  have l1 := L1.out
  go_wp2_with fail
  refine (sameBytes_yes HL.out E1.out).mono ?_
  rintro e wx ⟨rfl, hwx⟩
  subst hwx
  clear E1
  go_wp2_with fail
  refine (check_any a b o cap l _ H.out).mono ?_
  rintro e w4 ⟨rfl, hB⟩
  have hT := hidp (show Below w3.heap.size w3 w4 from hB)
  replace H := hidp (H.out.below hT.out)
  replace HL := hidp (HL.out.below hT.out)
  replace hV := hidp (hV.out.trans (hT.out.mono hV.out.size))
  clear hB hT x0 x1 l1 T1 L1
  clear HL
  by_cases hc : chk l = 0
  case neg =>
    have ht : (((chk l : Nat) : Int) != 0) = true := by rw [bne_iff_ne]; omega
    generalize chk l = n at *
    go_wp2_with fail
    go_ret
    exact ⟨rfl, hV.out⟩
  rw [hc]
  obtain ⟨Z, hZ⟩ : ∃ Z, Z = encB l := ⟨_, rfl⟩
  have HX := laws_l a b o cap l HK.out hc
  rw [← hZ] at HX
  replace HX := hidp HX
  replace hc := hidp hc
  clear hZ HK
  go_wp2_with fail
  refine (HX.out.hE _ H.out).mono ?_
  rintro e w5 ⟨⟨pg, qg, mg, rfl, _, hpg, hs⟩, hB⟩
  have hT := hidp (show Below w4.heap.size w4 w5 from hB)
  replace H := hidp (H.out.below hT.out)
  replace hV := hidp (hV.out.trans (hT.out.mono hV.out.size))
  have F1 := hidp (hs)
  clear hB hT hs
  go_wp2_with fail
  refine (HX.out.hD _ _ _ _ F1.out).mono ?_
  rintro e w6 ⟨⟨px, qx, mx, rfl, _, hv⟩, hB⟩
  have hT := hidp (show Below w5.heap.size w5 w6 from hB)
  replace H := hidp (H.out.below hT.out)
  replace F1 := hidp (F1.out.below hT.out)
  replace hV := hidp (hV.out.trans (hT.out.mono hV.out.size))
  have V1 := hidp (hv)
  clear hB hT hv
  have hal0 := hidp (fun o : Obj => (Below.refl w6.heap.size w6).alloc (Nat.le_refl _) o)
  go_wp2_with fail
  refine (Pick_any x Z.length _ HX.out.pos HX.out.le).mono ?_
  rintro e wx ⟨⟨r, hr, rfl⟩, hwx⟩
  subst hwx
  have hR := hidp hr
  have kp := fun w => run_part_h pg Z.length mg r (by have := F1.out.le; have := hR.out; omega) w
  clear hr hal0
  go_wp2_with fail
  have hal := hidp (fun o : Obj => (Below.refl w6.heap.size w6).alloc (Nat.le_refl _) o)
  refine (HX.out.hP _ _ _ _ r hR.out (F1.out.below (hal.out _))).mono ?_
  rintro e w7 ⟨⟨pi, ni, mi, ie, ia, rfl, hie⟩, hB⟩
  have hT := hidp (show Below w6.heap.size w6 w7 from ((hal.out _).trans (hB.mono (hal.out _).size)))
  replace H := hidp (H.out.below hT.out)
  replace F1 := hidp (F1.out.below hT.out)
  replace V1 := hidp (V1.out.below hT.out)
  replace hV := hidp (hV.out.trans (hT.out.mono hV.out.size))
  have T2 := hidp (hB.blk' (Blk.new w6 [.int .i64 0, .int .i64 0] 55))
  have L2 := hidp (show w6.heap.size < w7.heap.size from by have := hB.size; simp at this; omega)
  have HI := hidp hie
  clear hB hT kp hR hal hie
  go_wp2_with fail
  have hal := hidp (fun o : Obj => (Below.refl w7.heap.size w7).alloc (Nat.le_refl _) o)
  refine (copyBytes_any pg mg Z _ (ByS.of_bs (F1.out.below (hal.out _)) hpg) (by have := HX.out.le; omega)).mono ?_
  rintro e w0 ⟨vq, rfl, hq, hB⟩
  have hb0 := hidp hB
  have hb1 := hidp (fun o : Obj => (Below.refl _ w0).alloc hb0.out.size o)
  have hown := hidp (fun o : Obj => hq.alloc o)
  have HS1 := hidp (fun o : Obj => ByS.of_bs (arr_bs (X := [1]) (by decide) (Blk.new w0 (bvs [1]) 5)) (fun h => by cases h))
  clear hq hB
  go_wp2_with (at_builtin; refine wpList_append_byS rfl _ _ rfl _ Z.length (bvs Z) _ rfl (hown.out _) (some ⟨w0.heap.size, 0, none⟩) 1 [1] rfl (HS1.out default) (by have := HX.out.le; simp; omega) (by have := hb0.out.size; simp at this ⊢; omega) ?_; intro v' w8 hown' hgrow; have hO := hidp hown'; have hB1 := hidp ((hb0.out.trans (hb1.out _)).grown hgrow (by have := hb0.out.size; simp at this ⊢; omega) (fun j hj => ((hown.out default).lt j hj).1)); clear hown' hgrow)
  have hO2 : w8.ownsRow (w7.heap.size + 1) 5 1 v' (Z ++ [1]).length (bvs (Z ++ [1])) := by
    have q := hO.out
    rw [List.length_append, bvs_app]
    simpa using q
  obtain ⟨pq, bq, mq, rfl, _, _, hs⟩ := Bs.of_own hO2 (fun y hy => by
    rcases List.mem_append.1 hy with h1 | h1
    · exact F1.out.byte y h1
    · rw [List.mem_singleton] at h1; omega)
  have hT := hidp (show Below w7.heap.size w7 w8 from (hal.out _).trans (hB1.out.mono (hal.out _).size))
  have S2 := hidp hs
  have T3 := hidp (hB1.out.blk' (Blk.new w7 [.int .i64 ie, .int .i64 ia] 55))
  have L3 := hidp (show w7.heap.size < w8.heap.size from by have := hB1.out.size; simp at this; omega)
  clear hs hO hO2 hb0 hb1 hB1 hown HS1 hal F1 hpg
  replace H := hidp (H.out.below hT.out)
  replace V1 := hidp (V1.out.below hT.out)
  replace T2 := hidp (hT.out.blk' T2.out)
  replace L2 := hidp (Nat.lt_of_lt_of_le L2.out hT.out.size)
  replace hV := hidp (hV.out.trans (hT.out.mono hV.out.size))
  clear hT
  go_wp2_with fail
  refine (HX.out.hM _ _ _ _ S2.out).mono ?_
  rintro e w9 ⟨⟨pj, mj, rfl⟩, hB⟩
  have hT := hidp (show Below w8.heap.size w8 w9 from hB)
  replace H := hidp (H.out.below hT.out)
  replace V1 := hidp (V1.out.below hT.out)
  replace T2 := hidp (hT.out.blk' T2.out)
  replace L2 := hidp (Nat.lt_of_lt_of_le L2.out hT.out.size)
  replace T3 := hidp (hT.out.blk' T3.out)
  replace L3 := hidp (Nat.lt_of_lt_of_le L3.out hT.out.size)
  replace hV := hidp (hV.out.trans (hT.out.mono hV.out.size))
  clear hB hT S2
  have x0 := T2.out.cell 0
  have x1 := T2.out.cell 1
  simp only [List.getElem?_cons_zero, List.getElem?_cons_succ] at x0 x1
  have l2 := L2.out
  go_wp2_with fail
  have hal := hidp (fun o : Obj => (Below.refl w9.heap.size w9).alloc (Nat.le_refl _) o)
  refine (HX.out.hS _ _ _ _ (V1.out.below (hal.out _)) (H.out.below (hal.out _))).mono ?_
  rintro e w10 ⟨rfl, hB⟩
  have hT := hidp (show Below w9.heap.size w9 w10 from ((hal.out _).trans (hB.mono (hal.out _).size)))
  replace H := hidp (H.out.below hT.out)
  replace T3 := hidp (hT.out.blk' T3.out)
  replace L3 := hidp (Nat.lt_of_lt_of_le L3.out hT.out.size)
  replace hV := hidp (hV.out.trans (hT.out.mono hV.out.size))
  have T4 := hidp (hB.blk' (Blk.new w9 [.int .i64 4, .int .i64 Z.length] 55))
  have L4 := hidp (show w9.heap.size < w10.heap.size from by have := hB.size; simp at this; omega)
  clear hB hT x0 x1 l2 T2 L2 V1 hal
  have y0 := T3.out.cell 0
  have y1 := T3.out.cell 1
  have z0 := T4.out.cell 0
  have z1 := T4.out.cell 1
  simp only [List.getElem?_cons_zero, List.getElem?_cons_succ] at y0 y1 z0 z1
  have l3 := L3.out
  have l4 := L4.out
  have hi0 : ((ie : Int) == 0) = false := by have := HI.out; rw [beq_eq_false_iff_ne]; omega
  have hi1 : ¬ ((ie : Int) = 0) := by have := HI.out; omega
  have H0 : Hid (SumI w (w10.alloc (.cells #[.int .u64 0, .int .u64 0] 100)) w10.heap.size 0 l) := by
    refine hidp ⟨hV.out.alloc hV.out.size _, ?_, hV.out.size⟩
    rw [sumP_zero]
    exact Blk.new w10 [.int .u64 0, .int .u64 0] _
  have H2 := hidp (fun W (hB : Below w.heap.size w W) => h.below hB)
  clear h
  go_wp2_with fail
  go_loopw [21] (fun x wr => ∃ i : Nat, i ≤ l.length ∧ x = .int .i64 i ∧ Hid (SumI w wr w10.heap.size i l)) (fun x _ => l.length - (Go.RowKit.intOf x).toNat)
  case atStart => exact ⟨0, by omega, rfl, H0⟩
  case round =>
    obtain ⟨i, hin, rfl, hr⟩ := hrel
    clear H0 y0 y1 z0 z1 l3 l4 T3 T4 L3 L4 hi0 hi1
    by_cases hlt : i < l.length
    · have hv1 := H2.out wr hr.out.bel
      obtain ⟨v, hv, hok, rfl, hbl, c0, c1, c2, c3, c4⟩ := hv1.at hlt
      have HF := find_any _ b o cap l v.k wr hv1 (by omega) hok.k
      rw [fnd_self hc.out hv] at HF
      replace HF := hidp HF
      have HV := hidp hv
      have hBB := hidp hr.out.hB
      obtain ⟨n, hn⟩ : ∃ n : Nat, v.p = n := ⟨v.p.toNat, by have := (chk_ok hc.out).2.2.2 v (List.mem_of_getElem? hv); omega⟩
      have hn2 : n ≤ 9223372036854775807 := by have := (chk_ok hc.out).2.2.2 v (List.mem_of_getElem? hv); omega
      clear hv1 hv hok
      have hsn := sumP_snoc HV.out
      rw [hn, Int.toNat_natCast] at hsn
      have hslt := sumP_lt hc.out (i + 1)
      have HSN := hidp (And.intro hsn hslt)
      clear hsn hslt
      go_wp2_with fail
      refine HF.out.mono ?_
      rintro e u1 ⟨rfl, hB⟩
      have U1 := hidp (hr.out.bel.trans (hB.mono hr.out.bel.size))
      have D1 := hidp (hB.blk' hr.out.blk)
      have G1 := hidp (show w10.heap.size < u1.heap.size from D1.out.lt)
      have c5 := (H2.out u1 U1.out).cell i v HV.out 4 _ rfl
      rw [hn] at c5
      have hbl1 := Nat.lt_of_lt_of_le hbl hB.size
      clear c0 c1 c2 c3 c4 hB HF hr hbl
      go_wp2_with fail
      refine (Of_nat n _ hn2).mono ?_
      rintro e u2 ⟨rfl, hB⟩
      have U2 := hidp (U1.out.trans (hB.mono U1.out.size))
      have D2 := hidp (hB.blk' D1.out)
      have G2 := hidp (Nat.lt_of_lt_of_le G1.out hB.size)
      clear hB U1 D1 G1 c5 hbl1
      have d0 := D2.out.cell 0
      have d1 := D2.out.cell 1
      simp only [List.getElem?_cons_zero, List.getElem?_cons_succ] at d0 d1
      have g2 := G2.out
      go_wp2_with fail
      have hal := hidp (fun o : Obj => (Below.refl u2.heap.size u2).alloc (Nat.le_refl _) o)
      refine (Plus_ok (sumP l i) n _ (by have := HSN.out; omega)).mono ?_
      rintro e u3 ⟨rfl, hB⟩
      have hT := hidp (show Below u2.heap.size u2 u3 from (hal.out _).trans (hB.mono (hal.out _).size))
      have U3 := hidp (U2.out.trans (hT.out.mono U2.out.size))
      have D3 := hidp (hT.out.blk' D2.out)
      have G3 := hidp (Nat.lt_of_lt_of_le g2 hT.out.size)
      clear hB hT hal U2 D2 G2 d0 d1 g2
      rw [← HSN.out.1]
      have f0 := D3.out.free 0
      have f1 := D3.out.free 1
      have g3 := G3.out
      have k0 := D3.out.cell 0
      have k1 := D3.out.cell 1
      simp only [List.getElem?_cons_zero, List.getElem?_cons_succ] at k0 k1
      have hbl3 := D3.out.lt
      go_wp2_with fail
      have hb2 := (U3.out.setCell (p := ⟨w10.heap.size, 0, none⟩) hBB.out (.int .u64 (hiw (sumP l (i + 1))))).setCell (p := ⟨w10.heap.size, 1, none⟩) hBB.out (.int .u64 (low (sumP l (i + 1))))
      have hk2 := (D3.out.set 0 (.int .u64 (hiw (sumP l (i + 1))))).set 1 (.int .u64 (low (sumP l (i + 1))))
      have H7 := hidp (fun oo : Obj => (⟨hb2.alloc hb2.size oo, hk2.alloc oo, hBB.out⟩ : SumI w _ w10.heap.size (i + 1) l))
      rw [show ((i : Int) + 1) = ((i + 1 : Nat) : Int) by omega]
      exact ⟨⟨i + 1, by omega, rfl, hidp (H7.out _)⟩, by show l.length - ((i + 1 : Nat) : Int).toNat < l.length - ((i : Nat) : Int).toNat; omega⟩
    · obtain rfl : i = l.length := by omega
      have D0 := hidp hr.out.blk
      have U0 := hidp hr.out.bel
      clear hlt hr
      go_wp2_with fail
      refine (HX.out.hT _ (H2.out _ U0.out)).mono ?_
      rintro e u1 ⟨rfl, hB⟩
      have U1 := hidp (U0.out.trans (hB.mono U0.out.size))
      have D1 := hidp (hB.blk' D0.out)
      have g1 := D1.out.lt
      have d0 := D1.out.cell 0
      have d1 := D1.out.cell 1
      simp only [List.getElem?_cons_zero, List.getElem?_cons_succ] at d0 d1
      clear hB U0 D0
      go_wp2_with fail
      go_ret
      exact ⟨rfl, U1.out.alloc U1.out.size _⟩
set_option maxRecDepth 100000 in
set_option maxHeartbeats 16000000 in
theorem vback_B (a : Option Addr) (b o cap : Nat) (l : List Vd) (x : Int) (a2 : Option Addr) (b2 o2 cap2 : Nat) (L : List Nat) (w : World) (h : Vs w a b o cap l) (k : Bs w a2 b2 o2 L cap2) (hl : l.length ≤ 64) (hL : L.length ≤ 1000) (X Y : Nat) (hm : decO L = ([], X, Y)) (hX : X ≠ 0) (hY : Y ≤ L.length) : Calls Try.prog 12 #[.slice a l.length cap, .int .i64 x, .slice a2 L.length cap2] w fun e w' => e = .returned (.bool true) ∧ Below w.heap.size w w' := by
  have hV : Hid (Below w.heap.size w w) := hidp (Below.refl _ _)
  have H := hidp h
  have HL := hidp k
  have q0 := decO_form k.byte
  have HD : ∀ W, Bs W a2 b2 o2 L cap2 → Calls Try.prog 47 #[.slice a2 L.length cap2] W fun e w' => (∃ p b c, e = .returned (.tuple #[.slice p 0 c, .agg #[.int .i64 X, .int .i64 Y]]) ∧ W.heap.size ≤ b ∧ Vs w' p b 0 c []) ∧ Below W.heap.size W w' := fun W h => by
    have q := decode_any a2 b2 o2 cap2 L W h (by omega)
    rw [hm] at q
    exact q
  have HE : ∀ p b c W, Vs W p b 0 c [] → Calls Try.prog 60 #[.slice p 0 c] W fun e w' => e = .returned (.tuple #[.slice none 0 0, .int .i64 6]) ∧ Below W.heap.size W w' := fun p b c W h => encode_bad p b 0 c [] W h (by decide)
  have e1 : ∀ w, (binOp .eql 55 (.agg #[.int .i64 X, .int .i64 Y]) (.agg #[.int .i64 0, .int .i64 0])).run Try.prog w = .ok (.bool false) w := fun w => by
    rw [eqF, show ((X : Int) == 0) = false by rw [beq_eq_false_iff_ne]; omega]; rfl
  have e4 : ∀ w, (binOp .neq 55 (.agg #[.int .i64 X, .int .i64 Y]) (.agg #[.int .i64 0, .int .i64 0])).run Try.prog w = .ok (.bool true) w := fun w => by
    rw [neF, show ((X : Int) == 0) = false by rw [beq_eq_false_iff_ne]; omega]; rfl
  have e2 : ∀ w, (binOp .neq 55 (.agg #[.int .i64 0, .int .i64 0]) (.agg #[.int .i64 0, .int .i64 0])).run Try.prog w = .ok (.bool false) w := fun w => by rw [neF]; rfl
  have e3 : ∀ (n : Nat) w, (binOp .neq 55 (.agg #[.int .i64 4, .int .i64 n]) (.agg #[.int .i64 4, .int .i64 n])).run Try.prog w = .ok (.bool false) w := fun n w => by rw [neF]; simp
  have e5 := eqW
  have HK := hidp h.ok
  replace HD := hidp HD
  replace HE := hidp HE
  clear k q0 hm
  go_enter Try.func12, Try.ntmps12
  go_wp2_with fail
  refine (vknown_any w).mono ?_
  rintro e w1 ⟨rfl, hB⟩
  have hT := hidp (show Below w.heap.size w w1 from hB)
  replace H := hidp (H.out.below hT.out)
  replace HL := hidp (HL.out.below hT.out)
  replace hV := hidp (hV.out.trans (hT.out.mono hV.out.size))
  clear hB hT
  go_wp2_with fail
  refine (HD.out _ HL.out).mono ?_
  rintro e w2 ⟨⟨pd, qd, md, rfl, _, hv⟩, hB⟩
  have hT := hidp (show Below w1.heap.size w1 w2 from hB)
  replace H := hidp (H.out.below hT.out)
  replace HL := hidp (HL.out.below hT.out)
  replace hV := hidp (hV.out.trans (hT.out.mono hV.out.size))
  have D1 := hidp (hv)
  clear hB hT hv HD
  go_wp2_with fail
  have hal := hidp (fun o : Obj => (Below.refl w2.heap.size w2).alloc (Nat.le_refl _) o)
  refine (HE.out _ _ _ _ (D1.out.below (hal.out _))).mono ?_
  rintro e w3 ⟨rfl, hB⟩
  have hT := hidp (show Below w2.heap.size w2 w3 from ((hal.out _).trans (hB.mono (hal.out _).size)))
  replace H := hidp (H.out.below hT.out)
  replace HL := hidp (HL.out.below hT.out)
  replace hV := hidp (hV.out.trans (hT.out.mono hV.out.size))
  have T1 := hidp (hB.blk' (Blk.new w2 [.int .i64 X, .int .i64 Y] 55))
  have L1 := hidp (show w2.heap.size < w3.heap.size from by have := hB.size; simp at this; omega)
  clear hB hT D1 HE hal
  have x0 := T1.out.cell 0
  have x1 := T1.out.cell 1
  simp only [List.getElem?_cons_zero, List.getElem?_cons_succ] at x0 x1
  have l1 := L1.out
  go_wp2_with fail
  refine (check_any a b o cap l _ H.out).mono ?_
  rintro e w4 ⟨rfl, hB⟩
  have hT := hidp (show Below w3.heap.size w3 w4 from hB)
  replace H := hidp (H.out.below hT.out)
  replace HL := hidp (HL.out.below hT.out)
  replace hV := hidp (hV.out.trans (hT.out.mono hV.out.size))
  clear hB hT x0 x1 l1 T1 L1
  clear HL
  by_cases hc : chk l = 0
  case neg =>
    have ht : (((chk l : Nat) : Int) != 0) = true := by rw [bne_iff_ne]; omega
    generalize chk l = n at *
    go_wp2_with fail
    go_ret
    exact ⟨rfl, hV.out⟩
  rw [hc]
  obtain ⟨Z, hZ⟩ : ∃ Z, Z = encB l := ⟨_, rfl⟩
  have HX := laws_l a b o cap l HK.out hc
  rw [← hZ] at HX
  replace HX := hidp HX
  replace hc := hidp hc
  clear hZ HK
  go_wp2_with fail
  refine (HX.out.hE _ H.out).mono ?_
  rintro e w5 ⟨⟨pg, qg, mg, rfl, _, hpg, hs⟩, hB⟩
  have hT := hidp (show Below w4.heap.size w4 w5 from hB)
  replace H := hidp (H.out.below hT.out)
  replace hV := hidp (hV.out.trans (hT.out.mono hV.out.size))
  have F1 := hidp (hs)
  clear hB hT hs
  go_wp2_with fail
  refine (HX.out.hD _ _ _ _ F1.out).mono ?_
  rintro e w6 ⟨⟨px, qx, mx, rfl, _, hv⟩, hB⟩
  have hT := hidp (show Below w5.heap.size w5 w6 from hB)
  replace H := hidp (H.out.below hT.out)
  replace F1 := hidp (F1.out.below hT.out)
  replace hV := hidp (hV.out.trans (hT.out.mono hV.out.size))
  have V1 := hidp (hv)
  clear hB hT hv
  have hal0 := hidp (fun o : Obj => (Below.refl w6.heap.size w6).alloc (Nat.le_refl _) o)
  go_wp2_with fail
  refine (Pick_any x Z.length _ HX.out.pos HX.out.le).mono ?_
  rintro e wx ⟨⟨r, hr, rfl⟩, hwx⟩
  subst hwx
  have hR := hidp hr
  have kp := fun w => run_part_h pg Z.length mg r (by have := F1.out.le; have := hR.out; omega) w
  clear hr hal0
  go_wp2_with fail
  have hal := hidp (fun o : Obj => (Below.refl w6.heap.size w6).alloc (Nat.le_refl _) o)
  refine (HX.out.hP _ _ _ _ r hR.out (F1.out.below (hal.out _))).mono ?_
  rintro e w7 ⟨⟨pi, ni, mi, ie, ia, rfl, hie⟩, hB⟩
  have hT := hidp (show Below w6.heap.size w6 w7 from ((hal.out _).trans (hB.mono (hal.out _).size)))
  replace H := hidp (H.out.below hT.out)
  replace F1 := hidp (F1.out.below hT.out)
  replace V1 := hidp (V1.out.below hT.out)
  replace hV := hidp (hV.out.trans (hT.out.mono hV.out.size))
  have T2 := hidp (hB.blk' (Blk.new w6 [.int .i64 0, .int .i64 0] 55))
  have L2 := hidp (show w6.heap.size < w7.heap.size from by have := hB.size; simp at this; omega)
  have HI := hidp hie
  clear hB hT kp hR hal hie
  go_wp2_with fail
  have hal := hidp (fun o : Obj => (Below.refl w7.heap.size w7).alloc (Nat.le_refl _) o)
  refine (copyBytes_any pg mg Z _ (ByS.of_bs (F1.out.below (hal.out _)) hpg) (by have := HX.out.le; omega)).mono ?_
  rintro e w0 ⟨vq, rfl, hq, hB⟩
  have hb0 := hidp hB
  have hb1 := hidp (fun o : Obj => (Below.refl _ w0).alloc hb0.out.size o)
  have hown := hidp (fun o : Obj => hq.alloc o)
  have HS1 := hidp (fun o : Obj => ByS.of_bs (arr_bs (X := [1]) (by decide) (Blk.new w0 (bvs [1]) 5)) (fun h => by cases h))
  clear hq hB
  go_wp2_with (at_builtin; refine wpList_append_byS rfl _ _ rfl _ Z.length (bvs Z) _ rfl (hown.out _) (some ⟨w0.heap.size, 0, none⟩) 1 [1] rfl (HS1.out default) (by have := HX.out.le; simp; omega) (by have := hb0.out.size; simp at this ⊢; omega) ?_; intro v' w8 hown' hgrow; have hO := hidp hown'; have hB1 := hidp ((hb0.out.trans (hb1.out _)).grown hgrow (by have := hb0.out.size; simp at this ⊢; omega) (fun j hj => ((hown.out default).lt j hj).1)); clear hown' hgrow)
  have hO2 : w8.ownsRow (w7.heap.size + 1) 5 1 v' (Z ++ [1]).length (bvs (Z ++ [1])) := by
    have q := hO.out
    rw [List.length_append, bvs_app]
    simpa using q
  obtain ⟨pq, bq, mq, rfl, _, _, hs⟩ := Bs.of_own hO2 (fun y hy => by
    rcases List.mem_append.1 hy with h1 | h1
    · exact F1.out.byte y h1
    · rw [List.mem_singleton] at h1; omega)
  have hT := hidp (show Below w7.heap.size w7 w8 from (hal.out _).trans (hB1.out.mono (hal.out _).size))
  have S2 := hidp hs
  have T3 := hidp (hB1.out.blk' (Blk.new w7 [.int .i64 ie, .int .i64 ia] 55))
  have L3 := hidp (show w7.heap.size < w8.heap.size from by have := hB1.out.size; simp at this; omega)
  clear hs hO hO2 hb0 hb1 hB1 hown HS1 hal F1 hpg
  replace H := hidp (H.out.below hT.out)
  replace V1 := hidp (V1.out.below hT.out)
  replace T2 := hidp (hT.out.blk' T2.out)
  replace L2 := hidp (Nat.lt_of_lt_of_le L2.out hT.out.size)
  replace hV := hidp (hV.out.trans (hT.out.mono hV.out.size))
  clear hT
  go_wp2_with fail
  refine (HX.out.hM _ _ _ _ S2.out).mono ?_
  rintro e w9 ⟨⟨pj, mj, rfl⟩, hB⟩
  have hT := hidp (show Below w8.heap.size w8 w9 from hB)
  replace H := hidp (H.out.below hT.out)
  replace V1 := hidp (V1.out.below hT.out)
  replace T2 := hidp (hT.out.blk' T2.out)
  replace L2 := hidp (Nat.lt_of_lt_of_le L2.out hT.out.size)
  replace T3 := hidp (hT.out.blk' T3.out)
  replace L3 := hidp (Nat.lt_of_lt_of_le L3.out hT.out.size)
  replace hV := hidp (hV.out.trans (hT.out.mono hV.out.size))
  clear hB hT S2
  have x0 := T2.out.cell 0
  have x1 := T2.out.cell 1
  simp only [List.getElem?_cons_zero, List.getElem?_cons_succ] at x0 x1
  have l2 := L2.out
  go_wp2_with fail
  have hal := hidp (fun o : Obj => (Below.refl w9.heap.size w9).alloc (Nat.le_refl _) o)
  refine (HX.out.hS _ _ _ _ (V1.out.below (hal.out _)) (H.out.below (hal.out _))).mono ?_
  rintro e w10 ⟨rfl, hB⟩
  have hT := hidp (show Below w9.heap.size w9 w10 from ((hal.out _).trans (hB.mono (hal.out _).size)))
  replace H := hidp (H.out.below hT.out)
  replace T3 := hidp (hT.out.blk' T3.out)
  replace L3 := hidp (Nat.lt_of_lt_of_le L3.out hT.out.size)
  replace hV := hidp (hV.out.trans (hT.out.mono hV.out.size))
  have T4 := hidp (hB.blk' (Blk.new w9 [.int .i64 4, .int .i64 Z.length] 55))
  have L4 := hidp (show w9.heap.size < w10.heap.size from by have := hB.size; simp at this; omega)
  clear hB hT x0 x1 l2 T2 L2 V1 hal
  have y0 := T3.out.cell 0
  have y1 := T3.out.cell 1
  have z0 := T4.out.cell 0
  have z1 := T4.out.cell 1
  simp only [List.getElem?_cons_zero, List.getElem?_cons_succ] at y0 y1 z0 z1
  have l3 := L3.out
  have l4 := L4.out
  have hi0 : ((ie : Int) == 0) = false := by have := HI.out; rw [beq_eq_false_iff_ne]; omega
  have hi1 : ¬ ((ie : Int) = 0) := by have := HI.out; omega
  have H0 : Hid (SumI w (w10.alloc (.cells #[.int .u64 0, .int .u64 0] 100)) w10.heap.size 0 l) := by
    refine hidp ⟨hV.out.alloc hV.out.size _, ?_, hV.out.size⟩
    rw [sumP_zero]
    exact Blk.new w10 [.int .u64 0, .int .u64 0] _
  have H2 := hidp (fun W (hB : Below w.heap.size w W) => h.below hB)
  clear h
  go_wp2_with fail
  go_loopw [21] (fun x wr => ∃ i : Nat, i ≤ l.length ∧ x = .int .i64 i ∧ Hid (SumI w wr w10.heap.size i l)) (fun x _ => l.length - (Go.RowKit.intOf x).toNat)
  case atStart => exact ⟨0, by omega, rfl, H0⟩
  case round =>
    obtain ⟨i, hin, rfl, hr⟩ := hrel
    clear H0 y0 y1 z0 z1 l3 l4 T3 T4 L3 L4 hi0 hi1
    by_cases hlt : i < l.length
    · have hv1 := H2.out wr hr.out.bel
      obtain ⟨v, hv, hok, rfl, hbl, c0, c1, c2, c3, c4⟩ := hv1.at hlt
      have HF := find_any _ b o cap l v.k wr hv1 (by omega) hok.k
      rw [fnd_self hc.out hv] at HF
      replace HF := hidp HF
      have HV := hidp hv
      have hBB := hidp hr.out.hB
      obtain ⟨n, hn⟩ : ∃ n : Nat, v.p = n := ⟨v.p.toNat, by have := (chk_ok hc.out).2.2.2 v (List.mem_of_getElem? hv); omega⟩
      have hn2 : n ≤ 9223372036854775807 := by have := (chk_ok hc.out).2.2.2 v (List.mem_of_getElem? hv); omega
      clear hv1 hv hok
      have hsn := sumP_snoc HV.out
      rw [hn, Int.toNat_natCast] at hsn
      have hslt := sumP_lt hc.out (i + 1)
      have HSN := hidp (And.intro hsn hslt)
      clear hsn hslt
      go_wp2_with fail
      refine HF.out.mono ?_
      rintro e u1 ⟨rfl, hB⟩
      have U1 := hidp (hr.out.bel.trans (hB.mono hr.out.bel.size))
      have D1 := hidp (hB.blk' hr.out.blk)
      have G1 := hidp (show w10.heap.size < u1.heap.size from D1.out.lt)
      have c5 := (H2.out u1 U1.out).cell i v HV.out 4 _ rfl
      rw [hn] at c5
      have hbl1 := Nat.lt_of_lt_of_le hbl hB.size
      clear c0 c1 c2 c3 c4 hB HF hr hbl
      go_wp2_with fail
      refine (Of_nat n _ hn2).mono ?_
      rintro e u2 ⟨rfl, hB⟩
      have U2 := hidp (U1.out.trans (hB.mono U1.out.size))
      have D2 := hidp (hB.blk' D1.out)
      have G2 := hidp (Nat.lt_of_lt_of_le G1.out hB.size)
      clear hB U1 D1 G1 c5 hbl1
      have d0 := D2.out.cell 0
      have d1 := D2.out.cell 1
      simp only [List.getElem?_cons_zero, List.getElem?_cons_succ] at d0 d1
      have g2 := G2.out
      go_wp2_with fail
      have hal := hidp (fun o : Obj => (Below.refl u2.heap.size u2).alloc (Nat.le_refl _) o)
      refine (Plus_ok (sumP l i) n _ (by have := HSN.out; omega)).mono ?_
      rintro e u3 ⟨rfl, hB⟩
      have hT := hidp (show Below u2.heap.size u2 u3 from (hal.out _).trans (hB.mono (hal.out _).size))
      have U3 := hidp (U2.out.trans (hT.out.mono U2.out.size))
      have D3 := hidp (hT.out.blk' D2.out)
      have G3 := hidp (Nat.lt_of_lt_of_le g2 hT.out.size)
      clear hB hT hal U2 D2 G2 d0 d1 g2
      rw [← HSN.out.1]
      have f0 := D3.out.free 0
      have f1 := D3.out.free 1
      have g3 := G3.out
      have k0 := D3.out.cell 0
      have k1 := D3.out.cell 1
      simp only [List.getElem?_cons_zero, List.getElem?_cons_succ] at k0 k1
      have hbl3 := D3.out.lt
      go_wp2_with fail
      have hb2 := (U3.out.setCell (p := ⟨w10.heap.size, 0, none⟩) hBB.out (.int .u64 (hiw (sumP l (i + 1))))).setCell (p := ⟨w10.heap.size, 1, none⟩) hBB.out (.int .u64 (low (sumP l (i + 1))))
      have hk2 := (D3.out.set 0 (.int .u64 (hiw (sumP l (i + 1))))).set 1 (.int .u64 (low (sumP l (i + 1))))
      have H7 := hidp (fun oo : Obj => (⟨hb2.alloc hb2.size oo, hk2.alloc oo, hBB.out⟩ : SumI w _ w10.heap.size (i + 1) l))
      rw [show ((i : Int) + 1) = ((i + 1 : Nat) : Int) by omega]
      exact ⟨⟨i + 1, by omega, rfl, hidp (H7.out _)⟩, by show l.length - ((i + 1 : Nat) : Int).toNat < l.length - ((i : Nat) : Int).toNat; omega⟩
    · obtain rfl : i = l.length := by omega
      have D0 := hidp hr.out.blk
      have U0 := hidp hr.out.bel
      clear hlt hr
      go_wp2_with fail
      refine (HX.out.hT _ (H2.out _ U0.out)).mono ?_
      rintro e u1 ⟨rfl, hB⟩
      have U1 := hidp (U0.out.trans (hB.mono U0.out.size))
      have D1 := hidp (hB.blk' D0.out)
      have g1 := D1.out.lt
      have d0 := D1.out.cell 0
      have d1 := D1.out.cell 1
      simp only [List.getElem?_cons_zero, List.getElem?_cons_succ] at d0 d1
      clear hB U0 D0
      go_wp2_with fail
      go_ret
      exact ⟨rfl, U1.out.alloc U1.out.size _⟩
theorem vback_any (a : Option Addr) (b o cap : Nat) (l : List Vd) (x : Int) (a2 : Option Addr) (b2 o2 cap2 : Nat) (L : List Nat) (w : World) (h : Vs w a b o cap l) (k : Bs w a2 b2 o2 L cap2) : Calls Try.prog 12 #[.slice a l.length cap, .int .i64 x, .slice a2 L.length cap2] w fun e w' => e = .returned (.bool true) ∧ Below w.heap.size w w' := by
  by_cases hl : 64 < l.length
  · exact vback_long1 a cap l x a2 cap2 L w hl
  by_cases hL : 1000 < L.length
  · exact vback_long2 a cap l x a2 cap2 L w (by omega) hL
  rcases hm : decO L with ⟨m, X, Y⟩
  have hi := decO_in k.byte
  have hf := decO_form k.byte
  rw [hm] at hi hf
  by_cases hX : X = 0
  · subst hX
    obtain rfl : Y = 0 := (hf rfl).1
    exact vback_A a b o cap l x a2 b2 o2 cap2 L w h k (by omega) (by omega) m hm
  · obtain rfl : m = [] := hi.2 hX
    exact vback_B a b o cap l x a2 b2 o2 cap2 L w h k (by omega) (by omega) X Y hm hX hi.1
theorem vback_f (a : Option Addr) (b o cap : Nat) (l : List Vd) (x : Int) (a2 : Option Addr) (b2 o2 cap2 : Nat) (L : List Nat) (w : World) (h : Vs w a b o cap l) (_ : -9223372036854775808 ≤ x ∧ x ≤ 9223372036854775807) (k : Bs w a2 b2 o2 L cap2) : Calls Try.prog 12 #[.slice a l.length cap, .int .i64 x, .slice a2 L.length cap2] w fun e w' => e = .returned (.bool true) ∧ Below w.heap.size w w' := vback_any a b o cap l x a2 b2 o2 cap2 L w h k
end Go.Proofs.Ytlfmmmlheloloaa
