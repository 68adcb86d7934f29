/-
  Header: the walk of HeaderBack.
-/
import Derived.Test.YtdiklimikkplcaaL6k
namespace Go.Proofs.Ytdiklimikkplcaa
set_option linter.unusedSimpArgs false
open Go.RowKit Go.Lib

set_option maxRecDepth 100000 in
set_option maxHeartbeats 4000000 in
theorem hback_long (x : Hdr) (y : Int) (m : Nat) (w : World) (hs : 60 < x.s.size) : Calls Try.prog 10 #[.agg (hC x).toArray, .int .i64 y, .int .u8 (m : Nat)] w fun e w' => e = .returned (.bool true) ∧ Below w.heap.size w w' := by
  have hA := hidp (Blk.new w (hC x) 68)
  have hBB := hidp ((Below.refl w.heap.size w).alloc (Nat.le_refl _) (.cells (hC x).toArray 68))
  go_enter Try.func10, Try.ntmps10
  go_wp2_with fail
  refine (hknown_any _).mono ?_
  rintro e w1 ⟨rfl, hb⟩
  have hB := hidp (hBB.out.trans (hb.mono hBB.out.size))
  have c0 := (hb.blk' hA.out).cell 0
  rw [hC_0] at c0
  clear hb
  go_wp2
  go_ret
  exact ⟨rfl, hB.out⟩
set_option maxRecDepth 100000 in
set_option maxHeartbeats 4000000 in
theorem hback_bad (x : Hdr) (hx : HdrOk x) (y : Int) (m : Nat) (w : World) (hs : x.s.size ≤ 60) (hc : chkH x ≠ 0) : Calls Try.prog 10 #[.agg (hC x).toArray, .int .i64 y, .int .u8 (m : Nat)] w fun e w' => e = .returned (.bool true) ∧ Below w.heap.size w w' := by
  have hA := hidp (Blk.new w (hC x) 68)
  have hBB := hidp ((Below.refl w.heap.size w).alloc (Nat.le_refl _) (.cells (hC x).toArray 68))
  have hl := hidp (hC_len hx)
  have HE := hidp (fun W => hencode_bad x hx W hc)
  have HC := hidp (fun W => hcheck_any x hx W)
  have hbn : (((chkH x : Nat) : Int) != 0) = true := by rw [bne_iff_ne]; omega
  have hbe : (((chkH x : Nat) : Int) != ((chkH x : Nat) : Int)) = false := by rw [bne_eq_false_iff_eq]
  clear hx hc
  generalize chkH x = n at *
  go_enter Try.func10, Try.ntmps10
  go_wp2_with fail
  refine (hknown_any _).mono ?_
  rintro e w1 ⟨rfl, hb⟩
  have hB := hidp (hBB.out.trans (hb.mono hBB.out.size))
  have KH := hidp (hb.blk' hA.out)
  have c0 := KH.out.cell 0
  rw [hC_0] at c0
  clear hb hBB hA
  go_wp2_with (with_reducible refine (?_ : wpList _ _ _ _ _ _); refine wpList_load_blkG (by kernel_rfl) 68 _ rfl w.heap.size (hC x) 68 rfl (KH.out) _ Try.underlying68 rfl (by rw [hl.out]; kernel_rfl) ?_)
  refine (HE.out _).mono ?_
  rintro e w2 ⟨rfl, hb⟩
  replace hB := hidp (hB.out.trans (hb.mono hB.out.size))
  replace KH := hidp (hb.blk' KH.out)
  clear hb c0 HE
  go_wp2_with (with_reducible refine (?_ : wpList _ _ _ _ _ _); refine wpList_load_blkG (by kernel_rfl) 68 _ rfl w.heap.size (hC x) 68 rfl (KH.out) _ Try.underlying68 rfl (by rw [hl.out]; kernel_rfl) ?_)
  refine (HC.out _).mono ?_
  rintro e w3 ⟨rfl, hb⟩
  replace hB := hidp (hB.out.trans (hb.mono hB.out.size))
  clear hb HC KH
  go_wp2
  go_ret
  exact ⟨rfl, hB.out⟩
set_option maxRecDepth 100000 in
set_option maxHeartbeats 16000000 in
theorem hback_ok (x : Hdr) (hG : HGood x) (y : Int) (m : Nat) (hm : m < 256) (w : World) : Calls Try.prog 10 #[.agg (hC x).toArray, .int .i64 y, .int .u8 (m : Nat)] w fun e w' => e = .returned (.bool true) ∧ Below w.heap.size w w' := by
  have hz : ∀ w, (zeroValue 68).run Try.prog w = .ok (.agg (hC hdr0).toArray) w := (zero_of_info (P := Try.prog) zero_hdr).1
  have hl0 := hidp (hC_len hdr0_ok)
  have hl := hidp (hC_len hG.ok)
  have hA := hidp (Blk.new w (hC x) 68)
  have hBB := hidp ((Below.refl w.heap.size w).alloc (Nat.le_refl _) (.cells (hC x).toArray 68))
  have hsz : x.s.size ≤ 60 := by have := nmS_size (chkH_ok hG.c).1; omega
  have hneq := neH x x hG.ok hG.ok
  rw [decide_eq_true rfl] at hneq
  have hnf := neF 0 0 0 0
  simp only [beq_self_eq_true, Bool.and_self, Bool.not_true] at hnf
  have hgd := guard_hdr
  have hgF : Try.prog.eqGuardType Try.prog.depth 55 = false := by kernel_rfl
  have HLE := encH_le hG
  have HBY := hidp (encH_byte hG.ok)
  have HDb := decH_back hG
  have HDm := decH_more hG (Y := [m]) (Nat.zero_lt_succ _)
  have HDc := hidp (fun r (hr : r < (encH x).length) => decH_cut hG hr)
  have HC := hidp (fun W => by have q := hcheck_any x hG.ok W; rw [hG.c] at q; exact q)
  have HE := hidp (fun W => hencode_ok x hG.ok W hG.c)
  clear hG
  generalize encH x = L at *
  have HD1 := hidp (fun p b c W (h : Bs W p b 0 L c) => by have q := hdecode_any p b 0 c L W h (by omega); rw [HDb] at q; exact q)
  have HD3 := hidp (fun p b c W (h : Bs W p b 0 (L ++ [m]) c) => by have q := hdecode_any p b 0 c (L ++ [m]) W h (by rw [List.length_append]; simp; omega); rw [HDm] at q; exact q)
  have HD2 := hidp (fun p b c W (r : Nat) (hr : r < L.length) (h : Bs W p b 0 L c) => (show ∃ y : Nat, Calls Try.prog 49 #[.slice p r c] W fun e w' => e = .returned (.tuple #[.agg (hC hdr0).toArray, .agg #[.int .i64 6, .int .i64 y]]) ∧ Below W.heap.size W w' from by
    obtain ⟨y, hy⟩ := HDc.out r hr
    have hn : (L.take r).length = r := by rw [List.length_take]; omega
    have q := hdecode_any p b 0 c (L.take r) W (h.take r) (by omega)
    rw [hy, hn] at q
    exact ⟨y, q⟩))
  clear HDb HDm HDc
  have heF := eqF 4 L.length 4 L.length
  simp only [beq_self_eq_true, Bool.and_self] at heF
  have hl131 := hidp HLE
  have hln : (((L.length : Nat) : Int) == 0) = false := by rw [beq_eq_false_iff_ne]; omega
  have hMB := hidp hm
  clear HLE hm
  go_enter Try.func10, Try.ntmps10
  go_wp2_with fail
  refine (hknown_any _).mono ?_
  rintro e w1 ⟨rfl, hb⟩
  have hV := hidp (hBB.out.trans (hb.mono hBB.out.size))
  have KH := hidp (hb.blk' hA.out)
  have c0 := KH.out.cell 0
  rw [hC_0] at c0
  clear hb hBB hA
  go_wp2_with (with_reducible refine (?_ : wpList _ _ _ _ _ _); refine wpList_load_blkG (by kernel_rfl) 68 _ rfl w.heap.size (hC x) 68 rfl (KH.out) _ Try.underlying68 rfl (by rw [hl.out]; kernel_rfl) ?_)
  refine (HE.out _).mono ?_
  rintro e u1 ⟨⟨p, b, cap, rfl, _, hpn, hs⟩, hB⟩
  have hT := hidp (show Below w1.heap.size w1 u1 from hB)
  replace hV := hidp (hV.out.trans (hT.out.mono hV.out.size))
  replace KH := hidp (hT.out.blk' KH.out)
  have E := hidp (hs)
  clear hB hT hs c0 HE
  replace hpn := hidp hpn
  go_wp2_with (with_reducible refine (?_ : wpList _ _ _ _ _ _); refine wpList_load_blkG (by kernel_rfl) 68 _ rfl w.heap.size (hC x) 68 rfl (KH.out) _ Try.underlying68 rfl (by rw [hl.out]; kernel_rfl) ?_)
  refine (HC.out _).mono ?_
  rintro e u2 ⟨rfl, hB⟩
  have hT := hidp (show Below u1.heap.size u1 u2 from hB)
  replace hV := hidp (hV.out.trans (hT.out.mono hV.out.size))
  replace KH := hidp (hT.out.blk' KH.out)
  replace E := hidp (E.out.below hT.out)
  clear hB hT HC
  rw [show ((0 : Nat) : Int) = 0 from rfl]
  go_wp2_with fail
  refine (HD1.out p b cap _ E.out).mono ?_
  rintro e u3 ⟨rfl, hB⟩
  have hT := hidp (show Below u2.heap.size u2 u3 from hB)
  replace hV := hidp (hV.out.trans (hT.out.mono hV.out.size))
  replace KH := hidp (hT.out.blk' KH.out)
  replace E := hidp (E.out.below hT.out)
  clear hB hT HD1
  go_wp2_with first
    | (with_reducible refine (?_ : wpList _ _ _ _ _ _); refine wpList_store_blk rfl 68 _ _ rfl u3.heap.size (hC x) (hC hdr0) 68 rfl rfl ((Blk.new u3 (hC hdr0) _).alloc _) (by rw [hl.out]; kernel_rfl) (hl0.out.trans (hl.out).symm) (hC_one _) ?_; intro t1 ht1; have M1 := hidp (Laid.mk1 (Below.refl _ u3) ht1.out); have k0 := M1.out.2.2.cell 0; have k1 := M1.out.2.2.cell 1; have k2 := M1.out.2.2.free 0; have k3 := M1.out.2.2.free 1; simp only [List.getElem?_cons_zero, List.getElem?_cons_succ] at k0 k1)
    | (with_reducible refine (?_ : wpList _ _ _ _ _ _); refine wpList_load_blkG (by kernel_rfl) 68 _ rfl u3.heap.size (hC x) 68 rfl (((Laid.mk2 (Nat.le_refl _) M1.out 0 0)).kp.at 0 rfl) _ Try.underlying68 rfl (by rw [hl.out]; kernel_rfl) ?_)
  have N1 := hidp (Laid.mk2 (Nat.le_refl _) M1.out 0 0)
  clear M1 ht1 k0 k1 k2 k3
  try rw [show ((0 : Nat) : Int) = 0 from rfl] at N1
  generalize hv1 : (World.setCell _ _ _) = v1 at N1 ⊢
  try clear hv1
  replace hV := hidp (hV.out.trans (N1.out.kp.1.mono hV.out.size))
  replace KH := hidp (N1.out.kp.1.blk' KH.out)
  replace E := hidp (E.out.below N1.out.kp.1)
  refine wp_load_row 68 _ rfl w.heap.size rfl 68 (hC x).toArray (0, 0) _ KH.out Try.underlying68 rfl (by rw [List.size_toArray, hl.out]; kernel_rfl) ?_
  go_wp2_with fail
  clear N1 KH hneq hnf
  refine (Pick_any y L.length _ (by have := hl131.out; omega) (by have := hl131.out; omega)).mono ?_
  rintro e wx ⟨⟨r, hr, rfl⟩, hwx⟩
  subst hwx
  have kp := fun w => run_part_h p L.length cap r (by have := E.out.le; omega) w
  obtain ⟨fy, HD⟩ := HD2.out p b cap _ r hr E.out
  replace HD := hidp HD
  clear hr HD2
  go_wp2_with fail
  refine (HD.out).mono ?_
  rintro e u4 ⟨rfl, hB⟩
  have hT := hidp (show Below wx.heap.size wx u4 from hB)
  replace hV := hidp (hV.out.trans (hT.out.mono hV.out.size))
  replace E := hidp (E.out.below hT.out)
  clear hB hT HD kp
  go_wp2_with first
    | (with_reducible refine (?_ : wpList _ _ _ _ _ _); refine wpList_store_blk rfl 68 _ _ rfl u4.heap.size (hC hdr0) (hC hdr0) 68 rfl rfl ((Blk.new u4 (hC hdr0) _).alloc _) (by rw [hl0.out]; kernel_rfl) (hl0.out.trans (hl0.out).symm) (hC_one _) ?_; intro t2 ht2; have M2 := hidp (Laid.mk1 (Below.refl _ u4) ht2.out); have k0 := M2.out.2.2.cell 0; have k1 := M2.out.2.2.cell 1; have k2 := M2.out.2.2.free 0; have k3 := M2.out.2.2.free 1; simp only [List.getElem?_cons_zero, List.getElem?_cons_succ] at k0 k1)
  have N2 := hidp (Laid.mk2 (Nat.le_refl _) M2.out 6 fy)
  clear M2 ht2 k0 k1 k2 k3
  try rw [show ((6 : Nat) : Int) = 6 from rfl] at N2
  generalize hv2 : (World.setCell _ _ _) = v2 at N2 ⊢
  try clear hv2
  replace hV := hidp (hV.out.trans (N2.out.kp.1.mono hV.out.size))
  replace E := hidp (E.out.below N2.out.kp.1)
  have F2 := hidp (N2.out.kp.at 1 rfl)
  try rw [show ((6 : Nat) : Int) = 6 from rfl] at F2
  clear N2
  refine (copyBytes_any p cap L v2 (ByS.of_bs E.out hpn.out) (by have := hl131.out; omega)).mono ?_
  rintro e w7 ⟨v, rfl, hq, hB⟩
  have hown := hidp hq
  have HB7 := hidp hB
  clear hq hB
  have HO1 := hidp (fun o : Obj => hown.out.alloc o)
  have HS1 := hidp (fun o : Obj => show v2.heap.size ≤ (w7.alloc o).heap.size by have := HB7.out.size; simp; omega)
  have HK1 := hidp (Blk.new w7 (bvs [m]) 5)
  have HL1 := hidp (show L.length + [m].length ≤ 4000000 by have := hl131.out; simp; omega)
  go_wp2_with (at_builtin; refine wpList_append_bsG (by kernel_rfl) _ _ rfl _ L.length (bvs L) _ rfl (HO1.out _) w7.heap.size [m] rfl HK1.out HL1.out (HS1.out _) ?_; intro v' w8 hown' hgrow; have hO := hidp hown'; have hG := hidp hgrow; clear hown' hgrow)
  have hT := hidp ((HB7.out.alloc HB7.out.size _).grown hG.out (HS1.out _) (fun j hj => ((HO1.out (.cells (bvs [m]).toArray 5)).lt j hj).1))
  have hO2 : w8.ownsRow v2.heap.size 5 1 v' (L ++ [m]).length (bvs (L ++ [m])) := by
    have q := hO.out
    rw [List.length_append]
    unfold bvs at q ⊢
    rw [List.map_append]
    exact q
  obtain ⟨p2, b2, c2, rfl, _, _, hs⟩ := Bs.of_own hO2 (fun z hz => by
    rcases List.mem_append.1 hz with h1 | h1
    · exact HBY.out z h1
    · rw [List.mem_singleton] at h1; have := hMB.out; omega)
  have M := hidp hs
  clear hs hO hO2 hown HB7 HO1 HS1 HK1 HL1 hG
  clear E hpn
  replace hV := hidp (hV.out.trans (hT.out.mono hV.out.size))
  replace F2 := hidp (hT.out.blk' F2.out)
  clear hT
  go_wp2_with fail
  refine (HD3.out p2 b2 c2 _ M.out).mono ?_
  rintro e u5 ⟨rfl, hB⟩
  have hT := hidp (show Below w8.heap.size w8 u5 from hB)
  replace hV := hidp (hV.out.trans (hT.out.mono hV.out.size))
  replace F2 := hidp (hT.out.blk' F2.out)
  clear hB hT HD3 M
  have hne1 : u4.heap.size + 1 < u5.heap.size := F2.out.lt
  go_wp2_with (with_reducible refine (?_ : wpList _ _ _ _ _ _); refine wpList_store_blk rfl 68 _ _ rfl u5.heap.size (hC hdr0) (hC hdr0) 68 rfl rfl ((Blk.new u5 (hC hdr0) _).alloc _) (by rw [hl0.out]; kernel_rfl) (hl0.out.trans (hl0.out).symm) (hC_one _) ?_; intro t3 ht3; have M3 := hidp (Laid.mk1 (Below.refl _ u5) ht3.out); have k0 := M3.out.2.2.cell 0; have k1 := M3.out.2.2.cell 1; have k2 := M3.out.2.2.free 0; have k3 := M3.out.2.2.free 1; simp only [List.getElem?_cons_zero, List.getElem?_cons_succ] at k0 k1; have F3 := hidp (M3.out.1.blk' F2.out); have y0 := F3.out.cell 0; simp only [List.getElem?_cons_zero] at y0)
  have N3 := hidp (Laid.mk2 (Nat.le_refl _) M3.out 4 L.length)
  generalize (World.setCell _ _ _) = v3 at N3 ⊢
  go_ret
  exact ⟨rfl, hV.out.trans (N3.out.kp.1.mono hV.out.size)⟩
theorem hback_any (x : Hdr) (y : Int) (z : Int) (w : World) (hx : HdrOk x) (_ : -9223372036854775808 ≤ y ∧ y ≤ 9223372036854775807) (hz : 0 ≤ z ∧ z ≤ 255) : Calls Try.prog 10 #[.agg (hC x).toArray, .int .i64 y, .int .u8 z] w fun e w' => e = .returned (.bool true) ∧ Below w.heap.size w w' := by
  obtain ⟨m, rfl⟩ : ∃ m : Nat, z = m := ⟨z.toNat, by omega⟩
  by_cases hs : 60 < x.s.size
  · exact hback_long x y m w hs
  by_cases hc : chkH x = 0
  · exact hback_ok x ⟨hx, hc⟩ y m (by omega) w
  · exact hback_bad x hx y m w (by omega) hc
end Go.Proofs.Ytdiklimikkplcaa
