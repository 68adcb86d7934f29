/-
  ValsTells: the answer's sums of numbers of 128 bits; its Total.
-/
import Derived.Test.YtcmkmnidnapabaaGreatVh
import Derived.Test.YtcmkmnidnapabaaGreatRA
namespace Go.Proofs.YtcmkmnidnapabaaGreat
open Go.RowKit Go.Lib Go.Maps

theorem refOf_neg (n : Int) (w : World) (h : n < 0) :
    Calls Tryz.prog 146 #[.int .i64 n] w fun e w' => e = .returned (.tuple #[wz, .int .i64 3]) ∧ Below w.heap.size w w' := by
  go_enter Tryz.func146, Tryz.ntmps146
  go_wp2
  exact bodyPost_ret (v := .tuple #[wz, .int .i64 3]) (by simp [results, Tryz.results146, go_sem]) rfl ⟨rfl, by (repeat' (first | (with_reducible exact Below.refl _ _) | (with_reducible refine Below.alloc ?_ ?_ _) | (with_reducible refine Below.drew ?_) | (with_reducible refine Below.drewN ?_ _) | (with_reducible refine Below.setCell ?_ ?_ _) | go_size))⟩
set_option maxHeartbeats 400000 in
theorem refplus_any (x y c : Nat) (hx : x < B64) (hy : y < B64) (hc : c ≤ 1) (w : World) :
    Calls Tryz.prog 207 #[.int .u64 x, .int .u64 y, .int .u64 c] w fun e w' => e = .returned (.tuple #[.int .u64 (((x + y + c) % B64 : Nat) : Int), .int .u64 (((x + y + c) / B64 : Nat) : Int)]) ∧ w = w' := by
  have e1 := wrap_sw x y
  have e2 := wrap_sw (sw x y) c
  rw [← sw_sw]
  by_cases h1 : sw x y < x
  · rw [out_1 hx hy hc h1]
    by_cases h2 : sw (sw x y) c < sw x y
    · go_enter Tryz.func207, Tryz.ntmps207
      go_wp2
      go_ret2
      exact ⟨rfl, rfl⟩
    · go_enter Tryz.func207, Tryz.ntmps207
      go_wp2
      go_ret2
      exact ⟨rfl, rfl⟩
  · by_cases h2 : sw (sw x y) c < sw x y
    · rw [out_2 hx hy hc h2]
      go_enter Tryz.func207, Tryz.ntmps207
      go_wp2
      go_ret2
      exact ⟨rfl, rfl⟩
    · rw [out_00 hx hy hc h1 h2]
      go_enter Tryz.func207, Tryz.ntmps207
      go_wp2
      go_ret2
      exact ⟨rfl, rfl⟩
theorem refOf_ok (n : Int) (w : World) (h : 0 ≤ n) (hn : n ≤ 9223372036854775807) :
    Calls Tryz.prog 146 #[.int .i64 n] w fun e w' => e = .returned (.tuple #[.agg #[.int .u64 0, .int .u64 n], .int .i64 0]) ∧ Below w.heap.size w w' := by
  go_enter Tryz.func146, Tryz.ntmps146
  go_wp2
  exact bodyPost_ret (v := .tuple #[.agg #[.int .u64 0, .int .u64 n], .int .i64 0]) (by simp [results, Tryz.results146, go_sem]) rfl ⟨rfl, by (repeat' (first | (with_reducible exact Below.refl _ _) | (with_reducible refine Below.alloc ?_ ?_ _) | (with_reducible refine Below.drew ?_) | (with_reducible refine Below.drewN ?_ _) | (with_reducible refine Below.setCell ?_ ?_ _) | go_size))⟩
theorem refplus_lo (a b : Nat) (w : World) :
    Calls Tryz.prog 207 #[.int .u64 (low a), .int .u64 (low b), .int .u64 0] w fun e w' => e = .returned (.tuple #[.int .u64 (low (a + b)), .int .u64 (carry a b)]) ∧ w = w' := by
  have h := refplus_any (low a) (low b) 0 (low_lt a) (low_lt b) (by omega) w
  rw [Nat.add_zero, add_low] at h
  exact h
theorem refplus_hi (a b : Nat) (ha : a < W128) (hb : b < W128) (w : World) :
    Calls Tryz.prog 207 #[.int .u64 (hiw a), .int .u64 (hiw b), .int .u64 (carry a b)] w fun e w' => e = .returned (.tuple #[.int .u64 (hi2 a b), .int .u64 (full a b)]) ∧ w = w' :=
  refplus_any (hiw a) (hiw b) (carry a b) (hiw_lt ha) (hiw_lt hb) (carry_le a b) w
set_option maxHeartbeats 400000 in
theorem refPlus_ok (a b : Nat) (w : World) (h : a + b < W128) :
    Calls Tryz.prog 147 #[wv a, wv b] w fun e w' => e = .returned (.tuple #[wv (a + b), .int .i64 0]) ∧ Below w.heap.size w w' := by
  have k2 := refplus_hi a b (by omega) (by omega)
  rw [hi2_eq h, full_no h] at k2
  have H2 := hidp k2; clear k2
  go_enter Tryz.func147, Tryz.ntmps147
  go_wp2_with fail
  refine (refplus_lo a b _).mono ?_
  rintro e w' ⟨rfl, rfl⟩
  go_wp2_with fail
  refine (H2.out _).mono ?_
  rintro e w' ⟨rfl, rfl⟩
  go_wp2
  exact bodyPost_ret (v := .tuple #[wv (a + b), .int .i64 0]) (by simp [results, Tryz.results147, go_sem]) rfl ⟨rfl, by (repeat' (first | (with_reducible exact Below.refl _ _) | (with_reducible refine Below.alloc ?_ ?_ _) | (with_reducible refine Below.drew ?_) | (with_reducible refine Below.drewN ?_ _) | (with_reducible refine Below.setCell ?_ ?_ _) | go_size))⟩
theorem refOf_nat (n : Nat) (w : World) (hn : n ≤ 9223372036854775807) :
    Calls Tryz.prog 146 #[.int .i64 n] w fun e w' => e = .returned (.tuple #[wv n, .int .i64 0]) ∧ Below w.heap.size w w' := by
  rw [wv_nat hn]; exact refOf_ok n w (by omega) (by omega)
def RowAt (w : World) (a : Option Addr) (ys : List Int) : Prop := ∀ k, k < ys.length → ∃ x, a = some x ∧ w.cell? (x.add k) = some (.int .i64 (ys[k]?.getD 0))
theorem RowAt.below {w w' : World} {a : Option Addr} {ys : List Int} (h : RowAt w a ys) (hB : Below w.heap.size w w') : RowAt w' a ys := by
  intro k hk
  obtain ⟨x, ha, hc⟩ := h k hk
  exact ⟨x, ha, (hB.cell (cell_lt hc)).trans hc⟩
theorem row_at {w : World} {a : Option Addr} {ys : List Int} (h : RowAt w a ys) {k : Nat} (hk : k < ys.length) : ∃ x, a = some x ∧ w.cell? (x.add k) = some (.int .i64 (ys[k]?.getD 0)) := h k hk
set_option maxHeartbeats 2000000 in
theorem rwSum_any (a : Option Addr) (cap : Nat) (ys : List Int) (w : World) (hl : ys.length ≤ 1000) (hm : ∀ z ∈ ys, z ≤ 9223372036854775807) (hr : RowAt w a ys) : Calls Tryz.prog 73 #[.slice a ys.length cap] w fun e w' => e = .returned (sumV ys) ∧ Below w.heap.size w w' := by
  have HR := hidp hr; have HM := hidp hm; clear hr hm
  go_enter Tryz.func73, Tryz.ntmps73
  go_wp2
  go_loopw [5] (fun i wr => ∃ k : Nat, k ≤ ys.length ∧ i = .int .i64 k ∧ Hid ((∀ z ∈ ys.take k, 0 ≤ z) ∧ Blk wr (w.heap.size + 1) [.int .u64 (hiw (sumN (ys.take k))), .int .u64 (low (sumN (ys.take k)))] 29 ∧ Blk wr w.heap.size [.int .u64 0, .int .u64 0] 29 ∧ Below w.heap.size w wr)) (fun i _ => ys.length - (Go.RowKit.intOf i).toNat)
  case atStart =>
    refine ⟨0, by omega, rfl, ?_, ?_, ?_, by (repeat' (first | (with_reducible exact Below.refl _ _) | (with_reducible refine Below.alloc ?_ ?_ _) | (with_reducible refine Below.drew ?_) | (with_reducible refine Below.drewN ?_ _) | (with_reducible refine Below.setCell ?_ ?_ _) | go_size))⟩
    · intro z hz; rw [List.take_zero] at hz; cases hz
    · have e1 : ((hiw (sumN (ys.take 0)) : Nat) : Int) = 0 := by rw [List.take_zero]; rfl
      have e2 : ((low (sumN (ys.take 0)) : Nat) : Int) = 0 := by rw [List.take_zero]; rfl
      rw [e1, e2]
      exact (Blk.new' _ [.int .u64 0, .int .u64 0] _ _ (by simp))
    · exact (Blk.new' _ [.int .u64 0, .int .u64 0] _ _ (by simp)).alloc _
  case round =>
    obtain ⟨k, hk, rfl, hr⟩ := hrel
    by_cases hlt : k < ys.length
    · obtain ⟨x, rfl, hc⟩ := row_at (HR.out.below hr.out.2.2.2) hlt
      have hin : ys[k]?.getD 0 ∈ ys := by rw [List.getElem?_eq_getElem hlt]; exact List.getElem_mem _
      have hz1 := HM.out _ hin
      by_cases hz : ys[k]?.getD 0 < 0
      · have HIN := hidp hin
        have HZ := hidp hz
        generalize hy : ys[k]?.getD 0 = z at hc hz hz1 hin
        have HY := hidp hy; clear hy
        go_wp2_with fail
        refine (refOf_neg _ _ hz).mono ?_
        rintro e w1 ⟨rfl, hB1⟩
        have br := hr.out.2.2.1.below hB1 hr.out.2.2.1.lt
        have k0 := br.cell 0
        have k1 := br.cell 1
        have q0 := br.free 0
        have q1 := br.free 1
        simp only [List.getElem?_cons_zero, List.getElem?_cons_succ] at k0 k1
        have HB1 := hidp hB1
        have hlt0 := br.lt
        clear hB1 br hc
        go_wp2
        exact bodyPost_ret (v := .tuple #[wz, .int .i64 3]) (by simp [results, Tryz.results73, go_sem, k0, k1, hlt0]) rfl ⟨by rw [sumV_neg hin hz], (hr.out.2.2.2.trans (HB1.out.mono hr.out.2.2.2.size)).trans (by (repeat' (first | (with_reducible exact Below.refl _ _) | (with_reducible refine Below.alloc ?_ ?_ _) | (with_reducible refine Below.drew ?_) | (with_reducible refine Below.drewN ?_ _) | (with_reducible refine Below.setCell ?_ ?_ _) | go_size)))⟩
      · obtain ⟨z, hzz⟩ := Int.eq_ofNat_of_zero_le (show 0 ≤ ys[k]?.getD 0 by omega)
        have hsn := sumN_snoc ys k hlt
        rw [hzz, Int.toNat_natCast] at hsn
        have hbd := sumN_lt ys (k + 1) hl HM.out
        rw [hsn] at hbd
        have HSN := hidp hsn; have HBD := hidp hbd; have HZZ := hidp hzz
        rw [hzz] at hc hz1
        clear hsn hbd hzz hin hz
        go_wp2_with fail
        refine (refOf_nat z _ (by omega)).mono ?_
        rintro e w1 ⟨rfl, hB1⟩
        have bs := hr.out.2.1.below hB1 hr.out.2.1.lt
        have k0 := bs.cell 0
        have k1 := bs.cell 1
        have q0 := bs.free 0
        have q1 := bs.free 1
        simp only [List.getElem?_cons_zero, List.getElem?_cons_succ] at k0 k1
        have hlt0 := bs.lt
        have BS := hidp bs
        have HB1 := hidp hB1
        clear hB1 bs hc
        go_wp2_with fail
        refine (refPlus_ok _ _ _ HBD.out).mono ?_
        rintro e w2 ⟨rfl, hB2⟩
        have bs2 := (BS.out.alloc (.cells #[.int .u64 (hiw z), .int .u64 (low z)] 29)).below hB2 (by simp; omega)
        have r0 := bs2.cell 0
        have r1 := bs2.cell 1
        have f0 := bs2.free 0
        have f1 := bs2.free 1
        simp only [List.getElem?_cons_zero, List.getElem?_cons_succ] at r0 r1
        have BS2 := hidp bs2
        have HB2 := hidp hB2
        clear hB2 bs2 k0 k1 q0 q1
        go_wp2
        have hb1 : w.heap.size ≤ w1.heap.size := Nat.le_trans hr.out.2.2.2.size HB1.out.size
        have hb2 : w.heap.size ≤ w2.heap.size := by have := HB2.out.size; simp at this; omega
        have hz0 := (((hr.out.2.2.1.below HB1.out hr.out.2.2.1.lt).alloc (.cells #[.int .u64 (hiw z), .int .u64 (low z)] 29)).below HB2.out (by simp; omega))
        have hbb : Below w.heap.size w w2 := ((hr.out.2.2.2.trans (HB1.out.mono hr.out.2.2.2.size)).alloc hb1 _).trans (HB2.out.mono (by simp; omega))
        refine ⟨⟨k + 1, by omega, by go_num, take_snoc_ok hlt hr.out.1 (by rw [HZZ.out]; omega), ?_, ?_, ?_⟩, by simp [Go.RowKit.intOf]; omega⟩
        · rw [HSN.out]
          exact (BS2.out.set 0 _).set 1 _
        · exact (hz0.other _ _ (by simp)).other _ _ (by simp)
        · exact (hbb.setCell (by simp) _).setCell (by simp) _
    · obtain rfl : k = ys.length := by omega
      have bs := hr.out.2.1
      have k0 := bs.cell 0
      have k1 := bs.cell 1
      have br := hr.out.2.2.1
      have r0 := br.cell 0
      have r1 := br.cell 1
      have f0 := br.free 0
      have f1 := br.free 1
      simp only [List.getElem?_cons_zero, List.getElem?_cons_succ] at k0 k1 r0 r1
      rw [List.take_length] at k0 k1 hr
      clear bs br
      go_wp2
      exact bodyPost_ret (v := .tuple #[wv (sumN ys), .int .i64 0]) (by simp [results, Tryz.results73, go_sem, r0, r1]) rfl ⟨by rw [sumV_ok hr.out.1], hr.out.2.2.2.trans (by (repeat' (first | (with_reducible exact Below.refl _ _) | (with_reducible refine Below.alloc ?_ ?_ _) | (with_reducible refine Below.drew ?_) | (with_reducible refine Below.drewN ?_ _) | (with_reducible refine Below.setCell ?_ ?_ _) | go_size)))⟩
theorem IntsAt.row {w : World} {a : Option Addr} {zs : List Int} (h : IntsAt w a zs) : RowAt w a zs := fun k hk => by
  obtain ⟨b, off, rfl, hc⟩ := h k hk
  exact ⟨_, rfl, by rw [Addr.add_mid]; exact hc⟩
theorem TotI.own1 {w wr : World} {B i : Nat} {l : List Vd} {v : Value} (H : TotI w wr B i l v) (o1 : Obj) : (wr.alloc o1).ownsRow B 3 1 v (l.take i).length (pvs (l.take i)) ∧ B ≤ (wr.alloc o1).heap.size := by
  refine ⟨H.own.alloc o1, ?_⟩
  have := H.wB
  simp
  omega
theorem TotI.next1 {w wr w7 : World} {B i : Nat} {l : List Vd} {v v' : Value} {u : Vd} (H : TotI w wr B i l v) (hu : l[i]? = some u) {o1 : Obj}
    (ho : w7.ownsRow B 3 1 v' ((l.take i).length + 1) (pvs (l.take i) ++ [.int .i64 u.p])) (hg : (wr.alloc o1).grownBy w7 v.ownBlock) : TotI w w7 B (i + 1) l v' := by
  have h2 := H.own1 o1
  have b1 : Below B wr w7 := ((Below.refl B wr).alloc H.wB o1).grown hg h2.2 (fun j hj => by
    rcases H.own.2 with ⟨h1, _⟩ | ⟨g, cap, cur, h1, h2, _⟩
    · rw [h1] at hj; cases hj
    · rw [h1] at hj
      simp only [Value.ownBlock, Option.some.injEq] at hj
      omega)
  obtain ⟨hlt, rfl⟩ := List.getElem?_eq_some_iff.1 hu
  refine ⟨?_, H.bel.trans (b1.mono (Nat.le_of_lt H.hB)), H.res.below b1 H.hB, Nat.le_trans H.wB b1.size, H.hB⟩
  unfold OwnI
  rw [List.take_succ_eq_append_getElem hlt, List.length_append]
  have e : pvs (l.take i ++ [l[i]]) = pvs (l.take i) ++ [.int .i64 l[i].p] := by unfold pvs; rw [List.map_append]; rfl
  rw [e]
  exact ho
set_option maxRecDepth 100000 in
set_option maxHeartbeats 1000000 in
theorem rtotal_bad (a : Option Addr) (b o cap : Nat) (l : List Vd) (w : World) (h : Vs w a b o cap l) (hc : chk l ≠ 0) :
    Calls Tryz.prog 17 #[.slice a l.length cap] w fun e w' => e = .returned (.tuple #[wz, .int .i64 (chk l : Nat)]) ∧ Below w.heap.size w w' := by
  have hA := hidp (fun o : Obj => (Below.refl w.heap.size w).alloc (Nat.le_refl _) o)
  have HC := hidp (fun o' : Obj => refcheck_any a b o cap l (w.alloc o') (h.below (hA.out o')))
  have ht : (((chk l : Nat) : Int) != 0) = true := by rw [bne_iff_ne]; omega
  clear h hc
  generalize chk l = n at *
  go_enter Tryz.func17, Tryz.ntmps17
  go_wp2_with fail
  refine (HC.out _).mono ?_
  rintro e w1 ⟨rfl, hb⟩
  have hres := hidp (hb.blk' (Blk.new w [.int .u64 0, .int .u64 0] _))
  have hB := hidp ((hA.out _).trans (hb.mono (hA.out _).size))
  clear hb HC
  have c0 := hres.out.cell 0
  have c1 := hres.out.cell 1
  have f0 := hres.out.free 0
  have f1 := hres.out.free 1
  simp only [List.getElem?_cons_zero, List.getElem?_cons_succ] at c0 c1
  go_wp2_with fail
  have hb := (hres.out.set 0 (.int .u64 0)).set 1 (.int .u64 0)
  replace hB := hidp ((hB.out.setCell (p := ⟨w.heap.size, 0, none⟩) (Nat.le_refl _) (.int .u64 0)).setCell (p := ⟨w.heap.size, 1, none⟩) (Nat.le_refl _) (.int .u64 0))
  obtain ⟨W, hW⟩ : ∃ W, W = (w1.setCell ⟨w.heap.size, 0, none⟩ (.int .u64 0)).setCell ⟨w.heap.size, 1, none⟩ (.int .u64 0) := ⟨_, rfl⟩
  rw [← hW] at hb hB ⊢
  have d0 : W.cell? ⟨w.heap.size, 0, none⟩ = some (.int .u64 0) := hb.cell 0
  have d1 : W.cell? ⟨w.heap.size, 1, none⟩ = some (.int .u64 0) := hb.cell 1
  exact bodyPost_ret (v := .tuple #[wz, .int .i64 (n : Nat)]) (by simp [results, Tryz.results17, go_sem, d0, d1]) rfl ⟨rfl, hB.out⟩
set_option maxRecDepth 100000 in
set_option maxHeartbeats 1000000 in
theorem rtotal_ok (a : Option Addr) (b o cap : Nat) (l : List Vd) (w : World) (h : Vs w a b o cap l) (hc : chk l = 0) :
    Calls Tryz.prog 17 #[.slice a l.length cap] w fun e w' => e = .returned (.tuple #[wv (sumN (l.map (·.p))), .int .i64 0]) ∧ Below w.heap.size w w' := by
  obtain ⟨i0, hi, hz0, hz1, hz2⟩ := info_parts info_int
  have hA := hidp (fun o : Obj => (Below.refl w.heap.size w).alloc (Nat.le_refl _) o)
  have HC := hidp (fun o' : Obj => refcheck_any a b o cap l (w.alloc o') (h.below (hA.out o')))
  rw [hc] at HC
  have HK := hidp (chk_ok hc)
  have hl64 : l.length ≤ 64 := HK.out.2.1
  have H := hidp h
  clear h hc
  go_enter Tryz.func17, Tryz.ntmps17
  go_wp2_with fail
  refine (HC.out _).mono ?_
  rintro e w1 ⟨rfl, hb⟩
  have hres := hidp (hb.blk' (Blk.new w [.int .u64 0, .int .u64 0] _))
  have hB := hidp ((hA.out _).trans (hb.mono (hA.out _).size))
  have hsz := hidp (show w.heap.size < w1.heap.size by have := hb.size; simp at this; omega)
  clear hb HC
  have H0 : Hid (TotI w w1 w1.heap.size 0 l (.slice none 0 0)) := by
    refine hidp ⟨?_, hB.out, hres.out, Nat.le_refl _, hsz.out⟩
    rw [List.take_zero]; exact World.ownsRow_nil _ _ _ _
  clear hres hB
  go_wp2_with fail
  go_loopw [5, 6] (fun v x wr => ∃ i : Nat, i ≤ l.length ∧ x = .int .i64 i ∧ Hid (TotI w wr w1.heap.size i l v)) (fun _ x _ => l.length - (Go.RowKit.intOf x).toNat)
  case atStart => exact ⟨0, by omega, rfl, H0⟩
  case round =>
    obtain ⟨i, hin, rfl, hr⟩ := hrel
    clear H0
    by_cases hlt : i < l.length
    · obtain ⟨u, hu, hok, rfl, hbl, c0, c1, c2, c3, c4⟩ := (H.out.below hr.out.bel).at hlt
      have HV := hidp hu
      have HI := hidp (And.intro hlt hl64)
      have hil : (l.take i).length = i := by rw [List.length_take]; omega
      clear hu hok
      have hiz : (0 : Int) ≤ (i : Int) := by omega
      have hlz : (i : Int) < (l.length : Int) := by omega
      have hadd := w64_nat (n := i) (by omega)
      clear c0 c1 c2 c3
      go_wp2_with (at_builtin; refine wpList_append_own _ rfl _ _ 109 rfl w1.heap.size 3 i0 _ 1 8 Tryz.underlying109 hi hz0 hz1 hz2 rfl (by decide) _ _ _ rfl (hr.out.own1 _).1 ⟨wr.heap.size, 0, none⟩ 1 1 [.int .i64 u.p] rfl rfl (cell_one_new' _ _ _ wr.heap.size (by simp)) (by intro x hx; rw [List.mem_singleton] at hx; subst hx; rfl) (by rw [hil]; unfold maxLen; omega) (by rw [hil]; omega) (hr.out.own1 _).2 ?_; intro v' w7 ho7 hg7 _; have H7 := hidp (hr.out.next1 HV.out ho7 hg7); clear ho7 hg7)
      try rw [hadd]
      exact ⟨⟨i + 1, by have := HI.out; omega, rfl, H7⟩, by have h1 := HI.out.1; show l.length - ((i + 1 : Nat) : Int).toNat < l.length - ((i : Nat) : Int).toNat; omega⟩
    · obtain rfl : i = l.length := by omega
      obtain ⟨p, pc, rfl, hI⟩ := OwnI.at hr.out.own
      rw [List.take_length] at hI
      have hm : ∀ z ∈ l.map (·.p), z ≤ 9223372036854775807 ∧ 0 ≤ z := fun z hz => by
        obtain ⟨v, hv, rfl⟩ := List.mem_map.1 hz
        have := HK.out.2.2.2 v hv
        omega
      have HS := rwSum_any p pc (l.map (·.p)) wr (by rw [List.length_map]; omega) (fun z hz => (hm z hz).1) hI.row
      rw [List.length_map] at HS
      rw [sumV_ok (fun z hz => (hm z hz).2)] at HS
      replace HS := hidp HS
      have hres := hidp hr.out.res
      have hB := hidp hr.out.bel
      clear hlt hI hm
      rw [List.take_length]
      go_wp2_with fail
      refine HS.out.mono ?_
      rintro e w4 ⟨rfl, hb⟩
      have hr4 := hidp (hb.blk' hres.out)
      have hB4 := hidp (hB.out.trans (hb.mono hB.out.size))
      clear hb HS hres hB hr
      have c0 := hr4.out.cell 0
      have c1 := hr4.out.cell 1
      have f0 := hr4.out.free 0
      have f1 := hr4.out.free 1
      simp only [List.getElem?_cons_zero, List.getElem?_cons_succ] at c0 c1
      obtain ⟨n, hn⟩ : ∃ n, n = sumN (l.map (·.p)) := ⟨_, rfl⟩
      have hn' := hidp hn
      rw [← hn]
      clear hn
      go_wp2_with fail
      have hb := (hr4.out.set 0 (.int .u64 (hiw n))).set 1 (.int .u64 (low n))
      have hB5 := hidp ((hB4.out.setCell (p := ⟨w.heap.size, 0, none⟩) (Nat.le_refl _) (.int .u64 (hiw n))).setCell (p := ⟨w.heap.size, 1, none⟩) (Nat.le_refl _) (.int .u64 (low n)))
      obtain ⟨W, hW⟩ : ∃ W, W = (w4.setCell ⟨w.heap.size, 0, none⟩ (.int .u64 (hiw n))).setCell ⟨w.heap.size, 1, none⟩ (.int .u64 (low n)) := ⟨_, rfl⟩
      rw [← hW] at hb hB5 ⊢
      have d0 : W.cell? ⟨w.heap.size, 0, none⟩ = some (.int .u64 (hiw n)) := hb.cell 0
      have d1 : W.cell? ⟨w.heap.size, 1, none⟩ = some (.int .u64 (low n)) := hb.cell 1
      exact bodyPost_ret (v := .tuple #[wv n, .int .i64 0]) (by simp [results, Tryz.results17, go_sem, d0, d1]) rfl ⟨by rw [hn'.out], hB5.out⟩
/-- What Total tells of a set, both ways. -/
def totV (l : List Vd) : Nat := if chk l = 0 then sumN (l.map (·.p)) else 0
theorem wv_zero : wv 0 = wz := rfl
theorem totalO (a : Option Addr) (b o cap : Nat) (l : List Vd) (w : World) (h : Vs w a b o cap l) :
    Calls Tryz.prog 16 #[.slice a l.length cap] w fun e w' => e = .returned (.tuple #[wv (totV l), .int .i64 (chk l : Nat)]) ∧ Below w.heap.size w w' := by
  unfold totV
  by_cases hc : chk l = 0
  · rw [if_pos hc, hc]; exact total_ok a b o cap l w h hc
  · rw [if_neg hc, wv_zero]; exact total_bad a b o cap l w h hc
theorem rtotalO (a : Option Addr) (b o cap : Nat) (l : List Vd) (w : World) (h : Vs w a b o cap l) :
    Calls Tryz.prog 17 #[.slice a l.length cap] w fun e w' => e = .returned (.tuple #[wv (totV l), .int .i64 (chk l : Nat)]) ∧ Below w.heap.size w w' := by
  unfold totV
  by_cases hc : chk l = 0
  · rw [if_pos hc, hc]; exact rtotal_ok a b o cap l w h hc
  · rw [if_neg hc, wv_zero]; exact rtotal_bad a b o cap l w h hc
end Go.Proofs.YtcmkmnidnapabaaGreat
