/-
  Contract: a block put into the words.
-/
import Derived.Test.YtdiklimikkplcaaHc
import Derived.Test.YtdiklimikkplcaaHf
import Derived.Test.YtdiklimikkplcaaHg
namespace Go.Proofs.Ytdiklimikkplcaa
open Go.RowKit Go.Lib

theorem But.iterAt {w w' : World} {k : Nat} (h : But k w w') (s : ByteArray) (pos : Nat) : But k w (w'.iterAt k s pos) :=
  h.trans ⟨rfl, rfl, rfl, iterAt_size _ _ _ _, fun _ hi => iterAt_other _ _ _ _ _ hi⟩

/-- What 'compress' knows between its statements: the state's block g; v, the block's words, what was picked, the text's iterator. -/
structure CmS (w wr : World) (g : Nat) (sf : Value) (n : Nat) (h bl : List Nat) (vb mb pb : Nat) (v p : List Nat) (pos : Nat) : Prop where
  st : St wr g sf n h bl
  rv : Blk wr vb (wvs v) 213
  rm : Blk wr mb (wvs (wordsL bl)) 213
  rp : Blk wr pb (wvs p) 213
  it : wr.heap[pb + 1]? = some (.stringIter rowsS pos)
  bex : Bex g w wr
  hv : w.heap.size ≤ vb
  hm : vb < mb
  hp : mb < pb
  hg : g < w.heap.size
theorem CmS.iter {w wr : World} {g : Nat} {sf : Value} {n : Nat} {h bl : List Nat} {vb mb pb : Nat} {v p : List Nat} {pos : Nat} (H : CmS w wr g sf n h bl vb mb pb v p pos) (pos' : Nat) : CmS w (wr.iterAt (pb + 1) rowsS pos') g sf n h bl vb mb pb v p pos' := by
  have hb := (But.refl (pb + 1) wr).iterAt rowsS pos'
  have h1 := H.hv; have h2 := H.hm; have h3 := H.hg; have h4 := H.hp
  exact ⟨⟨hb.blk H.st.blk (by omega), H.st.words, H.st.bytes⟩, hb.blk H.rv (by omega), hb.blk H.rm (by omega), hb.blk H.rp (by omega), iterAt_heap _ _ _ _ _ H.it, H.bex.butNew hb (by omega), h1, h2, h4, h3⟩
theorem CmS.pick {w wr : World} {g : Nat} {sf : Value} {n : Nat} {h bl : List Nat} {vb mb pb : Nat} {v p : List Nat} {pos : Nat} (H : CmS w wr g sf n h bl vb mb pb v p pos) (i x : Nat) : CmS w (wr.setCell ⟨pb, i, none⟩ (.int .u32 (x : Nat))) g sf n h bl vb mb pb v (p.set i x) pos := by
  have hb := (But.refl pb wr).setCell i (.int .u32 (x : Nat))
  have h1 := H.hv; have h2 := H.hm; have h3 := H.hg; have h4 := H.hp
  exact ⟨⟨hb.blk H.st.blk (by omega), H.st.words, H.st.bytes⟩, hb.blk H.rv (by omega), hb.blk H.rm (by omega), wvs_set p i x ▸ H.rp.set i _, (hb.block _ (by omega)).trans H.it, H.bex.butNew hb (by omega), h1, h2, h4, h3⟩
theorem CmS.row {w wr w' : World} {g : Nat} {sf : Value} {n : Nat} {h bl : List Nat} {vb mb pb : Nat} {v v' p : List Nat} {pos : Nat} (H : CmS w wr g sf n h bl vb mb pb v p pos) (hr : Row vb 213 wr w' v v') : CmS w w' g sf n h bl vb mb pb v' p pos := by
  have hb := hr.but
  have h1 := H.hv; have h2 := H.hm; have h3 := H.hg; have h4 := H.hp
  exact ⟨⟨hb.blk H.st.blk (by omega), H.st.words, H.st.bytes⟩, hr.new, hb.blk H.rm (by omega), hb.blk H.rp (by omega), (hb.block _ (by omega)).trans H.it, H.bex.butNew hb (by omega), h1, h2, h4, h3⟩
theorem CmS.drew {w wr : World} {g : Nat} {sf : Value} {n : Nat} {h bl : List Nat} {vb mb pb : Nat} {v p : List Nat} {pos : Nat} (H : CmS w wr g sf n h bl vb mb pb v p pos) : CmS w wr.drew g sf n h bl vb mb pb v p pos :=
  ⟨H.st.drew, H.rv.drew, H.rm.drew, H.rp.drew, H.it, H.bex.drew, H.hv, H.hm, H.hp, H.hg⟩
theorem CmS.seth {w wr : World} {g : Nat} {sf : Value} {n : Nat} {h bl : List Nat} {vb mb pb : Nat} {v p : List Nat} {pos : Nat} (H : CmS w wr g sf n h bl vb mb pb v p pos) {i x : Nat} (hi : i < 8) (hx : x < W32) : CmS w (wr.setCell ⟨g, 2 + i, none⟩ (.int .u32 (x : Nat))) g sf n (h.set i x) bl vb mb pb v p pos := by
  have hb := (But.refl g wr).setCell (2 + i) (.int .u32 (x : Nat))
  have h1 := H.hv; have h2 := H.hm; have h3 := H.hg; have h4 := H.hp
  exact ⟨H.st.seth hi hx, hb.blk H.rv (by omega), hb.blk H.rm (by omega), hb.blk H.rp (by omega), (hb.block _ (by omega)).trans H.it, H.bex.trans (Bex.of_but hb), h1, h2, h4, h3⟩

set_option maxRecDepth 20000 in
set_option maxHeartbeats 8000000 in
theorem compress_any (g : Nat) (sf : Value) (n : Nat) (h bl : List Nat) (mark : Nat) (w : World) (hs : St w g sf n h bl) (hn : n ≤ 9223372036854775807) (hm : mark < W32) :
    Calls Try.prog 166 #[.pointer (some ⟨g, 0, none⟩), .int .u32 (mark : Nat)] w fun e w' => e = .returned (.tuple #[]) ∧ St w' g sf n (blockL h (wordsL bl) n mark) bl ∧ Bex g w w' := by
  have HS := hidp hs
  have l16 : Hid ((beginL h n mark).length = 16) := hidp (by unfold beginL; rw [List.length_append, hs.words.1]; rfl)
  have HV := hidp (beginL_words (t := n) hs.words hm)
  have HBg := hidp (begin_any g sf n h bl mark w hs hn hm)
  have HM := hidp hm
  clear hs hn hm
  obtain ⟨v0, hv0⟩ : ∃ r, r = beginL h n mark := ⟨_, rfl⟩
  rw [← hv0] at l16 HV HBg
  have HV0 := hidp hv0
  clear hv0
  go_enter Try.func166, Try.ntmps166
  go_wp2_with fail
  refine HBg.out.mono ?_
  rintro e w1 ⟨rfl, hB1⟩
  have hz := hidp (Blk.new w1 (wvs (List.replicate 16 0)) 213)
  have hB1 := hidp hB1
  go_wp2_with (refine wpList_store_blk rfl 213 _ _ rfl w1.heap.size (wvs v0) (wvs (List.replicate 16 0)) 213 rfl rfl hz.out (by rw [wvs_len, l16.out]; kernel_rfl) (by rw [wvs_len, wvs_len, l16.out]; rfl) (wvs_one _) ?_; intro w2 hw2)
  have H2 : Hid (St w2 g sf n h bl ∧ Blk w2 w1.heap.size (wvs v0) 213 ∧ Below w.heap.size w w2 ∧ w.heap.size ≤ w1.heap.size ∧ g < w.heap.size) := by
    have hg := HS.out.lt
    have hle := hB1.out.size
    have hbt : But w1.heap.size (w1.alloc (.cells (wvs (List.replicate 16 0)).toArray 213)) w2 := hw2.out ▸ (But.refl _ _).setRow _
    exact hidp ⟨⟨hbt.blk ((HS.out.below hB1.out).alloc _).blk (by omega), HS.out.words, HS.out.bytes⟩, hw2.out ▸ hz.out.row, (hB1.out.alloc hle _).trans (hbt.below hle), hle, hg⟩
  clear hz hw2 hB1 HBg
  go_wp2_with fail
  refine (wordsOf_any g 10 bl w2 H2.out.1.lt HS.out.bytes H2.out.1.cb).mono ?_
  rintro e w3 ⟨rfl, hB3⟩
  have hz := hidp (Blk.new w3 (wvs (List.replicate 16 0)) 213)
  have hB3 := hidp hB3
  go_wp2_with (refine wpList_store_blk rfl 213 _ _ rfl w3.heap.size (wvs (wordsL bl)) (wvs (List.replicate 16 0)) 213 rfl rfl hz.out (by rw [wvs_len, wordsL_len]; kernel_rfl) (by rw [wvs_len, wvs_len, wordsL_len]; rfl) (wvs_one _) ?_; intro w4 hw4)
  have H4 : Hid (CmS w ((w4.alloc (.cells (wvs (List.replicate 16 0)).toArray 213)).iter rowsS 0) g sf n h bl w1.heap.size w3.heap.size w4.heap.size v0 (List.replicate 16 0) 0) := by
    have hle := H2.out.2.2.2.1
    have hg := H2.out.2.2.2.2
    have h23 := hB3.out.size
    have h12 := H2.out.2.1.lt
    have hbt : But w3.heap.size (w3.alloc (.cells (wvs (List.replicate 16 0)).toArray 213)) w4 := hw4.out ▸ (But.refl _ _).setRow _
    have hs4 : w4.heap.size = w3.heap.size + 1 := by rw [hbt.size]; simp
    have hbel : Below w.heap.size w w4 := ((H2.out.2.2.1.trans (hB3.out.mono (by omega))).alloc (by omega) _).trans (hbt.below (by omega))
    have hst : St w4 g sf n h bl := ⟨hbt.blk ((H2.out.1.below hB3.out).alloc _).blk (by omega), HS.out.words, HS.out.bytes⟩
    have hrv : Blk w4 w1.heap.size (wvs v0) 213 := hbt.blk ((H2.out.2.1.below hB3.out h12).alloc _) (by omega)
    have hrm : Blk w4 w3.heap.size (wvs (wordsL bl)) 213 := hw4.out ▸ hz.out.row
    refine hidp ⟨(hst.alloc _).alloc _, (hrv.alloc _).alloc _, (hrm.alloc _).alloc _, (Blk.new w4 _ _).alloc _, ?_, (Bex.of_below hbel).trans (((Bex.refl g w4).alloc _).alloc _), hle, by omega, by omega, hg⟩
    have e : (w4.alloc (.cells (wvs (List.replicate 16 0)).toArray 213)).heap.size = w4.heap.size + 1 := by simp
    rw [← e]
    exact World.iter_heap _ _ _
  clear hz hw4 hB3 H2
  go_loopw [20] (fun _ wr => ∃ k : Nat, k ≤ 160 ∧ Hid (CmS w wr g sf n h bl w1.heap.size w3.heap.size w4.heap.size (pickSt v0 (wordsL bl) k).1 (pickSt v0 (wordsL bl) k).2 k)) (fun _ wr => 160 - wr.iterPos (w4.heap.size + 1))
  case atStart => exact ⟨0, by omega, H4⟩
  case round =>
    obtain ⟨k, hk, hr⟩ := hrel
    clear H4
    by_cases h160 : k < 160
    · have hks : k < rowsS.size := by rw [rowsS_size]; exact h160
      have hasc : (rowsS[k]'hks).toNat < 128 := by rw [rowsS_get hks]; exact hexC_lt (digN_lt k)
      have hnx := fun ty => run_next_ascii_at (P := Try.prog) wr (w4.heap.size + 1) rowsS k ty hr.out.it hks hasc
      have Hn := hidp (hr.out.iter (k + 1))
      rw [rowsS_get hks] at hnx
      clear hks hasc
      generalize wr.iterAt (w4.heap.size + 1) rowsS (k + 1) = wn at hnx Hn
      have hvl := value_any (hexC (digN k)) wn (by have := hexC_lt (digN_lt k); omega)
      rw [hexV_hexC (digN_lt k), if_pos (digN_lt k), decide_eq_true (digN_lt k)] at hvl
      have hvl := hidp hvl
      have hd16 : ((digN k : Nat) : Int) < 16 := by have := digN_lt k; omega
      have hmc := (Hn.out.rm.cell (digN k)).trans (wvs_get (by rw [wordsL_len]; exact digN_lt k))
      have hpc := (Hn.out.rp.cell (k % 16)).trans (wvs_get (by rw [pickSt_len]; omega))
      have hpf := Hn.out.rp.free (k % 16)
      have hmod : ((k : Int)).tmod 16 = ((k % 16 : Nat) : Int) := by rw [Int.tmod_eq_emod_of_nonneg (by omega)]; omega
      have hk16 : ((k % 16 : Nat) : Int) < 16 := by omega
      generalize hq : k % 16 = q at hpc hpf hmod hk16
      generalize hdd : digN k = d at hnx hvl hd16 hmc
      generalize hmx : (wordsL bl).getD d 0 = mx at hmc
      have HX := hidp hmx
      clear hmx
      have HQ := hidp hq
      have HD := hidp hdd
      clear hq hdd
      have h160 := hidp h160
      by_cases h15 : q = 15
      · subst h15
        have Hp := hidp (Hn.out.pick 15 mx)
        have Hr := hidp (fun w' (hw : CmS w w' g sf n h bl w1.heap.size w3.heap.size w4.heap.size (pickSt v0 (wordsL bl) k).1 ((pickSt v0 (wordsL bl) k).2.set 15 mx) (k + 1)) => round_any w1.heap.size w4.heap.size 213 213 _ _ w' (pickSt_words HV.out _ k) (by rw [List.length_set, pickSt_len]) (by have h1 := hw.hm; have h2 := hw.hp; omega) hw.rv hw.rp)
        go_wp2_with (go_at_call 195; refine hvl.out.mono ?_; rintro e wx ⟨rfl, rfl⟩)
        refine (Hr.out _ Hp.out).mono ?_
        rintro e wy ⟨rfl, hy⟩
        have hy := hidp hy
        clear hvl hmc hpc hpf hmod hk16 hnx
        go_wp2_with fail
        have hy := hy.out
        refine ⟨⟨k + 1, by have := h160.out; omega, ?_⟩, ?_⟩
        · have e1 := congrArg Prod.fst (pickSt_end v0 (wordsL bl) HQ.out)
          have e2 := congrArg Prod.snd (pickSt_end v0 (wordsL bl) HQ.out)
          simp only [HQ.out, HD.out, HX.out] at e1 e2
          rw [e1, e2]
          exact hidp (Hp.out.row hy)
        · have e1 : wr.iterPos (w4.heap.size + 1) = k := by unfold World.iterPos; rw [hr.out.it]
          have e2 : wy.iterPos (w4.heap.size + 1) = k + 1 := by unfold World.iterPos; rw [(Hp.out.row hy).it]
          have := h160.out
          rw [e1, e2]; omega
      · have ht : ((q : Int) == 15) = false := by rw [beq_eq_false_iff_ne]; omega
        have h15 := hidp h15
        have Hp := hidp (Hn.out.pick q mx)
        go_wp2_with (go_at_call 195; refine hvl.out.mono ?_; rintro e wx ⟨rfl, rfl⟩)
        refine ⟨⟨k + 1, by have := h160.out; omega, ?_⟩, ?_⟩
        · have e1 := congrArg Prod.fst (pickSt_go v0 (wordsL bl) (n := k) (by rw [HQ.out]; exact h15.out))
          have e2 := congrArg Prod.snd (pickSt_go v0 (wordsL bl) (n := k) (by rw [HQ.out]; exact h15.out))
          simp only [HQ.out, HD.out, HX.out] at e1 e2
          rw [e1, e2]
          exact Hp
        · have e1 : wr.iterPos (w4.heap.size + 1) = k := by unfold World.iterPos; rw [hr.out.it]
          have e2 : (wx.setCell ⟨w4.heap.size, q, none⟩ (.int .u32 (mx : Nat))).iterPos (w4.heap.size + 1) = k + 1 := by unfold World.iterPos; rw [Hp.out.it]
          have := h160.out
          rw [e1, e2]; omega
    · obtain rfl : k = 160 := by omega
      have hnx := fun ty => run_next_end_at (P := Try.prog) wr (w4.heap.size + 1) rowsS 160 ty hr.out.it (by rw [rowsS_size]; omega)
      have VW := hidp (pickSt_words HV.out (wordsL bl) 160)
      have hR := hidp ((hr.out : CmS _ _ _ _ _ _ _ _ _ _ _ _ _))
      have hfin := hidp (blockL_eq h (wordsL bl) n mark)
      rw [← HV0.out] at hfin
      clear hr
      generalize (pickSt v0 (wordsL bl) 160).1 = v at VW hR hfin
      generalize (pickSt v0 (wordsL bl) 160).2 = p at hR
      have R0 : Hid (CmS w wr g sf n (partH h v 0) bl w1.heap.size w3.heap.size w4.heap.size v p 160) := by rw [partH_zero HS.out.words.1]; exact hR
      have HH := hidp HS.out.words
      clear HS hR HV HV0 HM l16 hk h160
      go_wp2
      go_loopw [39] (fun x wt => ∃ i : Nat, i ≤ 8 ∧ x = .int .i64 i ∧ Hid (CmS w wt g sf n (partH h v i) bl w1.heap.size w3.heap.size w4.heap.size v p 160)) (fun x _ => 8 - (intOf x).toNat)
      case atStart => exact ⟨0, by omega, rfl, R0⟩
      case round =>
        obtain ⟨i, hi, rfl, hr⟩ := hrel
        clear R0 hnx
        by_cases h8 : i < 8
        · have hx : ∀ (wd : World), CmS w wd g sf n (partH h v i) bl w1.heap.size w3.heap.size w4.heap.size v p 160 → wd.cell? ⟨g, 2 + i, none⟩ = some (.int .u32 (h.getD i 0 : Nat)) ∧ wd.cell? ⟨w1.heap.size, i, none⟩ = some (.int .u32 (v.getD i 0 : Nat)) ∧ wd.cell? ⟨w1.heap.size, i + 8, none⟩ = some (.int .u32 (v.getD (i + 8) 0 : Nat)) ∧ wd.frozen? ⟨g, 2 + i, none⟩ = false :=
            fun _ H => ⟨(H.st.ch h8).trans (by rw [partH_get h v h8]), (H.rv.cell i).trans (wvs_get (by rw [VW.out.1]; omega)), (H.rv.cell (i + 8)).trans (wvs_get (by rw [VW.out.1]; omega)), H.st.blk.free _⟩
          have hx := hidp hx
          have lx := xorW_lt (VW.out.get i) (VW.out.get (i + 8))
          have e1 := xor_word (VW.out.get i) (VW.out.get (i + 8))
          have e2 := xor_word (HH.out.get i) lx
          have hset := partH_set h v h8
          have lx2 := hidp (xorW_lt (HH.out.get i) lx)
          clear lx
          generalize h.getD i 0 = ha at hx e2 hset lx2
          generalize v.getD i 0 = va at hx e1 e2 hset lx2
          generalize v.getD (i + 8) 0 = vb at hx e1 e2 hset lx2
          have hset := hidp hset
          have hi8 : (i : Int) < 8 := by omega
          have hi16 : (i : Int) + 8 < 16 := by omega
          have hi17 : (i : Int) < 16 := by omega
          have hw8 : IntKind.i64.wrap ((i : Int) + 8) = (i : Int) + 8 := by rw [IntKind.wrap_i64]; omega
          have hw9 : (0 : Int) ≤ (i : Int) + 8 := by omega
          have hw10 : ((i : Int) + 8).toNat = i + 8 := by omega
          have h8 := hidp h8
          go_wp2
          refine region_tail 17 (by kernel_rfl) (by kernel_rfl) ?_
          intro wd hwd
          have hd := hidp (hwd.out.symm ▸ hr.out.drew)
          clear hr hwd
          obtain ⟨x1, x2, x3, x4⟩ := hx.out _ hd.out
          clear hx
          simp only [List.take_succ_cons, List.take_zero, List.drop_succ_cons, List.drop_zero]
          repeat still_step
          try refine wpStill_nil ?_
          go_wp2
          refine ⟨⟨i + 1, by have := h8.out; omega, by go_num, ?_⟩, by have := h8.out; simp [intOf]; omega⟩
          rw [← hset.out]
          exact hidp (hd.out.seth h8.out lx2.out)
        · obtain rfl : i = 8 := by omega
          go_wp2
          go_end0
          exact ⟨rfl, hfin.out ▸ hr.out.st, hr.out.bex⟩
end Go.Proofs.Ytdiklimikkplcaa
