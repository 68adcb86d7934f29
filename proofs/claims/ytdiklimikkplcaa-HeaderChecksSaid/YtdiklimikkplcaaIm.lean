/-
  Contract of the answer's hash: Sum.
-/
import Derived.Test.YtdiklimikkplcaaIl
namespace Go.Proofs.Ytdiklimikkplcaa
open Go.RowKit Go.Maps

def lenOf (x : Value) : Nat := match x with | .slice _ n _ => n | _ => 0
theorem grown_blk {w w' : World} {v : Value} {base n b : Nat} {xs cs : List Value} {T : TypeId} (h : w.grownBy w' v.ownBlock) (ho : w.ownsRow base 5 1 v n xs) (hb : Blk w b cs T) (hlt : b < base) : Blk w' b cs T :=
  (h.block b hb.lt (fun e => by have := (ho.lt b e.symm).1; omega)).trans hb
/-- While zeros are appended. -/
structure SmA (w wr : World) (L : List Nat) (v : Value) (k : Nat) : Prop where
  own : wr.ownsRow (w.heap.size + 1) 5 1 v k (bvs (allL L k))
  res : Blk wr w.heap.size zV32 34
  bel : Below w.heap.size w wr
  siz : w.heap.size + 1 ≤ wr.heap.size
/-- While blocks are put in. -/
structure SmB (w wr : World) (L : List Nat) (g c : Nat) (h : List Nat) : Prop where
  row : Blk wr c (wvs h) 136
  byt : BytesAt wr g 0 (allL L (fillM L.length))
  gl : g < wr.heap.size
  res : Blk wr w.heap.size zV32 34
  bel : Below w.heap.size w wr
  ne : w.heap.size < c ∧ w.heap.size < g ∧ c ≠ g
theorem SmB.drew {w wr : World} {L : List Nat} {g c : Nat} {h : List Nat} (H : SmB w wr L g c h) : SmB w wr.drew L g c h := ⟨H.row.drew, H.byt, H.gl, H.res.drew, H.bel.drew, H.ne⟩
theorem BytesAt.below {w w' : World} {g o : Nat} {A : List Nat} (h : BytesAt w g o A) (hg : g < w.heap.size) (hb : Below w.heap.size w w') : BytesAt w' g o A := fun i hi => (hb.cell (p := ⟨g, o + i, none⟩) hg).trans (h i hi)
theorem SmB.below {w wr w' : World} {L : List Nat} {g c : Nat} {h : List Nat} (H : SmB w wr L g c h) (hb : Below wr.heap.size wr w') : SmB w w' L g c h :=
  ⟨H.row.below hb H.row.lt, H.byt.below H.gl hb, Nat.lt_of_lt_of_le H.gl hb.size, H.res.below hb H.res.lt, btrans H.bel hb, H.ne⟩
theorem But.bytesAt {b g o : Nat} {w w' : World} {A : List Nat} (h : But b w w') (hA : BytesAt w g o A) (hne : g ≠ b) : BytesAt w' g o A := fun i hi => (World.cell?_of_block (a := ⟨g, o + i, none⟩) (h.block g hne)).trans (hA i hi)
theorem SmB.put {w wr w' : World} {L : List Nat} {g c : Nat} {h h' : List Nat} (H : SmB w wr L g c h) (hb : But c wr w') (hr : Blk w' c (wvs h') 136) : SmB w w' L g c h' :=
  ⟨hr, hb.bytesAt H.byt (fun e => H.ne.2.2 e.symm), by rw [hb.size]; exact H.gl, hb.blk H.res (by have := H.ne.1; omega), H.bel.trans (hb.below (by have := H.ne.1; omega)), H.ne⟩

theorem new_one (w : World) : ∀ j u, (bvs [0])[j]? = some u → (w.alloc (.cells (bvs [0]).toArray 5)).cell? ((⟨w.heap.size, 0, none⟩ : Addr).add j) = some u := fun j u hj => by
  rw [show (⟨w.heap.size, 0, none⟩ : Addr).add j = ⟨w.heap.size, j, none⟩ by unfold Addr.add; split <;> simp_all]
  exact ((Blk.new w (bvs [0]) _).cell j).trans hj

set_option maxRecDepth 100000 in
set_option maxHeartbeats 8000000 in
theorem refSum_any {w : World} {a : Option Addr} {cap : Nat} {L : List Nat} (hL : ByS w a cap L) (hn : L.length ≤ 1000) :
    Calls Try.prog 104 #[.slice a L.length cap] w fun e w' => e = .returned (.agg (bvs (hashL L)).toArray) ∧ Below w.heap.size w w' := by
  obtain ⟨i0, hi, hz0, hz1, hz2⟩ := info_parts info_byte
  have hB : Hid (Below w.heap.size w ((w.alloc (.cells zV32.toArray 34)).alloc (.cells #[] 5))) := hidp (((Below.refl _ w).alloc (Nat.le_refl _) _).alloc (by simp) _)
  have HS2 := hidp (hL.below (((Below.refl _ w).alloc (Nat.le_refl _) (.cells zV32.toArray 34)).alloc (by simp) (.cells #[] 5)))
  have HN := hidp hn
  have hbt := hidp hL.byte
  have hr0 := hidp ((Blk.new w zV32 34).alloc (.cells #[] 5))
  have hown : Hid (((w.alloc (.cells zV32.toArray 34)).alloc (.cells #[] 5)).ownsRow (w.heap.size + 1) 5 1 (.slice (some ⟨w.heap.size + 1, 0, none⟩) 0 0) 0 []) := by
    have q := own_nothing (w.alloc (.cells zV32.toArray 34))
    rw [show (w.alloc (.cells zV32.toArray 34)).heap.size = w.heap.size + 1 by simp] at q
    exact hidp q
  clear hL hn
  go_enter Try.func104, Try.ntmps104
  go_wp2_with (at_builtin; refine wpList_append_byS rfl _ _ rfl (w.heap.size + 1) 0 [] _ rfl hown.out a cap L rfl HS2.out (by have := HN.out; omega) (by simp) ?_; intro v' w1 hown' hgrow; have hA := hidp (SmA.mk (L := L) (by rw [allL_start]; simpa using hown') (grown_blk hgrow hown.out hr0.out (by omega)) (hB.out.grown hgrow (by simp; omega) (fun j hj => by have := (hown.out.lt j hj).1; omega)) (by have := hgrow.size; simp at this; omega)); clear hown' hgrow)
  clear hB HS2 hr0 hown
  go_loopw [3] (fun x wr => ∃ k : Nat, L.length ≤ k ∧ k ≤ fillM L.length ∧ Hid (SmA w wr L x k)) (fun x _ => fillM L.length - lenOf x)
  case atStart => exact ⟨L.length, Nat.le_refl _, fillM_ge _, hA⟩
  case round =>
    obtain ⟨k, hk1, hk2, hr⟩ := hrel
    clear hA
    by_cases hk : k < fillM L.length
    · obtain ⟨p, c, rfl⟩ := own_slice hr.out.own
      have HK := hidp (And.intro hk1 hk)
      have hle := fillM_le L.length
      have hor : (((k : Int) == 0) = true) ∨ ((((k : Int) == 0) = false) ∧ ((((k : Int) % 64) == 0) = false) ∧ ((((k : Int) % 64) != 0) = true)) := by
        rcases fillM_go hk1 hk with h | h
        · exact .inl (by rw [beq_iff_eq]; omega)
        · exact .inr ⟨by rw [beq_eq_false_iff_ne]; omega, by rw [beq_eq_false_iff_ne]; omega, by rw [bne_iff_ne]; omega⟩
      have hend : ∀ v2 w2, w2.ownsRow (w.heap.size + 1) 5 1 v2 (k + 1) (bvs (allL L k) ++ bvs [0]) → (wr.alloc (.cells (bvs [0]).toArray 5)).grownBy w2 (Value.slice p k c).ownBlock → Hid (SmA w w2 L v2 (k + 1)) ∧ lenOf v2 = k + 1 := fun v2 w2 h2 hg => by
        have ho := hr.out.own.alloc (.cells (bvs [0]).toArray 5)
        obtain ⟨p2, c2, e2⟩ := own_slice h2
        refine ⟨hidp ⟨?_, grown_blk hg ho (hr.out.res.alloc _) (by omega), (hr.out.bel.alloc hr.out.bel.size _).grown hg (by have := hr.out.bel.size; simp; omega) (fun j hj => by have := (ho.lt j hj).1; omega), by have := hg.size; have := hr.out.siz; simp at *; omega⟩, by rw [e2]; rfl⟩
        rw [← allL_more L hk1]
        unfold bvs at h2 ⊢
        rw [List.map_append]; exact h2
      have hend := hidp hend
      have hle2 := hidp hle
      clear hk1 hk2 hk hle
      rcases hor with h0 | ⟨h0, h1, h2⟩
      · go_wp2_with (at_builtin; refine wpList_append_own _ rfl _ _ 32 rfl (w.heap.size + 1) 5 i0 (.int .u8 0) 1 1 Try.underlying32 hi hz0 hz1 hz2 rfl (by decide) _ _ _ rfl (hr.out.own.alloc _) ⟨wr.heap.size, 0, none⟩ 1 1 (bvs [0]) rfl rfl (new_one wr) (bvs_oneL _) (by have := HN.out; have := HK.out.2; have := hle2.out; unfold maxLen; omega) (by have := HN.out; have := HK.out.2; have := hle2.out; omega) (by have := hr.out.siz; simp; omega) ?_; intro v2 w2 hown2 hgrow2 _; have hE := hidp (hend.out v2 w2 hown2 hgrow2); clear hown2 hgrow2)
        have hE := hE.out
        refine ⟨⟨k + 1, by have := HK.out.1; omega, by have := HK.out.2; omega, hE.1⟩, ?_⟩
        have h1 : lenOf v2 = k + 1 := hE.2
        have h2 := HK.out.2
        show fillM L.length - lenOf v2 < fillM L.length - k
        omega
      · go_wp2_with (at_builtin; refine wpList_append_own _ rfl _ _ 32 rfl (w.heap.size + 1) 5 i0 (.int .u8 0) 1 1 Try.underlying32 hi hz0 hz1 hz2 rfl (by decide) _ _ _ rfl (hr.out.own.alloc _) ⟨wr.heap.size, 0, none⟩ 1 1 (bvs [0]) rfl rfl (new_one wr) (bvs_oneL _) (by have := HN.out; have := HK.out.2; have := hle2.out; unfold maxLen; omega) (by have := HN.out; have := HK.out.2; have := hle2.out; omega) (by have := hr.out.siz; simp; omega) ?_; intro v2 w2 hown2 hgrow2 _; have hE := hidp (hend.out v2 w2 hown2 hgrow2); clear hown2 hgrow2)
        have hE := hE.out
        refine ⟨⟨k + 1, by have := HK.out.1; omega, by have := HK.out.2; omega, hE.1⟩, ?_⟩
        have h1 : lenOf v2 = k + 1 := hE.2
        have h2 := HK.out.2
        show fillM L.length - lenOf v2 < fillM L.length - k
        omega
    · have hkM : k = fillM L.length := by omega
      have hend := fillM_end L.length
      have hle := fillM_le L.length
      rw [← hkM] at hend hle
      obtain ⟨g, c, rfl, hg1, hg2, hg3, hA⟩ := own_bytes hr.out.own (allL_len L hk1) (by omega)
      have b0 : ((k : Int) == 0) = false := by rw [beq_eq_false_iff_ne]; omega
      have b1 : (((k : Int) % 64) == 0) = true := by rw [beq_iff_eq]; omega
      have b2 : (((k : Int) % 64) != 0) = false := by rw [bne_eq_false_iff_eq]; omega
      have HG := hidp (And.intro hg1 (And.intro hg2 hg3))
      replace hA := hidp hA
      have HE := hidp (And.intro hkM (And.intro hend hle))
      clear hk1 hk2 hk hkM hend hle hg1 hg2 hg3
      go_wp2_with fail
      refine (refBegin_any _).mono ?_
      rintro e w1 ⟨rfl, hB1⟩
      replace hB1 := hidp hB1
      clear b0 b1 b2
      have hz := hidp (Blk.new w1 (wvs (List.replicate 8 0)) 136)
      have e0 := xor_word (a := 1779033703) (b := 16842784) (by decide) (by decide)
      simp only [Int.cast_ofNat_Int] at e0
      go_wp2_with (refine wpList_store_blk rfl 136 _ _ rfl w1.heap.size (wvs initL) (wvs (List.replicate 8 0)) 136 rfl rfl hz.out (by kernel_rfl) rfl (wvs_one _) ?_; intro w2 hw2; have hR := hidp (show Blk w2 w1.heap.size (wvs initL) 136 by rw [hw2.out]; exact hz.out.row); have r0 : w2.cell? ⟨w1.heap.size, 0, none⟩ = some (.int .u32 1779033703) := hR.out.cell 0; have f0 := hR.out.free 0)
      have hBN : Hid (SmB w (w2.setCell ⟨w1.heap.size, 0, none⟩ (.int .u32 (xorW 1779033703 16842784 : Nat))) L g w1.heap.size (hN L 0)) := by
        have hsz := hB1.out.size
        have hgl := HG.out.2.2
        have hgw := HG.out.1
        have h1 := hB1.out.alloc hsz (.cells (wvs (List.replicate 8 0)).toArray 136)
        have hbt : But w1.heap.size (w1.alloc (.cells (wvs (List.replicate 8 0)).toArray 136)) w2 := hw2.out ▸ (But.refl _ _).setRow _
        have hA2 : BytesAt wr g 0 (allL L (fillM L.length)) := HE.out.1 ▸ hA.out
        have H2 : SmB w w2 L g w1.heap.size initL := ⟨hR.out, hbt.bytesAt (hA2.below hgl h1) (by omega), by rw [hbt.size]; simp; omega, hbt.blk (hr.out.res.below h1 hr.out.res.lt) (by have := hr.out.res.lt; omega), (btrans hr.out.bel h1).trans (hbt.below (by have := hr.out.bel.size; omega)), by omega⟩
        rw [hN_zero, ← start_set]
        exact hidp (H2.put ((But.refl _ w2).setCell 0 _) (wvs_set _ _ _ ▸ hR.out.set 0 _))
      clear hw2 hz r0 f0 e0 hR hr hB1
      go_loopw [5] (fun x wr => ∃ t j : Nat, x = .int .i64 t ∧ Hid (t = 64 * j ∧ j ≤ aheadL L.length + 1) ∧ Hid (SmB w wr L g w1.heap.size (hN L j))) (fun x _ => fillM L.length - (Go.RowKit.intOf x).toNat)
      case atStart => exact ⟨0, 0, rfl, hidp ⟨rfl, Nat.zero_le _⟩, hBN⟩
      case round =>
        obtain ⟨t, j, rfl, ht, hr⟩ := hrel
        clear hBN
        by_cases htk : t < k
        · have hj : j ≤ aheadL L.length := by have h1 := ht.out; have h2 := HE.out.1; unfold fillM at h2; omega
          obtain ⟨k2, hk2⟩ : ∃ k2, k2 = t + 64 := ⟨_, rfl⟩
          have hle2 : k2 ≤ k := by have h1 := ht.out; have h2 := HE.out.1; unfold fillM at h2; omega
          have hsl := fun w => run_part_lh (some ⟨g, 0, none⟩) k c t 64 k2 (by omega) (by have := HG.out.2.1; omega) w
          have hpa : partA (some ⟨g, 0, none⟩) c t = some ⟨g, t, none⟩ := by
            unfold partA
            have := HG.out.2.1
            rw [if_neg (by omega)]
            simp [Addr.add_mid]
          rw [hpa] at hsl
          have u1 : (t : Int) + 64 = (k2 : Int) := by omega
          have u2 : IntKind.i64.wrap (k2 : Int) = (k2 : Int) := by have := HE.out.2.2; have := HN.out; rw [IntKind.wrap_i64]; omega
          have u3 : wrap64 (k2 : Int) = (k2 : Int) := by have := HE.out.2.2; have := HN.out; rw [w64 _ (by omega)]
          obtain ⟨mn, hmn⟩ : ∃ mn, mn = min L.length k2 := ⟨_, rfl⟩
          have u4 : min (L.length : Int) (k2 : Int) = (mn : Int) := by omega
          obtain ⟨lb, hlb⟩ : ∃ lb, lb = ((k2 : Int) == (k : Int)) := ⟨_, rfl⟩
          have u5 : ((k2 : Int) == (k : Int)) = lb := hlb.symm
          have hlb2 : lb = decide (64 * j + 64 = fillM L.length) := by
            rw [hlb]
            have h1 := ht.out; have h2 := HE.out.1
            by_cases hq : 64 * j + 64 = fillM L.length
            · rw [decide_eq_true hq, beq_iff_eq]; omega
            · rw [decide_eq_false hq, beq_eq_false_iff_ne]; omega
          have hmn2 : mn = min L.length (64 * j + 64) := by have h1 := ht.out; omega
          have hstep := hN_step L hj
          rw [← hlb2, ← hmn2] at hstep
          have HSt := hidp hstep
          have hmn3 : mn ≤ 100000 := by have := HN.out; omega
          have hcall := fun (wd : World) (H : SmB w wd L g w1.heap.size (hN L j)) => refBlock_any (hN L j) (blkL L j) g t (c - t) mn lb wd (hN_words L j) (blkL_bytes hbt.out hj) hmn3 H.gl (fun i hi => by
            have hi : i < 64 := by rw [(blkL_bytes hbt.out hj).1] at hi; exact hi
            have h1 := ht.out.1
            have h2 := H.byt (64 * j + i) (by rw [allL_len L (fillM_ge _)]; have := HE.out.1; omega)
            rw [Nat.zero_add, blkL_at L j hi] at h2
            rw [h1]; exact h2)
          replace hcall := hidp hcall
          have HT := hidp (And.intro htk (And.intro hk2 hj))
          have hwN := hidp (hN_words L (j + 1))
          have hwO := hidp (hN_words L j)
          clear hstep hlb hlb2 hmn hmn2 hmn3 hle2 hk2 hj hpa
          go_wp2_with fail
          refine region_tail 16 (by kernel_rfl) (by kernel_rfl) ?_
          intro wd hwd
          have hd := hidp (show SmB w wd L g w1.heap.size (hN L j) by rw [hwd.out]; exact hr.out.drew)
          clear hr hwd
          simp only [List.take_succ_cons, List.take_zero, List.drop_succ_cons, List.drop_zero]
          refine wpStill_load_blk rfl 136 _ rfl w1.heap.size (wvs (hN L j)) 136 rfl hd.out.row _ Try.underlying136 rfl (by rw [wvs_len, hwO.out.1]; kernel_rfl) ?_
          repeat still_step
          try refine wpStill_nil ?_
          go_wp2_with fail
          refine (hcall.out _ hd.out).mono ?_
          rintro e w7 ⟨rfl, hB7⟩
          rw [HSt.out]
          have H7 := hidp (hd.out.below hB7)
          clear hd hcall hB7 hsl
          go_wp2_with (refine wpList_store_blk rfl 136 _ _ rfl w1.heap.size (wvs (hN L (j + 1))) (wvs (hN L j)) 136 rfl rfl H7.out.row (by rw [wvs_len, hwN.out.1]; kernel_rfl) (by rw [wvs_len, wvs_len, hwN.out.1, hwO.out.1]) (wvs_one _) ?_; intro w8 hw8)
          have hbt8 : But w1.heap.size w7 w8 := hw8.out ▸ (But.refl _ _).setRow _
          have ht1 := ht.out.1
          refine ⟨⟨k2, j + 1, rfl, hidp ⟨by have := HT.out.2.1; omega, by have := HT.out.2.2; omega⟩, hidp (H7.out.put hbt8 (hw8.out ▸ H7.out.row.row))⟩, ?_⟩
          have h2 := HT.out.2.1
          have h3 := HT.out.1
          have h4 := HE.out.1
          show fillM L.length - (k2 : Int).toNat < fillM L.length - (t : Int).toNat
          omega
        · rename World => wo
          have hj : j = aheadL L.length + 1 := by have h1 := ht.out; have h2 := HE.out.1; unfold fillM at h2; omega
          have htk2 : t = k := by have h1 := ht.out; have h2 := HE.out.1; unfold fillM at h2; omega
          have hW := hidp (lastL_words L)
          have hr : Hid (SmB w wo L g w1.heap.size (lastL L)) := by have := hr.out; rw [hj, hN_end] at this; exact hidp this
          have hlt : ¬ t < k := htk
          have hO : Hid (Blk (wo.alloc (.cells zV32.toArray 34)) wo.heap.size (bvs (partO (lastL L) 0)) 34 ∧ Blk (wo.alloc (.cells zV32.toArray 34)) w1.heap.size (wvs (lastL L)) 136 ∧ Blk (wo.alloc (.cells zV32.toArray 34)) w.heap.size zV32 34 ∧ Below w.heap.size w (wo.alloc (.cells zV32.toArray 34))) := by
            rw [partO_zero]
            exact hidp ⟨Blk.new _ _ _, hr.out.row.alloc _, hr.out.res.alloc _, hr.out.bel.alloc hr.out.bel.size _⟩
          have hne : Hid (w.heap.size < wo.heap.size ∧ w1.heap.size ≠ wo.heap.size ∧ w.heap.size ≠ w1.heap.size) := hidp ⟨by have := hr.out.res.lt; omega, by have := hr.out.row.lt; omega, by have := hr.out.ne.1; omega⟩
          have hkk : decide (t < k) = false := decide_eq_false htk
          clear hr ht hj htk2 htk hlt
          go_wp2
          go_loopw [7] (fun x wt => ∃ i : Nat, i ≤ 32 ∧ x = .int .i64 i ∧ Hid (Blk wt wo.heap.size (bvs (partO (lastL L) i)) 34 ∧ Blk wt w1.heap.size (wvs (lastL L)) 136 ∧ Blk wt w.heap.size zV32 34 ∧ Below w.heap.size w wt)) (fun x _ => 32 - (Go.RowKit.intOf x).toNat)
          case atStart => exact ⟨0, by omega, rfl, hO⟩
          case round =>
            obtain ⟨i, hi, rfl, hr⟩ := hrel
            clear hO
            by_cases h32 : i < 32
            · have HI := hidp h32
              have hset := hidp (partO_set (lastL L) h32)
              have hq8 : i / 4 < 8 := by omega
              have hc := (hr.out.2.1.cell (i / 4)).trans (wvs_get (by rw [hW.out.1]; exact hq8))
              have hx := hW.out.get (i / 4)
              have hfree := hr.out.1.free i
              obtain ⟨vo, ho⟩ : ∃ v, wr.cell? ⟨wo.heap.size, i, none⟩ = some v := ⟨_, (hr.out.1.cell i).trans (bvs_get (by rw [partO_len]; exact h32))⟩
              have hm4 : i % 4 = 0 ∨ i % 4 = 1 ∨ i % 4 = 2 ∨ i % 4 = 3 := by omega
              have hdv : (i : Int) / 4 = ((i / 4 : Nat) : Int) := by omega
              have hmd : (i : Int) % 4 = ((i % 4 : Nat) : Int) := by omega
              have hlt : (i : Int) < 32 := by omega
              generalize i / 4 = q at hset hq8 hc hx hdv
              generalize i % 4 = m at hset hm4 hmd
              generalize (lastL L).getD q 0 = x at hset hc hx
              have hql : (q : Int) < 8 := by omega
              have hX := hidp hx
              clear h32 hx hq8
              rcases hm4 with rfl | rfl | rfl | rfl
              · have e0 : Hid (((x : Int) % 256) = ((byteN x 0 : Nat) : Int)) := hidp (by have := hX.out; unfold W32 at this; unfold byteN; omega)
                simp only [Int.cast_ofNat_Int] at hmd
                go_wp2
                refine ⟨⟨i + 1, by have := HI.out; omega, by go_num, ?_⟩, by have := HI.out; simp [Go.RowKit.intOf]; omega⟩
                rw [← hset.out]
                have hbt : But wo.heap.size wr (wr.setCell ⟨wo.heap.size, i, none⟩ (.int .u8 (byteN x 0 : Nat))) := (But.refl _ wr).setCell _ _
                have hE := e0.out
                try simp only [hE]
                exact hidp ⟨bvs_set _ _ _ ▸ hr.out.1.set i _, hbt.blk hr.out.2.1 hne.out.2.1, hbt.blk hr.out.2.2.1 (by have := hne.out.1; omega), hr.out.2.2.2.trans (hbt.below (by have := hne.out.1; omega))⟩
              · have e0 : Hid (((x : Int) / 256 % 256) = ((byteN x 1 : Nat) : Int)) := hidp (by have := hX.out; unfold W32 at this; unfold byteN; omega)
                simp only [Int.cast_ofNat_Int] at hmd
                go_wp2
                refine ⟨⟨i + 1, by have := HI.out; omega, by go_num, ?_⟩, by have := HI.out; simp [Go.RowKit.intOf]; omega⟩
                rw [← hset.out]
                have hbt : But wo.heap.size wr (wr.setCell ⟨wo.heap.size, i, none⟩ (.int .u8 (byteN x 1 : Nat))) := (But.refl _ wr).setCell _ _
                have hE := e0.out
                try simp only [hE]
                exact hidp ⟨bvs_set _ _ _ ▸ hr.out.1.set i _, hbt.blk hr.out.2.1 hne.out.2.1, hbt.blk hr.out.2.2.1 (by have := hne.out.1; omega), hr.out.2.2.2.trans (hbt.below (by have := hne.out.1; omega))⟩
              · have e0 : Hid (((x : Int) / 65536 % 256) = ((byteN x 2 : Nat) : Int)) := hidp (by have := hX.out; unfold W32 at this; unfold byteN; omega)
                simp only [Int.cast_ofNat_Int] at hmd
                go_wp2
                refine ⟨⟨i + 1, by have := HI.out; omega, by go_num, ?_⟩, by have := HI.out; simp [Go.RowKit.intOf]; omega⟩
                rw [← hset.out]
                have hbt : But wo.heap.size wr (wr.setCell ⟨wo.heap.size, i, none⟩ (.int .u8 (byteN x 2 : Nat))) := (But.refl _ wr).setCell _ _
                have hE := e0.out
                try simp only [hE]
                exact hidp ⟨bvs_set _ _ _ ▸ hr.out.1.set i _, hbt.blk hr.out.2.1 hne.out.2.1, hbt.blk hr.out.2.2.1 (by have := hne.out.1; omega), hr.out.2.2.2.trans (hbt.below (by have := hne.out.1; omega))⟩
              · have e0 : Hid (((x : Int) / 16777216 % 256) = ((byteN x 3 : Nat) : Int)) := hidp (by have := hX.out; unfold W32 at this; unfold byteN; omega)
                simp only [Int.cast_ofNat_Int] at hmd
                go_wp2
                refine ⟨⟨i + 1, by have := HI.out; omega, by go_num, ?_⟩, by have := HI.out; simp [Go.RowKit.intOf]; omega⟩
                rw [← hset.out]
                have hbt : But wo.heap.size wr (wr.setCell ⟨wo.heap.size, i, none⟩ (.int .u8 (byteN x 3 : Nat))) := (But.refl _ wr).setCell _ _
                have hE := e0.out
                try simp only [hE]
                exact hidp ⟨bvs_set _ _ _ ▸ hr.out.1.set i _, hbt.blk hr.out.2.1 hne.out.2.1, hbt.blk hr.out.2.2.1 (by have := hne.out.1; omega), hr.out.2.2.2.trans (hbt.below (by have := hne.out.1; omega))⟩
            · obtain rfl : i = 32 := by omega
              have hb := hidp (partO_all (lastL L) ▸ hr.out.1)
              simp only [Int.cast_ofNat_Int]
              have hl : Hid ((bytesL (lastL L)).length = 32) := hidp (hashL_len L)
              go_wp2_with (first | refine wpList_load_blk rfl 34 _ rfl wo.heap.size (bvs (bytesL (lastL L))) 34 rfl hb.out _ Try.underlying34 rfl (by rw [bvs_len, hl.out]; kernel_rfl) ?_ | (refine wpList_store_blk rfl 34 _ _ rfl w.heap.size (bvs (bytesL (lastL L))) zV32 34 rfl rfl hr.out.2.2.1 (by rw [bvs_len, hl.out]; kernel_rfl) (by rw [bvs_len, hl.out]; rfl) (bvs_one _) ?_; intro w6 hw6))
              have b2 : Blk w6 w.heap.size (bvs (hashL L)) 34 := by rw [hw6.out]; exact hr.out.2.2.1.row
              refine bodyPost_ret (v := .agg (bvs (hashL L)).toArray) ?_ rfl ⟨rfl, ?_⟩
              · exact results_cell_row Try.results104 _ _ w.heap.size 34 _ (0, 0) _ rfl b2 Try.underlying34 rfl (by rw [List.size_toArray, bvs_len, hashL_len]; kernel_rfl)
              · rw [hw6.out]; exact below_setRow hr.out.2.2.2 (Nat.le_refl _) _
end Go.Proofs.Ytdiklimikkplcaa
