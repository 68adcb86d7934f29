/-
  Contract of the answer's hash: block.
-/
import Derived.Test.YtdiklimikkplcaaIj
import Derived.Deep.CutRange
namespace Go.Proofs.Ytdiklimikkplcaa
open Go.RowKit Go.Lib

def markL (last : Bool) : Nat := if last then 0xffffffff else 0
theorem assocW (a b c : Nat) : xorW (xorW a b) c = xorW a (xorW b c) := Nat.xor_assoc a b c
theorem beginL_last {h : List Nat} (h8 : h.length = 8) (t : Nat) (ht : t < 4294967296) :
    (((h ++ initL).set 12 (xorW 0x510e527f t)).set 13 (xorW 0x9b05688c 0)).set 14 3766232660 = beginL h t (markL true) := by
  rw [← begin_sets h8, Nat.mod_eq_of_lt ht, Nat.div_eq_of_lt ht]; rfl
theorem beginL_more {h : List Nat} (h8 : h.length = 8) (t : Nat) (ht : t < 4294967296) :
    ((h ++ initL).set 12 (xorW 0x510e527f t)).set 13 (xorW 0x9b05688c 0) = beginL h t (markL false) := by
  rw [← begin_sets h8, Nat.mod_eq_of_lt ht, Nat.div_eq_of_lt ht]
  show _ = (((h ++ initL).set 12 (xorW 0x510e527f t)).set 13 (xorW 0x9b05688c 0)).set 14 528734635
  rw [List.set_append_right _ _ (by omega), List.set_append_right _ _ (by omega), List.set_append_right _ _ (by omega), h8]
  rfl

set_option maxRecDepth 100000 in
set_option maxHeartbeats 16000000 in
theorem refBlock_any (h bl : List Nat) (g o cap many : Nat) (last : Bool) (w : World) (hh : Words 8 h) (hb : Bytes 64 bl) (hm : many ≤ 100000) (hg : g < w.heap.size) (hc : BytesAt w g o bl) :
    Calls Try.prog 162 #[.agg (wvs h).toArray, .slice (some ⟨g, o, none⟩) 64 cap, .int .i64 (many : Nat), .bool last] w fun e w' => e = .returned (.agg (wvs (blockL h (wordsL bl) many (markL last))).toArray) ∧ Below w.heap.size w w' := by
  have HH := hidp hh
  have HB := hidp hb
  have HG := hidp hg
  have HC := hidp hc
  have HM := hidp hm
  have h8 := hidp hh.1
  have HBeg := hidp (fun w => refBegin_any w)
  have HRow := hidp (fun r w hr => refRow_any r w hr)
  clear hh hb hg hc hm
  go_enter Try.func162, Try.ntmps162
  go_wp2
  go_loopw [10] (fun x wr => ∃ i : Nat, i ≤ 16 ∧ x = .int .i64 i ∧ Hid (Blk wr w.heap.size (wvs h) 136 ∧ Blk wr (w.heap.size + 1) (wvs (List.replicate 8 0)) 136 ∧ Blk wr (w.heap.size + 1 + 1) (wvs (partW bl i)) 213 ∧ Below w.heap.size w wr ∧ wr.heap.size = w.heap.size + 3)) (fun x _ => 16 - (RowKit.intOf x).toNat)
  case atStart =>
    refine ⟨0, by omega, rfl, ?_, ?_, ?_, by (repeat' (first | (with_reducible exact Below.refl _ _) | (with_reducible refine Below.alloc ?_ ?_ _) | (with_reducible refine Below.drew ?_) | (with_reducible refine Below.drewN ?_ _) | (with_reducible refine Below.setCell ?_ ?_ _) | go_size)), by simp⟩
    · exact ((Blk.new w (wvs h) _).alloc _).alloc _
    · exact (Blk.new' (w.alloc (.cells (wvs h).toArray 136)) (wvs (List.replicate 8 0)) _ _ (by simp)).alloc _
    · rw [partW_zero]; exact Blk.new' ((w.alloc (.cells (wvs h).toArray 136)).alloc (.cells (wvs (List.replicate 8 0)).toArray 136)) (wvs (List.replicate 16 0)) _ _ (by simp)
  case round =>
    obtain ⟨i, hi, rfl, hr⟩ := hrel
    by_cases h16 : i < 16
    · have hI := hidp h16
      have hx : ∀ wd, Below w.heap.size w wd → ∀ k, k < 64 → wd.cell? ⟨g, o + k, none⟩ = some (.int .u8 (bl.getD k 0 : Nat)) := fun wd hB k hk => (hB.cell (p := ⟨g, o + k, none⟩) HG.out).trans (HC.out k (HB.out.1.symm ▸ hk))
      replace hx := hidp hx
      have hor := or_bytes (HB.out.get (4 * i)) (HB.out.get (4 * i + 1)) (HB.out.get (4 * i + 2)) (HB.out.get (4 * i + 3))
      have hset := hidp (partW_set bl h16)
      have hwl : wordL bl i = bl.getD (4 * i) 0 + 256 * bl.getD (4 * i + 1) 0 + 65536 * bl.getD (4 * i + 2) 0 + 16777216 * bl.getD (4 * i + 3) 0 := rfl
      have l0 := HB.out.get (4 * i)
      have l1 := HB.out.get (4 * i + 1)
      have l2 := HB.out.get (4 * i + 2)
      have l3 := HB.out.get (4 * i + 3)
      rw [← hwl] at hor
      clear hwl
      rw [show ((bl.getD (4 * i + 1) 0 : Nat) : Int) * 256 % 4294967296 = ((bl.getD (4 * i + 1) 0 : Nat) : Int) * 256 by omega, show ((bl.getD (4 * i + 2) 0 : Nat) : Int) * 65536 % 4294967296 = ((bl.getD (4 * i + 2) 0 : Nat) : Int) * 65536 by omega, show ((bl.getD (4 * i + 3) 0 : Nat) : Int) * 16777216 % 4294967296 = ((bl.getD (4 * i + 3) 0 : Nat) : Int) * 16777216 by omega] at hor
      have hX := hidp (fun wd hB => And.intro (hx.out wd hB (4 * i) (by omega)) (And.intro (hx.out wd hB (4 * i + 1) (by omega)) (And.intro (hx.out wd hB (4 * i + 2) (by omega)) (hx.out wd hB (4 * i + 3) (by omega)))))
      clear hx
      generalize bl.getD (4 * i) 0 = x0 at hor hX l0
      generalize bl.getD (4 * i + 1) 0 = x1 at hor hX l1
      generalize bl.getD (4 * i + 2) 0 = x2 at hor hX l2
      generalize bl.getD (4 * i + 3) 0 = x3 at hor hX l3
      have k0 : (0 : Int) ≤ 4 * (i : Int) := by omega
      have k1 : 4 * (i : Int) < 64 := by omega
      have k2 : 4 * (i : Int) + 1 < 64 := by omega
      have k3 : 4 * (i : Int) + 2 < 64 := by omega
      have k4 : 4 * (i : Int) + 3 < 64 := by omega
      have m0 : IntKind.i64.wrap (4 * (i : Int)) = 4 * (i : Int) := by rw [IntKind.wrap_i64]; omega
      have m1 : IntKind.i64.wrap (4 * (i : Int) + 1) = 4 * (i : Int) + 1 := by rw [IntKind.wrap_i64]; omega
      have m2 : IntKind.i64.wrap (4 * (i : Int) + 2) = 4 * (i : Int) + 2 := by rw [IntKind.wrap_i64]; omega
      have m3 : IntKind.i64.wrap (4 * (i : Int) + 3) = 4 * (i : Int) + 3 := by rw [IntKind.wrap_i64]; omega
      have n0 : (4 * (i : Int)).toNat = 4 * i := by omega
      have n1 : (4 * (i : Int) + 1).toNat = 4 * i + 1 := by omega
      have n2 : (4 * (i : Int) + 2).toNat = 4 * i + 2 := by omega
      have n3 : (4 * (i : Int) + 3).toNat = 4 * i + 3 := by omega
      have p1 : (0 : Int) ≤ 4 * (i : Int) + 1 := by omega
      have p2 : (0 : Int) ≤ 4 * (i : Int) + 2 := by omega
      have p3 : (0 : Int) ≤ 4 * (i : Int) + 3 := by omega
      have hlt : (i : Int) < 16 := by omega
      clear h16
      go_wp2
      refine region_tail 34 (by kernel_rfl) (by kernel_rfl) ?_
      intro wd hwd
      have hd := hidp (show Blk wd w.heap.size (wvs h) 136 ∧ Blk wd (w.heap.size + 1) (wvs (List.replicate 8 0)) 136 ∧ Blk wd (w.heap.size + 1 + 1) (wvs (partW bl i)) 213 ∧ Below w.heap.size w wd ∧ wd.heap.size = w.heap.size + 3 by rw [hwd.out]; exact ⟨hr.out.1.drew, hr.out.2.1.drew, hr.out.2.2.1.drew, hr.out.2.2.2.1.drew, hr.out.2.2.2.2⟩)
      clear hr hwd
      obtain ⟨y0, y1, y2, y3⟩ := hX.out wd hd.out.2.2.2.1
      have hfree := hd.out.2.2.1.free i
      obtain ⟨vo, ho⟩ : ∃ v, wd.cell? ⟨w.heap.size + 1 + 1, i, none⟩ = some v := ⟨_, (hd.out.2.2.1.cell i).trans (wvs_get (by rw [partW_len]; exact hI.out))⟩
      simp only [List.take_succ_cons, List.take_zero, List.drop_succ_cons, List.drop_zero]
      repeat still_step
      try refine wpStill_nil ?_
      go_wp2
      refine ⟨⟨i + 1, by have := hI.out; omega, by go_num, ?_⟩, by have := hI.out; simp [RowKit.intOf]; omega⟩
      rw [← hset.out]
      exact hidp ⟨hd.out.1.other _ _ (by simp; omega), hd.out.2.1.other _ _ (by simp), wvs_set _ _ _ ▸ hd.out.2.2.1.set i _, hd.out.2.2.2.1.setCell (by simp; omega) _, by simp [World.setCell]; exact hd.out.2.2.2.2⟩
    · obtain rfl : i = 16 := by omega
      simp only [Int.cast_ofNat_Int]
      have hsz := hr.out.2.2.2.2
      have hS : Hid (BlS w (wr.alloc (.cells (wvs (List.replicate 16 0)).toArray 213)) h (wordsL bl) (List.replicate 16 0)) := hidp ⟨hr.out.1.alloc _, hr.out.2.1.alloc _, partW_all bl ▸ hr.out.2.2.1.alloc _, Blk.new' _ _ _ _ hsz.symm, hr.out.2.2.2.1.alloc (by omega) _⟩
      clear hr hi h16
      go_wp2
      clear hsz
      go_loopw [12] (fun x wt => ∃ i : Nat, i ≤ 8 ∧ x = .int .i64 i ∧ Hid (BlS w wt h (wordsL bl) (partHv h i))) (fun x _ => 8 - (RowKit.intOf x).toNat)
      case atStart => exact ⟨0, by omega, rfl, by rw [partV_zero]; exact hS⟩
      case round =>
        obtain ⟨i, hi, rfl, hr⟩ := hrel
        clear hS
        by_cases h8i : i < 8
        · have hI := hidp h8i
          have hset := hidp (partV_set h h8i)
          have ch := (hr.out.bh.cell i).trans (wvs_get (by rw [h8.out]; exact h8i))
          have hfree := hr.out.bv.free i
          obtain ⟨vo, ho⟩ : ∃ v, wr.cell? ⟨w.heap.size + 3, i, none⟩ = some v := ⟨_, (hr.out.bv.cell i).trans (wvs_get (by rw [partV_len]; omega))⟩
          have hix := run_index_cellsK (T := 136) (e := 135) (n := 8) Try.underlying136 Try.underlying135 rfl (by kernel_rfl) (wvs initL) i h8i _ (wvs_get h8i)
          generalize h.getD i 0 = hv at hset ch
          generalize initL.getD i 0 = iv at hset hix
          have hlt : (i : Int) < 8 := by omega
          have hl8 : (i : Int) + 8 < 16 := by omega
          have hl9 : (i : Int) < 16 := by omega
          have hi8 : ((i : Int) + 8).toNat = i + 8 := by omega
          have H1 := hidp (hr.out.setv i hv)
          clear h8i
          go_wp2_with fail
          refine (HBeg.out _).mono ?_
          rintro e w1 ⟨rfl, hB1⟩
          have H2 := hidp (H1.out.below hB1)
          clear H1 hr ch hfree ho hB1
          have hfree := H2.out.bv.free (i + 8)
          obtain ⟨vo, ho⟩ : ∃ v, w1.cell? ⟨w.heap.size + 3, i + 8, none⟩ = some v := ⟨_, (H2.out.bv.cell (i + 8)).trans (wvs_get (by rw [List.length_set, partV_len]; have := hI.out; omega))⟩
          go_wp2
          refine ⟨⟨i + 1, by have := hI.out; omega, by go_num, ?_⟩, by have := hI.out; simp [RowKit.intOf]; omega⟩
          rw [← hset.out]
          exact hidp (H2.out.setv (i + 8) iv)
        · obtain rfl : i = 8 := by omega
          simp only [Int.cast_ofNat_Int]
          have r12 : wr.cell? ⟨w.heap.size + 3, 12, none⟩ = some (.int .u32 1359893119) := (hr.out.bv.cell 12).trans ((wvs_get (by rw [partV_len]; decide)).trans (by rw [partV_all h8.out, app_get h8.out 4]; rfl))
          have r13 : wr.cell? ⟨w.heap.size + 3, 13, none⟩ = some (.int .u32 2600822924) := (hr.out.bv.cell 13).trans ((wvs_get (by rw [partV_len]; decide)).trans (by rw [partV_all h8.out, app_get h8.out 5]; rfl))
          have r14 : wr.cell? ⟨w.heap.size + 3, 14, none⟩ = some (.int .u32 528734635) := (hr.out.bv.cell 14).trans ((wvs_get (by rw [partV_len]; decide)).trans (by rw [partV_all h8.out, app_get h8.out 6]; rfl))
          have f12 := hr.out.bv.free 12
          have f13 := hr.out.bv.free 13
          have f14 := hr.out.bv.free 14
          have e12 := xor_word (a := 0x510e527f) (b := many) (by decide) (by have := HM.out; unfold W32; omega)
          have e13 := xor_word (a := 0x9b05688c) (b := 0) (by decide) (by decide)
          simp only [Int.cast_ofNat_Int] at e12 e13
          have e12 : bits .xor .u32 1359893119 (many : Int) = _ := e12
          have hm0 := HM.out
          have hmd : (many : Int) / 4294967296 = 0 := by omega
          have H7 := hidp ((hr.out.setv 12 (xorW 0x510e527f many)).setv 13 (xorW 0x9b05688c 0))
          have H8 := hidp (H7.out.setv 14 3766232660)
          rw [partV_all h8.out, beginL_more h8.out many (by omega)] at H7
          rw [partV_all h8.out, beginL_last h8.out many (by omega)] at H8
          clear hr
          go_upto_if 87 with fail
          go_cut [] from 88 to 91 (fun wx => Hid (BlS w wx h (wordsL bl) (beginL h many (markL last))))
          case first =>
            clear HBeg HRow
            cases last
            · go_wp2
              go_meet
              case rel => exact H7
            · have e14 : Hid (bits .xor .u32 IntKind.u32.max 528734635 = ((3766232660 : Nat) : Int)) := hidp (by decide +kernel)
              go_wp2
              go_meet
              case rel => rw [e14.out]; exact H8
          case rest =>
            clear H7 H8 e12 e13 hm0 hmd r12 r13 r14 f12 f13 f14 hi h8i
            have HV0 := hidp (beginL_words (h := h) HH.out (t := many) (mark := markL last) (by cases last <;> decide))
            obtain ⟨V0, hV0⟩ : ∃ V0, V0 = beginL h many (markL last) := ⟨_, rfl⟩
            rw [← hV0] at HV0 hcut
            replace hV0 := hidp hV0
            go_wp2
            go_loopw [13] (fun x wr => ∃ r : Nat, r ≤ 10 ∧ x = .int .i64 r ∧ Hid (BlS w wr h (wordsL bl) (roundsL V0 (wordsL bl) r))) (fun x _ => 10 - (RowKit.intOf x).toNat)
            case atStart => exact ⟨0, by omega, rfl, hcut⟩
            case round =>
              obtain ⟨r, hr10, rfl, hr⟩ := hrel
              clear hcut
              by_cases hrl : r < 10
              · have hR10 := hidp hrl
                have hrr : (r : Int) < 10 := by omega
                clear hrl hr10
                have wrz : Hid (∀ n : Nat, n < 17 → IntKind.i64.wrap (n : Int) = (n : Int)) := hidp (fun n h => by rw [IntKind.wrap_i64]; omega)
                go_wp2_with fail
                refine (HRow.out _ _ hR10.out).mono ?_
                rintro e w1 ⟨rfl, hB1⟩
                have H1 := hidp ((hr.out.below hB1).alloc (.cells (ints (List.replicate 16 0)).toArray 214))
                have hz := hidp (Blk.new w1 (ints (List.replicate 16 0)) 214)
                have hsb : Hid (w.heap.size + 4 ≤ w1.heap.size) := hidp (by have h1 := hr.out.bv.lt; have h2 := hB1.size; omega)
                clear hr hB1
                go_wp2_with (refine wpList_store_blk rfl 214 _ _ rfl w1.heap.size (ints (rowL r)) (ints (List.replicate 16 0)) 214 rfl rfl hz.out (by rw [ints_len, rowL_len hR10.out]; kernel_rfl) (by rw [ints_len, ints_len, rowL_len hR10.out]; rfl) (ints_one _) ?_; intro w2 hw2)
                obtain ⟨V, hV⟩ : ∃ V, V = roundsL V0 (wordsL bl) r := ⟨_, rfl⟩
                obtain ⟨P, hP⟩ : ∃ P, P = pickL (wordsL bl) r := ⟨_, rfl⟩
                replace hP := hidp hP
                have HR : Hid (BlS w w2 h (wordsL bl) (halfL V P 0) ∧ Blk w2 w1.heap.size (ints (rowL r)) 214) := by
                  have hbt : But w1.heap.size (w1.alloc (.cells (ints (List.replicate 16 0)).toArray 214)) w2 := hw2.out ▸ (But.refl _ _).setRow _
                  exact hidp ⟨hV ▸ H1.out.other hbt hsb.out, hw2.out ▸ hz.out.row⟩
                have HV : Hid (Words 16 V) := hidp (hV ▸ roundsL_words HV0.out (wordsL bl) r)
                replace hV := hidp hV
                clear H1 hz hw2
                go_loopw [15] (fun x wr => ∃ i : Nat, i ≤ 4 ∧ x = .int .i64 i ∧ Hid (BlS w wr h (wordsL bl) (halfL V P i) ∧ Blk wr w1.heap.size (ints (rowL r)) 214)) (fun x _ => 4 - (RowKit.intOf x).toNat)
                case atStart => exact ⟨0, by omega, rfl, HR⟩
                case round =>
                  obtain ⟨i, hi, rfl, hr⟩ := hrel
                  clear HR
                  by_cases h4 : i < 4
                  · have hcase : i = 0 ∨ i = 1 ∨ i = 2 ∨ i = 3 := by omega
                    clear h4 hi
                    rcases hcase with rfl | rfl | rfl | rfl
                    · simp only [Int.cast_ofNat_Int]
                      go_wp2_with fail
                      refine region_tail 21 (by kernel_rfl) (by kernel_rfl) ?_
                      intro wd hwd
                      have hd := hidp (show BlS w wd h (wordsL bl) (halfL V P 0) ∧ Blk wd w1.heap.size (ints (rowL r)) 214 by rw [hwd.out]; exact ⟨hr.out.1.drew, hr.out.2.drew⟩)
                      clear hr hwd
                      have s0 : wd.cell? ⟨w1.heap.size, 0, none⟩ = _ := (hd.out.2.cell 0).trans (ints_get (by rw [rowL_len hR10.out]; decide))
                      have s1 : wd.cell? ⟨w1.heap.size, 1, none⟩ = _ := (hd.out.2.cell 1).trans (ints_get (by rw [rowL_len hR10.out]; decide))
                      have b0 := rowL_lt hR10.out 0
                      have b1 := rowL_lt hR10.out 1
                      have p0 : P.getD 0 0 = _ := (congrArg (fun l => List.getD l 0 0) hP.out).trans (pickL_get (m := wordsL bl) hR10.out (j := 0) (by decide))
                      have p1 : P.getD 1 0 = _ := (congrArg (fun l => List.getD l 1 0) hP.out).trans (pickL_get (m := wordsL bl) hR10.out (j := 1) (by decide))
                      have hmix := refMix_any 0 4 8 12 (halfL V P 0) (P.getD 0 0) (P.getD 1 0) wd (halfL_words HV.out P 0) (by decide) (by decide) (by decide) (by decide) (by decide) (by decide) (by decide) (by decide) (by decide) (by decide)
                      have hst : Hid (mixL (halfL V P 0) 0 4 8 12 (P.getD 0 0) (P.getD 1 0) = halfL V P 1) := hidp rfl
                      have HVW := hidp (halfL_words HV.out P 1)
                      rw [p0, p1] at hmix hst
                      clear p0 p1
                      generalize (rowL r).getD 0 0 = q0 at s0 b0 hmix hst
                      generalize (rowL r).getD 1 0 = q1 at s1 b1 hmix hst
                      have m0 := (hd.out.1.bm.cell q0).trans (wvs_get (by rw [wordsL_len]; exact b0))
                      have m1 := (hd.out.1.bm.cell q1).trans (wvs_get (by rw [wordsL_len]; exact b1))
                      have b0 : (q0 : Int) < 16 := by omega
                      have b1 : (q1 : Int) < 16 := by omega
                      generalize (wordsL bl).getD q0 0 = x0 at m0 hmix hst
                      generalize (wordsL bl).getD q1 0 = x1 at m1 hmix hst
                      simp only [Int.cast_ofNat_Int] at hmix
                      have lv : (halfL V P 0).length = 16 := (halfL_words HV.out P 0).1
                      have hrg := hd.out.1.bv
                      rw [hst.out] at hmix
                      clear hst
                      generalize halfL V P 0 = VI at hmix lv hrg hd
                      have hnx : Hid (4 - 1 < 4 - 0) := hidp (by decide)
                      obtain ⟨VN, hVN⟩ : ∃ VN, VN = halfL V P 1 := ⟨_, rfl⟩
                      rw [← hVN] at hmix HVW
                      replace hVN := hidp hVN
                      replace hmix := hidp hmix
                      replace lv := hidp lv
                      replace hrg := hidp hrg
                      have wr0 : IntKind.i64.wrap 0 = 0 := wrz.out 0 (by decide)
                      have wr1 : IntKind.i64.wrap 1 = 1 := wrz.out 1 (by decide)
                      have wr2 : IntKind.i64.wrap 2 = 2 := wrz.out 2 (by decide)
                      have wr3 : IntKind.i64.wrap 3 = 3 := wrz.out 3 (by decide)
                      have wr4 : IntKind.i64.wrap 4 = 4 := wrz.out 4 (by decide)
                      have wr5 : IntKind.i64.wrap 5 = 5 := wrz.out 5 (by decide)
                      have wr6 : IntKind.i64.wrap 6 = 6 := wrz.out 6 (by decide)
                      have wr7 : IntKind.i64.wrap 7 = 7 := wrz.out 7 (by decide)
                      have wr8 : IntKind.i64.wrap 8 = 8 := wrz.out 8 (by decide)
                      have wr9 : IntKind.i64.wrap 9 = 9 := wrz.out 9 (by decide)
                      have wr10 : IntKind.i64.wrap 10 = 10 := wrz.out 10 (by decide)
                      have wr11 : IntKind.i64.wrap 11 = 11 := wrz.out 11 (by decide)
                      have wr12 : IntKind.i64.wrap 12 = 12 := wrz.out 12 (by decide)
                      have wr13 : IntKind.i64.wrap 13 = 13 := wrz.out 13 (by decide)
                      have wr14 : IntKind.i64.wrap 14 = 14 := wrz.out 14 (by decide)
                      have wr15 : IntKind.i64.wrap 15 = 15 := wrz.out 15 (by decide)
                      have wr16 : IntKind.i64.wrap 16 = 16 := wrz.out 16 (by decide)
                      simp only [List.take_succ_cons, List.take_zero, List.drop_succ_cons, List.drop_zero]
                      refine wpStill_load_blk rfl 213 _ rfl (w.heap.size + 3) (wvs VI) 213 rfl hrg.out _ Try.underlying213 rfl (by rw [wvs_len, lv.out]; kernel_rfl) ?_
                      repeat still_step
                      try refine wpStill_nil ?_
                      clear wr0 wr1 wr2 wr3 wr4 wr5 wr6 wr7 wr8 wr9 wr10 wr11 wr12 wr13 wr14 wr15 wr16
                      clear s0 s1 m0 m1
                      go_wp2_with fail
                      refine hmix.out.mono ?_
                      rintro e w7 ⟨rfl, hB7⟩
                      have H7 := hidp (And.intro (hd.out.1.below hB7) (hd.out.2.below hB7 hd.out.2.lt))
                      clear hd hmix hrg hB7
                      go_wp2_with (refine wpList_store_blk rfl 213 _ _ rfl (w.heap.size + 3) (wvs VN) (wvs VI) 213 rfl rfl H7.out.1.bv (by rw [wvs_len, HVW.out.1]; kernel_rfl) (by rw [wvs_len, wvs_len, HVW.out.1, lv.out]) (wvs_one _) ?_; intro w8 hw8)
                      refine ⟨⟨1, by decide, rfl, ?_⟩, by simp [RowKit.intOf]⟩
                      have hbt : But (w.heap.size + 3) w7 w8 := hw8.out ▸ (But.refl _ _).setRow _
                      rw [← hVN.out]
                      exact hidp ⟨H7.out.1.butv hbt (hw8.out ▸ H7.out.1.bv.row), hbt.blk H7.out.2 (by have := hsb.out; omega)⟩
                    · simp only [Int.cast_ofNat_Int]
                      go_wp2_with fail
                      refine region_tail 21 (by kernel_rfl) (by kernel_rfl) ?_
                      intro wd hwd
                      have hd := hidp (show BlS w wd h (wordsL bl) (halfL V P 1) ∧ Blk wd w1.heap.size (ints (rowL r)) 214 by rw [hwd.out]; exact ⟨hr.out.1.drew, hr.out.2.drew⟩)
                      clear hr hwd
                      have s0 : wd.cell? ⟨w1.heap.size, 2, none⟩ = _ := (hd.out.2.cell 2).trans (ints_get (by rw [rowL_len hR10.out]; decide))
                      have s1 : wd.cell? ⟨w1.heap.size, 3, none⟩ = _ := (hd.out.2.cell 3).trans (ints_get (by rw [rowL_len hR10.out]; decide))
                      have b0 := rowL_lt hR10.out 2
                      have b1 := rowL_lt hR10.out 3
                      have p0 : P.getD 2 0 = _ := (congrArg (fun l => List.getD l 2 0) hP.out).trans (pickL_get (m := wordsL bl) hR10.out (j := 2) (by decide))
                      have p1 : P.getD 3 0 = _ := (congrArg (fun l => List.getD l 3 0) hP.out).trans (pickL_get (m := wordsL bl) hR10.out (j := 3) (by decide))
                      have hmix := refMix_any 1 5 9 13 (halfL V P 1) (P.getD 2 0) (P.getD 3 0) wd (halfL_words HV.out P 1) (by decide) (by decide) (by decide) (by decide) (by decide) (by decide) (by decide) (by decide) (by decide) (by decide)
                      have hst : Hid (mixL (halfL V P 1) 1 5 9 13 (P.getD 2 0) (P.getD 3 0) = halfL V P 2) := hidp rfl
                      have HVW := hidp (halfL_words HV.out P 2)
                      rw [p0, p1] at hmix hst
                      clear p0 p1
                      generalize (rowL r).getD 2 0 = q0 at s0 b0 hmix hst
                      generalize (rowL r).getD 3 0 = q1 at s1 b1 hmix hst
                      have m0 := (hd.out.1.bm.cell q0).trans (wvs_get (by rw [wordsL_len]; exact b0))
                      have m1 := (hd.out.1.bm.cell q1).trans (wvs_get (by rw [wordsL_len]; exact b1))
                      have b0 : (q0 : Int) < 16 := by omega
                      have b1 : (q1 : Int) < 16 := by omega
                      generalize (wordsL bl).getD q0 0 = x0 at m0 hmix hst
                      generalize (wordsL bl).getD q1 0 = x1 at m1 hmix hst
                      simp only [Int.cast_ofNat_Int] at hmix
                      have lv : (halfL V P 1).length = 16 := (halfL_words HV.out P 1).1
                      have hrg := hd.out.1.bv
                      rw [hst.out] at hmix
                      clear hst
                      generalize halfL V P 1 = VI at hmix lv hrg hd
                      have hnx : Hid (4 - 2 < 4 - 1) := hidp (by decide)
                      obtain ⟨VN, hVN⟩ : ∃ VN, VN = halfL V P 2 := ⟨_, rfl⟩
                      rw [← hVN] at hmix HVW
                      replace hVN := hidp hVN
                      replace hmix := hidp hmix
                      replace lv := hidp lv
                      replace hrg := hidp hrg
                      have wr0 : IntKind.i64.wrap 0 = 0 := wrz.out 0 (by decide)
                      have wr1 : IntKind.i64.wrap 1 = 1 := wrz.out 1 (by decide)
                      have wr2 : IntKind.i64.wrap 2 = 2 := wrz.out 2 (by decide)
                      have wr3 : IntKind.i64.wrap 3 = 3 := wrz.out 3 (by decide)
                      have wr4 : IntKind.i64.wrap 4 = 4 := wrz.out 4 (by decide)
                      have wr5 : IntKind.i64.wrap 5 = 5 := wrz.out 5 (by decide)
                      have wr6 : IntKind.i64.wrap 6 = 6 := wrz.out 6 (by decide)
                      have wr7 : IntKind.i64.wrap 7 = 7 := wrz.out 7 (by decide)
                      have wr8 : IntKind.i64.wrap 8 = 8 := wrz.out 8 (by decide)
                      have wr9 : IntKind.i64.wrap 9 = 9 := wrz.out 9 (by decide)
                      have wr10 : IntKind.i64.wrap 10 = 10 := wrz.out 10 (by decide)
                      have wr11 : IntKind.i64.wrap 11 = 11 := wrz.out 11 (by decide)
                      have wr12 : IntKind.i64.wrap 12 = 12 := wrz.out 12 (by decide)
                      have wr13 : IntKind.i64.wrap 13 = 13 := wrz.out 13 (by decide)
                      have wr14 : IntKind.i64.wrap 14 = 14 := wrz.out 14 (by decide)
                      have wr15 : IntKind.i64.wrap 15 = 15 := wrz.out 15 (by decide)
                      have wr16 : IntKind.i64.wrap 16 = 16 := wrz.out 16 (by decide)
                      simp only [List.take_succ_cons, List.take_zero, List.drop_succ_cons, List.drop_zero]
                      refine wpStill_load_blk rfl 213 _ rfl (w.heap.size + 3) (wvs VI) 213 rfl hrg.out _ Try.underlying213 rfl (by rw [wvs_len, lv.out]; kernel_rfl) ?_
                      repeat still_step
                      try refine wpStill_nil ?_
                      clear wr0 wr1 wr2 wr3 wr4 wr5 wr6 wr7 wr8 wr9 wr10 wr11 wr12 wr13 wr14 wr15 wr16
                      clear s0 s1 m0 m1
                      go_wp2_with fail
                      refine hmix.out.mono ?_
                      rintro e w7 ⟨rfl, hB7⟩
                      have H7 := hidp (And.intro (hd.out.1.below hB7) (hd.out.2.below hB7 hd.out.2.lt))
                      clear hd hmix hrg hB7
                      go_wp2_with (refine wpList_store_blk rfl 213 _ _ rfl (w.heap.size + 3) (wvs VN) (wvs VI) 213 rfl rfl H7.out.1.bv (by rw [wvs_len, HVW.out.1]; kernel_rfl) (by rw [wvs_len, wvs_len, HVW.out.1, lv.out]) (wvs_one _) ?_; intro w8 hw8)
                      refine ⟨⟨2, by decide, rfl, ?_⟩, by simp [RowKit.intOf]⟩
                      have hbt : But (w.heap.size + 3) w7 w8 := hw8.out ▸ (But.refl _ _).setRow _
                      rw [← hVN.out]
                      exact hidp ⟨H7.out.1.butv hbt (hw8.out ▸ H7.out.1.bv.row), hbt.blk H7.out.2 (by have := hsb.out; omega)⟩
                    · simp only [Int.cast_ofNat_Int]
                      go_wp2_with fail
                      refine region_tail 21 (by kernel_rfl) (by kernel_rfl) ?_
                      intro wd hwd
                      have hd := hidp (show BlS w wd h (wordsL bl) (halfL V P 2) ∧ Blk wd w1.heap.size (ints (rowL r)) 214 by rw [hwd.out]; exact ⟨hr.out.1.drew, hr.out.2.drew⟩)
                      clear hr hwd
                      have s0 : wd.cell? ⟨w1.heap.size, 4, none⟩ = _ := (hd.out.2.cell 4).trans (ints_get (by rw [rowL_len hR10.out]; decide))
                      have s1 : wd.cell? ⟨w1.heap.size, 5, none⟩ = _ := (hd.out.2.cell 5).trans (ints_get (by rw [rowL_len hR10.out]; decide))
                      have b0 := rowL_lt hR10.out 4
                      have b1 := rowL_lt hR10.out 5
                      have p0 : P.getD 4 0 = _ := (congrArg (fun l => List.getD l 4 0) hP.out).trans (pickL_get (m := wordsL bl) hR10.out (j := 4) (by decide))
                      have p1 : P.getD 5 0 = _ := (congrArg (fun l => List.getD l 5 0) hP.out).trans (pickL_get (m := wordsL bl) hR10.out (j := 5) (by decide))
                      have hmix := refMix_any 2 6 10 14 (halfL V P 2) (P.getD 4 0) (P.getD 5 0) wd (halfL_words HV.out P 2) (by decide) (by decide) (by decide) (by decide) (by decide) (by decide) (by decide) (by decide) (by decide) (by decide)
                      have hst : Hid (mixL (halfL V P 2) 2 6 10 14 (P.getD 4 0) (P.getD 5 0) = halfL V P 3) := hidp rfl
                      have HVW := hidp (halfL_words HV.out P 3)
                      rw [p0, p1] at hmix hst
                      clear p0 p1
                      generalize (rowL r).getD 4 0 = q0 at s0 b0 hmix hst
                      generalize (rowL r).getD 5 0 = q1 at s1 b1 hmix hst
                      have m0 := (hd.out.1.bm.cell q0).trans (wvs_get (by rw [wordsL_len]; exact b0))
                      have m1 := (hd.out.1.bm.cell q1).trans (wvs_get (by rw [wordsL_len]; exact b1))
                      have b0 : (q0 : Int) < 16 := by omega
                      have b1 : (q1 : Int) < 16 := by omega
                      generalize (wordsL bl).getD q0 0 = x0 at m0 hmix hst
                      generalize (wordsL bl).getD q1 0 = x1 at m1 hmix hst
                      simp only [Int.cast_ofNat_Int] at hmix
                      have lv : (halfL V P 2).length = 16 := (halfL_words HV.out P 2).1
                      have hrg := hd.out.1.bv
                      rw [hst.out] at hmix
                      clear hst
                      generalize halfL V P 2 = VI at hmix lv hrg hd
                      have hnx : Hid (4 - 3 < 4 - 2) := hidp (by decide)
                      obtain ⟨VN, hVN⟩ : ∃ VN, VN = halfL V P 3 := ⟨_, rfl⟩
                      rw [← hVN] at hmix HVW
                      replace hVN := hidp hVN
                      replace hmix := hidp hmix
                      replace lv := hidp lv
                      replace hrg := hidp hrg
                      have wr0 : IntKind.i64.wrap 0 = 0 := wrz.out 0 (by decide)
                      have wr1 : IntKind.i64.wrap 1 = 1 := wrz.out 1 (by decide)
                      have wr2 : IntKind.i64.wrap 2 = 2 := wrz.out 2 (by decide)
                      have wr3 : IntKind.i64.wrap 3 = 3 := wrz.out 3 (by decide)
                      have wr4 : IntKind.i64.wrap 4 = 4 := wrz.out 4 (by decide)
                      have wr5 : IntKind.i64.wrap 5 = 5 := wrz.out 5 (by decide)
                      have wr6 : IntKind.i64.wrap 6 = 6 := wrz.out 6 (by decide)
                      have wr7 : IntKind.i64.wrap 7 = 7 := wrz.out 7 (by decide)
                      have wr8 : IntKind.i64.wrap 8 = 8 := wrz.out 8 (by decide)
                      have wr9 : IntKind.i64.wrap 9 = 9 := wrz.out 9 (by decide)
                      have wr10 : IntKind.i64.wrap 10 = 10 := wrz.out 10 (by decide)
                      have wr11 : IntKind.i64.wrap 11 = 11 := wrz.out 11 (by decide)
                      have wr12 : IntKind.i64.wrap 12 = 12 := wrz.out 12 (by decide)
                      have wr13 : IntKind.i64.wrap 13 = 13 := wrz.out 13 (by decide)
                      have wr14 : IntKind.i64.wrap 14 = 14 := wrz.out 14 (by decide)
                      have wr15 : IntKind.i64.wrap 15 = 15 := wrz.out 15 (by decide)
                      have wr16 : IntKind.i64.wrap 16 = 16 := wrz.out 16 (by decide)
                      simp only [List.take_succ_cons, List.take_zero, List.drop_succ_cons, List.drop_zero]
                      refine wpStill_load_blk rfl 213 _ rfl (w.heap.size + 3) (wvs VI) 213 rfl hrg.out _ Try.underlying213 rfl (by rw [wvs_len, lv.out]; kernel_rfl) ?_
                      repeat still_step
                      try refine wpStill_nil ?_
                      clear wr0 wr1 wr2 wr3 wr4 wr5 wr6 wr7 wr8 wr9 wr10 wr11 wr12 wr13 wr14 wr15 wr16
                      clear s0 s1 m0 m1
                      go_wp2_with fail
                      refine hmix.out.mono ?_
                      rintro e w7 ⟨rfl, hB7⟩
                      have H7 := hidp (And.intro (hd.out.1.below hB7) (hd.out.2.below hB7 hd.out.2.lt))
                      clear hd hmix hrg hB7
                      go_wp2_with (refine wpList_store_blk rfl 213 _ _ rfl (w.heap.size + 3) (wvs VN) (wvs VI) 213 rfl rfl H7.out.1.bv (by rw [wvs_len, HVW.out.1]; kernel_rfl) (by rw [wvs_len, wvs_len, HVW.out.1, lv.out]) (wvs_one _) ?_; intro w8 hw8)
                      refine ⟨⟨3, by decide, rfl, ?_⟩, by simp [RowKit.intOf]⟩
                      have hbt : But (w.heap.size + 3) w7 w8 := hw8.out ▸ (But.refl _ _).setRow _
                      rw [← hVN.out]
                      exact hidp ⟨H7.out.1.butv hbt (hw8.out ▸ H7.out.1.bv.row), hbt.blk H7.out.2 (by have := hsb.out; omega)⟩
                    · simp only [Int.cast_ofNat_Int]
                      go_wp2_with fail
                      refine region_tail 21 (by kernel_rfl) (by kernel_rfl) ?_
                      intro wd hwd
                      have hd := hidp (show BlS w wd h (wordsL bl) (halfL V P 3) ∧ Blk wd w1.heap.size (ints (rowL r)) 214 by rw [hwd.out]; exact ⟨hr.out.1.drew, hr.out.2.drew⟩)
                      clear hr hwd
                      have s0 : wd.cell? ⟨w1.heap.size, 6, none⟩ = _ := (hd.out.2.cell 6).trans (ints_get (by rw [rowL_len hR10.out]; decide))
                      have s1 : wd.cell? ⟨w1.heap.size, 7, none⟩ = _ := (hd.out.2.cell 7).trans (ints_get (by rw [rowL_len hR10.out]; decide))
                      have b0 := rowL_lt hR10.out 6
                      have b1 := rowL_lt hR10.out 7
                      have p0 : P.getD 6 0 = _ := (congrArg (fun l => List.getD l 6 0) hP.out).trans (pickL_get (m := wordsL bl) hR10.out (j := 6) (by decide))
                      have p1 : P.getD 7 0 = _ := (congrArg (fun l => List.getD l 7 0) hP.out).trans (pickL_get (m := wordsL bl) hR10.out (j := 7) (by decide))
                      have hmix := refMix_any 3 7 11 15 (halfL V P 3) (P.getD 6 0) (P.getD 7 0) wd (halfL_words HV.out P 3) (by decide) (by decide) (by decide) (by decide) (by decide) (by decide) (by decide) (by decide) (by decide) (by decide)
                      have hst : Hid (mixL (halfL V P 3) 3 7 11 15 (P.getD 6 0) (P.getD 7 0) = halfL V P 4) := hidp rfl
                      have HVW := hidp (halfL_words HV.out P 4)
                      rw [p0, p1] at hmix hst
                      clear p0 p1
                      generalize (rowL r).getD 6 0 = q0 at s0 b0 hmix hst
                      generalize (rowL r).getD 7 0 = q1 at s1 b1 hmix hst
                      have m0 := (hd.out.1.bm.cell q0).trans (wvs_get (by rw [wordsL_len]; exact b0))
                      have m1 := (hd.out.1.bm.cell q1).trans (wvs_get (by rw [wordsL_len]; exact b1))
                      have b0 : (q0 : Int) < 16 := by omega
                      have b1 : (q1 : Int) < 16 := by omega
                      generalize (wordsL bl).getD q0 0 = x0 at m0 hmix hst
                      generalize (wordsL bl).getD q1 0 = x1 at m1 hmix hst
                      simp only [Int.cast_ofNat_Int] at hmix
                      have lv : (halfL V P 3).length = 16 := (halfL_words HV.out P 3).1
                      have hrg := hd.out.1.bv
                      rw [hst.out] at hmix
                      clear hst
                      generalize halfL V P 3 = VI at hmix lv hrg hd
                      have hnx : Hid (4 - 4 < 4 - 3) := hidp (by decide)
                      obtain ⟨VN, hVN⟩ : ∃ VN, VN = halfL V P 4 := ⟨_, rfl⟩
                      rw [← hVN] at hmix HVW
                      replace hVN := hidp hVN
                      replace hmix := hidp hmix
                      replace lv := hidp lv
                      replace hrg := hidp hrg
                      have wr0 : IntKind.i64.wrap 0 = 0 := wrz.out 0 (by decide)
                      have wr1 : IntKind.i64.wrap 1 = 1 := wrz.out 1 (by decide)
                      have wr2 : IntKind.i64.wrap 2 = 2 := wrz.out 2 (by decide)
                      have wr3 : IntKind.i64.wrap 3 = 3 := wrz.out 3 (by decide)
                      have wr4 : IntKind.i64.wrap 4 = 4 := wrz.out 4 (by decide)
                      have wr5 : IntKind.i64.wrap 5 = 5 := wrz.out 5 (by decide)
                      have wr6 : IntKind.i64.wrap 6 = 6 := wrz.out 6 (by decide)
                      have wr7 : IntKind.i64.wrap 7 = 7 := wrz.out 7 (by decide)
                      have wr8 : IntKind.i64.wrap 8 = 8 := wrz.out 8 (by decide)
                      have wr9 : IntKind.i64.wrap 9 = 9 := wrz.out 9 (by decide)
                      have wr10 : IntKind.i64.wrap 10 = 10 := wrz.out 10 (by decide)
                      have wr11 : IntKind.i64.wrap 11 = 11 := wrz.out 11 (by decide)
                      have wr12 : IntKind.i64.wrap 12 = 12 := wrz.out 12 (by decide)
                      have wr13 : IntKind.i64.wrap 13 = 13 := wrz.out 13 (by decide)
                      have wr14 : IntKind.i64.wrap 14 = 14 := wrz.out 14 (by decide)
                      have wr15 : IntKind.i64.wrap 15 = 15 := wrz.out 15 (by decide)
                      have wr16 : IntKind.i64.wrap 16 = 16 := wrz.out 16 (by decide)
                      simp only [List.take_succ_cons, List.take_zero, List.drop_succ_cons, List.drop_zero]
                      refine wpStill_load_blk rfl 213 _ rfl (w.heap.size + 3) (wvs VI) 213 rfl hrg.out _ Try.underlying213 rfl (by rw [wvs_len, lv.out]; kernel_rfl) ?_
                      repeat still_step
                      try refine wpStill_nil ?_
                      clear wr0 wr1 wr2 wr3 wr4 wr5 wr6 wr7 wr8 wr9 wr10 wr11 wr12 wr13 wr14 wr15 wr16
                      clear s0 s1 m0 m1
                      go_wp2_with fail
                      refine hmix.out.mono ?_
                      rintro e w7 ⟨rfl, hB7⟩
                      have H7 := hidp (And.intro (hd.out.1.below hB7) (hd.out.2.below hB7 hd.out.2.lt))
                      clear hd hmix hrg hB7
                      go_wp2_with (refine wpList_store_blk rfl 213 _ _ rfl (w.heap.size + 3) (wvs VN) (wvs VI) 213 rfl rfl H7.out.1.bv (by rw [wvs_len, HVW.out.1]; kernel_rfl) (by rw [wvs_len, wvs_len, HVW.out.1, lv.out]) (wvs_one _) ?_; intro w8 hw8)
                      refine ⟨⟨4, by decide, rfl, ?_⟩, by simp [RowKit.intOf]⟩
                      have hbt : But (w.heap.size + 3) w7 w8 := hw8.out ▸ (But.refl _ _).setRow _
                      rw [← hVN.out]
                      exact hidp ⟨H7.out.1.butv hbt (hw8.out ▸ H7.out.1.bv.row), hbt.blk H7.out.2 (by have := hsb.out; omega)⟩
                  · obtain rfl : i = 4 := by omega
                    simp only [Int.cast_ofNat_Int]
                    have HR := hr
                    clear hr hi h4
                    go_wp2
                    obtain ⟨V2, hV2⟩ : ∃ V2, V2 = halfL V P 4 := ⟨_, rfl⟩
                    have HV2 : Hid (Words 16 V2) := hidp (hV2 ▸ halfL_words HV.out P 4)
                    have HR2 : Hid (BlS w wr h (wordsL bl) (restL V2 P 0) ∧ Blk wr w1.heap.size (ints (rowL r)) 214) := hidp (hV2 ▸ HR.out)
                    replace hV2 := hidp hV2
                    clear HR
                    go_loopw [16] (fun x wr => ∃ i : Nat, i ≤ 4 ∧ x = .int .i64 i ∧ Hid (BlS w wr h (wordsL bl) (restL V2 P i) ∧ Blk wr w1.heap.size (ints (rowL r)) 214)) (fun x _ => 4 - (RowKit.intOf x).toNat)
                    case atStart => exact ⟨0, by omega, rfl, HR2⟩
                    case round =>
                      obtain ⟨i, hi, rfl, hr⟩ := hrel
                      clear HR2
                      by_cases h4 : i < 4
                      · have hcase : i = 0 ∨ i = 1 ∨ i = 2 ∨ i = 3 := by omega
                        clear h4 hi
                        rcases hcase with rfl | rfl | rfl | rfl
                        · simp only [Int.cast_ofNat_Int]
                          go_wp2_with fail
                          refine region_tail 28 (by kernel_rfl) (by kernel_rfl) ?_
                          intro wd hwd
                          have hd := hidp (show BlS w wd h (wordsL bl) (restL V2 P 0) ∧ Blk wd w1.heap.size (ints (rowL r)) 214 by rw [hwd.out]; exact ⟨hr.out.1.drew, hr.out.2.drew⟩)
                          clear hr hwd
                          have s0 : wd.cell? ⟨w1.heap.size, 8, none⟩ = _ := (hd.out.2.cell 8).trans (ints_get (by rw [rowL_len hR10.out]; decide))
                          have s1 : wd.cell? ⟨w1.heap.size, 9, none⟩ = _ := (hd.out.2.cell 9).trans (ints_get (by rw [rowL_len hR10.out]; decide))
                          have b0 := rowL_lt hR10.out 8
                          have b1 := rowL_lt hR10.out 9
                          have p0 : P.getD 8 0 = _ := (congrArg (fun l => List.getD l 8 0) hP.out).trans (pickL_get (m := wordsL bl) hR10.out (j := 8) (by decide))
                          have p1 : P.getD 9 0 = _ := (congrArg (fun l => List.getD l 9 0) hP.out).trans (pickL_get (m := wordsL bl) hR10.out (j := 9) (by decide))
                          have hmix := refMix_any 0 5 10 15 (restL V2 P 0) (P.getD 8 0) (P.getD 9 0) wd (restL_words HV2.out P 0) (by decide) (by decide) (by decide) (by decide) (by decide) (by decide) (by decide) (by decide) (by decide) (by decide)
                          have hst : Hid (mixL (restL V2 P 0) 0 5 10 15 (P.getD 8 0) (P.getD 9 0) = restL V2 P 1) := hidp rfl
                          have HVW := hidp (restL_words HV2.out P 1)
                          rw [p0, p1] at hmix hst
                          clear p0 p1
                          generalize (rowL r).getD 8 0 = q0 at s0 b0 hmix hst
                          generalize (rowL r).getD 9 0 = q1 at s1 b1 hmix hst
                          have m0 := (hd.out.1.bm.cell q0).trans (wvs_get (by rw [wordsL_len]; exact b0))
                          have m1 := (hd.out.1.bm.cell q1).trans (wvs_get (by rw [wordsL_len]; exact b1))
                          have b0 : (q0 : Int) < 16 := by omega
                          have b1 : (q1 : Int) < 16 := by omega
                          generalize (wordsL bl).getD q0 0 = x0 at m0 hmix hst
                          generalize (wordsL bl).getD q1 0 = x1 at m1 hmix hst
                          simp only [Int.cast_ofNat_Int] at hmix
                          have lv : (restL V2 P 0).length = 16 := (restL_words HV2.out P 0).1
                          have hrg := hd.out.1.bv
                          rw [hst.out] at hmix
                          clear hst
                          generalize restL V2 P 0 = VI at hmix lv hrg hd
                          have hnx : Hid (4 - 1 < 4 - 0) := hidp (by decide)
                          obtain ⟨VN, hVN⟩ : ∃ VN, VN = restL V2 P 1 := ⟨_, rfl⟩
                          rw [← hVN] at hmix HVW
                          replace hVN := hidp hVN
                          replace hmix := hidp hmix
                          replace lv := hidp lv
                          replace hrg := hidp hrg
                          have wr0 : IntKind.i64.wrap 0 = 0 := wrz.out 0 (by decide)
                          have wr1 : IntKind.i64.wrap 1 = 1 := wrz.out 1 (by decide)
                          have wr2 : IntKind.i64.wrap 2 = 2 := wrz.out 2 (by decide)
                          have wr3 : IntKind.i64.wrap 3 = 3 := wrz.out 3 (by decide)
                          have wr4 : IntKind.i64.wrap 4 = 4 := wrz.out 4 (by decide)
                          have wr5 : IntKind.i64.wrap 5 = 5 := wrz.out 5 (by decide)
                          have wr6 : IntKind.i64.wrap 6 = 6 := wrz.out 6 (by decide)
                          have wr7 : IntKind.i64.wrap 7 = 7 := wrz.out 7 (by decide)
                          have wr8 : IntKind.i64.wrap 8 = 8 := wrz.out 8 (by decide)
                          have wr9 : IntKind.i64.wrap 9 = 9 := wrz.out 9 (by decide)
                          have wr10 : IntKind.i64.wrap 10 = 10 := wrz.out 10 (by decide)
                          have wr11 : IntKind.i64.wrap 11 = 11 := wrz.out 11 (by decide)
                          have wr12 : IntKind.i64.wrap 12 = 12 := wrz.out 12 (by decide)
                          have wr13 : IntKind.i64.wrap 13 = 13 := wrz.out 13 (by decide)
                          have wr14 : IntKind.i64.wrap 14 = 14 := wrz.out 14 (by decide)
                          have wr15 : IntKind.i64.wrap 15 = 15 := wrz.out 15 (by decide)
                          have wr16 : IntKind.i64.wrap 16 = 16 := wrz.out 16 (by decide)
                          simp only [List.take_succ_cons, List.take_zero, List.drop_succ_cons, List.drop_zero]
                          refine wpStill_load_blk rfl 213 _ rfl (w.heap.size + 3) (wvs VI) 213 rfl hrg.out _ Try.underlying213 rfl (by rw [wvs_len, lv.out]; kernel_rfl) ?_
                          repeat still_step
                          try refine wpStill_nil ?_
                          clear wr0 wr1 wr2 wr3 wr4 wr5 wr6 wr7 wr8 wr9 wr10 wr11 wr12 wr13 wr14 wr15 wr16
                          clear s0 s1 m0 m1
                          go_wp2_with fail
                          refine hmix.out.mono ?_
                          rintro e w7 ⟨rfl, hB7⟩
                          have H7 := hidp (And.intro (hd.out.1.below hB7) (hd.out.2.below hB7 hd.out.2.lt))
                          clear hd hmix hrg hB7
                          go_wp2_with (refine wpList_store_blk rfl 213 _ _ rfl (w.heap.size + 3) (wvs VN) (wvs VI) 213 rfl rfl H7.out.1.bv (by rw [wvs_len, HVW.out.1]; kernel_rfl) (by rw [wvs_len, wvs_len, HVW.out.1, lv.out]) (wvs_one _) ?_; intro w8 hw8)
                          refine ⟨⟨1, by decide, rfl, ?_⟩, by simp [RowKit.intOf]⟩
                          have hbt : But (w.heap.size + 3) w7 w8 := hw8.out ▸ (But.refl _ _).setRow _
                          rw [← hVN.out]
                          exact hidp ⟨H7.out.1.butv hbt (hw8.out ▸ H7.out.1.bv.row), hbt.blk H7.out.2 (by have := hsb.out; omega)⟩
                        · simp only [Int.cast_ofNat_Int]
                          go_wp2_with fail
                          refine region_tail 28 (by kernel_rfl) (by kernel_rfl) ?_
                          intro wd hwd
                          have hd := hidp (show BlS w wd h (wordsL bl) (restL V2 P 1) ∧ Blk wd w1.heap.size (ints (rowL r)) 214 by rw [hwd.out]; exact ⟨hr.out.1.drew, hr.out.2.drew⟩)
                          clear hr hwd
                          have s0 : wd.cell? ⟨w1.heap.size, 10, none⟩ = _ := (hd.out.2.cell 10).trans (ints_get (by rw [rowL_len hR10.out]; decide))
                          have s1 : wd.cell? ⟨w1.heap.size, 11, none⟩ = _ := (hd.out.2.cell 11).trans (ints_get (by rw [rowL_len hR10.out]; decide))
                          have b0 := rowL_lt hR10.out 10
                          have b1 := rowL_lt hR10.out 11
                          have p0 : P.getD 10 0 = _ := (congrArg (fun l => List.getD l 10 0) hP.out).trans (pickL_get (m := wordsL bl) hR10.out (j := 10) (by decide))
                          have p1 : P.getD 11 0 = _ := (congrArg (fun l => List.getD l 11 0) hP.out).trans (pickL_get (m := wordsL bl) hR10.out (j := 11) (by decide))
                          have hmix := refMix_any 1 6 11 12 (restL V2 P 1) (P.getD 10 0) (P.getD 11 0) wd (restL_words HV2.out P 1) (by decide) (by decide) (by decide) (by decide) (by decide) (by decide) (by decide) (by decide) (by decide) (by decide)
                          have hst : Hid (mixL (restL V2 P 1) 1 6 11 12 (P.getD 10 0) (P.getD 11 0) = restL V2 P 2) := hidp rfl
                          have HVW := hidp (restL_words HV2.out P 2)
                          rw [p0, p1] at hmix hst
                          clear p0 p1
                          generalize (rowL r).getD 10 0 = q0 at s0 b0 hmix hst
                          generalize (rowL r).getD 11 0 = q1 at s1 b1 hmix hst
                          have m0 := (hd.out.1.bm.cell q0).trans (wvs_get (by rw [wordsL_len]; exact b0))
                          have m1 := (hd.out.1.bm.cell q1).trans (wvs_get (by rw [wordsL_len]; exact b1))
                          have b0 : (q0 : Int) < 16 := by omega
                          have b1 : (q1 : Int) < 16 := by omega
                          generalize (wordsL bl).getD q0 0 = x0 at m0 hmix hst
                          generalize (wordsL bl).getD q1 0 = x1 at m1 hmix hst
                          simp only [Int.cast_ofNat_Int] at hmix
                          have lv : (restL V2 P 1).length = 16 := (restL_words HV2.out P 1).1
                          have hrg := hd.out.1.bv
                          rw [hst.out] at hmix
                          clear hst
                          generalize restL V2 P 1 = VI at hmix lv hrg hd
                          have hnx : Hid (4 - 2 < 4 - 1) := hidp (by decide)
                          obtain ⟨VN, hVN⟩ : ∃ VN, VN = restL V2 P 2 := ⟨_, rfl⟩
                          rw [← hVN] at hmix HVW
                          replace hVN := hidp hVN
                          replace hmix := hidp hmix
                          replace lv := hidp lv
                          replace hrg := hidp hrg
                          have wr0 : IntKind.i64.wrap 0 = 0 := wrz.out 0 (by decide)
                          have wr1 : IntKind.i64.wrap 1 = 1 := wrz.out 1 (by decide)
                          have wr2 : IntKind.i64.wrap 2 = 2 := wrz.out 2 (by decide)
                          have wr3 : IntKind.i64.wrap 3 = 3 := wrz.out 3 (by decide)
                          have wr4 : IntKind.i64.wrap 4 = 4 := wrz.out 4 (by decide)
                          have wr5 : IntKind.i64.wrap 5 = 5 := wrz.out 5 (by decide)
                          have wr6 : IntKind.i64.wrap 6 = 6 := wrz.out 6 (by decide)
                          have wr7 : IntKind.i64.wrap 7 = 7 := wrz.out 7 (by decide)
                          have wr8 : IntKind.i64.wrap 8 = 8 := wrz.out 8 (by decide)
                          have wr9 : IntKind.i64.wrap 9 = 9 := wrz.out 9 (by decide)
                          have wr10 : IntKind.i64.wrap 10 = 10 := wrz.out 10 (by decide)
                          have wr11 : IntKind.i64.wrap 11 = 11 := wrz.out 11 (by decide)
                          have wr12 : IntKind.i64.wrap 12 = 12 := wrz.out 12 (by decide)
                          have wr13 : IntKind.i64.wrap 13 = 13 := wrz.out 13 (by decide)
                          have wr14 : IntKind.i64.wrap 14 = 14 := wrz.out 14 (by decide)
                          have wr15 : IntKind.i64.wrap 15 = 15 := wrz.out 15 (by decide)
                          have wr16 : IntKind.i64.wrap 16 = 16 := wrz.out 16 (by decide)
                          simp only [List.take_succ_cons, List.take_zero, List.drop_succ_cons, List.drop_zero]
                          refine wpStill_load_blk rfl 213 _ rfl (w.heap.size + 3) (wvs VI) 213 rfl hrg.out _ Try.underlying213 rfl (by rw [wvs_len, lv.out]; kernel_rfl) ?_
                          repeat still_step
                          try refine wpStill_nil ?_
                          clear wr0 wr1 wr2 wr3 wr4 wr5 wr6 wr7 wr8 wr9 wr10 wr11 wr12 wr13 wr14 wr15 wr16
                          clear s0 s1 m0 m1
                          go_wp2_with fail
                          refine hmix.out.mono ?_
                          rintro e w7 ⟨rfl, hB7⟩
                          have H7 := hidp (And.intro (hd.out.1.below hB7) (hd.out.2.below hB7 hd.out.2.lt))
                          clear hd hmix hrg hB7
                          go_wp2_with (refine wpList_store_blk rfl 213 _ _ rfl (w.heap.size + 3) (wvs VN) (wvs VI) 213 rfl rfl H7.out.1.bv (by rw [wvs_len, HVW.out.1]; kernel_rfl) (by rw [wvs_len, wvs_len, HVW.out.1, lv.out]) (wvs_one _) ?_; intro w8 hw8)
                          refine ⟨⟨2, by decide, rfl, ?_⟩, by simp [RowKit.intOf]⟩
                          have hbt : But (w.heap.size + 3) w7 w8 := hw8.out ▸ (But.refl _ _).setRow _
                          rw [← hVN.out]
                          exact hidp ⟨H7.out.1.butv hbt (hw8.out ▸ H7.out.1.bv.row), hbt.blk H7.out.2 (by have := hsb.out; omega)⟩
                        · simp only [Int.cast_ofNat_Int]
                          go_wp2_with fail
                          refine region_tail 28 (by kernel_rfl) (by kernel_rfl) ?_
                          intro wd hwd
                          have hd := hidp (show BlS w wd h (wordsL bl) (restL V2 P 2) ∧ Blk wd w1.heap.size (ints (rowL r)) 214 by rw [hwd.out]; exact ⟨hr.out.1.drew, hr.out.2.drew⟩)
                          clear hr hwd
                          have s0 : wd.cell? ⟨w1.heap.size, 12, none⟩ = _ := (hd.out.2.cell 12).trans (ints_get (by rw [rowL_len hR10.out]; decide))
                          have s1 : wd.cell? ⟨w1.heap.size, 13, none⟩ = _ := (hd.out.2.cell 13).trans (ints_get (by rw [rowL_len hR10.out]; decide))
                          have b0 := rowL_lt hR10.out 12
                          have b1 := rowL_lt hR10.out 13
                          have p0 : P.getD 12 0 = _ := (congrArg (fun l => List.getD l 12 0) hP.out).trans (pickL_get (m := wordsL bl) hR10.out (j := 12) (by decide))
                          have p1 : P.getD 13 0 = _ := (congrArg (fun l => List.getD l 13 0) hP.out).trans (pickL_get (m := wordsL bl) hR10.out (j := 13) (by decide))
                          have hmix := refMix_any 2 7 8 13 (restL V2 P 2) (P.getD 12 0) (P.getD 13 0) wd (restL_words HV2.out P 2) (by decide) (by decide) (by decide) (by decide) (by decide) (by decide) (by decide) (by decide) (by decide) (by decide)
                          have hst : Hid (mixL (restL V2 P 2) 2 7 8 13 (P.getD 12 0) (P.getD 13 0) = restL V2 P 3) := hidp rfl
                          have HVW := hidp (restL_words HV2.out P 3)
                          rw [p0, p1] at hmix hst
                          clear p0 p1
                          generalize (rowL r).getD 12 0 = q0 at s0 b0 hmix hst
                          generalize (rowL r).getD 13 0 = q1 at s1 b1 hmix hst
                          have m0 := (hd.out.1.bm.cell q0).trans (wvs_get (by rw [wordsL_len]; exact b0))
                          have m1 := (hd.out.1.bm.cell q1).trans (wvs_get (by rw [wordsL_len]; exact b1))
                          have b0 : (q0 : Int) < 16 := by omega
                          have b1 : (q1 : Int) < 16 := by omega
                          generalize (wordsL bl).getD q0 0 = x0 at m0 hmix hst
                          generalize (wordsL bl).getD q1 0 = x1 at m1 hmix hst
                          simp only [Int.cast_ofNat_Int] at hmix
                          have lv : (restL V2 P 2).length = 16 := (restL_words HV2.out P 2).1
                          have hrg := hd.out.1.bv
                          rw [hst.out] at hmix
                          clear hst
                          generalize restL V2 P 2 = VI at hmix lv hrg hd
                          have hnx : Hid (4 - 3 < 4 - 2) := hidp (by decide)
                          obtain ⟨VN, hVN⟩ : ∃ VN, VN = restL V2 P 3 := ⟨_, rfl⟩
                          rw [← hVN] at hmix HVW
                          replace hVN := hidp hVN
                          replace hmix := hidp hmix
                          replace lv := hidp lv
                          replace hrg := hidp hrg
                          have wr0 : IntKind.i64.wrap 0 = 0 := wrz.out 0 (by decide)
                          have wr1 : IntKind.i64.wrap 1 = 1 := wrz.out 1 (by decide)
                          have wr2 : IntKind.i64.wrap 2 = 2 := wrz.out 2 (by decide)
                          have wr3 : IntKind.i64.wrap 3 = 3 := wrz.out 3 (by decide)
                          have wr4 : IntKind.i64.wrap 4 = 4 := wrz.out 4 (by decide)
                          have wr5 : IntKind.i64.wrap 5 = 5 := wrz.out 5 (by decide)
                          have wr6 : IntKind.i64.wrap 6 = 6 := wrz.out 6 (by decide)
                          have wr7 : IntKind.i64.wrap 7 = 7 := wrz.out 7 (by decide)
                          have wr8 : IntKind.i64.wrap 8 = 8 := wrz.out 8 (by decide)
                          have wr9 : IntKind.i64.wrap 9 = 9 := wrz.out 9 (by decide)
                          have wr10 : IntKind.i64.wrap 10 = 10 := wrz.out 10 (by decide)
                          have wr11 : IntKind.i64.wrap 11 = 11 := wrz.out 11 (by decide)
                          have wr12 : IntKind.i64.wrap 12 = 12 := wrz.out 12 (by decide)
                          have wr13 : IntKind.i64.wrap 13 = 13 := wrz.out 13 (by decide)
                          have wr14 : IntKind.i64.wrap 14 = 14 := wrz.out 14 (by decide)
                          have wr15 : IntKind.i64.wrap 15 = 15 := wrz.out 15 (by decide)
                          have wr16 : IntKind.i64.wrap 16 = 16 := wrz.out 16 (by decide)
                          simp only [List.take_succ_cons, List.take_zero, List.drop_succ_cons, List.drop_zero]
                          refine wpStill_load_blk rfl 213 _ rfl (w.heap.size + 3) (wvs VI) 213 rfl hrg.out _ Try.underlying213 rfl (by rw [wvs_len, lv.out]; kernel_rfl) ?_
                          repeat still_step
                          try refine wpStill_nil ?_
                          clear wr0 wr1 wr2 wr3 wr4 wr5 wr6 wr7 wr8 wr9 wr10 wr11 wr12 wr13 wr14 wr15 wr16
                          clear s0 s1 m0 m1
                          go_wp2_with fail
                          refine hmix.out.mono ?_
                          rintro e w7 ⟨rfl, hB7⟩
                          have H7 := hidp (And.intro (hd.out.1.below hB7) (hd.out.2.below hB7 hd.out.2.lt))
                          clear hd hmix hrg hB7
                          go_wp2_with (refine wpList_store_blk rfl 213 _ _ rfl (w.heap.size + 3) (wvs VN) (wvs VI) 213 rfl rfl H7.out.1.bv (by rw [wvs_len, HVW.out.1]; kernel_rfl) (by rw [wvs_len, wvs_len, HVW.out.1, lv.out]) (wvs_one _) ?_; intro w8 hw8)
                          refine ⟨⟨3, by decide, rfl, ?_⟩, by simp [RowKit.intOf]⟩
                          have hbt : But (w.heap.size + 3) w7 w8 := hw8.out ▸ (But.refl _ _).setRow _
                          rw [← hVN.out]
                          exact hidp ⟨H7.out.1.butv hbt (hw8.out ▸ H7.out.1.bv.row), hbt.blk H7.out.2 (by have := hsb.out; omega)⟩
                        · simp only [Int.cast_ofNat_Int]
                          go_wp2_with fail
                          refine region_tail 28 (by kernel_rfl) (by kernel_rfl) ?_
                          intro wd hwd
                          have hd := hidp (show BlS w wd h (wordsL bl) (restL V2 P 3) ∧ Blk wd w1.heap.size (ints (rowL r)) 214 by rw [hwd.out]; exact ⟨hr.out.1.drew, hr.out.2.drew⟩)
                          clear hr hwd
                          have s0 : wd.cell? ⟨w1.heap.size, 14, none⟩ = _ := (hd.out.2.cell 14).trans (ints_get (by rw [rowL_len hR10.out]; decide))
                          have s1 : wd.cell? ⟨w1.heap.size, 15, none⟩ = _ := (hd.out.2.cell 15).trans (ints_get (by rw [rowL_len hR10.out]; decide))
                          have b0 := rowL_lt hR10.out 14
                          have b1 := rowL_lt hR10.out 15
                          have p0 : P.getD 14 0 = _ := (congrArg (fun l => List.getD l 14 0) hP.out).trans (pickL_get (m := wordsL bl) hR10.out (j := 14) (by decide))
                          have p1 : P.getD 15 0 = _ := (congrArg (fun l => List.getD l 15 0) hP.out).trans (pickL_get (m := wordsL bl) hR10.out (j := 15) (by decide))
                          have hmix := refMix_any 3 4 9 14 (restL V2 P 3) (P.getD 14 0) (P.getD 15 0) wd (restL_words HV2.out P 3) (by decide) (by decide) (by decide) (by decide) (by decide) (by decide) (by decide) (by decide) (by decide) (by decide)
                          have hst : Hid (mixL (restL V2 P 3) 3 4 9 14 (P.getD 14 0) (P.getD 15 0) = restL V2 P 4) := hidp rfl
                          have HVW := hidp (restL_words HV2.out P 4)
                          rw [p0, p1] at hmix hst
                          clear p0 p1
                          generalize (rowL r).getD 14 0 = q0 at s0 b0 hmix hst
                          generalize (rowL r).getD 15 0 = q1 at s1 b1 hmix hst
                          have m0 := (hd.out.1.bm.cell q0).trans (wvs_get (by rw [wordsL_len]; exact b0))
                          have m1 := (hd.out.1.bm.cell q1).trans (wvs_get (by rw [wordsL_len]; exact b1))
                          have b0 : (q0 : Int) < 16 := by omega
                          have b1 : (q1 : Int) < 16 := by omega
                          generalize (wordsL bl).getD q0 0 = x0 at m0 hmix hst
                          generalize (wordsL bl).getD q1 0 = x1 at m1 hmix hst
                          simp only [Int.cast_ofNat_Int] at hmix
                          have lv : (restL V2 P 3).length = 16 := (restL_words HV2.out P 3).1
                          have hrg := hd.out.1.bv
                          rw [hst.out] at hmix
                          clear hst
                          generalize restL V2 P 3 = VI at hmix lv hrg hd
                          have hnx : Hid (4 - 4 < 4 - 3) := hidp (by decide)
                          obtain ⟨VN, hVN⟩ : ∃ VN, VN = restL V2 P 4 := ⟨_, rfl⟩
                          rw [← hVN] at hmix HVW
                          replace hVN := hidp hVN
                          replace hmix := hidp hmix
                          replace lv := hidp lv
                          replace hrg := hidp hrg
                          have wr0 : IntKind.i64.wrap 0 = 0 := wrz.out 0 (by decide)
                          have wr1 : IntKind.i64.wrap 1 = 1 := wrz.out 1 (by decide)
                          have wr2 : IntKind.i64.wrap 2 = 2 := wrz.out 2 (by decide)
                          have wr3 : IntKind.i64.wrap 3 = 3 := wrz.out 3 (by decide)
                          have wr4 : IntKind.i64.wrap 4 = 4 := wrz.out 4 (by decide)
                          have wr5 : IntKind.i64.wrap 5 = 5 := wrz.out 5 (by decide)
                          have wr6 : IntKind.i64.wrap 6 = 6 := wrz.out 6 (by decide)
                          have wr7 : IntKind.i64.wrap 7 = 7 := wrz.out 7 (by decide)
                          have wr8 : IntKind.i64.wrap 8 = 8 := wrz.out 8 (by decide)
                          have wr9 : IntKind.i64.wrap 9 = 9 := wrz.out 9 (by decide)
                          have wr10 : IntKind.i64.wrap 10 = 10 := wrz.out 10 (by decide)
                          have wr11 : IntKind.i64.wrap 11 = 11 := wrz.out 11 (by decide)
                          have wr12 : IntKind.i64.wrap 12 = 12 := wrz.out 12 (by decide)
                          have wr13 : IntKind.i64.wrap 13 = 13 := wrz.out 13 (by decide)
                          have wr14 : IntKind.i64.wrap 14 = 14 := wrz.out 14 (by decide)
                          have wr15 : IntKind.i64.wrap 15 = 15 := wrz.out 15 (by decide)
                          have wr16 : IntKind.i64.wrap 16 = 16 := wrz.out 16 (by decide)
                          simp only [List.take_succ_cons, List.take_zero, List.drop_succ_cons, List.drop_zero]
                          refine wpStill_load_blk rfl 213 _ rfl (w.heap.size + 3) (wvs VI) 213 rfl hrg.out _ Try.underlying213 rfl (by rw [wvs_len, lv.out]; kernel_rfl) ?_
                          repeat still_step
                          try refine wpStill_nil ?_
                          clear wr0 wr1 wr2 wr3 wr4 wr5 wr6 wr7 wr8 wr9 wr10 wr11 wr12 wr13 wr14 wr15 wr16
                          clear s0 s1 m0 m1
                          go_wp2_with fail
                          refine hmix.out.mono ?_
                          rintro e w7 ⟨rfl, hB7⟩
                          have H7 := hidp (And.intro (hd.out.1.below hB7) (hd.out.2.below hB7 hd.out.2.lt))
                          clear hd hmix hrg hB7
                          go_wp2_with (refine wpList_store_blk rfl 213 _ _ rfl (w.heap.size + 3) (wvs VN) (wvs VI) 213 rfl rfl H7.out.1.bv (by rw [wvs_len, HVW.out.1]; kernel_rfl) (by rw [wvs_len, wvs_len, HVW.out.1, lv.out]) (wvs_one _) ?_; intro w8 hw8)
                          refine ⟨⟨4, by decide, rfl, ?_⟩, by simp [RowKit.intOf]⟩
                          have hbt : But (w.heap.size + 3) w7 w8 := hw8.out ▸ (But.refl _ _).setRow _
                          rw [← hVN.out]
                          exact hidp ⟨H7.out.1.butv hbt (hw8.out ▸ H7.out.1.bv.row), hbt.blk H7.out.2 (by have := hsb.out; omega)⟩
                      · obtain rfl : i = 4 := by omega
                        simp only [Int.cast_ofNat_Int]
                        go_wp2
                        refine ⟨⟨r + 1, by have := hR10.out; omega, by go_num, ?_⟩, by have := hR10.out; simp [RowKit.intOf]; omega⟩
                        have e : restL V2 P 4 = roundsL V0 (wordsL bl) (r + 1) := by rw [hV2.out, ← round_halves, hV.out, hP.out]; rfl
                        rw [← e]
                        exact hidp hr.out.1
              · obtain rfl : r = 10 := by omega
                simp only [Int.cast_ofNat_Int]
                have VW := hidp (roundsL_words HV0.out (wordsL bl) 10)
                have hfin : Hid (partH h (roundsL V0 (wordsL bl) 10) 8 = blockL h (wordsL bl) many (markL last)) := hidp (by rw [partH_all, hV0.out]; rfl)
                obtain ⟨v, hv⟩ : ∃ v, v = roundsL V0 (wordsL bl) 10 := ⟨_, rfl⟩
                rw [← hv] at VW hfin hr
                clear hv hr10 hrl HV0 hV0
                have R0 : Hid (BlS w wr (partH h v 0) (wordsL bl) v) := by rw [partH_zero h8.out]; exact hr
                clear hr
                go_wp2
                go_loopw [17] (fun x wr => ∃ i : Nat, i ≤ 8 ∧ x = .int .i64 i ∧ Hid (BlS w wr (partH h v i) (wordsL bl) v)) (fun x _ => 8 - (RowKit.intOf x).toNat)
                case atStart => exact ⟨0, by omega, rfl, R0⟩
                case round =>
                  obtain ⟨i, hi, rfl, hr⟩ := hrel
                  clear R0
                  by_cases h8i : i < 8
                  · have hI := hidp h8i
                    have hx : ∀ (wd : World), BlS w wd (partH h v i) (wordsL bl) v → wd.cell? ⟨w.heap.size, i, none⟩ = some (.int .u32 (h.getD i 0 : Nat)) ∧ wd.cell? ⟨w.heap.size + 3, i, none⟩ = some (.int .u32 (v.getD i 0 : Nat)) ∧ wd.cell? ⟨w.heap.size + 3, i + 8, none⟩ = some (.int .u32 (v.getD (i + 8) 0 : Nat)) ∧ wd.frozen? ⟨w.heap.size, i, none⟩ = false :=
                      fun _ H => ⟨(H.bh.cell i).trans ((wvs_get (by rw [partH_len]; exact h8i)).trans (by rw [partH_get h v h8i])), (H.bv.cell i).trans (wvs_get (by rw [VW.out.1]; omega)), (H.bv.cell (i + 8)).trans (wvs_get (by rw [VW.out.1]; omega)), H.bh.free _⟩
                    replace hx := hidp hx
                    have lx := xorW_lt (HH.out.get i) (VW.out.get i)
                    have e1 := xor_word (HH.out.get i) (VW.out.get i)
                    have e2 := xor_word lx (VW.out.get (i + 8))
                    have hset := partH_set h v h8i
                    rw [← assocW] at hset
                    clear lx
                    generalize h.getD i 0 = ha at hx e1 e2 hset
                    generalize v.getD i 0 = va at hx e1 e2 hset
                    generalize v.getD (i + 8) 0 = vb at hx e1 e2 hset
                    replace hset := hidp hset
                    have hi8 : (i : Int) < 8 := by omega
                    have hi16 : (i : Int) + 8 < 16 := by omega
                    have hi17 : (i : Int) < 16 := by omega
                    have hw8 : IntKind.i64.wrap ((i : Int) + 8) = (i : Int) + 8 := by rw [IntKind.wrap_i64]; omega
                    have hw9 : (0 : Int) ≤ (i : Int) + 8 := by omega
                    have hw10 : ((i : Int) + 8).toNat = i + 8 := by omega
                    clear h8i
                    go_wp2
                    refine region_tail 13 (by kernel_rfl) (by kernel_rfl) ?_
                    intro wd hwd
                    have hd := hidp (hwd.out.symm ▸ hr.out.drew)
                    clear hr hwd
                    obtain ⟨x1, x2, x3, x4⟩ := hx.out _ hd.out
                    clear hx
                    simp only [List.take_succ_cons, List.take_zero, List.drop_succ_cons, List.drop_zero]
                    repeat still_step
                    try refine wpStill_nil ?_
                    go_wp2
                    refine ⟨⟨i + 1, by have := hI.out; omega, by go_num, ?_⟩, by have := hI.out; simp [RowKit.intOf]; omega⟩
                    rw [← hset.out]
                    exact hidp (hd.out.seth i _)
                  · obtain rfl : i = 8 := by omega
                    simp only [Int.cast_ofNat_Int]
                    have lw : Hid ((blockL h (wordsL bl) many (markL last)).length = 8) := hidp (by rw [← hfin.out]; exact partH_len _ _ _)
                    have bh := hidp (show Blk wr w.heap.size (wvs (blockL h (wordsL bl) many (markL last))) 136 by rw [← hfin.out]; exact hr.out.bh)
                    have br := hidp hr.out.br
                    have bel := hidp hr.out.bel
                    clear hr hi h8i
                    go_wp2_with (first | refine wpList_load_blk rfl 136 _ rfl _ _ _ rfl bh.out _ Try.underlying136 rfl (by rw [wvs_len, lw.out]; kernel_rfl) ?_ | (refine wpList_store_blk rfl 136 _ _ rfl _ _ _ _ rfl rfl br.out (by rw [wvs_len, lw.out]; kernel_rfl) (by rw [wvs_len, wvs_len, lw.out]; rfl) (wvs_one _) ?_; intro w2 hw2))
                    have b2 : Blk w2 (w.heap.size + 1) (wvs (blockL h (wordsL bl) many (markL last))) 136 := by rw [hw2.out]; exact br.out.row
                    refine bodyPost_ret (v := .agg (wvs (blockL h (wordsL bl) many (markL last))).toArray) ?_ rfl ⟨rfl, ?_⟩
                    · exact results_cell_row Try.results162 _ _ (w.heap.size + 1) 136 _ (0, 0) _ rfl b2 Try.underlying136 rfl (by rw [List.size_toArray, wvs_len, lw.out]; kernel_rfl)
                    · rw [hw2.out]; exact below_setRow bel.out (Nat.le_succ _) _
end Go.Proofs.Ytdiklimikkplcaa
