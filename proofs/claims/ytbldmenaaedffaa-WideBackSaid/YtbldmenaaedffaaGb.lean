/-
  Contract: the answer's Sum.
-/
import Derived.Test.YtbldmenaaedffaaGa
namespace Go.Proofs.Ytbldmenaaedffaa
open Go.RowKit

set_option maxHeartbeats 2000000 in
theorem refSum_any (a : Option Addr) (cap : Nat) (ys : List Int) (w : World) (hl : ys.length ≤ 1000) (hm : ∀ z ∈ ys, z ≤ 9223372036854775807) (hr : RowAt w a ys) : Calls Try.prog 19 #[.slice a ys.length cap] w fun e w' => e = .returned (sumV ys) ∧ Below w.heap.size w w' := by
  have HR := hidp hr; have HM := hidp hm; clear hr hm
  go_enter Try.func19, Try.ntmps19
  go_wp2
  go_loopw [5] (fun i wr => ∃ k : Nat, k ≤ ys.length ∧ i = .int .i64 k ∧ Hid ((∀ z ∈ ys.take k, 0 ≤ z) ∧ Blk wr (w.heap.size + 1) [.int .u64 (hiw (sumN (ys.take k))), .int .u64 (low (sumN (ys.take k)))] 24 ∧ Blk wr w.heap.size [.int .u64 0, .int .u64 0] 24 ∧ Below w.heap.size w wr)) (fun i _ => ys.length - (intOf i).toNat)
  case atStart =>
    refine ⟨0, by omega, rfl, ?_, ?_, ?_, by (repeat' (first | (with_reducible exact Below.refl _ _) | (with_reducible refine Below.alloc ?_ ?_ _) | (with_reducible refine Below.drew ?_) | (with_reducible refine Below.drewN ?_ _) | (with_reducible refine Below.setCell ?_ ?_ _) | go_size))⟩
    · intro z hz; rw [List.take_zero] at hz; cases hz
    · have e1 : ((hiw (sumN (ys.take 0)) : Nat) : Int) = 0 := by rw [List.take_zero]; rfl
      have e2 : ((low (sumN (ys.take 0)) : Nat) : Int) = 0 := by rw [List.take_zero]; rfl
      rw [e1, e2]
      exact (Blk.new' _ [.int .u64 0, .int .u64 0] _ _ (by simp))
    · exact (Blk.new' _ [.int .u64 0, .int .u64 0] _ _ (by simp)).alloc _
  case round =>
    obtain ⟨k, hk, rfl, hr⟩ := hrel
    by_cases hlt : k < ys.length
    · obtain ⟨x, rfl, hc⟩ := row_at (HR.out.below hr.out.2.2.2) hlt
      have hin : ys[k]?.getD 0 ∈ ys := by rw [List.getElem?_eq_getElem hlt]; exact List.getElem_mem _
      have hz1 := HM.out _ hin
      by_cases hz : ys[k]?.getD 0 < 0
      · have HIN := hidp hin
        have HZ := hidp hz
        generalize hy : ys[k]?.getD 0 = z at hc hz hz1 hin
        have HY := hidp hy; clear hy
        go_wp2_with fail
        refine (refOf_neg _ _ hz).mono ?_
        rintro e w1 ⟨rfl, hB1⟩
        have br := hr.out.2.2.1.below hB1 hr.out.2.2.1.lt
        have k0 := br.cell 0
        have k1 := br.cell 1
        have q0 := br.free 0
        have q1 := br.free 1
        simp only [List.getElem?_cons_zero, List.getElem?_cons_succ] at k0 k1
        have HB1 := hidp hB1
        have hlt0 := br.lt
        clear hB1 br hc
        go_wp2
        exact bodyPost_ret (v := .tuple #[wz, .int .i64 3]) (by simp [results, Try.results19, go_sem, k0, k1, hlt0]) rfl ⟨by rw [sumV_neg hin hz], (hr.out.2.2.2.trans (HB1.out.mono hr.out.2.2.2.size)).trans (by (repeat' (first | (with_reducible exact Below.refl _ _) | (with_reducible refine Below.alloc ?_ ?_ _) | (with_reducible refine Below.drew ?_) | (with_reducible refine Below.drewN ?_ _) | (with_reducible refine Below.setCell ?_ ?_ _) | go_size)))⟩
      · obtain ⟨z, hzz⟩ := Int.eq_ofNat_of_zero_le (show 0 ≤ ys[k]?.getD 0 by omega)
        have hsn := sumN_snoc ys k hlt
        rw [hzz, Int.toNat_natCast] at hsn
        have hbd := sumN_lt ys (k + 1) hl HM.out
        rw [hsn] at hbd
        have HSN := hidp hsn; have HBD := hidp hbd; have HZZ := hidp hzz
        rw [hzz] at hc hz1
        clear hsn hbd hzz hin hz
        go_wp2_with fail
        refine (refOf_nat z _ (by omega)).mono ?_
        rintro e w1 ⟨rfl, hB1⟩
        have bs := hr.out.2.1.below hB1 hr.out.2.1.lt
        have k0 := bs.cell 0
        have k1 := bs.cell 1
        have q0 := bs.free 0
        have q1 := bs.free 1
        simp only [List.getElem?_cons_zero, List.getElem?_cons_succ] at k0 k1
        have hlt0 := bs.lt
        have BS := hidp bs
        have HB1 := hidp hB1
        clear hB1 bs hc
        go_wp2_with fail
        refine (refPlus_ok _ _ _ HBD.out).mono ?_
        rintro e w2 ⟨rfl, hB2⟩
        have bs2 := (BS.out.alloc (.cells #[.int .u64 (hiw z), .int .u64 (low z)] 24)).below hB2 (by simp; omega)
        have r0 := bs2.cell 0
        have r1 := bs2.cell 1
        have f0 := bs2.free 0
        have f1 := bs2.free 1
        simp only [List.getElem?_cons_zero, List.getElem?_cons_succ] at r0 r1
        have BS2 := hidp bs2
        have HB2 := hidp hB2
        clear hB2 bs2 k0 k1 q0 q1
        go_wp2
        have hb1 : w.heap.size ≤ w1.heap.size := Nat.le_trans hr.out.2.2.2.size HB1.out.size
        have hb2 : w.heap.size ≤ w2.heap.size := by have := HB2.out.size; simp at this; omega
        have hz0 := (((hr.out.2.2.1.below HB1.out hr.out.2.2.1.lt).alloc (.cells #[.int .u64 (hiw z), .int .u64 (low z)] 24)).below HB2.out (by simp; omega))
        have hbb : Below w.heap.size w w2 := ((hr.out.2.2.2.trans (HB1.out.mono hr.out.2.2.2.size)).alloc hb1 _).trans (HB2.out.mono (by simp; omega))
        refine ⟨⟨k + 1, by omega, by go_num, take_snoc_ok hlt hr.out.1 (by rw [HZZ.out]; omega), ?_, ?_, ?_⟩, by simp [intOf]; omega⟩
        · rw [HSN.out]
          exact (BS2.out.set 0 _).set 1 _
        · exact (hz0.other _ _ (by simp)).other _ _ (by simp)
        · exact (hbb.setCell (by simp) _).setCell (by simp) _
    · obtain rfl : k = ys.length := by omega
      have bs := hr.out.2.1
      have k0 := bs.cell 0
      have k1 := bs.cell 1
      have br := hr.out.2.2.1
      have r0 := br.cell 0
      have r1 := br.cell 1
      have f0 := br.free 0
      have f1 := br.free 1
      simp only [List.getElem?_cons_zero, List.getElem?_cons_succ] at k0 k1 r0 r1
      rw [List.take_length] at k0 k1 hr
      clear bs br
      go_wp2
      exact bodyPost_ret (v := .tuple #[wv (sumN ys), .int .i64 0]) (by simp [results, Try.results19, go_sem, r0, r1]) rfl ⟨by rw [sumV_ok hr.out.1], hr.out.2.2.2.trans (by (repeat' (first | (with_reducible exact Below.refl _ _) | (with_reducible refine Below.alloc ?_ ?_ _) | (with_reducible refine Below.drew ?_) | (with_reducible refine Below.drewN ?_ _) | (with_reducible refine Below.setCell ?_ ?_ _) | go_size)))⟩
end Go.Proofs.Ytbldmenaaedffaa
