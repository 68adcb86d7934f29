/-
  Vals: the hash of a set, by the answer.
-/
import Derived.Test.YtcmkmnidnapabaaGreatVtb
import Derived.Test.YtcmkmnidnapabaaGreatI1
namespace Go.Proofs.YtcmkmnidnapabaaGreat
open Go.RowKit Go.Lib
set_option linter.unusedSimpArgs false
set_option linter.unusedVariables false

set_option maxRecDepth 100000 in
set_option maxHeartbeats 2000000 in
theorem rvhash_bad (a : Option Addr) (b o cap : Nat) (l : List Vd) (w : World) (h : Vs w a b o cap l) (hc : chk l ≠ 0) :
    Calls Tryz.prog 23 #[.slice a l.length cap] w fun e w' => e = .returned (.tuple #[.agg (bvs z32).toArray, .int .i64 (chk l : Nat)]) ∧ Below w.heap.size w w' := by
  have hz : ∀ w, (zeroValue 39).run Tryz.prog w = .ok (.agg (bvs z32).toArray) w := (zero_of_info (P := Tryz.prog) zero_hash).1
  have hBB := hidp ((Below.refl w.heap.size w).alloc (Nat.le_refl _) (.cells (bvs z32).toArray 39))
  have HE := hidp (rvencode_bad a b o cap l _ (h.below hBB.out) hc)
  have hbn : (((chk l : Nat) : Int) != 0) = true := by rw [bne_iff_ne]; omega
  have hR := hidp (Blk.new w (bvs z32) 39)
  clear hc h
  generalize chk l = n at *
  go_enter Tryz.func23, Tryz.ntmps23
  go_wp2_with fail
  refine HE.out.mono ?_
  rintro e w1 ⟨rfl, hb⟩
  have hR1 := hidp (hb.blk' hR.out)
  have hB := hidp (hBB.out.trans (hb.mono hBB.out.size))
  clear hb HE hBB hR
  go_wp2_with first
    | (with_reducible refine (?_ : wpList _ _ _ _ _ _); refine wpList_buildG (by kernel_rfl) 39 _ rfl (bvs z32).toArray (by kernel_rfl) ?_)
    | (with_reducible refine (?_ : wpList _ _ _ _ _ _); refine wpList_store_blk rfl 39 _ _ rfl w.heap.size (bvs z32) (bvs z32) 39 rfl rfl hR1.out (by kernel_rfl) rfl (bvs_one _) ?_; intro w6 hw6)
  have b2 : Blk w6 w.heap.size (bvs z32) 39 := by rw [hw6.out]; exact hR1.out.row
  have hB6 : Below w.heap.size w w6 := by rw [hw6.out]; exact hB.out.trans (((But.refl w.heap.size w1).setRow (bvs z32).toArray).below (Nat.le_refl _))
  refine bodyPost_ret (v := .tuple #[.agg (bvs z32).toArray, .int .i64 (n : Nat)]) ?_ rfl ⟨rfl, hB6⟩
  exact results_row2 Tryz.results23 _ _ w.heap.size 39 _ _ rfl b2 Tryz.underlying39 rfl (by kernel_rfl)
set_option maxRecDepth 100000 in
set_option maxHeartbeats 2000000 in
theorem rvhash_ok (a : Option Addr) (b o cap : Nat) (l : List Vd) (w : World) (h : Vs w a b o cap l) (hc : chk l = 0) :
    Calls Tryz.prog 23 #[.slice a l.length cap] w fun e w' => e = .returned (.tuple #[.agg (bvs (hashL (encB l))).toArray, .int .i64 0]) ∧ Below w.heap.size w w' := by
  have hz : ∀ w, (zeroValue 39).run Tryz.prog w = .ok (.agg (bvs z32).toArray) w := (zero_of_info (P := Tryz.prog) zero_hash).1
  have hBB := hidp ((Below.refl w.heap.size w).alloc (Nat.le_refl _) (.cells (bvs z32).toArray 39))
  have HE := hidp (rvencode_ok a b o cap l _ (h.below hBB.out) hc)
  have hR := hidp (Blk.new w (bvs z32) 39)
  have hLE := hidp (encB_le hc)
  have hHl := hidp (hashL_len (encB l))
  clear hc h
  generalize hZ : hashL (encB l) = Z at *
  replace hZ := hidp hZ
  generalize encB l = L at *
  go_enter Tryz.func23, Tryz.ntmps23
  go_wp2_with fail
  refine HE.out.mono ?_
  rintro e w1 ⟨⟨p, pb, pc, rfl, _, hpn, hs⟩, hb⟩
  have hR1 := hidp (hb.blk' hR.out)
  have hB := hidp (hBB.out.trans (hb.mono hBB.out.size))
  have HS := hidp hs
  clear hb HE hBB hR hs hpn
  go_wp2_with fail
  refine (refSum_any (ByS.of_bs HS.out HS.out.none_cap) (by have := hLE.out; omega)).mono ?_
  rintro e w3 ⟨rfl, hb⟩
  have hR3 := hidp (hb.blk' hR1.out)
  have hB3 := hidp (hB.out.trans (hb.mono hB.out.size))
  clear hb hR1 hB HS
  rw [hZ.out]
  go_wp2_with (with_reducible refine (?_ : wpList _ _ _ _ _ _); refine wpList_store_blk rfl 39 _ _ rfl w.heap.size (bvs Z) (bvs z32) 39 rfl rfl hR3.out (by rw [bvs_len, hHl.out]; kernel_rfl) (by simp [bvs_len, hHl.out, z32]) (bvs_one _) ?_; intro w6 hw6)
  have b2 : Blk w6 w.heap.size (bvs Z) 39 := by rw [hw6.out]; exact hR3.out.row
  have hB6 : Below w.heap.size w w6 := by rw [hw6.out]; exact hB3.out.trans (((But.refl w.heap.size w3).setRow (bvs Z).toArray).below (Nat.le_refl _))
  refine bodyPost_ret (v := .tuple #[.agg (bvs Z).toArray, .int .i64 0]) ?_ rfl ⟨rfl, hB6⟩
  exact results_row2 Tryz.results23 _ _ w.heap.size 39 _ _ rfl b2 Tryz.underlying39 rfl (by rw [bvs_len, hHl.out]; kernel_rfl)
theorem rvhashO (a : Option Addr) (b o cap : Nat) (l : List Vd) (w : World) (h : Vs w a b o cap l) :
    Calls Tryz.prog 23 #[.slice a l.length cap] w fun e w' => e = .returned (.tuple #[.agg (bvs (hashV l)).toArray, .int .i64 (chk l : Nat)]) ∧ Below w.heap.size w w' := by
  unfold hashV
  by_cases hc : chk l = 0
  · rw [if_pos hc, hc]; exact rvhash_ok a b o cap l w h hc
  · rw [if_neg hc]; exact rvhash_bad a b o cap l w h hc
end Go.Proofs.YtcmkmnidnapabaaGreat
