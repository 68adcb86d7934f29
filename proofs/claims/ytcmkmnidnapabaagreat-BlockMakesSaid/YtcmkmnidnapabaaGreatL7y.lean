/-
  Commit: CopyCommit; the answer's Add.
-/
import Derived.Test.YtcmkmnidnapabaaGreatTE
import Derived.Test.YtcmkmnidnapabaaGreatTD
namespace Go.Proofs.YtcmkmnidnapabaaGreat
open Go.RowKit Go.Lib
set_option linter.unusedSimpArgs false

/-- The boxes of CopyCommit. -/
structure CopB (w W : World) (cs : List Value) : Prop where
  kc : Blk W w.heap.size cs 82
  kr : Blk W (w.heap.size + 1) (cC 0 zh32 (.slice none 0 0)) 82
  bel : Below w.heap.size w W
set_option maxRecDepth 100000 in
set_option maxHeartbeats 4000000 in
theorem ccopy_any (h : Int) (p : List Nat) (hp : p.length = 32) (a : Option Addr) (b o cap : Nat) (l : List Vt) (w : World) (hT : Ts w a b o cap l) (hl : l.length ≤ 1000) :
    Calls Tryz.prog 112 #[.agg (cC h p (.slice a l.length cap)).toArray] w fun e w' => (∃ sv, e = .returned (.agg (cC h p sv).toArray) ∧ OwnT w' w.heap.size sv l) ∧ Below w.heap.size w w' := by
  have hzz : ∀ w, (zeroValue 82).run Tryz.prog w = .ok (.agg (cC 0 zh32 (.slice none 0 0)).toArray) w := (zero_of_info (P := Tryz.prog) zero_com).1
  have hl0 := hidp (cC_len (h := 0) (sl := .slice none 0 0) (p := zh32) rfl)
  have hpp := hidp hp
  have HN := hidp hl
  have hs2 : ((w.alloc (.cells (cC h p (.slice a l.length cap)).toArray 82)).alloc (.cells (cC 0 zh32 (.slice none 0 0)).toArray 82)).heap.size = w.heap.size + 2 := by simp
  have H2 : Hid (CopB w ((w.alloc (.cells (cC h p (.slice a l.length cap)).toArray 82)).alloc (.cells (cC 0 zh32 (.slice none 0 0)).toArray 82)) (cC h p (.slice a l.length cap))) := hidp ⟨(Blk.new w _ _).alloc _, Blk.new' _ _ _ _ (by simp), ((Below.refl _ w).alloc (Nat.le_refl _) _).alloc (by simp) _⟩
  have hA : Hid (Below (w.heap.size + 2) ((w.alloc (.cells (cC h p (.slice a l.length cap)).toArray 82)).alloc (.cells (cC 0 zh32 (.slice none 0 0)).toArray 82)) (((w.alloc (.cells (cC h p (.slice a l.length cap)).toArray 82)).alloc (.cells (cC 0 zh32 (.slice none 0 0)).toArray 82)).alloc (.cells #[] 169))) := hidp ((Below.refl _ _).alloc (Nat.le_of_eq hs2.symm) _)
  have HT := hidp (hT.below (H2.out.bel.trans (hA.out.mono (by omega))))
  have hown := hidp (show (((w.alloc (.cells (cC h p (.slice a l.length cap)).toArray 82)).alloc (.cells (cC 0 zh32 (.slice none 0 0)).toArray 82)).alloc (.cells #[] 169)).ownsRow (w.heap.size + 2) 169 2 (.slice (some ⟨w.heap.size + 1 + 1, 0, none⟩) 0 0) 0 [] by have q := own_nothingT ((w.alloc (.cells (cC h p (.slice a l.length cap)).toArray 82)).alloc (.cells (cC 0 zh32 (.slice none 0 0)).toArray 82)); rw [hs2] at q; exact q)
  have hAs := hidp (show w.heap.size + 2 ≤ (((w.alloc (.cells (cC h p (.slice a l.length cap)).toArray 82)).alloc (.cells (cC 0 zh32 (.slice none 0 0)).toArray 82)).alloc (.cells #[] 169)).heap.size by simp)
  have c33 : (((w.alloc (.cells (cC h p (.slice a l.length cap)).toArray 82)).alloc (.cells (cC 0 zh32 (.slice none 0 0)).toArray 82)).alloc (.cells #[] 169)).cell? ⟨w.heap.size, 33, none⟩ = some (.slice a l.length cap) := ((H2.out.kc.alloc _).cell 33).trans (cC_33 hp)
  clear hT hl hp hs2
  have HG := hidp (fun (v' : Value) (w1 : World) (hown' : w1.ownsRow (w.heap.size + 2) 169 2 v' (0 + l.length) ([] ++ l.flatMap tL)) (hgrow : (((w.alloc (.cells (cC h p (.slice a l.length cap)).toArray 82)).alloc (.cells (cC 0 zh32 (.slice none 0 0)).toArray 82)).alloc (.cells #[] 169)).grownBy w1 (Value.slice (some ⟨w.heap.size + 1 + 1, 0, none⟩) 0 0).ownBlock) => (by
    have hO : OwnT w1 (w.heap.size + 2) v' l := by have q := hown'; rw [Nat.zero_add, List.nil_append] at q; exact q
    have hB1 : Below (w.heap.size + 2) ((w.alloc (.cells (cC h p (.slice a l.length cap)).toArray 82)).alloc (.cells (cC 0 zh32 (.slice none 0 0)).toArray 82)) w1 := hA.out.grown hgrow hAs.out (fun j hj => (hown.out.lt j hj).1)
    obtain ⟨p6, n6, c6, rfl⟩ := hO.sl
    have e := H2.out.kc.below hB1 (by omega)
    exact ⟨p6, n6, c6, rfl, (e.cell 33).trans (cC_33 hpp.out), e.free 33, cC_set (s2 := .slice p6 n6 c6) hpp.out ▸ e.set 33 (.slice p6 n6 c6), (H2.out.kr.below hB1 (by omega)).other _ _ (by simp), hO.bex ((Bex.refl w.heap.size w1).setCell 33 (.slice p6 n6 c6)) (by omega), (H2.out.bel.trans (hB1.mono (by omega))).setCell (p := ⟨w.heap.size, 33, none⟩) (Nat.le_refl _) _⟩ :
    ∃ p6 n6 c6, v' = .slice p6 n6 c6 ∧ w1.cell? ⟨w.heap.size, 33, none⟩ = some (.slice a l.length cap) ∧ w1.frozen? ⟨w.heap.size, 33, none⟩ = false ∧ Blk (w1.setCell ⟨w.heap.size, 33, none⟩ (.slice p6 n6 c6)) w.heap.size (cC h p (.slice p6 n6 c6)) 82 ∧ Blk (w1.setCell ⟨w.heap.size, 33, none⟩ (.slice p6 n6 c6)) (w.heap.size + 1) (cC 0 zh32 (.slice none 0 0)) 82 ∧ OwnT (w1.setCell ⟨w.heap.size, 33, none⟩ (.slice p6 n6 c6)) (w.heap.size + 2) (.slice p6 n6 c6) l ∧ Below w.heap.size w (w1.setCell ⟨w.heap.size, 33, none⟩ (.slice p6 n6 c6))))
  clear H2 hA
  go_enter Tryz.func112, Tryz.ntmps112
  go_wp2_with first
    | (at_builtin; refine wpList_append_ts rfl _ _ rfl (w.heap.size + 2) 0 [] (.slice (some ⟨w.heap.size + 1 + 1, 0, none⟩) 0 0) rfl hown.out a b o cap l rfl HT.out (by have := HN.out; omega) hAs.out ?_; intro v' w1 hown' hgrow; obtain ⟨p6, n6, c6, hsv, k33, f33, hg1, hg2, hg3, hg4⟩ := HG.out v' w1 hown' hgrow; subst hsv; have G1 := hidp hg1; have G2 := hidp hg2; have G3 := hidp hg3; have G4 := hidp hg4; have hl6 := hidp (cC_len (h := h) (sl := .slice p6 n6 c6) hpp.out); have ho6 := hidp (cC_one h p p6 n6 c6); clear hown' hgrow hg1 hg2 hg3 hg4)
    | (with_reducible refine (?_ : wpList _ _ _ _ _ _); refine wpList_load_blk rfl 82 _ rfl w.heap.size (cC h p (.slice p6 n6 c6)) 82 rfl G1.out _ Tryz.underlying82 rfl (by rw [hl6.out]; kernel_rfl) ?_)
    | (with_reducible refine (?_ : wpList _ _ _ _ _ _); refine wpList_store_blk rfl 82 _ _ rfl (w.heap.size + 1) (cC h p (.slice p6 n6 c6)) (cC 0 zh32 (.slice none 0 0)) 82 rfl rfl G2.out (by rw [hl6.out]; kernel_rfl) (by rw [hl6.out, hl0.out]) ho6.out ?_; intro w13 hw13; have F1 := hidp (show Blk w13 (w.heap.size + 1) (cC h p (.slice p6 n6 c6)) 82 ∧ Below w.heap.size w w13 ∧ OwnT w13 w.heap.size (.slice p6 n6 c6) l by rw [hw13.out]; exact ⟨G2.out.row, G4.out.trans (((But.refl (w.heap.size + 1) _).setRow _).below (by omega)), (G3.out.bex (g := w.heap.size + 1) (Bex.of_but ((But.refl (w.heap.size + 1) _).setRow _)) (by omega)).base (by omega)⟩))
  refine bodyPost_ret (v := .agg (cC h p (.slice p6 n6 c6)).toArray) ?_ rfl ⟨⟨.slice p6 n6 c6, rfl, F1.out.2.2⟩, F1.out.2.1⟩
  exact results_row0 Tryz.results112 _ _ (w.heap.size + 1) 82 _ _ rfl F1.out.1 Tryz.underlying82 rfl (by rw [hl6.out]; kernel_rfl)
end Go.Proofs.YtcmkmnidnapabaaGreat
