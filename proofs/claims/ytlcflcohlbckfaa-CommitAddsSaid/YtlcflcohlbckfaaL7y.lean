/-
  Commit: CopyCommit; the answer's Add.
-/
import Derived.Test.YtlcflcohlbckfaaL7q
import Derived.Test.YtlcflcohlbckfaaL7l
namespace Go.Proofs.Ytlcflcohlbckfaa
open Go.RowKit Go.Lib
set_option linter.unusedSimpArgs false

/-- The boxes of CopyCommit. -/
structure CopB (w W : World) (cs : List Value) : Prop where
  kc : Blk W w.heap.size cs 63
  kr : Blk W (w.heap.size + 1) (cC 0 zh32 (.slice none 0 0)) 63
  bel : Below w.heap.size w W
set_option maxRecDepth 100000 in
set_option maxHeartbeats 4000000 in
theorem ccopy_any (h : Int) (p : List Nat) (hp : p.length = 32) (a : Option Addr) (b o cap : Nat) (l : List Vt) (w : World) (hT : Ts w a b o cap l) (hl : l.length ≤ 1000) :
    Calls Try.prog 36 #[.agg (cC h p (.slice a l.length cap)).toArray] w fun e w' => (∃ sv, e = .returned (.agg (cC h p sv).toArray) ∧ OwnT w' w.heap.size sv l) ∧ Below w.heap.size w w' := by
  have hzz : ∀ w, (zeroValue 63).run Try.prog w = .ok (.agg (cC 0 zh32 (.slice none 0 0)).toArray) w := (zero_of_info (P := Try.prog) zero_com).1
  have hl0 := hidp (cC_len (h := 0) (sl := .slice none 0 0) (p := zh32) rfl)
  have hpp := hidp hp
  have HN := hidp hl
  have hs2 : ((w.alloc (.cells (cC h p (.slice a l.length cap)).toArray 63)).alloc (.cells (cC 0 zh32 (.slice none 0 0)).toArray 63)).heap.size = w.heap.size + 2 := by simp
  have H2 : Hid (CopB w ((w.alloc (.cells (cC h p (.slice a l.length cap)).toArray 63)).alloc (.cells (cC 0 zh32 (.slice none 0 0)).toArray 63)) (cC h p (.slice a l.length cap))) := hidp ⟨(Blk.new w _ _).alloc _, Blk.new' _ _ _ _ (by simp), ((Below.refl _ w).alloc (Nat.le_refl _) _).alloc (by simp) _⟩
  have hA : Hid (Below (w.heap.size + 2) ((w.alloc (.cells (cC h p (.slice a l.length cap)).toArray 63)).alloc (.cells (cC 0 zh32 (.slice none 0 0)).toArray 63)) (((w.alloc (.cells (cC h p (.slice a l.length cap)).toArray 63)).alloc (.cells (cC 0 zh32 (.slice none 0 0)).toArray 63)).alloc (.cells #[] 85))) := hidp ((Below.refl _ _).alloc (Nat.le_of_eq hs2.symm) _)
  have HT := hidp (hT.below (H2.out.bel.trans (hA.out.mono (by omega))))
  have hown := hidp (show (((w.alloc (.cells (cC h p (.slice a l.length cap)).toArray 63)).alloc (.cells (cC 0 zh32 (.slice none 0 0)).toArray 63)).alloc (.cells #[] 85)).ownsRow (w.heap.size + 2) 85 2 (.slice (some ⟨w.heap.size + 1 + 1, 0, none⟩) 0 0) 0 [] by have q := own_nothingT ((w.alloc (.cells (cC h p (.slice a l.length cap)).toArray 63)).alloc (.cells (cC 0 zh32 (.slice none 0 0)).toArray 63)); rw [hs2] at q; exact q)
  have hAs := hidp (show w.heap.size + 2 ≤ (((w.alloc (.cells (cC h p (.slice a l.length cap)).toArray 63)).alloc (.cells (cC 0 zh32 (.slice none 0 0)).toArray 63)).alloc (.cells #[] 85)).heap.size by simp)
  have c33 : (((w.alloc (.cells (cC h p (.slice a l.length cap)).toArray 63)).alloc (.cells (cC 0 zh32 (.slice none 0 0)).toArray 63)).alloc (.cells #[] 85)).cell? ⟨w.heap.size, 33, none⟩ = some (.slice a l.length cap) := ((H2.out.kc.alloc _).cell 33).trans (cC_33 hp)
  clear hT hl hp hs2
  have HG := hidp (fun (v' : Value) (w1 : World) (hown' : w1.ownsRow (w.heap.size + 2) 85 2 v' (0 + l.length) ([] ++ l.flatMap tL)) (hgrow : (((w.alloc (.cells (cC h p (.slice a l.length cap)).toArray 63)).alloc (.cells (cC 0 zh32 (.slice none 0 0)).toArray 63)).alloc (.cells #[] 85)).grownBy w1 (Value.slice (some ⟨w.heap.size + 1 + 1, 0, none⟩) 0 0).ownBlock) => (by
    have hO : OwnT w1 (w.heap.size + 2) v' l := by have q := hown'; rw [Nat.zero_add, List.nil_append] at q; exact q
    have hB1 : Below (w.heap.size + 2) ((w.alloc (.cells (cC h p (.slice a l.length cap)).toArray 63)).alloc (.cells (cC 0 zh32 (.slice none 0 0)).toArray 63)) w1 := hA.out.grown hgrow hAs.out (fun j hj => (hown.out.lt j hj).1)
    obtain ⟨p6, n6, c6, rfl⟩ := hO.sl
    have e := H2.out.kc.below hB1 (by omega)
    exact ⟨p6, n6, c6, rfl, (e.cell 33).trans (cC_33 hpp.out), e.free 33, cC_set (s2 := .slice p6 n6 c6) hpp.out ▸ e.set 33 (.slice p6 n6 c6), (H2.out.kr.below hB1 (by omega)).other _ _ (by simp), hO.bex ((Bex.refl w.heap.size w1).setCell 33 (.slice p6 n6 c6)) (by omega), (H2.out.bel.trans (hB1.mono (by omega))).setCell (p := ⟨w.heap.size, 33, none⟩) (Nat.le_refl _) _⟩ :
    ∃ p6 n6 c6, v' = .slice p6 n6 c6 ∧ w1.cell? ⟨w.heap.size, 33, none⟩ = some (.slice a l.length cap) ∧ w1.frozen? ⟨w.heap.size, 33, none⟩ = false ∧ Blk (w1.setCell ⟨w.heap.size, 33, none⟩ (.slice p6 n6 c6)) w.heap.size (cC h p (.slice p6 n6 c6)) 63 ∧ Blk (w1.setCell ⟨w.heap.size, 33, none⟩ (.slice p6 n6 c6)) (w.heap.size + 1) (cC 0 zh32 (.slice none 0 0)) 63 ∧ OwnT (w1.setCell ⟨w.heap.size, 33, none⟩ (.slice p6 n6 c6)) (w.heap.size + 2) (.slice p6 n6 c6) l ∧ Below w.heap.size w (w1.setCell ⟨w.heap.size, 33, none⟩ (.slice p6 n6 c6))))
  clear H2 hA
  go_enter Try.func36, Try.ntmps36
  go_wp2_with first
    | (at_builtin; refine wpList_append_ts rfl _ _ rfl (w.heap.size + 2) 0 [] (.slice (some ⟨w.heap.size + 1 + 1, 0, none⟩) 0 0) rfl hown.out a b o cap l rfl HT.out (by have := HN.out; omega) hAs.out ?_; intro v' w1 hown' hgrow; obtain ⟨p6, n6, c6, hsv, k33, f33, hg1, hg2, hg3, hg4⟩ := HG.out v' w1 hown' hgrow; subst hsv; have G1 := hidp hg1; have G2 := hidp hg2; have G3 := hidp hg3; have G4 := hidp hg4; have hl6 := hidp (cC_len (h := h) (sl := .slice p6 n6 c6) hpp.out); have ho6 := hidp (cC_one h p p6 n6 c6); clear hown' hgrow hg1 hg2 hg3 hg4)
    | (with_reducible refine (?_ : wpList _ _ _ _ _ _); refine wpList_load_blk rfl 63 _ rfl w.heap.size (cC h p (.slice p6 n6 c6)) 63 rfl G1.out _ Try.underlying63 rfl (by rw [hl6.out]; kernel_rfl) ?_)
    | (with_reducible refine (?_ : wpList _ _ _ _ _ _); refine wpList_store_blk rfl 63 _ _ rfl (w.heap.size + 1) (cC h p (.slice p6 n6 c6)) (cC 0 zh32 (.slice none 0 0)) 63 rfl rfl G2.out (by rw [hl6.out]; kernel_rfl) (by rw [hl6.out, hl0.out]) ho6.out ?_; intro w13 hw13; have F1 := hidp (show Blk w13 (w.heap.size + 1) (cC h p (.slice p6 n6 c6)) 63 ∧ Below w.heap.size w w13 ∧ OwnT w13 w.heap.size (.slice p6 n6 c6) l by rw [hw13.out]; exact ⟨G2.out.row, G4.out.trans (((But.refl (w.heap.size + 1) _).setRow _).below (by omega)), (G3.out.bex (g := w.heap.size + 1) (Bex.of_but ((But.refl (w.heap.size + 1) _).setRow _)) (by omega)).base (by omega)⟩))
  refine bodyPost_ret (v := .agg (cC h p (.slice p6 n6 c6)).toArray) ?_ rfl ⟨⟨.slice p6 n6 c6, rfl, F1.out.2.2⟩, F1.out.2.1⟩
  exact results_row0 Try.results36 _ _ (w.heap.size + 1) 63 _ _ rfl F1.out.1 Try.underlying63 rfl (by rw [hl6.out]; kernel_rfl)
set_option maxRecDepth 100000 in
set_option maxHeartbeats 8000000 in
theorem radd_any (h : Int) (p : List Nat) (hp : p.length = 32) (a : Option Addr) (b o cap : Nat) (l : List Vt) (v : Vt) (w : World) (hT : Ts w a b o cap l) (hl1 : l.length ≤ 1000) :
    Calls Try.prog 54 #[.agg (cC h p (.slice a l.length cap)).toArray, .agg #[.int .i64 v.a, .int .u64 (v.s : Nat)]] w (CRP w (addO h p l v)) := by
  have hz0 : ∀ w, (zeroValue 63).run Try.prog w = .ok (.agg (cC 0 zh32 (.slice none 0 0)).toArray) w := (zero_of_info (P := Try.prog) zero_com).1
  have hl := hidp (cC_len (h := h) (sl := .slice a l.length cap) hp)
  have hl0 := hidp (cC_len (h := 0) (sl := .slice none 0 0) (p := zh32) rfl)
  have ho0 := hidp (cC_one 0 zh32 none 0 0)
  have HB : Hid (AddB w (((w.alloc (.cells (cC h p (.slice a l.length cap)).toArray 63)).alloc (.cells #[.int .i64 v.a, .int .u64 (v.s : Nat)] 85)).alloc (.cells (cC 0 zh32 (.slice none 0 0)).toArray 63)) h p (.slice a l.length cap) v) := hidp
    ⟨((Blk.new w _ _).alloc _).alloc _, (Blk.new' _ (tL v) _ _ (by simp)).alloc _, Blk.new' _ _ _ _ (by simp), (((Below.refl _ w).alloc (Nat.le_refl _) _).alloc (by simp) _).alloc (by simp; omega) _⟩
  have HC := hidp (rcheck_any h p hp a b o cap l _ (hT.below HB.out.bel))
  have HOf := hidp (fun W (hW : Below w.heap.size w W) => rof_any h p hp a b o cap l v.a W (hT.below hW) hl1)
  have HLd := hidp (fun W (hW : Below w.heap.size w W) => laid_any a b o cap l v W (hT.below hW) hl1)
  obtain ⟨r, hr⟩ : ∃ r, r = addO h p l v := ⟨_, rfl⟩
  rw [← hr]
  replace hr := hidp hr
  have hpp := hidp hp
  clear hT hl1 hp
  go_enter Try.func54, Try.ntmps54
  go_wp2_with (with_reducible refine (?_ : wpList _ _ _ _ _ _); refine wpList_load_blk rfl 63 _ rfl w.heap.size (cC h p (.slice a l.length cap)) 63 rfl HB.out.kc _ Try.underlying63 rfl (by rw [hl.out]; kernel_rfl) ?_)
  refine HC.out.mono ?_
  rintro e w1 ⟨rfl, hb⟩
  have H1 := hidp (HB.out.below hb)
  clear hb HC HB
  have d0 : w1.cell? ⟨w.heap.size + 1, 0, none⟩ = some (.int .i64 v.a) := H1.out.kv.cell 0
  go_wp2_with (with_reducible refine (?_ : wpList _ _ _ _ _ _); refine wpList_load_blk rfl 63 _ rfl w.heap.size (cC h p (.slice a l.length cap)) 63 rfl H1.out.kc _ Try.underlying63 rfl (by rw [hl.out]; kernel_rfl) ?_)
  refine (HOf.out _ H1.out.bel).mono ?_
  rintro e w2 ⟨rfl, hb⟩
  have H3 := hidp (H1.out.below hb)
  clear hb HOf H1 d0
  rw [ofR_has]
  have d0 : w2.cell? ⟨w.heap.size + 1, 0, none⟩ = some (.int .i64 v.a) := H3.out.kv.cell 0
  by_cases hc : chkC h l = 0
  case neg =>
    have hbn : (((chkC h l : Nat) : Int) != 0) = true := by rw [bne_iff_ne]; omega
    have hR := hidp (show r = crE (chkC h l) by rw [hr.out]; unfold addO; rw [if_pos hc])
    clear hr
    go_wp2_with first
      | (with_reducible refine (?_ : wpList _ _ _ _ _ _); refine wpList_buildG (by kernel_rfl) 63 _ rfl (cC 0 zh32 (.slice none 0 0)).toArray (by kernel_rfl) ?_)
      | (with_reducible refine (?_ : wpList _ _ _ _ _ _); refine wpList_store_blk rfl 63 _ _ rfl (w.heap.size + 2) (cC 0 zh32 (.slice none 0 0)) (cC 0 zh32 (.slice none 0 0)) 63 rfl rfl H3.out.kr (by rw [hl0.out]; kernel_rfl) rfl ho0.out ?_; intro w13 hw13; have F1 := hidp (show Blk w13 (w.heap.size + 2) (cC 0 zh32 (.slice none 0 0)) 63 ∧ Below w.heap.size w w13 by rw [hw13.out]; exact ⟨H3.out.kr.row, H3.out.bel.trans (((But.refl (w.heap.size + 2) w2).setRow _).below (by omega))⟩))
    refine bodyPost_ret (v := .tuple #[.agg (cC 0 zh32 (.slice none 0 0)).toArray, .int .i64 ((chkC h l) : Nat)]) ?_ rfl ⟨.slice none 0 0, by rw [hR.out]; rfl, by rw [hR.out]; exact OwnT.nil _ _, F1.out.2⟩
    exact results_row1 Try.results54 _ _ (w.heap.size + 2) 63 _ _ _ rfl F1.out.1 Try.underlying63 rfl (by rw [hl0.out]; kernel_rfl) rfl
  rw [hc]
  cases hp1 : isP v.a
  · have hcc : decide (v.a < 0) = true ∨ (decide (v.a < 0) = false ∧ decide (64 ≤ v.a) = true) := by
      unfold isP at hp1
      rw [Bool.and_eq_false_iff, decide_eq_false_iff_not, decide_eq_false_iff_not] at hp1
      by_cases h1 : v.a < 0
      · exact .inl (decide_eq_true h1)
      · exact .inr ⟨decide_eq_false h1, decide_eq_true (by omega)⟩
    rcases hcc with t1 | ⟨t1, t2⟩
    all_goals
      have hR := hidp (show r = crE 3 by rw [hr.out]; unfold addO; rw [if_neg (by omega), if_pos hp1])
      clear hr
      go_wp2_with first
        | (with_reducible refine (?_ : wpList _ _ _ _ _ _); refine wpList_buildG (by kernel_rfl) 63 _ rfl (cC 0 zh32 (.slice none 0 0)).toArray (by kernel_rfl) ?_)
        | (with_reducible refine (?_ : wpList _ _ _ _ _ _); refine wpList_store_blk rfl 63 _ _ rfl (w.heap.size + 2) (cC 0 zh32 (.slice none 0 0)) (cC 0 zh32 (.slice none 0 0)) 63 rfl rfl H3.out.kr (by rw [hl0.out]; kernel_rfl) rfl ho0.out ?_; intro w13 hw13; have F1 := hidp (show Blk w13 (w.heap.size + 2) (cC 0 zh32 (.slice none 0 0)) 63 ∧ Below w.heap.size w w13 by rw [hw13.out]; exact ⟨H3.out.kr.row, H3.out.bel.trans (((But.refl (w.heap.size + 2) w2).setRow _).below (by omega))⟩))
      refine bodyPost_ret (v := .tuple #[.agg (cC 0 zh32 (.slice none 0 0)).toArray, .int .i64 (3 : Nat)]) ?_ rfl ⟨.slice none 0 0, by rw [hR.out]; rfl, by rw [hR.out]; exact OwnT.nil _ _, F1.out.2⟩
      exact results_row1 Try.results54 _ _ (w.heap.size + 2) 63 _ _ _ rfl F1.out.1 Try.underlying63 rfl (by rw [hl0.out]; kernel_rfl) rfl
  have tt : decide (v.a < 0) = false ∧ decide (64 ≤ v.a) = false := by
    unfold isP at hp1
    rw [Bool.and_eq_true, decide_eq_true_eq, decide_eq_true_eq] at hp1
    exact ⟨decide_eq_false (by omega), decide_eq_false (by omega)⟩
  obtain ⟨t1, t2⟩ := tt
  cases hh : hasT l v.a
  case true =>
    have hR := hidp (show r = crE 8 by rw [hr.out]; unfold addO; rw [if_neg (by omega), if_neg (by rw [hp1]; decide), if_pos hh])
    clear hr
    go_wp2_with first
      | (with_reducible refine (?_ : wpList _ _ _ _ _ _); refine wpList_buildG (by kernel_rfl) 63 _ rfl (cC 0 zh32 (.slice none 0 0)).toArray (by kernel_rfl) ?_)
      | (with_reducible refine (?_ : wpList _ _ _ _ _ _); refine wpList_store_blk rfl 63 _ _ rfl (w.heap.size + 2) (cC 0 zh32 (.slice none 0 0)) (cC 0 zh32 (.slice none 0 0)) 63 rfl rfl H3.out.kr (by rw [hl0.out]; kernel_rfl) rfl ho0.out ?_; intro w13 hw13; have F1 := hidp (show Blk w13 (w.heap.size + 2) (cC 0 zh32 (.slice none 0 0)) 63 ∧ Below w.heap.size w w13 by rw [hw13.out]; exact ⟨H3.out.kr.row, H3.out.bel.trans (((But.refl (w.heap.size + 2) w2).setRow _).below (by omega))⟩))
    refine bodyPost_ret (v := .tuple #[.agg (cC 0 zh32 (.slice none 0 0)).toArray, .int .i64 (8 : Nat)]) ?_ rfl ⟨.slice none 0 0, by rw [hR.out]; rfl, by rw [hR.out]; exact OwnT.nil _ _, F1.out.2⟩
    exact results_row1 Try.results54 _ _ (w.heap.size + 2) 63 _ _ _ rfl F1.out.1 Try.underlying63 rfl (by rw [hl0.out]; kernel_rfl) rfl
  have hR := hidp (show r = ⟨h, p, laidL l v, 0⟩ by
    rw [hr.out]; unfold addO; rw [if_neg (by omega), if_neg (by rw [hp1]; decide), if_neg (by rw [hh]; decide), laidL_ins (fun u hu e => by unfold hasT at hh; rw [List.any_eq_false] at hh; exact hh u hu (by simpa using e))])
  clear hr hh hp1 hc
  go_wp2_with fail
  have hT := hidp H3.out.drew
  refine wp_region_held_drew (S := (fun W => Blk W w.heap.size (cC h p (.slice a l.length cap)) 63 ∧ Blk W (w.heap.size + 1) (tL v) 85)) (by kernel_rfl) ⟨hT.out.kc, hT.out.kv⟩ (fun hHeld => ?_)
  try simp only [Act.put, List.setIfInBounds_toArray, List.set_cons_zero, List.set_cons_succ]
  refine wpAnyH_takeTo2 (i := 0) (oi := _) (v := ?_) (some 36) rfl rfl (by kernel_rfl) (by kernel_rfl) (by kernel_rfl) (fun _ _ _ h => h) (Or.inl ⟨by rfl, ?_⟩) hHeld ?_
  rotate_left
  · intro w hSw
    go_simp
    try with_reducible rfl
  try simp only [Act.put, List.setIfInBounds_toArray, List.set_cons_zero, List.set_cons_succ]
  refine wpAnyH_takeTo2 (i := 1) (oi := _) (v := ?_) (some 37) rfl rfl (by kernel_rfl) (by kernel_rfl) (by kernel_rfl) (fun _ _ _ h => h) (Or.inl ⟨by rfl, ?_⟩) hHeld ?_
  rotate_left
  · intro w hSw
    have q := hSw.1.cell 0
    rw [cC_0] at q
    go_simp
    try with_reducible rfl
  try simp only [Act.put, List.setIfInBounds_toArray, List.set_cons_zero, List.set_cons_succ]
  refine wpAnyH_takeTo2 (i := 2) (oi := _) (v := ?_) (some 38) rfl rfl (by kernel_rfl) (by kernel_rfl) (by kernel_rfl) (fun _ _ _ h => h) (Or.inl ⟨by rfl, ?_⟩) hHeld ?_
  rotate_left
  · intro w hSw
    go_simp
    try with_reducible rfl
  try simp only [Act.put, List.setIfInBounds_toArray, List.set_cons_zero, List.set_cons_succ]
  refine wpAnyH_takeTo2 (i := 3) (oi := _) (v := .agg (bvs p).toArray) (some 39) rfl rfl (by kernel_rfl) (by kernel_rfl) (by kernel_rfl) (fun _ _ _ h => h) (yieldsIf_load_mid (by rfl) 34 _ rfl w.heap.size 1 rfl (bvs p) _ (fun w' hw' j v hj => (hw'.1.cell _).trans (cC_p j v hj)) Try.underlying34 rfl (by rw [bvs_len, hpp.out]; kernel_rfl)) hHeld ?_
  try simp only [Act.put, List.setIfInBounds_toArray, List.set_cons_zero, List.set_cons_succ]
  refine wpAnyH_takeTo2 (i := 4) (oi := _) (v := ?_) (some 40) rfl rfl (by kernel_rfl) (by kernel_rfl) (by kernel_rfl) (fun _ _ _ h => h) (Or.inl ⟨by rfl, ?_⟩) hHeld ?_
  rotate_left
  · intro w hSw
    go_simp
    try with_reducible rfl
  try simp only [Act.put, List.setIfInBounds_toArray, List.set_cons_zero, List.set_cons_succ]
  refine wpAnyH_takeTo2 (i := 5) (oi := _) (v := ?_) (some 41) rfl rfl (by kernel_rfl) (by kernel_rfl) (by kernel_rfl) (fun _ _ _ h => h) (Or.inl ⟨by rfl, ?_⟩) hHeld ?_
  rotate_left
  · intro w hSw
    have q := (hSw.1.cell 33).trans (cC_33 hpp.out)
    go_simp
    try with_reducible rfl
  try simp only [Act.put, List.setIfInBounds_toArray, List.set_cons_zero, List.set_cons_succ]
  refine wpAnyH_takeTo2 (i := 6) (oi := _) (v := .agg #[.int .i64 v.a, .int .u64 (v.s : Nat)]) (some 42) rfl rfl (by kernel_rfl) (by kernel_rfl) (by kernel_rfl) (fun _ _ _ h => h) (yieldsIf_load_mid (by rfl) 85 _ rfl (w.heap.size + 1) 0 rfl [.int .i64 v.a, .int .u64 (v.s : Nat)] _ (fun w' hw' j v hj => by rw [Nat.zero_add]; exact (hw'.2.cell j).trans hj) Try.underlying85 rfl (by kernel_rfl)) hHeld ?_
  try simp only [Act.put, List.setIfInBounds_toArray, List.set_cons_zero, List.set_cons_succ]
  refine wpAnyH_ready (rs := [7]) (by kernel_rfl) (by simp) ?_
  refine AllReadyH.cons (o := _) rfl (fun K hK => ?_) AllReadyH.nil
  go_simp
  refine (HLd.out _ hT.out.bel).mono ?_
  rintro e w4 ⟨sv, rfl, ho, hb⟩
  replace hT := hidp (hT.out.below hb)
  obtain ⟨p5, n5, c5, hsv⟩ := ho.sl
  subst hsv
  have hO := hidp ho
  have hlt2 := hidp (show w.heap.size + 2 < w2.drew.heap.size by have := H3.out.drew.lt; exact this)
  clear ho hb
  go_wp2_with fail
  refine hK.out _ _ ⟨hT.out.kc, hT.out.kv⟩ (fun hHeld' => ?_)
  clear hK K hHeld
  have hHeld := hHeld'
  clear hHeld'
  try simp only [Act.put, List.setIfInBounds_toArray, List.set_cons_zero, List.set_cons_succ]
  have hBc := hidp (built_com h p p5 n5 c5 hpp.out)
  have hl6 := hidp (cC_len (h := h) (sl := .slice p5 n5 c5) hpp.out)
  have ho6 := hidp (cC_one h p p5 n5 c5)
  refine wpAnyH_takeTo2 (i := 8) (oi := _) (v := .agg (cC h p (.slice p5 n5 c5)).toArray) (some 44) rfl rfl (by kernel_rfl) (by kernel_rfl) (by kernel_rfl) (fun _ _ _ h => h) (yieldsIf_build (by rfl) 63 _ rfl (cC h p (.slice p5 n5 c5)).toArray (by rw [← hBc.out]; kernel_rfl)) hHeld ?_
  try simp only [Act.put, List.setIfInBounds_toArray, List.set_cons_zero, List.set_cons_succ]
  refine wpAnyH_ready (rs := [9]) (by kernel_rfl) (by simp) ?_
  refine AllReadyH.cons (o := _) rfl (fun K hK => ?_) AllReadyH.nil
  refine if_intro (by rfl) ?_
  refine wp_store_row 63 _ _ rfl (w.heap.size + 2) (cC h p (.slice p5 n5 c5)).toArray rfl rfl 63 (cC 0 zh32 (.slice none 0 0)).toArray hT.out.kr (by rw [List.size_toArray, hl6.out]; kernel_rfl) (by simp [hl0.out, hl6.out]) ho6.out ?_
  obtain ⟨w13, hw13⟩ : ∃ W, W = w4.setRow (w.heap.size + 2) (cC h p (.slice p5 n5 c5)).toArray := ⟨_, rfl⟩
  have F1 := hidp (show Blk w13 (w.heap.size + 2) (cC h p (.slice p5 n5 c5)) 63 ∧ Below w.heap.size w w13 ∧ OwnT w13 w.heap.size (.slice p5 n5 c5) (laidL l v) by rw [hw13]; exact ⟨hT.out.kr.row, hT.out.bel.trans (((But.refl (w.heap.size + 2) w4).setRow _).below (by omega)), (hO.out.bex (g := w.heap.size + 2) (Bex.of_but ((But.refl (w.heap.size + 2) w4).setRow _)) hlt2.out).base (by have := hlt2.out; omega)⟩)
  have F2 := hidp (show Blk w13 w.heap.size (cC h p (.slice a l.length cap)) 63 ∧ Blk w13 (w.heap.size + 1) (tL v) 85 by rw [hw13]; exact ⟨((But.refl (w.heap.size + 2) w4).setRow _).blk hT.out.kc (by omega), ((But.refl (w.heap.size + 2) w4).setRow _).blk hT.out.kv (by omega)⟩)
  rw [← hw13]
  clear hw13
  refine hK.out _ _ F2.out (fun hHeld' => ?_)
  clear hK K hHeld
  have hHeld := hHeld'
  clear hHeld'
  try simp only [Act.put, List.setIfInBounds_toArray, List.set_cons_zero, List.set_cons_succ]
  refine wpAnyH_takeTo2 (i := 10) (oi := _) (v := ?_) (some 5) rfl rfl (by kernel_rfl) (by kernel_rfl) (by kernel_rfl) (fun _ _ _ h => h) (Or.inl ⟨by rfl, ?_⟩) hHeld ?_
  rotate_left
  · intro w hSw
    go_simp
    try with_reducible rfl
  try simp only [Act.put, List.setIfInBounds_toArray, List.set_cons_zero, List.set_cons_succ]
  refine wpAnyH_done (by kernel_rfl) ?_ _
  go_wp2
  refine bodyPost_ret (v := .tuple #[.agg (cC h p (.slice p5 n5 c5)).toArray, .int .i64 0]) ?_ rfl ⟨.slice p5 n5 c5, by rw [hR.out]; rfl, by rw [hR.out]; exact F1.out.2.2, F1.out.2.1⟩
  exact results_row1 Try.results54 _ _ (w.heap.size + 2) 63 _ _ _ rfl F1.out.1 Try.underlying63 rfl (by rw [hl6.out]; kernel_rfl) rfl
end Go.Proofs.Ytlcflcohlbckfaa
