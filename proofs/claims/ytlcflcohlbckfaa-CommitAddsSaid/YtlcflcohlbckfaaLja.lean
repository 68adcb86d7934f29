/-
  Commit: the answer's Join.
-/
import Derived.Test.YtlcflcohlbckfaaL7z
import Derived.Test.YtlcflcohlbckfaaL7h
namespace Go.Proofs.Ytlcflcohlbckfaa
open Go.RowKit Go.Lib
set_option linter.unusedSimpArgs false

theorem OwnT.bexJ {w w' : World} {base g : Nat} {v : Value} {l : List Vt} (h : OwnT w base v l) (hB : Bex g w w') (hne : ∀ k, v.ownBlock = some k → k ≠ g) : OwnT w' base v l := by
  refine ⟨h.1, ?_⟩
  rcases h.2 with h2 | ⟨k, cap, cur, h1, h2, h3, r⟩
  · exact .inl h2
  · exact .inr ⟨k, cap, cur, h1, h2, (hB.block k (Array.getElem?_eq_some_iff.1 h3).1 (hne k (by rw [h1]; rfl))).trans h3, r⟩
theorem JoB.bex {w W W' : World} {B : Nat} {X Y : List Value} (H : JoB w W X Y) (hx : Bex B W W') (hB : w.heap.size + 3 ≤ B) : JoB w W' X Y :=
  ⟨hx.blk H.k1 (by omega), hx.blk H.k2 (by omega), hx.blk H.kr (by omega), H.bel.trans (hx.below (by omega) H.bel.size)⟩
theorem range2 {W : World} {b o : Nat} {x y : Value} (h0 : W.cell? ⟨b, o, none⟩ = some x) (h1 : W.cell? ⟨b, o + 1, none⟩ = some y) : W.rangeAt b o [x, y] := fun j v hj => by
  match j, hj with
  | 0, hj => cases hj; exact h0
  | 1, hj => cases hj; exact h1
/-- Join under way: what it is handed, the commit that it makes in its box B. -/
structure JnI (w W : World) (B : Nat) (X Y : List Value) (h1 : Int) (p1 : List Nat) (sv : Value) (all : List Vt) : Prop where
  jb : JoB w W X Y
  kc : Blk W B (cC h1 p1 sv) 63
  own : OwnT W (w.heap.size + 3) sv all
  hne : ∀ k, sv.ownBlock = some k → k ≠ B
  hB : w.heap.size + 3 ≤ B
section
variable {w W W' : World} {B : Nat} {X Y : List Value} {h1 : Int} {p1 : List Nat} {sv sv' : Value} {all all' : List Vt}
theorem JnI.below (H : JnI w W B X Y h1 p1 sv all) (h : Below W.heap.size W W') : JnI w W' B X Y h1 p1 sv all := ⟨H.jb.below h, h.blk' H.kc, H.own.below h, H.hne, H.hB⟩
theorem JnI.set (H : JnI w W B X Y h1 p1 sv all) (hp : p1.length = 32) {K : Nat} (ho : OwnT W K sv' all') (hK : B < K) : JnI w (W.setCell ⟨B, 33, none⟩ sv') B X Y h1 p1 sv' all' := by
  have hx : Bex B W (W.setCell ⟨B, 33, none⟩ sv') := (Bex.refl B W).setCell 33 sv'
  exact ⟨H.jb.bex hx H.hB, cC_set (s2 := sv') hp ▸ H.kc.set 33 sv', (ho.bex hx hK).base (by have := H.hB; omega), fun k hk => by have := (ho.lt hk).1; omega, H.hB⟩
end
set_option maxRecDepth 100000 in
set_option maxHeartbeats 16000000 in
theorem rjoin_any (h1 : Int) (p1 : List Nat) (hp1 : p1.length = 32) (a1 : Option Addr) (b1 o1 c1 : Nat) (l1 : List Vt) (h2 : Int) (p2 : List Nat) (hp2 : p2.length = 32) (a2 : Option Addr) (b2 o2 c2 : Nat) (l2 : List Vt) (w : World) (hT1 : Ts w a1 b1 o1 c1 l1) (hT2 : Ts w a2 b2 o2 c2 l2) (hn1 : l1.length ≤ 400) (hn2 : l2.length ≤ 400) :
    Calls Try.prog 56 #[.agg (cC h1 p1 (.slice a1 l1.length c1)).toArray, .agg (cC h2 p2 (.slice a2 l2.length c2)).toArray] w (CRP w (joinO h1 p1 l1 h2 p2 l2)) := by
  have hz0 : ∀ w, (zeroValue 63).run Try.prog w = .ok (.agg (cC 0 zh32 (.slice none 0 0)).toArray) w := (zero_of_info (P := Try.prog) zero_com).1
  have hl1 := hidp (cC_len (h := h1) (sl := .slice a1 l1.length c1) hp1)
  have hl2 := hidp (cC_len (h := h2) (sl := .slice a2 l2.length c2) hp2)
  have hl0 := hidp (cC_len (h := 0) (sl := .slice none 0 0) (p := zh32) rfl)
  have ho0 := hidp (cC_one 0 zh32 none 0 0)
  have HB : Hid (JoB w (((w.alloc (.cells (cC h1 p1 (.slice a1 l1.length c1)).toArray 63)).alloc (.cells (cC h2 p2 (.slice a2 l2.length c2)).toArray 63)).alloc (.cells (cC 0 zh32 (.slice none 0 0)).toArray 63)) (cC h1 p1 (.slice a1 l1.length c1)) (cC h2 p2 (.slice a2 l2.length c2))) := hidp
    ⟨((Blk.new w _ _).alloc _).alloc _, (Blk.new' _ (cC h2 p2 (.slice a2 l2.length c2)) _ _ (by simp)).alloc _, Blk.new' _ _ _ _ (by simp), (((Below.refl _ w).alloc (Nat.le_refl _) _).alloc (by simp) _).alloc (by simp; omega) _⟩
  have HT1 := hidp hT1
  have HT2 := hidp hT2
  have hpp := hidp (And.intro hp1 hp2)
  have hnn := hidp (And.intro hn1 hn2)
  have HC1 := hidp (fun W (hW : Below w.heap.size w W) => rcheck_any h1 p1 hp1 a1 b1 o1 c1 l1 W (hT1.below hW))
  have HC2 := hidp (fun W (hW : Below w.heap.size w W) => rcheck_any h2 p2 hp2 a2 b2 o2 c2 l2 W (hT2.below hW))
  obtain ⟨r, hr⟩ : ∃ r, r = joinO h1 p1 l1 h2 p2 l2 := ⟨_, rfl⟩
  rw [← hr]
  replace hr := hidp hr
  clear hT1 hT2 hp1 hp2 hn1 hn2
  go_enter Try.func56, Try.ntmps56
  go_wp2_with fail
  have hT := hidp (HB.out.below (Below.refl _ _).drew)
  refine wp_region_held_drew (S := fun W => JoB w W (cC h1 p1 (.slice a1 l1.length c1)) (cC h2 p2 (.slice a2 l2.length c2))) (by kernel_rfl) hT.out (fun hHeld => ?_)
  try simp only [Act.put, List.setIfInBounds_toArray, List.set_cons_zero, List.set_cons_succ]
  refine wpAnyH_takeTo2 (i := 0) (oi := _) (v := .agg (cC h1 p1 (.slice a1 l1.length c1)).toArray) (some 12) rfl rfl (by kernel_rfl) (by kernel_rfl) (by kernel_rfl) (fun _ _ _ h => h) (yieldsIf_load_mid (by rfl) 63 _ rfl (w.heap.size) 0 rfl (cC h1 p1 (.slice a1 l1.length c1)) _ (fun w' hw' j v hj => by rw [Nat.zero_add]; exact ((hw'.k1).cell j).trans hj) Try.underlying63 rfl (by rw [hl1.out]; kernel_rfl)) hHeld ?_
  try simp only [Act.put, List.setIfInBounds_toArray, List.set_cons_zero, List.set_cons_succ]
  refine wpAnyH_takeTo2 (i := 2) (oi := _) (v := .agg (cC h2 p2 (.slice a2 l2.length c2)).toArray) (some 14) rfl rfl (by kernel_rfl) (by kernel_rfl) (by kernel_rfl) (fun _ _ _ h => h) (yieldsIf_load_mid (by rfl) 63 _ rfl (w.heap.size + 1) 0 rfl (cC h2 p2 (.slice a2 l2.length c2)) _ (fun w' hw' j v hj => by rw [Nat.zero_add]; exact ((hw'.k2).cell j).trans hj) Try.underlying63 rfl (by rw [hl2.out]; kernel_rfl)) hHeld ?_
  try simp only [Act.put, List.setIfInBounds_toArray, List.set_cons_zero, List.set_cons_succ]
  refine wpAnyH_ready (rs := [1]) (by kernel_rfl) (by simp) ?_
  refine AllReadyH.cons (o := _) rfl (fun K hK => ?_) AllReadyH.nil
  go_simp
  refine (HC1.out _ hT.out.bel).mono ?_
  rintro e w1 ⟨rfl, hb⟩
  replace hT := hidp (hT.out.below hb)
  clear hb
  go_wp2_with fail
  refine hK.out _ _ (hT.out) (fun hHeld' => ?_)
  clear hK K hHeld
  have hHeld := hHeld'
  clear hHeld'
  try simp only [Act.put, List.setIfInBounds_toArray, List.set_cons_zero, List.set_cons_succ]
  refine wpAnyH_ready (rs := [3]) (by kernel_rfl) (by simp) ?_
  refine AllReadyH.cons (o := _) rfl (fun K hK => ?_) AllReadyH.nil
  go_simp
  refine (HC2.out _ hT.out.bel).mono ?_
  rintro e w2 ⟨rfl, hb⟩
  replace hT := hidp (hT.out.below hb)
  clear hb
  go_wp2_with fail
  refine hK.out _ _ (hT.out) (fun hHeld' => ?_)
  clear hK K hHeld
  have hHeld := hHeld'
  clear hHeld'
  try simp only [Act.put, List.setIfInBounds_toArray, List.set_cons_zero, List.set_cons_succ]
  refine wpAnyH_takeTo2 (i := 4) (oi := _) (v := ?_) (some 6) rfl rfl (by kernel_rfl) (by kernel_rfl) (by kernel_rfl) (fun _ _ _ h => h) (Or.inl ⟨by rfl, ?_⟩) hHeld ?_
  rotate_left
  · intro w hSw
    go_simp
    try with_reducible rfl
  try simp only [Act.put, List.setIfInBounds_toArray, List.set_cons_zero, List.set_cons_succ]
  refine wpAnyH_takeTo2 (i := 5) (oi := _) (v := ?_) (some 7) rfl rfl (by kernel_rfl) (by kernel_rfl) (by kernel_rfl) (fun _ _ _ h => h) (Or.inl ⟨by rfl, ?_⟩) hHeld ?_
  rotate_left
  · intro w hSw
    go_simp
    try with_reducible rfl
  try simp only [Act.put, List.setIfInBounds_toArray, List.set_cons_zero, List.set_cons_succ]
  refine wpAnyH_done (by kernel_rfl) ?_ _
  clear hHeld HC1 HC2 HB
  by_cases hc1 : chkC h1 l1 = 0
  case neg =>
    have hbn : (((chkC h1 l1 : Nat) : Int) != 0) = true := by rw [bne_iff_ne]; omega
    have hR := hidp (show r = crE (chkC h1 l1) by rw [hr.out]; unfold joinO; rw [if_pos hc1])
    clear hr
    go_wp2_with first
      | (with_reducible refine (?_ : wpList _ _ _ _ _ _); refine wpList_load_midD 34 rfl (by kernel_rfl) 34 _ rfl w.heap.size 1 rfl (bvs p1) _ (rangeAt_p hT.out.k1) Try.underlying34 rfl (by rw [bvs_len, hpp.out.1]; kernel_rfl) ?_)
      | (with_reducible refine (?_ : wpList _ _ _ _ _ _); refine wpList_load_midD 36 rfl (by kernel_rfl) 34 _ rfl (w.heap.size + 1) 1 rfl (bvs p2) _ (rangeAt_p hT.out.k2) Try.underlying34 rfl (by rw [bvs_len, hpp.out.2]; kernel_rfl) ?_)
      | (with_reducible refine (?_ : wpList _ _ _ _ _ _); refine wpList_buildG (by kernel_rfl) 63 _ rfl (cC 0 zh32 (.slice none 0 0)).toArray (by kernel_rfl) ?_)
      | (with_reducible refine (?_ : wpList _ _ _ _ _ _); refine wpList_store_blk rfl 63 _ _ rfl (w.heap.size + 2) (cC 0 zh32 (.slice none 0 0)) (cC 0 zh32 (.slice none 0 0)) 63 rfl rfl hT.out.kr (by rw [hl0.out]; kernel_rfl) rfl ho0.out ?_; intro w13 hw13; have F1 := hidp (show Blk w13 (w.heap.size + 2) (cC 0 zh32 (.slice none 0 0)) 63 ∧ Below w.heap.size w w13 by rw [hw13.out]; exact ⟨hT.out.kr.row, hT.out.bel.trans (((But.refl (w.heap.size + 2) w2).setRow _).below (by omega))⟩))
    refine bodyPost_ret (v := .tuple #[.agg (cC 0 zh32 (.slice none 0 0)).toArray, .int .i64 ((chkC h1 l1) : Nat)]) ?_ rfl ⟨.slice none 0 0, by rw [hR.out]; rfl, by rw [hR.out]; exact OwnT.nil _ _, F1.out.2⟩
    exact results_row1 Try.results56 _ _ (w.heap.size + 2) 63 _ _ _ rfl F1.out.1 Try.underlying63 rfl (by rw [hl0.out]; kernel_rfl) rfl
  rw [hc1]
  by_cases hc2 : chkC h2 l2 = 0
  case neg =>
    have hbn : (((chkC h2 l2 : Nat) : Int) != 0) = true := by rw [bne_iff_ne]; omega
    have hR := hidp (show r = crE (chkC h2 l2) by rw [hr.out]; unfold joinO; rw [if_neg (by omega), if_pos hc2])
    clear hr
    go_wp2_with first
      | (with_reducible refine (?_ : wpList _ _ _ _ _ _); refine wpList_load_midD 34 rfl (by kernel_rfl) 34 _ rfl w.heap.size 1 rfl (bvs p1) _ (rangeAt_p hT.out.k1) Try.underlying34 rfl (by rw [bvs_len, hpp.out.1]; kernel_rfl) ?_)
      | (with_reducible refine (?_ : wpList _ _ _ _ _ _); refine wpList_load_midD 36 rfl (by kernel_rfl) 34 _ rfl (w.heap.size + 1) 1 rfl (bvs p2) _ (rangeAt_p hT.out.k2) Try.underlying34 rfl (by rw [bvs_len, hpp.out.2]; kernel_rfl) ?_)
      | (with_reducible refine (?_ : wpList _ _ _ _ _ _); refine wpList_buildG (by kernel_rfl) 63 _ rfl (cC 0 zh32 (.slice none 0 0)).toArray (by kernel_rfl) ?_)
      | (with_reducible refine (?_ : wpList _ _ _ _ _ _); refine wpList_store_blk rfl 63 _ _ rfl (w.heap.size + 2) (cC 0 zh32 (.slice none 0 0)) (cC 0 zh32 (.slice none 0 0)) 63 rfl rfl hT.out.kr (by rw [hl0.out]; kernel_rfl) rfl ho0.out ?_; intro w13 hw13; have F1 := hidp (show Blk w13 (w.heap.size + 2) (cC 0 zh32 (.slice none 0 0)) 63 ∧ Below w.heap.size w w13 by rw [hw13.out]; exact ⟨hT.out.kr.row, hT.out.bel.trans (((But.refl (w.heap.size + 2) w2).setRow _).below (by omega))⟩))
    refine bodyPost_ret (v := .tuple #[.agg (cC 0 zh32 (.slice none 0 0)).toArray, .int .i64 ((chkC h2 l2) : Nat)]) ?_ rfl ⟨.slice none 0 0, by rw [hR.out]; rfl, by rw [hR.out]; exact OwnT.nil _ _, F1.out.2⟩
    exact results_row1 Try.results56 _ _ (w.heap.size + 2) 63 _ _ _ rfl F1.out.1 Try.underlying63 rfl (by rw [hl0.out]; kernel_rfl) rfl
  rw [hc2]
  have d1 : w2.cell? ⟨w.heap.size, 0, none⟩ = some (.int .i64 h1) := hT.out.k1.cell 0
  have d2 : w2.cell? ⟨w.heap.size + 1, 0, none⟩ = some (.int .i64 h2) := hT.out.k2.cell 0
  have nq := fun w => run_neq_hash p1 p2 hpp.out.1 hpp.out.2 w
  have gh := guard_hash
  by_cases hh : h1 = h2
  case neg =>
    have hbn : (h1 != h2) = true := by rw [bne_iff_ne]; exact hh
    have hR := hidp (show r = crE 9 by rw [hr.out]; unfold joinO; rw [if_neg (by omega), if_neg (by omega), if_pos (.inl hh)])
    clear hr
    go_wp2_with first
      | (with_reducible refine (?_ : wpList _ _ _ _ _ _); refine wpList_load_midD 34 rfl (by kernel_rfl) 34 _ rfl w.heap.size 1 rfl (bvs p1) _ (rangeAt_p hT.out.k1) Try.underlying34 rfl (by rw [bvs_len, hpp.out.1]; kernel_rfl) ?_)
      | (with_reducible refine (?_ : wpList _ _ _ _ _ _); refine wpList_load_midD 36 rfl (by kernel_rfl) 34 _ rfl (w.heap.size + 1) 1 rfl (bvs p2) _ (rangeAt_p hT.out.k2) Try.underlying34 rfl (by rw [bvs_len, hpp.out.2]; kernel_rfl) ?_)
      | (with_reducible refine (?_ : wpList _ _ _ _ _ _); refine wpList_buildG (by kernel_rfl) 63 _ rfl (cC 0 zh32 (.slice none 0 0)).toArray (by kernel_rfl) ?_)
      | (with_reducible refine (?_ : wpList _ _ _ _ _ _); refine wpList_store_blk rfl 63 _ _ rfl (w.heap.size + 2) (cC 0 zh32 (.slice none 0 0)) (cC 0 zh32 (.slice none 0 0)) 63 rfl rfl hT.out.kr (by rw [hl0.out]; kernel_rfl) rfl ho0.out ?_; intro w13 hw13; have F1 := hidp (show Blk w13 (w.heap.size + 2) (cC 0 zh32 (.slice none 0 0)) 63 ∧ Below w.heap.size w w13 by rw [hw13.out]; exact ⟨hT.out.kr.row, hT.out.bel.trans (((But.refl (w.heap.size + 2) w2).setRow _).below (by omega))⟩))
    refine bodyPost_ret (v := .tuple #[.agg (cC 0 zh32 (.slice none 0 0)).toArray, .int .i64 (9 : Nat)]) ?_ rfl ⟨.slice none 0 0, by rw [hR.out]; rfl, by rw [hR.out]; exact OwnT.nil _ _, F1.out.2⟩
    exact results_row1 Try.results56 _ _ (w.heap.size + 2) 63 _ _ _ rfl F1.out.1 Try.underlying63 rfl (by rw [hl0.out]; kernel_rfl) rfl
  have hbn : (h1 != h2) = false := by simp [hh]
  replace hh := hidp hh
  by_cases hpq : p1 = p2
  case neg =>
    have hpn : decide (p1 = p2) = false := decide_eq_false hpq
    have hR := hidp (show r = crE 9 by rw [hr.out]; unfold joinO; rw [if_neg (by omega), if_neg (by omega), if_pos (.inr hpq)])
    clear hr
    go_wp2_with first
      | (with_reducible refine (?_ : wpList _ _ _ _ _ _); refine wpList_load_midD 34 rfl (by kernel_rfl) 34 _ rfl w.heap.size 1 rfl (bvs p1) _ (rangeAt_p hT.out.k1) Try.underlying34 rfl (by rw [bvs_len, hpp.out.1]; kernel_rfl) ?_)
      | (with_reducible refine (?_ : wpList _ _ _ _ _ _); refine wpList_load_midD 36 rfl (by kernel_rfl) 34 _ rfl (w.heap.size + 1) 1 rfl (bvs p2) _ (rangeAt_p hT.out.k2) Try.underlying34 rfl (by rw [bvs_len, hpp.out.2]; kernel_rfl) ?_)
      | (with_reducible refine (?_ : wpList _ _ _ _ _ _); refine wpList_buildG (by kernel_rfl) 63 _ rfl (cC 0 zh32 (.slice none 0 0)).toArray (by kernel_rfl) ?_)
      | (with_reducible refine (?_ : wpList _ _ _ _ _ _); refine wpList_store_blk rfl 63 _ _ rfl (w.heap.size + 2) (cC 0 zh32 (.slice none 0 0)) (cC 0 zh32 (.slice none 0 0)) 63 rfl rfl hT.out.kr (by rw [hl0.out]; kernel_rfl) rfl ho0.out ?_; intro w13 hw13; have F1 := hidp (show Blk w13 (w.heap.size + 2) (cC 0 zh32 (.slice none 0 0)) 63 ∧ Below w.heap.size w w13 by rw [hw13.out]; exact ⟨hT.out.kr.row, hT.out.bel.trans (((But.refl (w.heap.size + 2) w2).setRow _).below (by omega))⟩))
    refine bodyPost_ret (v := .tuple #[.agg (cC 0 zh32 (.slice none 0 0)).toArray, .int .i64 (9 : Nat)]) ?_ rfl ⟨.slice none 0 0, by rw [hR.out]; rfl, by rw [hR.out]; exact OwnT.nil _ _, F1.out.2⟩
    exact results_row1 Try.results56 _ _ (w.heap.size + 2) 63 _ _ _ rfl F1.out.1 Try.underlying63 rfl (by rw [hl0.out]; kernel_rfl) rfl
  have hpn : decide (p1 = p2) = true := decide_eq_true hpq
  replace hpq := hidp hpq
  have hO1 := hidp (chkC_ok hc1)
  have hO2 := hidp (chkC_ok hc2)
  have HCp := hidp (ccopy_any h1 p1 hpp.out.1 a1 b1 o1 c1 l1 w2 (HT1.out.below hT.out.bel) (by have := hnn.out; omega))
  go_wp2_with first
    | (with_reducible refine (?_ : wpList _ _ _ _ _ _); refine wpList_load_midD 34 rfl (by kernel_rfl) 34 _ rfl w.heap.size 1 rfl (bvs p1) _ (rangeAt_p hT.out.k1) Try.underlying34 rfl (by rw [bvs_len, hpp.out.1]; kernel_rfl) ?_)
    | (with_reducible refine (?_ : wpList _ _ _ _ _ _); refine wpList_load_midD 36 rfl (by kernel_rfl) 34 _ rfl (w.heap.size + 1) 1 rfl (bvs p2) _ (rangeAt_p hT.out.k2) Try.underlying34 rfl (by rw [bvs_len, hpp.out.2]; kernel_rfl) ?_)
    | (with_reducible refine (?_ : wpList _ _ _ _ _ _); refine wpList_load_blk rfl 63 _ rfl w.heap.size (cC h1 p1 (.slice a1 l1.length c1)) 63 rfl hT.out.k1 _ Try.underlying63 rfl (by rw [hl1.out]; kernel_rfl) ?_)
  refine HCp.out.mono ?_
  rintro e w5 ⟨⟨sv, rfl, ho⟩, hb⟩
  obtain ⟨p5, n5, c5, hsv⟩ := ho.sl
  subst hsv
  have hW := hidp (And.intro hT.out.kr.lt (fun k hk => (ho.lt (k := k) hk)))
  have H5 := hidp (hT.out.below hb)
  have O5 := hidp (show OwnT w5 (w.heap.size + 3) (.slice p5 n5 c5) l1 from ho.base hT.out.kr.lt)
  have hlB := hidp (show w.heap.size + 3 ≤ w5.heap.size from Nat.le_trans hT.out.kr.lt hb.size)
  clear ho hb HCp d1 d2 nq gh hbn hpn
  have hl5 := hidp (cC_len (h := h1) (sl := .slice p5 n5 c5) hpp.out.1)
  have ho5 := hidp (cC_one h1 p1 p5 n5 c5)
  have HZ := hidp (Blk.new w5 (cC 0 zh32 (.slice none 0 0)) 63)
  go_wp2_with (with_reducible refine (?_ : wpList _ _ _ _ _ _); refine wpList_store_blk rfl 63 _ _ rfl w5.heap.size (cC h1 p1 (.slice p5 n5 c5)) (cC 0 zh32 (.slice none 0 0)) 63 rfl rfl HZ.out (by rw [hl5.out]; kernel_rfl) (by rw [hl5.out, hl0.out]) ho5.out ?_; intro w6 hw6; have hN6 := hidp (new_row hw6.out rfl))
  have J0 := hidp (show JnI w w6 w5.heap.size (cC h1 p1 (.slice a1 l1.length c1)) (cC h2 p2 (.slice a2 l2.length c2)) h1 p1 (.slice p5 n5 c5) l1 from ⟨H5.out.below hN6.out.1, hN6.out.2, O5.out.below hN6.out.1, fun k hk => by have := (O5.out.lt hk).2; omega, hlB.out⟩)
  clear hN6 H5 O5 HZ hW hT
  obtain ⟨B, hBe⟩ : ∃ B, B = w5.heap.size := ⟨_, rfl⟩
  rw [← hBe] at J0 ⊢
  clear hBe hlB
  have HOf := hidp (fun W (hW : Below w.heap.size w W) (x : Int) => rof_any h1 p1 hpp.out.1 a1 b1 o1 c1 l1 x W (HT1.out.below hW) (by have := hnn.out; omega))
  have hs1 := hidp (chkV_ok hO1.out.2.2).1
  have hs2 := hidp (chkV_ok hO2.out.2.2).1
  go_loopw [9, 10, 11] (fun x _ _ wr => ∃ (i : Nat) (sv : Value) (all : List Vt), i ≤ l2.length ∧ x = .int .i64 ((i : Nat) : Int) ∧ Hid (JnI w wr B (cC h1 p1 (.slice a1 l1.length c1)) (cC h2 p2 (.slice a2 l2.length c2)) h1 p1 sv all ∧ uniV [] (l1 ++ l2.take i) = some all ∧ all.length ≤ l1.length + i ∧ ∀ u ∈ all, VtOk u)) (fun x _ _ _ => l2.length - (Go.RowKit.intOf x).toNat)
  case atStart => exact ⟨0, _, l1, by omega, rfl, hidp ⟨J0.out, join_start hs1.out, by omega, HT1.out.ok⟩⟩
  case round =>
    obtain ⟨i, sv, all, hi, rfl, hx⟩ := hrel
    clear J0
    obtain ⟨p6, n6, c6, hsv⟩ := hx.out.1.own.sl
    subst hsv
    have e33 : wr.cell? ⟨w.heap.size + 1, 33, none⟩ = some (.slice a2 l2.length c2) := (hx.out.1.jb.k2.cell 33).trans (cC_33 hpp.out.2)
    by_cases hlt : i < l2.length
    · obtain ⟨v, hv, hok, ha2, hbl, _, _⟩ := (HT2.out.below hx.out.1.jb.bel).at hlt
      subst ha2
      have HU := hidp (show ∀ W, Below w.heap.size w W → W.cell? ⟨b2, o2 + i * 2, none⟩ = some (.int .i64 v.a) ∧ W.cell? ⟨b2, o2 + i * 2 + 1, none⟩ = some (.int .u64 (v.s : Nat)) from fun W hW => by
        obtain ⟨u', hu', _, _, _, q0, q1⟩ := (HT2.out.below hW).at hlt
        rw [hv] at hu'
        cases hu'
        exact ⟨q0, q1⟩)
      have hadd := w64_nat (n := i) (by have := hnn.out; omega)
      have hdec := hidp (And.intro hlt (dec_nat hlt))
      have hltz : (i : Int) < (l2.length : Int) := by omega
      have HV := hidp (And.intro hv hok)
      clear hv hok hi hbl hlt
      go_wp2_with fail
      have hT := hidp (hx.out.1.below (Below.refl _ _).drew)
      refine wp_region_held_drew (S := fun W => JnI w W B (cC h1 p1 (.slice a1 l1.length c1)) (cC h2 p2 (.slice (some ⟨b2, o2, none⟩) l2.length c2)) h1 p1 (.slice p6 n6 c6) all) (by kernel_rfl) hT.out (fun hHeld => ?_)
      try simp only [Act.put, List.setIfInBounds_toArray, List.set_cons_zero, List.set_cons_succ]
      refine wpAnyH_takeTo2 (i := 0) (oi := _) (v := .agg (cC h1 p1 (.slice a1 l1.length c1)).toArray) (some 50) rfl rfl (by kernel_rfl) (by kernel_rfl) (by kernel_rfl) (fun _ _ _ h => h) (yieldsIf_load_mid (by rfl) 63 _ rfl (w.heap.size) 0 rfl (cC h1 p1 (.slice a1 l1.length c1)) _ (fun w' hw' j v hj => by rw [Nat.zero_add]; exact ((hw'.jb.k1).cell j).trans hj) Try.underlying63 rfl (by rw [hl1.out]; kernel_rfl)) hHeld ?_
      try simp only [Act.put, List.setIfInBounds_toArray, List.set_cons_zero, List.set_cons_succ]
      refine wpAnyH_takeTo2 (i := 1) (oi := _) (v := ?_) (some 51) rfl rfl (by kernel_rfl) (by kernel_rfl) (by kernel_rfl) (fun _ _ _ h => h) (Or.inl ⟨by rfl, ?_⟩) hHeld ?_
      rotate_left
      · intro w hSw
        go_simp
        try with_reducible rfl
      try simp only [Act.put, List.setIfInBounds_toArray, List.set_cons_zero, List.set_cons_succ]
      refine wpAnyH_takeTo2 (i := 2) (oi := _) (v := ?_) (some 52) rfl rfl (by kernel_rfl) (by kernel_rfl) (by kernel_rfl) (fun _ _ _ h => h) (Or.inl ⟨by rfl, ?_⟩) hHeld ?_
      rotate_left
      · intro w hSw
        have q := (hSw.jb.k2.cell 33).trans (cC_33 hpp.out.2)
        go_simp
        try with_reducible rfl
      try simp only [Act.put, List.setIfInBounds_toArray, List.set_cons_zero, List.set_cons_succ]
      refine wpAnyH_takeTo2 (i := 3) (oi := _) (v := ?_) (some 53) rfl rfl (by kernel_rfl) (by kernel_rfl) (by kernel_rfl) (fun _ _ _ h => h) (Or.inl ⟨by rfl, ?_⟩) hHeld ?_
      rotate_left
      · intro w hSw
        go_simp
        try with_reducible rfl
      try simp only [Act.put, List.setIfInBounds_toArray, List.set_cons_zero, List.set_cons_succ]
      refine wpAnyH_takeTo2 (i := 4) (oi := _) (v := ?_) (some 54) rfl rfl (by kernel_rfl) (by kernel_rfl) (by kernel_rfl) (fun _ _ _ h => h) (Or.inl ⟨by rfl, ?_⟩) hHeld ?_
      rotate_left
      · intro w hSw
        go_simp
        try with_reducible rfl
      try simp only [Act.put, List.setIfInBounds_toArray, List.set_cons_zero, List.set_cons_succ]
      refine wpAnyH_takeTo2 (i := 5) (oi := _) (v := ?_) (some 55) rfl rfl (by kernel_rfl) (by kernel_rfl) (by kernel_rfl) (fun _ _ _ h => h) (Or.inl ⟨by rfl, ?_⟩) hHeld ?_
      rotate_left
      · intro w hSw
        go_simp
        try with_reducible rfl
      try simp only [Act.put, List.setIfInBounds_toArray, List.set_cons_zero, List.set_cons_succ]
      refine wpAnyH_takeTo2 (i := 6) (oi := _) (v := ?_) (some 56) rfl rfl (by kernel_rfl) (by kernel_rfl) (by kernel_rfl) (fun _ _ _ h => h) (Or.inl ⟨by rfl, ?_⟩) hHeld ?_
      rotate_left
      · intro w hSw
        have q := (HU.out _ hSw.jb.bel).1
        go_simp
        try with_reducible rfl
      try simp only [Act.put, List.setIfInBounds_toArray, List.set_cons_zero, List.set_cons_succ]
      refine wpAnyH_ready (rs := [7]) (by kernel_rfl) (by simp) ?_
      refine AllReadyH.cons (o := _) rfl (fun K hK => ?_) AllReadyH.nil
      go_simp
      refine (HOf.out _ hT.out.jb.bel v.a).mono ?_
      rintro e w7 ⟨rfl, hb⟩
      replace hT := hidp (hT.out.below hb)
      clear hb
      go_wp2_with fail
      refine hK.out _ _ (hT.out) (fun hHeld' => ?_)
      clear hK K hHeld
      have hHeld := hHeld'
      clear hHeld'
      try simp only [Act.put, List.setIfInBounds_toArray, List.set_cons_zero, List.set_cons_succ]
      refine wpAnyH_takeTo2 (i := 8) (oi := _) (v := ?_) (some 49) rfl rfl (by kernel_rfl) (by kernel_rfl) (by kernel_rfl) (fun _ _ _ h => h) (Or.inl ⟨by rfl, ?_⟩) hHeld ?_
      rotate_left
      · intro w hSw
        go_simp
        try with_reducible rfl
      try simp only [Act.put, List.setIfInBounds_toArray, List.set_cons_zero, List.set_cons_succ]
      refine wpAnyH_takeTo2 (i := 9) (oi := _) (v := ?_) (some 58) rfl rfl (by kernel_rfl) (by kernel_rfl) (by kernel_rfl) (fun _ _ _ h => h) (Or.inl ⟨by rfl, ?_⟩) hHeld ?_
      rotate_left
      · intro w hSw
        go_simp
        try with_reducible rfl
      try simp only [Act.put, List.setIfInBounds_toArray, List.set_cons_zero, List.set_cons_succ]
      refine wpAnyH_takeTo2 (i := 10) (oi := _) (v := ?_) (some 59) rfl rfl (by kernel_rfl) (by kernel_rfl) (by kernel_rfl) (fun _ _ _ h => h) (Or.inl ⟨by rfl, ?_⟩) hHeld ?_
      rotate_left
      · intro w hSw
        go_simp
        try with_reducible rfl
      try simp only [Act.put, List.setIfInBounds_toArray, List.set_cons_zero, List.set_cons_succ]
      refine wpAnyH_takeTo2 (i := 11) (oi := _) (v := ?_) (some 10) rfl rfl (by kernel_rfl) (by kernel_rfl) (by kernel_rfl) (fun _ _ _ h => h) (Or.inl ⟨by rfl, ?_⟩) hHeld ?_
      rotate_left
      · intro w hSw
        go_simp
        try with_reducible rfl
      try simp only [Act.put, List.setIfInBounds_toArray, List.set_cons_zero, List.set_cons_succ]
      refine wpAnyH_takeTo2 (i := 12) (oi := _) (v := ?_) (some 11) rfl rfl (by kernel_rfl) (by kernel_rfl) (by kernel_rfl) (fun _ _ _ h => h) (Or.inl ⟨by rfl, ?_⟩) hHeld ?_
      rotate_left
      · intro w hSw
        go_simp
        try with_reducible rfl
      try simp only [Act.put, List.setIfInBounds_toArray, List.set_cons_zero, List.set_cons_succ]
      refine wpAnyH_done (by kernel_rfl) ?_ _
      clear hHeld e33
      have HX := hidp (And.intro hT.out hx.out.2)
      clear hT hx
      have e33 : w7.cell? ⟨w.heap.size + 1, 33, none⟩ = some (.slice (some ⟨b2, o2, none⟩) l2.length c2) := (HX.out.1.jb.k2.cell 33).trans (cC_33 hpp.out.2)
      cases hq : ofT l1 v.a with
      | some u =>
        have eR : ofR l1 v.a = (u.s, true) := by unfold ofR; rw [hq]
        rw [eR]
        obtain ⟨d0, d1⟩ := HU.out _ HX.out.1.jb.bel
        by_cases hs : u.s = v.s
        · have hsn : (((u.s : Nat) : Int) != ((v.s : Nat) : Int)) = false := by rw [bne_eq_false_iff_eq]; omega
          have hnx := hidp (join_same hs1.out hs2.out HV.out.1 HX.out.2.1 hq hs)
          clear hq hs eR
          go_wp2_with fail
          rw [hadd]
          exact ⟨⟨i + 1, _, all, hdec.out.1, rfl, hidp ⟨HX.out.1, hnx.out, by have := HX.out.2.2.1; omega, HX.out.2.2.2⟩⟩, hdec.out.2⟩
        · have hsn : (((u.s : Nat) : Int) != ((v.s : Nat) : Int)) = true := by rw [bne_iff_ne]; omega
          have hR := hidp (show r = crE 8 by rw [hr.out]; unfold joinO; rw [if_neg (by omega), if_neg (by omega), if_neg (by simp [hh.out, hpq.out]), join_bad hs1.out hs2.out HV.out.1 HX.out.2.1 hq hs, if_pos (by simp)])
          clear hr hq hs eR
          have HK := hidp HX.out.1.jb
          go_wp2_with first
            | (with_reducible refine (?_ : wpList _ _ _ _ _ _); refine wpList_buildG (by kernel_rfl) 63 _ rfl (cC 0 zh32 (.slice none 0 0)).toArray (by kernel_rfl) ?_)
            | (with_reducible refine (?_ : wpList _ _ _ _ _ _); refine wpList_store_blk rfl 63 _ _ rfl (w.heap.size + 2) (cC 0 zh32 (.slice none 0 0)) (cC 0 zh32 (.slice none 0 0)) 63 rfl rfl HK.out.kr (by rw [hl0.out]; kernel_rfl) rfl ho0.out ?_; intro w13 hw13; have F1 := hidp (show Blk w13 (w.heap.size + 2) (cC 0 zh32 (.slice none 0 0)) 63 ∧ Below w.heap.size w w13 by rw [hw13.out]; exact ⟨HK.out.kr.row, HK.out.bel.trans (((But.refl (w.heap.size + 2) w7).setRow _).below (by omega))⟩))
          refine bodyPost_ret (v := .tuple #[.agg (cC 0 zh32 (.slice none 0 0)).toArray, .int .i64 8]) ?_ rfl ⟨.slice none 0 0, by rw [hR.out]; rfl, by rw [hR.out]; exact OwnT.nil _ _, F1.out.2⟩
          exact results_row1 Try.results56 _ _ (w.heap.size + 2) 63 _ _ _ rfl F1.out.1 Try.underlying63 rfl (by rw [hl0.out]; kernel_rfl) rfl
      | none =>
        have eR : ofR l1 v.a = (0, false) := by unfold ofR; rw [hq]
        rw [eR]
        have hnx := hidp (join_new hs1.out hs2.out HV.out.1 HX.out.2.1 hq)
        clear hq eR
        go_wp2_with fail
        have hT := hidp (HX.out.1.below (Below.refl _ _).drew)
        refine wp_region_held_drew (S := fun W => JoB w W (cC h1 p1 (.slice a1 l1.length c1)) (cC h2 p2 (.slice (some ⟨b2, o2, none⟩) l2.length c2))) (by kernel_rfl) hT.out.jb (fun hHeld => ?_)
        try simp only [Act.put, List.setIfInBounds_toArray, List.set_cons_zero, List.set_cons_succ]
        refine wpAnyH_takeTo2 (i := 0) (oi := _) (v := ?_) (some 74) rfl rfl (by kernel_rfl) (by kernel_rfl) (by kernel_rfl) (fun _ _ _ h => h) (Or.inl ⟨by rfl, ?_⟩) hHeld ?_
        rotate_left
        · intro w hSw
          go_simp
          try with_reducible rfl
        try simp only [Act.put, List.setIfInBounds_toArray, List.set_cons_zero, List.set_cons_succ]
        refine wpAnyH_takeTo2 (i := 2) (oi := _) (v := ?_) (some 76) rfl rfl (by kernel_rfl) (by kernel_rfl) (by kernel_rfl) (fun _ _ _ h => h) (Or.inl ⟨by rfl, ?_⟩) hHeld ?_
        rotate_left
        · intro w hSw
          go_simp
          try with_reducible rfl
        try simp only [Act.put, List.setIfInBounds_toArray, List.set_cons_zero, List.set_cons_succ]
        refine wpAnyH_takeTo2 (i := 3) (oi := _) (v := ?_) (some 77) rfl rfl (by kernel_rfl) (by kernel_rfl) (by kernel_rfl) (fun _ _ _ h => h) (Or.inl ⟨by rfl, ?_⟩) hHeld ?_
        rotate_left
        · intro w hSw
          have q := (hSw.k2.cell 33).trans (cC_33 hpp.out.2)
          go_simp
          try with_reducible rfl
        try simp only [Act.put, List.setIfInBounds_toArray, List.set_cons_zero, List.set_cons_succ]
        refine wpAnyH_takeTo2 (i := 4) (oi := _) (v := ?_) (some 78) rfl rfl (by kernel_rfl) (by kernel_rfl) (by kernel_rfl) (fun _ _ _ h => h) (Or.inl ⟨by rfl, ?_⟩) hHeld ?_
        rotate_left
        · intro w hSw
          go_simp
          try with_reducible rfl
        try simp only [Act.put, List.setIfInBounds_toArray, List.set_cons_zero, List.set_cons_succ]
        refine wpAnyH_takeTo2 (i := 5) (oi := _) (v := ?_) (some 79) rfl rfl (by kernel_rfl) (by kernel_rfl) (by kernel_rfl) (fun _ _ _ h => h) (Or.inl ⟨by rfl, ?_⟩) hHeld ?_
        rotate_left
        · intro w hSw
          go_simp
          try with_reducible rfl
        try simp only [Act.put, List.setIfInBounds_toArray, List.set_cons_zero, List.set_cons_succ]
        refine wpAnyH_takeTo2 (i := 6) (oi := _) (v := .agg #[.int .i64 v.a, .int .u64 (v.s : Nat)]) (some 80) rfl rfl (by kernel_rfl) (by kernel_rfl) (by kernel_rfl) (fun _ _ _ h => h) (yieldsIf_load_mid (by rfl) 85 _ rfl b2 (o2 + i * 2) rfl [.int .i64 v.a, .int .u64 (v.s : Nat)] _ (fun w' hw' => range2 (HU.out w' hw'.bel).1 (HU.out w' hw'.bel).2) Try.underlying85 rfl (by kernel_rfl)) hHeld ?_
        try simp only [Act.put, List.setIfInBounds_toArray, List.set_cons_zero, List.set_cons_succ]
        refine wpAnyH_ready (rs := [1]) (by kernel_rfl) (by simp) ?_
        refine AllReadyH.cons (o := _) rfl (fun K hK => ?_) AllReadyH.nil
        have k33 := (hT.out.kc.cell 33).trans (cC_33 hpp.out.1)
        go_simp
        refine hK.out _ _ (hT.out.jb) (fun hHeld' => ?_)
        clear hK K hHeld
        have hHeld := hHeld'
        clear hHeld'
        try simp only [Act.put, List.setIfInBounds_toArray, List.set_cons_zero, List.set_cons_succ]
        clear k33
        obtain ⟨bb, _, hTs, hn6, _⟩ := hT.out.own.tsz HX.out.2.2.2
        have HL := hidp (laid_any p6 bb 0 c6 all v _ hTs (by have := HX.out.2.2.1; have := hnn.out; have := hdec.out.1; omega))
        rw [← hn6] at HL
        clear hTs hn6
        refine wpAnyH_ready (rs := [7]) (by kernel_rfl) (by simp) ?_
        refine AllReadyH.cons (o := _) rfl (fun K hK => ?_) AllReadyH.nil
        go_simp
        refine HL.out.mono ?_
        rintro e w9 ⟨sv, rfl, ho, hb⟩
        obtain ⟨p8, n8, c8, hsv⟩ := ho.sl
        subst hsv
        have hKB := hidp hT.out.kc.lt
        replace hT := hidp (hT.out.below hb)
        have O8 := hidp ho
        clear ho hb
        go_wp2_with fail
        refine hK.out _ _ (hT.out.jb) (fun hHeld' => ?_)
        clear hK K hHeld
        have hHeld := hHeld'
        clear hHeld'
        try simp only [Act.put, List.setIfInBounds_toArray, List.set_cons_zero, List.set_cons_succ]
        refine wpAnyH_takeTo2 (i := 8) (oi := _) (v := ?_) (some 82) rfl rfl (by kernel_rfl) (by kernel_rfl) (by kernel_rfl) (fun _ _ _ h => h) (Or.inl ⟨by rfl, ?_⟩) hHeld ?_
        rotate_left
        · intro w hSw
          go_simp
          try with_reducible rfl
        try simp only [Act.put, List.setIfInBounds_toArray, List.set_cons_zero, List.set_cons_succ]
        refine wpAnyH_ready (rs := [9]) (by kernel_rfl) (by simp) ?_
        refine AllReadyH.cons (o := _) rfl (fun K hK => ?_) AllReadyH.nil
        have k33 := (hT.out.kc.cell 33).trans (cC_33 hpp.out.1)
        have f33 := hT.out.kc.free 33
        go_simp
        have J9 := hidp (hT.out.set hpp.out.1 O8.out hKB.out)
        refine hK.out _ _ J9.out.jb (fun hHeld' => ?_)
        clear hK K hHeld hHeld' k33 f33
        try simp only [Act.put, List.setIfInBounds_toArray, List.set_cons_zero, List.set_cons_succ]
        refine wpAnyH_done (by kernel_rfl) ?_ _
        go_wp2_with fail
        rw [hadd]
        exact ⟨⟨i + 1, _, laidL all v, hdec.out.1, rfl, hidp ⟨J9.out, hnx.out.1, by have := hnx.out.2.1; have := HX.out.2.2.1; omega, fun x hx => by rcases hnx.out.2.2 x hx with rfl | h; exact HV.out.2; exact HX.out.2.2.2 x h⟩⟩, hdec.out.2⟩
    · obtain rfl : i = l2.length := by omega
      have hnz : ¬ ((l2.length : Int) < (l2.length : Int)) := by omega
      have hR := hidp (show r = ⟨h1, p1, all, 0⟩ by rw [hr.out]; unfold joinO; rw [if_neg (by omega), if_neg (by omega), if_neg (by simp [hh.out, hpq.out]), join_done hx.out.2.1, if_neg (by simp)])
      have hl6 := hidp (cC_len (h := h1) (sl := .slice p6 n6 c6) hpp.out.1)
      have ho6 := hidp (cC_one h1 p1 p6 n6 c6)
      clear hr hlt hi
      have HJ := hidp hx.out.1
      go_wp2_with first
        | (with_reducible refine (?_ : wpList _ _ _ _ _ _); refine wpList_load_blk rfl 63 _ rfl B (cC h1 p1 (.slice p6 n6 c6)) 63 rfl HJ.out.kc _ Try.underlying63 rfl (by rw [hl6.out]; kernel_rfl) ?_)
        | (with_reducible refine (?_ : wpList _ _ _ _ _ _); refine wpList_store_blk rfl 63 _ _ rfl (w.heap.size + 2) (cC h1 p1 (.slice p6 n6 c6)) (cC 0 zh32 (.slice none 0 0)) 63 rfl rfl HJ.out.jb.kr (by rw [hl6.out]; kernel_rfl) (by rw [hl6.out, hl0.out]) ho6.out ?_; intro w13 hw13; have F1 := hidp (show Blk w13 (w.heap.size + 2) (cC h1 p1 (.slice p6 n6 c6)) 63 ∧ Below w.heap.size w w13 ∧ OwnT w13 w.heap.size (.slice p6 n6 c6) all by rw [hw13.out]; exact ⟨HJ.out.jb.kr.row, HJ.out.jb.bel.trans (((But.refl (w.heap.size + 2) wr).setRow _).below (by omega)), (HJ.out.own.bex (g := w.heap.size + 2) (Bex.of_but ((But.refl (w.heap.size + 2) wr).setRow _)) (by omega)).base (by omega)⟩))
      refine bodyPost_ret (v := .tuple #[.agg (cC h1 p1 (.slice p6 n6 c6)).toArray, .int .i64 0]) ?_ rfl ⟨.slice p6 n6 c6, by rw [hR.out]; rfl, by rw [hR.out]; exact F1.out.2.2, F1.out.2.1⟩
      exact results_row1 Try.results56 _ _ (w.heap.size + 2) 63 _ _ _ rfl F1.out.1 Try.underlying63 rfl (by rw [hl6.out]; kernel_rfl) rfl
end Go.Proofs.Ytlcflcohlbckfaa
