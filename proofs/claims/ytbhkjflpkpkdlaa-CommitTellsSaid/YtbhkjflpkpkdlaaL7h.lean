/-
  Commit: Join.
-/
import Derived.Test.YtbhkjflpkpkdlaaL7g
namespace Go.Proofs.Ytbhkjflpkpkdlaa
open Go.RowKit Go.Lib
set_option linter.unusedSimpArgs false

theorem struct_com : Try.prog.underlying 63 = some (.struct (Try.prog.fieldsOf 63)) := by kernel_rfl
theorem places_com : (Try.prog.fieldsOf 63).toList.mapM (fun f => (Try.prog.info? f.type).map fun i => (f.offset, i.size)) = some [(0, 1), (1, 32), (33, 1)] := by kernel_rfl
theorem built_com (h : Int) (p : List Nat) (a : Option Addr) (n c : Nat) (hp : p.length = 32) : Try.prog.built 63 [(0, .int .i64 h), (1, .agg (bvs p).toArray), (2, .slice a n c)] = some (cC h p (.slice a n c)).toArray := by
  have hi := zero_com
  unfold Program.built
  cases hq : Try.prog.info? 63 with
  | none => rw [hq] at hi; simp at hi
  | some i =>
    rw [hq] at hi
    simp only [Option.map_some, Option.some.injEq, Prod.mk.injEq] at hi
    rw [struct_com]
    simp only [hi.1, places_com]
    have l1 : (bvs p).length = 32 := by rw [bvs_len, hp]
    have lz : (bvs zh32).length = 32 := rfl
    show Instr.fill _ (cC 0 zh32 (.slice none 0 0)).toArray _ = _
    rw [fill_val rfl rfl (by rw [cC_len rfl]; omega), show (cC 0 zh32 (.slice none 0 0)).set 0 (.int .i64 h) = cC h zh32 (.slice none 0 0) from rfl]
    rw [fill_agg (off := 1) (by rw [l1]; rfl) (by rw [cC_len rfl, l1]; omega)]
    have e := setsL_mid (bvs p) [.int .i64 h] (bvs zh32) [.slice none 0 0] (by rw [l1, lz])
    rw [show setsL (cC h zh32 (.slice none 0 0)) 1 (bvs p) = cC h p (.slice none 0 0) from e]
    rw [fill_val rfl rfl (by rw [cC_len hp]; omega), cC_set hp]
    rfl
theorem arr_com : Try.prog.underlying 214 = some (.array 2 63) := by kernel_rfl
theorem zero_two : (Try.prog.info? 214).map (fun i => i.zero) = some (some (.agg (cC 0 zh32 (.slice none 0 0) ++ cC 0 zh32 (.slice none 0 0)).toArray)) := by kernel_rfl
theorem built_two (X Y : List Value) (hX : X.length = 34) (hY : Y.length = 34) : Try.prog.built 214 [(0, .agg X.toArray), (1, .agg Y.toArray)] = some (X ++ Y).toArray := by
  have hi := zero_two
  have hj := zero_com
  unfold Program.built
  cases hq : Try.prog.info? 214 with
  | none => rw [hq] at hi; simp at hi
  | some i =>
    cases hr : Try.prog.info? 63 with
    | none => rw [hr] at hj; simp at hj
    | some j =>
      rw [hq] at hi
      rw [hr] at hj
      simp only [Option.map_some, Option.some.injEq, Prod.mk.injEq] at hi hj
      have lz : (cC 0 zh32 (.slice none 0 0)).length = 34 := cC_len rfl
      rw [arr_com]
      simp only [hi, hr, hj.2]
      show Instr.fill _ (cC 0 zh32 (.slice none 0 0) ++ cC 0 zh32 (.slice none 0 0)).toArray _ = _
      rw [fill_agg (off := 0) (by simp [hX]) (by rw [List.length_append, lz, hX]; omega)]
      have e := setsL_mid X [] (cC 0 zh32 (.slice none 0 0)) (cC 0 zh32 (.slice none 0 0)) (by rw [hX, lz])
      rw [show setsL (cC 0 zh32 (.slice none 0 0) ++ cC 0 zh32 (.slice none 0 0)) 0 X = X ++ cC 0 zh32 (.slice none 0 0) from e]
      rw [fill_agg (off := 34) (by simp [hY]) (by rw [List.length_append, lz, hX, hY]; omega)]
      have e2 := setsL_mid Y X (cC 0 zh32 (.slice none 0 0)) [] (by rw [hY, lz])
      rw [List.append_nil, List.append_nil, hX] at e2
      rw [e2]
      rfl
theorem run_index2 (X Y : List Value) (hX : X.length = 34) (hY : Y.length = 34) (w : World) : (Instr.index 214 (.agg (X ++ Y).toArray) (.int .i64 0)).run Try.prog w = .ok (.agg X.toArray) w ∧ (Instr.index 214 (.agg (X ++ Y).toArray) (.int .i64 1)).run Try.prog w = .ok (.agg Y.toArray) w := by
  have hagg : (isAgg 63).run Try.prog w = .ok true w := by
    unfold isAgg
    rw [Sem.run_bind, run_underlying struct_com w]
    rfl
  have hj := zero_com
  cases hr : Try.prog.info? 63 with
  | none => rw [hr] at hj; simp at hj
  | some j =>
    rw [hr] at hj
    simp only [Option.map_some, Option.some.injEq, Prod.mk.injEq] at hj
    constructor
    · simp [Instr.index, asIntOf, run_underlying arr_com, sizeOf, typeInfo, hr, hj.2, part, hagg, hX, hY]
    · have ht : List.take 34 Y = Y := List.take_of_length_le (by omega)
      simp [Instr.index, asIntOf, run_underlying arr_com, sizeOf, typeInfo, hr, hj.2, part, hagg, hX, hY, ht]
def joinO (h1 : Int) (p1 : List Nat) (l1 : List Vt) (h2 : Int) (p2 : List Nat) (l2 : List Vt) : CR :=
  if chkC h1 l1 ≠ 0 then crE (chkC h1 l1) else if chkC h2 l2 ≠ 0 then crE (chkC h2 l2) else if h1 ≠ h2 ∨ p1 ≠ p2 then crE 9 else
  if (uniO l1 l2).2 ≠ 0 then crE (uniO l1 l2).2 else ⟨h1, p1, (uniO l1 l2).1, 0⟩
/-- The boxes of Join. -/
structure JoB (w W : World) (X Y : List Value) : Prop where
  k1 : Blk W w.heap.size X 63
  k2 : Blk W (w.heap.size + 1) Y 63
  kr : Blk W (w.heap.size + 2) (cC 0 zh32 (.slice none 0 0)) 63
  bel : Below w.heap.size w W
theorem JoB.below {w W W' : World} {X Y : List Value} (H : JoB w W X Y) (hb : Below W.heap.size W W') : JoB w W' X Y := ⟨hb.blk' H.k1, hb.blk' H.k2, hb.blk' H.kr, H.bel.trans (hb.mono H.bel.size)⟩
/-- A new block is laid whole. -/
theorem new_row {W W' : World} {X Z : List Value} {T : TypeId} {b : Nat} (h : W' = (W.alloc (.cells Z.toArray T)).setRow b X.toArray) (hb : b = W.heap.size) : Below W.heap.size W W' ∧ Blk W' b X T := by
  subst h hb
  exact ⟨((Below.refl _ W).alloc (Nat.le_refl _) _).trans (((But.refl W.heap.size _).setRow _).below (Nat.le_refl _)), (Blk.new W Z T).row⟩
theorem rangeAt_p {W : World} {b : Nat} {h : Int} {p : List Nat} {sl : Value} (H : Blk W b (cC h p sl) 63) : W.rangeAt b 1 (bvs p) := fun j v hj => (H.cell _).trans (cC_p j v hj)
set_option maxRecDepth 100000 in
set_option maxHeartbeats 8000000 in
theorem cjoin_any (h1 : Int) (p1 : List Nat) (hp1 : p1.length = 32) (a1 : Option Addr) (b1 o1 c1 : Nat) (l1 : List Vt) (h2 : Int) (p2 : List Nat) (hp2 : p2.length = 32) (a2 : Option Addr) (b2 o2 c2 : Nat) (l2 : List Vt) (w : World) (hT1 : Ts w a1 b1 o1 c1 l1) (hT2 : Ts w a2 b2 o2 c2 l2) :
    Calls Try.prog 113 #[.agg (cC h1 p1 (.slice a1 l1.length c1)).toArray, .agg (cC h2 p2 (.slice a2 l2.length c2)).toArray] w (CRP w (joinO h1 p1 l1 h2 p2 l2)) := by
  have hz0 : ∀ w, (zeroValue 63).run Try.prog w = .ok (.agg (cC 0 zh32 (.slice none 0 0)).toArray) w := (zero_of_info (P := Try.prog) zero_com).1
  have e1 := cC_len (h := h1) (sl := .slice a1 l1.length c1) hp1
  have e2 := cC_len (h := h2) (sl := .slice a2 l2.length c2) hp2
  have HBu := hidp (built_two (cC h1 p1 (.slice a1 l1.length c1)) (cC h2 p2 (.slice a2 l2.length c2)) e1 e2)
  have i0 := fun w => (run_index2 (cC h1 p1 (.slice a1 l1.length c1)) (cC h2 p2 (.slice a2 l2.length c2)) e1 e2 w).1
  have i1 := fun w => (run_index2 (cC h1 p1 (.slice a1 l1.length c1)) (cC h2 p2 (.slice a2 l2.length c2)) e1 e2 w).2
  have hl1 := hidp e1
  have hl2 := hidp e2
  have hl0 := hidp (cC_len (h := 0) (sl := .slice none 0 0) (p := zh32) rfl)
  have ho0 := hidp (cC_one 0 zh32 none 0 0)
  have ho1 := hidp (cC_one h1 p1 a1 l1.length c1)
  have ho2 := hidp (cC_one h2 p2 a2 l2.length c2)
  have HB : Hid (JoB w (((w.alloc (.cells (cC h1 p1 (.slice a1 l1.length c1)).toArray 63)).alloc (.cells (cC h2 p2 (.slice a2 l2.length c2)).toArray 63)).alloc (.cells (cC 0 zh32 (.slice none 0 0)).toArray 63)) (cC h1 p1 (.slice a1 l1.length c1)) (cC h2 p2 (.slice a2 l2.length c2))) := hidp
    ⟨((Blk.new w _ _).alloc _).alloc _, (Blk.new' _ (cC h2 p2 (.slice a2 l2.length c2)) _ _ (by simp)).alloc _, Blk.new' _ _ _ _ (by simp), (((Below.refl _ w).alloc (Nat.le_refl _) _).alloc (by simp) _).alloc (by simp; omega) _⟩
  have HZ := hidp (Blk.new' (((w.alloc (.cells (cC h1 p1 (.slice a1 l1.length c1)).toArray 63)).alloc (.cells (cC h2 p2 (.slice a2 l2.length c2)).toArray 63)).alloc (.cells (cC 0 zh32 (.slice none 0 0)).toArray 63)) (cC 0 zh32 (.slice none 0 0)) 63 (w.heap.size + 3) (by simp))
  have HT1 := hidp hT1
  have HT2 := hidp hT2
  have hpp := hidp (And.intro hp1 hp2)
  have HC1 := hidp (fun W (hW : Below w.heap.size w W) => ccheck_any h1 p1 hp1 a1 b1 o1 c1 l1 W (hT1.below hW))
  have HC2 := hidp (fun W (hW : Below w.heap.size w W) => ccheck_any h2 p2 hp2 a2 b2 o2 c2 l2 W (hT2.below hW))
  obtain ⟨r, hr⟩ : ∃ r, r = joinO h1 p1 l1 h2 p2 l2 := ⟨_, rfl⟩
  rw [← hr]
  replace hr := hidp hr
  clear hT1 hT2 hp1 hp2 e1 e2
  go_enter Try.func113, Try.ntmps113
  go_wp2_with first
    | (with_reducible refine (?_ : wpList _ _ _ _ _ _); refine wpList_load_blk rfl 63 _ rfl w.heap.size (cC h1 p1 (.slice a1 l1.length c1)) 63 rfl HB.out.k1 _ Try.underlying63 rfl (by rw [hl1.out]; kernel_rfl) ?_)
    | (with_reducible refine (?_ : wpList _ _ _ _ _ _); refine wpList_load_blk rfl 63 _ rfl (w.heap.size + 1) (cC h2 p2 (.slice a2 l2.length c2)) 63 rfl HB.out.k2 _ Try.underlying63 rfl (by rw [hl2.out]; kernel_rfl) ?_)
    | (with_reducible refine (?_ : wpList _ _ _ _ _ _); refine wpList_buildTo rfl 214 _ rfl _ rfl ((cC h1 p1 (.slice a1 l1.length c1)) ++ (cC h2 p2 (.slice a2 l2.length c2))).toArray (by rw [← HBu.out]; kernel_rfl) ?_)
  refine wp_loop_rounds 3 ?_
  rw [rounds_succ]
  go_wp2_with first
    | (with_reducible refine (?_ : wpList _ _ _ _ _ _); refine wpList_store_blk rfl 63 _ _ rfl (w.heap.size + 3) (cC h1 p1 (.slice a1 l1.length c1)) (cC 0 zh32 (.slice none 0 0)) 63 rfl rfl HZ.out (by rw [hl1.out]; kernel_rfl) (by rw [hl1.out, hl0.out]) ho1.out ?_; intro w1 hw1; have hN1 := hidp (new_row hw1.out (by simp)); have H1 := hidp (HB.out.below hN1.out.1))
    | (with_reducible refine (?_ : wpList _ _ _ _ _ _); refine wpList_load_blk rfl 63 _ rfl (w.heap.size + 3) (cC h1 p1 (.slice a1 l1.length c1)) 63 rfl hN1.out.2 _ Try.underlying63 rfl (by rw [hl1.out]; kernel_rfl) ?_)
  refine (HC1.out _ H1.out.bel).mono ?_
  rintro e w2 ⟨rfl, hb⟩
  have H2 := hidp (H1.out.below hb)
  clear hb HC1 HB H1 HZ
  by_cases hc1 : chkC h1 l1 = 0
  case neg =>
    have hR := hidp (show r = crE (chkC h1 l1) by rw [hr.out]; unfold joinO; rw [if_pos hc1])
    have hbn : (((chkC h1 l1 : Nat) : Int) != 0) = true := by rw [bne_iff_ne]; omega
    clear hc1 hr
    generalize chkC h1 l1 = n at *
    go_wp2_with first
      | (with_reducible refine (?_ : wpList _ _ _ _ _ _); refine wpList_buildG (by kernel_rfl) 63 _ rfl (cC 0 zh32 (.slice none 0 0)).toArray (by kernel_rfl) ?_)
      | (with_reducible refine (?_ : wpList _ _ _ _ _ _); refine wpList_store_blk rfl 63 _ _ rfl (w.heap.size + 2) (cC 0 zh32 (.slice none 0 0)) (cC 0 zh32 (.slice none 0 0)) 63 rfl rfl H2.out.kr (by rw [hl0.out]; kernel_rfl) rfl ho0.out ?_; intro w13 hw13; have F1 := hidp (show Blk w13 (w.heap.size + 2) (cC 0 zh32 (.slice none 0 0)) 63 ∧ Below w.heap.size w w13 by rw [hw13.out]; exact ⟨H2.out.kr.row, H2.out.bel.trans (((But.refl (w.heap.size + 2) w2).setRow _).below (by omega))⟩))
    refine bodyPost_ret (v := .tuple #[.agg (cC 0 zh32 (.slice none 0 0)).toArray, .int .i64 (n : Nat)]) ?_ rfl ⟨.slice none 0 0, by rw [hR.out]; rfl, by rw [hR.out]; exact OwnT.nil _ _, F1.out.2⟩
    exact results_row1 Try.results113 _ _ (w.heap.size + 2) 63 _ _ _ rfl F1.out.1 Try.underlying63 rfl (by rw [hl0.out]; kernel_rfl) rfl
  rw [hc1]
  have HZ := hidp (fun o : Obj => (Blk.new w2 (cC 0 zh32 (.slice none 0 0)) 63))
  go_wp2_with fail
  rw [rounds_succ]
  go_wp2_with first
    | (with_reducible refine (?_ : wpList _ _ _ _ _ _); refine wpList_store_blk rfl 63 _ _ rfl w2.heap.size (cC h2 p2 (.slice a2 l2.length c2)) (cC 0 zh32 (.slice none 0 0)) 63 rfl rfl (HZ.out (.deferred none)) (by rw [hl2.out]; kernel_rfl) (by rw [hl2.out, hl0.out]) ho2.out ?_; intro w3 hw3; have hN3 := hidp (new_row hw3.out rfl); have H3 := hidp (H2.out.below hN3.out.1))
    | (with_reducible refine (?_ : wpList _ _ _ _ _ _); refine wpList_load_blk rfl 63 _ rfl w2.heap.size (cC h2 p2 (.slice a2 l2.length c2)) 63 rfl hN3.out.2 _ Try.underlying63 rfl (by rw [hl2.out]; kernel_rfl) ?_)
  refine (HC2.out _ H3.out.bel).mono ?_
  rintro e w4 ⟨rfl, hb⟩
  have H4 := hidp (H3.out.below hb)
  clear hb HC2 H2 H3 HZ
  by_cases hc2 : chkC h2 l2 = 0
  case neg =>
    have hR := hidp (show r = crE (chkC h2 l2) by rw [hr.out]; unfold joinO; rw [if_neg (by omega), if_pos hc2])
    have hbn : (((chkC h2 l2 : Nat) : Int) != 0) = true := by rw [bne_iff_ne]; omega
    clear hc2 hr
    generalize chkC h2 l2 = n at *
    go_wp2_with first
      | (with_reducible refine (?_ : wpList _ _ _ _ _ _); refine wpList_buildG (by kernel_rfl) 63 _ rfl (cC 0 zh32 (.slice none 0 0)).toArray (by kernel_rfl) ?_)
      | (with_reducible refine (?_ : wpList _ _ _ _ _ _); refine wpList_store_blk rfl 63 _ _ rfl (w.heap.size + 2) (cC 0 zh32 (.slice none 0 0)) (cC 0 zh32 (.slice none 0 0)) 63 rfl rfl H4.out.kr (by rw [hl0.out]; kernel_rfl) rfl ho0.out ?_; intro w13 hw13; have F1 := hidp (show Blk w13 (w.heap.size + 2) (cC 0 zh32 (.slice none 0 0)) 63 ∧ Below w.heap.size w w13 by rw [hw13.out]; exact ⟨H4.out.kr.row, H4.out.bel.trans (((But.refl (w.heap.size + 2) w4).setRow _).below (by omega))⟩))
    refine bodyPost_ret (v := .tuple #[.agg (cC 0 zh32 (.slice none 0 0)).toArray, .int .i64 (n : Nat)]) ?_ rfl ⟨.slice none 0 0, by rw [hR.out]; rfl, by rw [hR.out]; exact OwnT.nil _ _, F1.out.2⟩
    exact results_row1 Try.results113 _ _ (w.heap.size + 2) 63 _ _ _ rfl F1.out.1 Try.underlying63 rfl (by rw [hl0.out]; kernel_rfl) rfl
  rw [hc2]
  have d1 : w4.cell? ⟨w.heap.size, 0, none⟩ = some (.int .i64 h1) := H4.out.k1.cell 0
  have d2 : w4.cell? ⟨w.heap.size + 1, 0, none⟩ = some (.int .i64 h2) := H4.out.k2.cell 0
  have nq := fun w => run_neq_hash p1 p2 hpp.out.1 hpp.out.2 w
  have gh := guard_hash
  go_wp2_with fail
  rw [rounds_succ]
  by_cases hh : h1 = h2
  case neg =>
    have hR := hidp (show r = crE 9 by rw [hr.out]; unfold joinO; rw [if_neg (by omega), if_neg (by omega), if_pos (.inl hh)])
    have hbn : (h1 != h2) = true := by rw [bne_iff_ne]; exact hh
    clear hh hr
    go_wp2_with first
      | (with_reducible refine (?_ : wpList _ _ _ _ _ _); refine wpList_buildG (by kernel_rfl) 63 _ rfl (cC 0 zh32 (.slice none 0 0)).toArray (by kernel_rfl) ?_)
      | (with_reducible refine (?_ : wpList _ _ _ _ _ _); refine wpList_store_blk rfl 63 _ _ rfl (w.heap.size + 2) (cC 0 zh32 (.slice none 0 0)) (cC 0 zh32 (.slice none 0 0)) 63 rfl rfl H4.out.kr (by rw [hl0.out]; kernel_rfl) rfl ho0.out ?_; intro w13 hw13; have F1 := hidp (show Blk w13 (w.heap.size + 2) (cC 0 zh32 (.slice none 0 0)) 63 ∧ Below w.heap.size w w13 by rw [hw13.out]; exact ⟨H4.out.kr.row, H4.out.bel.trans (((But.refl (w.heap.size + 2) w4).setRow _).below (by omega))⟩))
    refine bodyPost_ret (v := .tuple #[.agg (cC 0 zh32 (.slice none 0 0)).toArray, .int .i64 9]) ?_ rfl ⟨.slice none 0 0, by rw [hR.out]; rfl, by rw [hR.out]; exact OwnT.nil _ _, F1.out.2⟩
    exact results_row1 Try.results113 _ _ (w.heap.size + 2) 63 _ _ _ rfl F1.out.1 Try.underlying63 rfl (by rw [hl0.out]; kernel_rfl) rfl
  have hbn : (h1 != h2) = false := by simp [hh]
  replace hh := hidp hh
  by_cases hpq : p1 = p2
  case neg =>
    have hR := hidp (show r = crE 9 by rw [hr.out]; unfold joinO; rw [if_neg (by omega), if_neg (by omega), if_pos (.inr hpq)])
    have hpn : decide (p1 = p2) = false := decide_eq_false hpq
    clear hr hh hpq
    go_wp2_with first
      | (with_reducible refine (?_ : wpList _ _ _ _ _ _); refine wpList_load_midD 31 rfl (by kernel_rfl) 34 _ rfl w.heap.size 1 rfl (bvs p1) _ (rangeAt_p H4.out.k1) Try.underlying34 rfl (by rw [bvs_len, hpp.out.1]; kernel_rfl) ?_)
      | (with_reducible refine (?_ : wpList _ _ _ _ _ _); refine wpList_load_midD 33 rfl (by kernel_rfl) 34 _ rfl (w.heap.size + 1) 1 rfl (bvs p2) _ (rangeAt_p H4.out.k2) Try.underlying34 rfl (by rw [bvs_len, hpp.out.2]; kernel_rfl) ?_)
      | (with_reducible refine (?_ : wpList _ _ _ _ _ _); refine wpList_buildG (by kernel_rfl) 63 _ rfl (cC 0 zh32 (.slice none 0 0)).toArray (by kernel_rfl) ?_)
      | (with_reducible refine (?_ : wpList _ _ _ _ _ _); refine wpList_store_blk rfl 63 _ _ rfl (w.heap.size + 2) (cC 0 zh32 (.slice none 0 0)) (cC 0 zh32 (.slice none 0 0)) 63 rfl rfl H4.out.kr (by rw [hl0.out]; kernel_rfl) rfl ho0.out ?_; intro w13 hw13; have F1 := hidp (show Blk w13 (w.heap.size + 2) (cC 0 zh32 (.slice none 0 0)) 63 ∧ Below w.heap.size w w13 by rw [hw13.out]; exact ⟨H4.out.kr.row, H4.out.bel.trans (((But.refl (w.heap.size + 2) w4).setRow _).below (by omega))⟩))
    refine bodyPost_ret (v := .tuple #[.agg (cC 0 zh32 (.slice none 0 0)).toArray, .int .i64 9]) ?_ rfl ⟨.slice none 0 0, by rw [hR.out]; rfl, by rw [hR.out]; exact OwnT.nil _ _, F1.out.2⟩
    exact results_row1 Try.results113 _ _ (w.heap.size + 2) 63 _ _ _ rfl F1.out.1 Try.underlying63 rfl (by rw [hl0.out]; kernel_rfl) rfl
  have hpn : decide (p1 = p2) = true := decide_eq_true hpq
  replace hpq := hidp hpq
  have d33 : w4.cell? ⟨w.heap.size, 33, none⟩ = some (.slice a1 l1.length c1) := (H4.out.k1.cell 33).trans (cC_33 hpp.out.1)
  have e33 : w4.cell? ⟨w.heap.size + 1, 33, none⟩ = some (.slice a2 l2.length c2) := (H4.out.k2.cell 33).trans (cC_33 hpp.out.2)
  have HU := hidp (fun W x (hW : Below w.heap.size w W) (hx0 : W.cell? ⟨x, 0, none⟩ = some (.slice a1 l1.length c1)) (hx1 : W.cell? ⟨x, 1, none⟩ = some (.slice a2 l2.length c2)) => cunion_any x (fun k => if k = 0 then a1 else a2) (fun k => if k = 0 then b1 else b2) (fun k => if k = 0 then o1 else o2) (fun k => if k = 0 then c1 else c2) (fun k => if k = 0 then l1 else l2) W
    (fun k hk => by rcases (show k = 0 ∨ k = 1 by omega) with rfl | rfl; exact hx0; exact hx1)
    (fun k hk => by rcases (show k = 0 ∨ k = 1 by omega) with rfl | rfl; exact HT1.out.below hW; exact HT2.out.below hW)
    (fun k hk => by rcases (show k = 0 ∨ k = 1 by omega) with rfl | rfl; exact (chkC_ok hc1).2.1; exact (chkC_ok hc2).2.1)
    (cell_lt hx0))
  obtain ⟨ul, ue, hu⟩ : ∃ ul ue, uniO l1 l2 = (ul, ue) := ⟨_, _, rfl⟩
  have HU2 := hidp (show ∀ W x, Below w.heap.size w W → W.cell? ⟨x, 0, none⟩ = some (.slice a1 l1.length c1) → W.cell? ⟨x, 1, none⟩ = some (.slice a2 l2.length c2) → Calls Try.prog 175 #[.slice (some ⟨x, 0, none⟩) 2 2] W fun e w' => ∃ sv, e = .returned (.tuple #[sv, .int .i64 (ue : Nat)]) ∧ OwnT w' W.heap.size sv ul ∧ Below W.heap.size W w' from fun W x h1 h2 h3 => by
    have q := HU.out W x h1 h2 h3
    simp only [if_true, if_neg (show ¬ (1 : Nat) = 0 by decide), hu] at q
    exact q)
  have hA5 := hidp (show Below w4.heap.size w4 (w4.alloc (.cells #[.slice a1 l1.length c1, .slice a2 l2.length c2] 61)) from (Below.refl _ _).alloc (Nat.le_refl _) _)
  have hX5 := hidp (Blk.new w4 [.slice a1 l1.length c1, .slice a2 l2.length c2] 61)
  clear HU
  go_wp2_with first
  | (with_reducible refine (?_ : wpList _ _ _ _ _ _); refine wpList_load_midD 31 rfl (by kernel_rfl) 34 _ rfl w.heap.size 1 rfl (bvs p1) _ (rangeAt_p H4.out.k1) Try.underlying34 rfl (by rw [bvs_len, hpp.out.1]; kernel_rfl) ?_)
  | (with_reducible refine (?_ : wpList _ _ _ _ _ _); refine wpList_load_midD 33 rfl (by kernel_rfl) 34 _ rfl (w.heap.size + 1) 1 rfl (bvs p2) _ (rangeAt_p H4.out.k2) Try.underlying34 rfl (by rw [bvs_len, hpp.out.2]; kernel_rfl) ?_)
  refine (HU2.out _ w4.heap.size (H4.out.bel.trans (hA5.out.mono H4.out.bel.size)) (hX5.out.cell 0) (hX5.out.cell 1)).mono ?_
  rintro e w5 ⟨sv, rfl, ho5, hb5⟩
  obtain ⟨p5, c5, rfl, _⟩ := OwnT.slice ho5
  have H5 := hidp ((H4.out.below hA5.out).below hb5)
  have hO5 := hidp (show OwnT w5 (w.heap.size + 3) (.slice p5 ul.length c5) ul from ho5.base (by have := H4.out.kr.lt; have := hA5.out.size; omega))
  clear ho5 hb5 HU2 hX5 hA5 d33 e33 H4 d1 d2
  by_cases hue : ue = 0
  case neg =>
    have hR := hidp (show r = crE ue by rw [hr.out]; unfold joinO; rw [if_neg (by omega), if_neg (by omega), if_neg (by simp [hh.out, hpq.out]), hu, if_pos hue])
    have hbn2 : (((ue : Nat) : Int) != 0) = true := by rw [bne_iff_ne]; omega
    clear hue hr hu
    go_wp2_with first
      | (with_reducible refine (?_ : wpList _ _ _ _ _ _); refine wpList_buildG (by kernel_rfl) 63 _ rfl (cC 0 zh32 (.slice none 0 0)).toArray (by kernel_rfl) ?_)
      | (with_reducible refine (?_ : wpList _ _ _ _ _ _); refine wpList_store_blk rfl 63 _ _ rfl (w.heap.size + 2) (cC 0 zh32 (.slice none 0 0)) (cC 0 zh32 (.slice none 0 0)) 63 rfl rfl H5.out.kr (by rw [hl0.out]; kernel_rfl) rfl ho0.out ?_; intro w13 hw13; have F1 := hidp (show Blk w13 (w.heap.size + 2) (cC 0 zh32 (.slice none 0 0)) 63 ∧ Below w.heap.size w w13 by rw [hw13.out]; exact ⟨H5.out.kr.row, H5.out.bel.trans (((But.refl (w.heap.size + 2) w5).setRow _).below (by omega))⟩))
    refine bodyPost_ret (v := .tuple #[.agg (cC 0 zh32 (.slice none 0 0)).toArray, .int .i64 (ue : Nat)]) ?_ rfl ⟨.slice none 0 0, by rw [hR.out]; rfl, by rw [hR.out]; exact OwnT.nil _ _, F1.out.2⟩
    exact results_row1 Try.results113 _ _ (w.heap.size + 2) 63 _ _ _ rfl F1.out.1 Try.underlying63 rfl (by rw [hl0.out]; kernel_rfl) rfl
  subst hue
  have hR := hidp (show r = ⟨h1, p1, ul, 0⟩ by rw [hr.out]; unfold joinO; rw [if_neg (by omega), if_neg (by omega), if_neg (by simp [hh.out, hpq.out]), hu, if_neg (by simp)])
  have f1 : w5.cell? ⟨w.heap.size, 0, none⟩ = some (.int .i64 h1) := H5.out.k1.cell 0
  have hBc := hidp (built_com h1 p1 p5 ul.length c5 hpp.out.1)
  have hl6 := hidp (cC_len (h := h1) (sl := .slice p5 ul.length c5) hpp.out.1)
  have ho6 := hidp (cC_one h1 p1 p5 ul.length c5)
  clear hr hu
  go_wp2_with first
    | (with_reducible refine (?_ : wpList _ _ _ _ _ _); refine wpList_load_mid rfl 34 _ rfl w.heap.size 1 rfl (bvs p1) _ (rangeAt_p H5.out.k1) Try.underlying34 rfl (by rw [bvs_len, hpp.out.1]; kernel_rfl) ?_)
    | (with_reducible refine (?_ : wpList _ _ _ _ _ _); refine wpList_buildTo rfl 63 _ rfl _ rfl (cC h1 p1 (.slice p5 ul.length c5)).toArray (by rw [← hBc.out]; kernel_rfl) ?_)
    | (with_reducible refine (?_ : wpList _ _ _ _ _ _); refine wpList_store_blk rfl 63 _ _ rfl (w.heap.size + 2) (cC h1 p1 (.slice p5 ul.length c5)) (cC 0 zh32 (.slice none 0 0)) 63 rfl rfl H5.out.kr (by rw [hl6.out]; kernel_rfl) (by rw [hl6.out, hl0.out]) ho6.out ?_; intro w13 hw13; have F1 := hidp (show Blk w13 (w.heap.size + 2) (cC h1 p1 (.slice p5 ul.length c5)) 63 ∧ Below w.heap.size w w13 ∧ OwnT w13 w.heap.size (.slice p5 ul.length c5) ul by rw [hw13.out]; exact ⟨H5.out.kr.row, H5.out.bel.trans (((But.refl (w.heap.size + 2) w5).setRow _).below (by omega)), (hO5.out.bex (g := w.heap.size + 2) (Bex.of_but ((But.refl (w.heap.size + 2) w5).setRow _)) (by omega)).base (by omega)⟩))
  refine bodyPost_ret (v := .tuple #[.agg (cC h1 p1 (.slice p5 ul.length c5)).toArray, .int .i64 0]) ?_ rfl ⟨.slice p5 ul.length c5, by rw [hR.out]; rfl, by rw [hR.out]; exact F1.out.2.2, F1.out.2.1⟩
  exact results_row1 Try.results113 _ _ (w.heap.size + 2) 63 _ _ _ rfl F1.out.1 Try.underlying63 rfl (by rw [hl6.out]; kernel_rfl) rfl
end Go.Proofs.Ytbhkjflpkpkdlaa
