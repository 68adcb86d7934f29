/-
  Commit: Insert at any place; Add.
-/
import Derived.Test.YtbhkjflpkpkdlaaL7e
import Derived.Deep.RegionHeld3
import Derived.Deep.WholeRow
import Derived.Deep.MidRow
import Derived.Test.YtbhkjflpkpkdlaaLh
namespace Go.Proofs.Ytbhkjflpkpkdlaa
open Go.RowKit Go.Lib
set_option linter.unusedSimpArgs false

theorem insT_end (l : List Vt) (v : Vt) : insT l l.length v = l ++ [v] := by unfold insT; rw [List.take_length, List.drop_length]
theorem tinsert_any (B : Nat) (sv : Value) (l : List Vt) (i : Nat) (v : Vt) (vb : Nat) (w : World) (h : OwnT w B sv l) (hi : i ≤ l.length) (hl : l.length ≤ 1000) (hv : Blk w vb (tL v) 83) (hne : sv.ownBlock ≠ some vb) (hB : B ≤ w.heap.size) :
    Calls Try.prog 111 #[sv, .int .i64 (i : Nat), .slice (some ⟨vb, 0, none⟩) 1 1] w fun e w' => ∃ sv', e = .returned sv' ∧ OwnT w' B sv' (insT l i v) ∧ w.grownBy w' sv.ownBlock := by
  rcases h.2 with ⟨h1, h2⟩ | ⟨g, cap, cur, h1, h2, h3, h4, h5, h6, h7⟩
  · obtain rfl : i = l.length := by omega
    have q := tinsert_end B sv none 0 l v vb w (by rw [h1, h2]) h hl hv hB
    rw [insT_end]
    exact q
  · by_cases hil : i = l.length
    · subst hil
      have q := tinsert_end B sv (some ⟨g, 0, none⟩) cap l v vb w h1 h hl hv hB
      rw [insT_end]
      exact q
    · subst h1
      have hb : Blk w g (l.flatMap tL ++ cur.toList.drop (l.length * 2)) 83 := by
        unfold Blk
        rw [h3, ← h7, List.take_append_drop, Array.toArray_toList]
      have hz : (l.flatMap tL ++ cur.toList.drop (l.length * 2)).length = cap * 2 := by
        rw [← h7, List.take_append_drop, Array.length_toList, h6]
      by_cases hc : l.length + 1 ≤ cap
      · refine (tinsert_room B g cap i l _ v vb w hb h2 (by omega) hc h5 hz hl hv (fun e => hne (by rw [e]; rfl))).mono ?_
        rintro e w' ⟨rfl, q1, q2⟩
        exact ⟨_, rfl, q1, q2⟩
      · exact tinsert_grow B g cap i l _ v vb w hb hB (by omega) h4 (by omega) hl hv
/-- Votes with one more, in order. -/
def insV (l : List Vt) (v : Vt) : List Vt := l.takeWhile (fun u => decide (u.a < v.a)) ++ v :: l.dropWhile (fun u => decide (u.a < v.a))
theorem Cut.insV {l : List Vt} {v : Vt} {i : Nat} (h : Cut l v.a i) : insT l i v = insV l v := by
  have key : ∀ (l : List Vt) (i : Nat), Cut l v.a i → l.takeWhile (fun u => decide (u.a < v.a)) = l.take i ∧ l.dropWhile (fun u => decide (u.a < v.a)) = l.drop i := by
    intro l
    induction l with
    | nil => intro i _; simp
    | cons x l ih =>
      intro i hc
      cases i with
      | zero =>
        have := hc.hi 0 x (Nat.le_refl _) rfl
        simp [show ¬ x.a < v.a by omega]
      | succ i =>
        have hx := hc.lo 0 x (by omega) rfl
        obtain ⟨h1, h2⟩ := ih i ⟨by have := hc.le; simp at this; omega, fun m u hm hu => hc.lo (m + 1) u (by omega) (by simpa using hu), fun m u hm hu => hc.hi (m + 1) u (by omega) (by simpa using hu)⟩
        simp [hx, h1, h2]
  obtain ⟨h1, h2⟩ := key l i h
  unfold insT Go.Proofs.Ytbhkjflpkpkdlaa.insV
  rw [h1, h2]
def zh32 : List Nat := List.replicate 32 0
theorem zh32_bytes : Bytes 32 zh32 := ⟨rfl, fun x hx => by rw [List.eq_of_mem_replicate hx]; decide⟩
theorem zero_com : (Try.prog.info? 63).map (fun i => (i.zero, i.size)) = some (some (.agg (cC 0 zh32 (.slice none 0 0)).toArray), 34) := by kernel_rfl
/-- What makes a commit tells: a commit, an error. -/
structure CR where
  h : Int
  p : List Nat
  l : List Vt
  e : Nat
def crE (e : Nat) : CR := ⟨0, zh32, [], e⟩
def CRP (w : World) (r : CR) (e : Ending) (w' : World) : Prop := ∃ sv, e = .returned (.tuple #[.agg (cC r.h r.p sv).toArray, .int .i64 (r.e : Nat)]) ∧ OwnT w' w.heap.size sv r.l ∧ Below w.heap.size w w'
theorem results_row1 {P : Program} {fn : Func} {p q : Tmp} {ty : TypeId} (h : fn.results = #[.cell p ty, .tmp q]) (tmps : Array Value) (w : World) (g : Nat) (t : TypeId) (cs : List Value) (d : TypeDesc) (v : Value)
    (hp : tmps.getD p undef = .pointer (some ⟨g, 0, none⟩)) (hb : Blk w g cs t) (hu : P.underlying ty = some d) (hd : (match d with | .struct _ | .array _ _ => true | _ => false) = true) (hi : (P.info? ty).map (·.size) = some cs.length) (hq : tmps.getD q undef = v) :
    (results fn tmps).run P w = .ok (.tuple #[.agg cs.toArray, v]) w := by
  have hr := run_loadVar_row (P := P) w g t ty cs.toArray (0, 0) d hb hu hd (by simpa using hi)
  have hp' : tmps[p]?.getD undef = .pointer (some ⟨g, 0, none⟩) := by simpa using hp
  have hq' : tmps[q]?.getD undef = v := by simpa using hq
  simp only [results, h]
  simp [hp', hq', asAddr, hr, Sem.run_bind, Result.andThen]
def addO (h : Int) (p : List Nat) (l : List Vt) (v : Vt) : CR := if chkC h l ≠ 0 then crE (chkC h l) else if isP v.a = false then crE 3 else if hasT l v.a = true then crE 8 else ⟨h, p, insV l v, 0⟩
theorem chkC_ok {h : Int} {l : List Vt} (hc : chkC h l = 0) : (1 ≤ h ∧ h ≤ 1073741824) ∧ l.length ≤ 64 ∧ chkV (-1) l = 0 := by
  unfold chkC at hc
  split at hc
  · cases hc
  · split at hc
    · cases hc
    · exact ⟨by omega, by omega, hc⟩
theorem nextV_ok {q : Int} {v : Vt} (h : nextV q v = 0) : (0 ≤ v.a ∧ v.a ≤ 63) ∧ q < v.a := by
  unfold nextV at h
  split at h
  · cases h
  · split at h
    · cases h
    · omega
theorem chkV_ok : ∀ {l : List Vt} {q : Int}, chkV q l = 0 → SortedT l ∧ (∀ v ∈ l, q < v.a) ∧ ∀ v ∈ l, 0 ≤ v.a ∧ v.a ≤ 63
  | [], _, _ => ⟨List.Pairwise.nil, by simp, by simp⟩
  | u :: l, q, h => by
    simp only [chkV] at h
    by_cases h0 : nextV q u = 0
    · rw [if_pos h0] at h
      obtain ⟨h1, h2, h3⟩ := chkV_ok h
      obtain ⟨n1, n2⟩ := nextV_ok h0
      refine ⟨List.pairwise_cons.2 ⟨h2, h1⟩, fun v hv => ?_, fun v hv => ?_⟩
      · rcases List.mem_cons.1 hv with rfl | hv
        · exact n2
        · have := h2 v hv; omega
      · rcases List.mem_cons.1 hv with rfl | hv
        · exact n1
        · exact h3 v hv
    · rw [if_neg h0] at h; exact absurd h h0

/-- The boxes of Add. -/
structure AddB (w W : World) (h : Int) (p : List Nat) (sl : Value) (v : Vt) : Prop where
  kc : Blk W w.heap.size (cC h p sl) 63
  kv : Blk W (w.heap.size + 1) (tL v) 83
  kr : Blk W (w.heap.size + 2) (cC 0 zh32 (.slice none 0 0)) 63
  bel : Below w.heap.size w W
theorem AddB.below {w W W' : World} {h : Int} {p : List Nat} {sl : Value} {v : Vt} (H : AddB w W h p sl v) (hb : Below W.heap.size W W') : AddB w W' h p sl v := ⟨hb.blk' H.kc, hb.blk' H.kv, hb.blk' H.kr, H.bel.trans (hb.mono H.bel.size)⟩
theorem AddB.lt {w W : World} {h : Int} {p : List Nat} {sl : Value} {v : Vt} (H : AddB w W h p sl v) : w.heap.size + 2 < W.heap.size := H.kr.lt
theorem cC_set {h : Int} {p : List Nat} {sl s2 : Value} (hp : p.length = 32) : (cC h p sl).set 33 s2 = cC h p s2 := by
  have l1 : (bvs p).length = 32 := by rw [bvs_len, hp]
  unfold cC
  rw [List.set_cons_succ, List.set_append_right 32 _ (by omega), l1]
  rfl
theorem OwnT.slice {w : World} {B : Nat} {v : Value} {l : List Vt} (h : OwnT w B v l) : ∃ p c, v = .slice p l.length c ∧ (p = none → c = 0) := by
  rcases h.2 with ⟨h1, h2⟩ | ⟨g, cap, cur, h1, _⟩
  · exact ⟨none, 0, by rw [h1, h2], fun _ => rfl⟩
  · exact ⟨_, cap, h1, fun e => by cases e⟩
theorem AddB.drew {w W : World} {h : Int} {p : List Nat} {sl : Value} {v : Vt} (H : AddB w W h p sl v) : AddB w W.drew h p sl v := ⟨H.kc.drew, H.kv.drew, H.kr.drew, H.bel.drew⟩
theorem AddB.set {w W : World} {h : Int} {p : List Nat} {sl : Value} {v : Vt} (H : AddB w W h p sl v) (hp : p.length = 32) (s2 : Value) : AddB w (W.setCell ⟨w.heap.size, 33, none⟩ s2) h p s2 v :=
  ⟨cC_set hp ▸ H.kc.set 33 s2, H.kv.other _ _ (by simp), H.kr.other _ _ (by simp), H.bel.setCell (p := ⟨w.heap.size, 33, none⟩) (Nat.le_refl _) s2⟩
/-- Behind Clone, ahead of Insert. -/
def AddK (w3 w4 : World) (v4 : Value) (l : List Vt) : Prop := OwnT w4 w3.heap.size v4 l ∧ Below w3.heap.size w3 w4
theorem addK4 {w3 W w4 : World} {v4 : Value} {l : List Vt} (hW : Below w3.heap.size w3 W) (ho : OwnT w4 W.heap.size v4 l) (hb : Below W.heap.size W w4) : AddK w3 w4 v4 l := ⟨ho.base hW.size, hW.trans (hb.mono hW.size)⟩
theorem addV4 {W w4 : World} {x : Nat} {v4 : Value} {l : List Vt} {v : Vt} (ho : OwnT w4 W.heap.size v4 l) (hb : Below W.heap.size W w4) (hk : Blk W x (tL v) 83) : Blk w4 x (tL v) 83 ∧ v4.ownBlock ≠ some x :=
  ⟨hb.blk' hk, fun e => by have := (ho.lt e).1; have := hk.lt; omega⟩
theorem addI5 {w3 w4 Wi : World} {v4 : Value} {l : List Vt} {i x : Nat} {v : Vt} (K : AddK w3 w4 v4 l) (hi : i ≤ l.length) (hl : l.length ≤ 64)
    (hx : (Wi = w4 ∧ Blk w4 x (tL v) 83 ∧ v4.ownBlock ≠ some x) ∨ (Wi = w4.alloc (.cells (tL v).toArray 83) ∧ x = w4.heap.size)) :
    Calls Try.prog 111 #[v4, .int .i64 (i : Nat), .slice (some ⟨x, 0, none⟩) 1 1] Wi fun e w' => ∃ sv', e = .returned sv' ∧ OwnT w' w3.heap.size sv' (insT l i v) ∧ Below w3.heap.size w3 w' := by
  have key : OwnT Wi w3.heap.size v4 l ∧ Blk Wi x (tL v) 83 ∧ v4.ownBlock ≠ some x ∧ Below w3.heap.size w3 Wi := by
    rcases hx with ⟨rfl, h1, h2⟩ | ⟨rfl, rfl⟩
    · exact ⟨K.1, h1, h2, K.2⟩
    · have ha : Below w4.heap.size w4 (w4.alloc (.cells (tL v).toArray 83)) := (Below.refl _ w4).alloc (Nat.le_refl _) _
      exact ⟨K.1.below ha, Blk.new w4 _ _, fun e => by have := (K.1.lt e).2; omega, K.2.trans (ha.mono K.2.size)⟩
  obtain ⟨h1, h2, h3, h4⟩ := key
  refine (tinsert_any w3.heap.size v4 l i v x Wi h1 hi (by omega) h2 h3 h4.size).mono ?_
  rintro e w' ⟨sv', rfl, q1, q2⟩
  exact ⟨sv', rfl, q1, h4.trans ((Below.refl _ Wi).grown q2 h4.size (fun j hj => (h1.lt hj).1))⟩
set_option maxRecDepth 100000 in
set_option maxHeartbeats 4000000 in
theorem cadd_any (h : Int) (p : List Nat) (hp : p.length = 32) (a : Option Addr) (b o cap : Nat) (l : List Vt) (v : Vt) (w : World) (hT : Ts w a b o cap l) (hz : a = none → cap = 0) :
    Calls Try.prog 49 #[.agg (cC h p (.slice a l.length cap)).toArray, .agg #[.int .i64 v.a, .int .u64 (v.s : Nat)]] w (CRP w (addO h p l v)) := by
  have hz0 : ∀ w, (zeroValue 63).run Try.prog w = .ok (.agg (cC 0 zh32 (.slice none 0 0)).toArray) w := (zero_of_info (P := Try.prog) zero_com).1
  have hl := hidp (cC_len (h := h) (sl := .slice a l.length cap) hp)
  have hl0 := hidp (cC_len (h := 0) (sl := .slice none 0 0) (p := zh32) rfl)
  have ho0 := hidp (cC_one 0 zh32 none 0 0)
  have HB : Hid (AddB w (((w.alloc (.cells (cC h p (.slice a l.length cap)).toArray 63)).alloc (.cells #[.int .i64 v.a, .int .u64 (v.s : Nat)] 83)).alloc (.cells (cC 0 zh32 (.slice none 0 0)).toArray 63)) h p (.slice a l.length cap) v) := hidp
    ⟨((Blk.new w _ _).alloc _).alloc _, (Blk.new' _ (tL v) _ _ (by simp)).alloc _, Blk.new' _ _ _ _ (by simp), (((Below.refl _ w).alloc (Nat.le_refl _) _).alloc (by simp) _).alloc (by simp; omega) _⟩
  have HC := hidp (ccheck_any h p hp a b o cap l _ (hT.below HB.out.bel))
  have HT := hidp hT
  obtain ⟨r, hr⟩ : ∃ r, r = addO h p l v := ⟨_, rfl⟩
  rw [← hr]
  replace hr := hidp hr
  clear hT
  go_enter Try.func49, Try.ntmps49
  go_wp2_with (with_reducible refine (?_ : wpList _ _ _ _ _ _); refine wpList_load_blk rfl 63 _ rfl w.heap.size (cC h p (.slice a l.length cap)) 63 rfl HB.out.kc _ Try.underlying63 rfl (by rw [hl.out]; kernel_rfl) ?_)
  refine HC.out.mono ?_
  rintro e w1 ⟨rfl, hb⟩
  have H1 := hidp (HB.out.below hb)
  clear hb HC HB
  by_cases hc : chkC h l = 0
  case neg =>
    have hR := hidp (show r = crE (chkC h l) by rw [hr.out]; unfold addO; rw [if_pos hc])
    have hbn : (((chkC h l : Nat) : Int) != 0) = true := by rw [bne_iff_ne]; omega
    clear hc hr
    generalize chkC h l = n at *
    go_wp2_with first
      | (with_reducible refine (?_ : wpList _ _ _ _ _ _); refine wpList_buildG (by kernel_rfl) 63 _ rfl (cC 0 zh32 (.slice none 0 0)).toArray (by kernel_rfl) ?_)
      | (with_reducible refine (?_ : wpList _ _ _ _ _ _); refine wpList_store_blk rfl 63 _ _ rfl (w.heap.size + 2) (cC 0 zh32 (.slice none 0 0)) (cC 0 zh32 (.slice none 0 0)) 63 rfl rfl H1.out.kr (by rw [hl0.out]; kernel_rfl) rfl ho0.out ?_; intro w13 hw13; have F1 := hidp (show Blk w13 (w.heap.size + 2) (cC 0 zh32 (.slice none 0 0)) 63 ∧ Below w.heap.size w w13 by rw [hw13.out]; exact ⟨H1.out.kr.row, H1.out.bel.trans (((But.refl (w.heap.size + 2) w1).setRow _).below (by omega))⟩))
    refine bodyPost_ret (v := .tuple #[.agg (cC 0 zh32 (.slice none 0 0)).toArray, .int .i64 (n : Nat)]) ?_ rfl ⟨.slice none 0 0, by rw [hR.out]; rfl, by rw [hR.out]; exact OwnT.nil _ _, F1.out.2⟩
    exact results_row1 Try.results49 _ _ (w.heap.size + 2) 63 _ _ _ rfl F1.out.1 Try.underlying63 rfl (by rw [hl0.out]; kernel_rfl) rfl
  have hOK := hidp (chkC_ok hc)
  rw [hc]
  have d0 : w1.cell? ⟨w.heap.size + 1, 0, none⟩ = some (.int .i64 v.a) := H1.out.kv.cell 0
  have HP := hidp (fun W => isPlace_any v.a W)
  go_wp2_with fail
  refine (HP.out _).mono ?_
  rintro e w2 ⟨rfl, rfl⟩
  cases hp1 : isP v.a
  · have hR := hidp (show r = crE 3 by rw [hr.out]; unfold addO; rw [if_neg (by omega), if_pos hp1])
    clear hr
    go_wp2_with first
      | (with_reducible refine (?_ : wpList _ _ _ _ _ _); refine wpList_buildG (by kernel_rfl) 63 _ rfl (cC 0 zh32 (.slice none 0 0)).toArray (by kernel_rfl) ?_)
      | (with_reducible refine (?_ : wpList _ _ _ _ _ _); refine wpList_store_blk rfl 63 _ _ rfl (w.heap.size + 2) (cC 0 zh32 (.slice none 0 0)) (cC 0 zh32 (.slice none 0 0)) 63 rfl rfl H1.out.kr (by rw [hl0.out]; kernel_rfl) rfl ho0.out ?_; intro w13 hw13; have F1 := hidp (show Blk w13 (w.heap.size + 2) (cC 0 zh32 (.slice none 0 0)) 63 ∧ Below w.heap.size w w13 by rw [hw13.out]; exact ⟨H1.out.kr.row, H1.out.bel.trans (((But.refl (w.heap.size + 2) w2).setRow _).below (by omega))⟩))
    refine bodyPost_ret (v := .tuple #[.agg (cC 0 zh32 (.slice none 0 0)).toArray, .int .i64 3]) ?_ rfl ⟨.slice none 0 0, by rw [hR.out]; rfl, by rw [hR.out]; exact OwnT.nil _ _, F1.out.2⟩
    exact results_row1 Try.results49 _ _ (w.heap.size + 2) 63 _ _ _ rfl F1.out.1 Try.underlying63 rfl (by rw [hl0.out]; kernel_rfl) rfl
  have c33 : w2.cell? ⟨w.heap.size, 33, none⟩ = some (.slice a l.length cap) := (H1.out.kc.cell 33).trans (cC_33 hp)
  have HF := hidp (cfind_any a b o cap l v.a w2 (HT.out.below H1.out.bel) (chkV_ok hOK.out.2.2).1 (by have := hOK.out.2.1; omega))
  go_wp2_with fail
  refine HF.out.mono ?_
  rintro e w3 ⟨⟨i, rfl, hcut⟩, hb⟩
  have H3 := hidp (H1.out.below hb)
  have HCut := hidp hcut
  clear hb HF H1 c33 d0 hcut
  cases hh : hasT l v.a
  case true =>
    have hR := hidp (show r = crE 8 by rw [hr.out]; unfold addO; rw [if_neg (by omega), if_neg (by rw [hp1]; decide), if_pos hh])
    clear hr
    go_wp2_with first
      | (with_reducible refine (?_ : wpList _ _ _ _ _ _); refine wpList_buildG (by kernel_rfl) 63 _ rfl (cC 0 zh32 (.slice none 0 0)).toArray (by kernel_rfl) ?_)
      | (with_reducible refine (?_ : wpList _ _ _ _ _ _); refine wpList_store_blk rfl 63 _ _ rfl (w.heap.size + 2) (cC 0 zh32 (.slice none 0 0)) (cC 0 zh32 (.slice none 0 0)) 63 rfl rfl H3.out.kr (by rw [hl0.out]; kernel_rfl) rfl ho0.out ?_; intro w13 hw13; have F1 := hidp (show Blk w13 (w.heap.size + 2) (cC 0 zh32 (.slice none 0 0)) 63 ∧ Below w.heap.size w w13 by rw [hw13.out]; exact ⟨H3.out.kr.row, H3.out.bel.trans (((But.refl (w.heap.size + 2) w3).setRow _).below (by omega))⟩))
    refine bodyPost_ret (v := .tuple #[.agg (cC 0 zh32 (.slice none 0 0)).toArray, .int .i64 8]) ?_ rfl ⟨.slice none 0 0, by rw [hR.out]; rfl, by rw [hR.out]; exact OwnT.nil _ _, F1.out.2⟩
    exact results_row1 Try.results49 _ _ (w.heap.size + 2) 63 _ _ _ rfl F1.out.1 Try.underlying63 rfl (by rw [hl0.out]; kernel_rfl) rfl
  have hR := hidp (show r = ⟨h, p, insV l v, 0⟩ by rw [hr.out]; unfold addO; rw [if_neg (by omega), if_neg (by rw [hp1]; decide), if_neg (by rw [hh]; decide)])
  have hpp := hidp hp
  have hzz := hidp hz
  have hlt3 := hidp H3.out.lt
  have HN := hidp (show ∀ W, Below w3.heap.size w3 W → Calls Try.prog 112 #[.slice a l.length cap] W fun e w' => ∃ v, e = .returned v ∧ OwnT w' W.heap.size v l ∧ Below W.heap.size W w' from fun W hW => tclone_any a b o cap l W ((HT.out.below H3.out.bel).below hW) hzz.out (by have := hOK.out.2.1; omega))
  clear hr hc hp hz
  have hlen64 := hidp hOK.out.2.1
  go_wp2_with fail
  have hT := hidp H3.out.drew
  refine wp_region_held_drew (S := (fun W => Blk W (w.heap.size + 1) (tL v) 83)) (by kernel_rfl) hT.out.kv (fun hHeld => ?_)
  try simp only [Act.put, List.setIfInBounds_toArray, List.set_cons_zero, List.set_cons_succ]
  refine wpAnyH_takeTo2 (i := 0) (oi := _) (v := ?_) (some 30) rfl rfl (by kernel_rfl) (by kernel_rfl) (by kernel_rfl) (fun _ _ _ h => h) (Or.inl ⟨by rfl, ?_⟩) hHeld ?_
  rotate_left
  · intro w hSw
    go_simp
    try with_reducible rfl
  try simp only [Act.put, List.setIfInBounds_toArray, List.set_cons_zero, List.set_cons_succ]
  refine wpAnyH_takeTo2 (i := 3) (oi := _) (v := ?_) (some 33) rfl rfl (by kernel_rfl) (by kernel_rfl) (by kernel_rfl) (fun _ _ _ h => h) (Or.inl ⟨by rfl, ?_⟩) hHeld ?_
  rotate_left
  · intro w hSw
    go_simp
    try with_reducible rfl
  try simp only [Act.put, List.setIfInBounds_toArray, List.set_cons_zero, List.set_cons_succ]
  refine wpAnyH_takeTo2 (i := 4) (oi := _) (v := .agg #[.int .i64 v.a, .int .u64 (v.s : Nat)]) (some 34) rfl rfl (by kernel_rfl) (by kernel_rfl) (by kernel_rfl) (fun _ _ _ h => h) (yieldsIf_load_mid (by rfl) 83 _ rfl (w.heap.size + 1) 0 rfl [.int .i64 v.a, .int .u64 (v.s : Nat)] _ (fun w' hw' j v hj => by rw [Nat.zero_add]; exact (hw'.cell j).trans hj) Try.underlying83 rfl (by kernel_rfl)) hHeld ?_
  try simp only [Act.put, List.setIfInBounds_toArray, List.set_cons_zero, List.set_cons_succ]
  have HB3 := hidp (Below.refl w3.heap.size w3)
  refine wpAnyH_ready (rs := [1,5]) (by kernel_rfl) (by simp) ?_
  refine AllReadyH.cons (o := _) rfl (fun K hK => ?_) (AllReadyH.cons (o := _) rfl (fun K hK => ?_) AllReadyH.nil)
  · skip
    have c33 := (hT.out.kc.cell 33).trans (cC_33 hpp.out)
    go_simp
    refine hK.out _ _ hT.out.kv (fun hHeld' => ?_)
    clear hK K hHeld
    have hHeld := hHeld'
    clear hHeld'
    try simp only [Act.put, List.setIfInBounds_toArray, List.set_cons_zero, List.set_cons_succ]
    clear c33
    refine wpAnyH_ready (rs := [2,5]) (by kernel_rfl) (by simp) ?_
    refine AllReadyH.cons (o := _) rfl (fun K hK => ?_) (AllReadyH.cons (o := _) rfl (fun K hK => ?_) AllReadyH.nil)
    · skip
      go_simp
      refine (HN.out _ (HB3.out.drew)).mono ?_
      rintro e w4 ⟨v4, rfl, ho4, hb4⟩
      have K4 := hidp (addK4 (HB3.out.drew) ho4 hb4)
      replace hT := hidp (H3.out.below K4.out.2)
      clear ho4 hb4
      go_wp2_with fail
      refine hK.out _ _ hT.out.kv (fun hHeld' => ?_)
      clear hK K hHeld
      have hHeld := hHeld'
      clear hHeld'
      try simp only [Act.put, List.setIfInBounds_toArray, List.set_cons_zero, List.set_cons_succ]
      refine wpAnyH_ready (rs := [5]) (by kernel_rfl) (by simp) ?_
      refine AllReadyH.cons (o := _) rfl (fun K hK => ?_) AllReadyH.nil
      go_simp
      replace hT := hidp (hT.out.below ((Below.refl _ _).alloc (Nat.le_refl _) (.cells #[.int .i64 v.a, .int .u64 (v.s : Nat)] 83)))
      refine hK.out _ _ hT.out.kv (fun hHeld' => ?_)
      clear hK K hHeld
      have hHeld := hHeld'
      clear hHeld'
      try simp only [Act.put, List.setIfInBounds_toArray, List.set_cons_zero, List.set_cons_succ]
      refine wpAnyH_ready (rs := [6]) (by kernel_rfl) (by simp) ?_
      refine AllReadyH.cons (o := _) rfl (fun K hK => ?_) AllReadyH.nil
      go_simp
      refine (addI5 (v := v) (i := i) K4.out HCut.out.le hlen64.out (.inr ⟨rfl, rfl⟩)).mono ?_
      rintro e w5 ⟨v5, rfl, ho5, hb5⟩
      obtain ⟨p5, c5, rfl, _⟩ := OwnT.slice ho5
      have H5 := hidp (H3.out.below hb5)
      have hO5 := hidp ho5
      replace hT := H5
      clear ho5 hb5
      go_wp2_with fail
      refine hK.out _ _ hT.out.kv (fun hHeld' => ?_)
      clear hK K hHeld
      have hHeld := hHeld'
      clear hHeld'
      try simp only [Act.put, List.setIfInBounds_toArray, List.set_cons_zero, List.set_cons_succ]
      refine wpAnyH_takeTo2 (i := 7) (oi := _) (v := ?_) (some 37) rfl rfl (by kernel_rfl) (by kernel_rfl) (by kernel_rfl) (fun _ _ _ h => h) (Or.inl ⟨by rfl, ?_⟩) hHeld ?_
      rotate_left
      · intro w hSw
        go_simp
        try with_reducible rfl
      try simp only [Act.put, List.setIfInBounds_toArray, List.set_cons_zero, List.set_cons_succ]
      refine wpAnyH_ready (rs := [8]) (by kernel_rfl) (by simp) ?_
      refine AllReadyH.cons (o := _) rfl (fun K hK => ?_) AllReadyH.nil
      have k33 := (hT.out.kc.cell 33).trans (cC_33 hpp.out)
      have f33 := hT.out.kc.free 33
      go_simp
      refine hK.out _ _ (hT.out.kv.other _ _ (by simp)) (fun hHeld' => ?_)
      clear hK K hHeld hHeld' k33 f33
      try simp only [Act.put, List.setIfInBounds_toArray, List.set_cons_zero, List.set_cons_succ]
      refine wpAnyH_done (by kernel_rfl) ?_ _
      have H6 := hidp (hT.out.set hpp.out (.slice p5 (insT l i v).length c5))
      have hO6 := hidp (hO5.out.bex (g := w.heap.size) ((Bex.refl w.heap.size w5).setCell 33 (.slice p5 (insT l i v).length c5)) (by have := H3.out.lt; omega))
      obtain ⟨w6, hw6⟩ : ∃ W, W = w5.setCell ⟨w.heap.size, 33, none⟩ (.slice p5 (insT l i v).length c5) := ⟨_, rfl⟩
      rw [← hw6] at H6 hO6 ⊢
      clear hw6 H5 hO5 hT
      have hl6 := hidp (cC_len (h := h) (sl := .slice p5 (insT l i v).length c5) hpp.out)
      have ho6 := hidp (cC_one h p p5 (insT l i v).length c5)
      go_wp2_with first
        | (with_reducible refine (?_ : wpList _ _ _ _ _ _); refine wpList_load_blk rfl 63 _ rfl w.heap.size (cC h p (.slice p5 (insT l i v).length c5)) 63 rfl H6.out.kc _ Try.underlying63 rfl (by rw [hl6.out]; kernel_rfl) ?_)
        | (with_reducible refine (?_ : wpList _ _ _ _ _ _); refine wpList_store_blk rfl 63 _ _ rfl (w.heap.size + 2) (cC h p (.slice p5 (insT l i v).length c5)) (cC 0 zh32 (.slice none 0 0)) 63 rfl rfl H6.out.kr (by rw [hl6.out]; kernel_rfl) (by rw [hl6.out, hl0.out]) ho6.out ?_; intro w13 hw13; have F1 := hidp (show Blk w13 (w.heap.size + 2) (cC h p (.slice p5 (insT l i v).length c5)) 63 ∧ Below w.heap.size w w13 ∧ OwnT w13 w.heap.size (.slice p5 (insT l i v).length c5) (insT l i v) by rw [hw13.out]; exact ⟨H6.out.kr.row, H6.out.bel.trans (((But.refl (w.heap.size + 2) w6).setRow _).below (by omega)), (hO6.out.bex (g := w.heap.size + 2) (Bex.of_but ((But.refl (w.heap.size + 2) w6).setRow _)) (by have := H3.out.lt; omega)).base (by have := H3.out.lt; omega)⟩))
      refine bodyPost_ret (v := .tuple #[.agg (cC h p (.slice p5 (insT l i v).length c5)).toArray, .int .i64 0]) ?_ rfl ⟨.slice p5 (insT l i v).length c5, by rw [hR.out]; rfl, by rw [hR.out, ← HCut.out.insV]; exact F1.out.2.2, F1.out.2.1⟩
      exact results_row1 Try.results49 _ _ (w.heap.size + 2) 63 _ _ _ rfl F1.out.1 Try.underlying63 rfl (by rw [hl6.out]; kernel_rfl) rfl
    · skip
      go_simp
      replace hT := hidp (hT.out.below ((Below.refl _ _).alloc (Nat.le_refl _) (.cells #[.int .i64 v.a, .int .u64 (v.s : Nat)] 83)))
      refine hK.out _ _ hT.out.kv (fun hHeld' => ?_)
      clear hK K hHeld
      have hHeld := hHeld'
      clear hHeld'
      try simp only [Act.put, List.setIfInBounds_toArray, List.set_cons_zero, List.set_cons_succ]
      refine wpAnyH_ready (rs := [2]) (by kernel_rfl) (by simp) ?_
      refine AllReadyH.cons (o := _) rfl (fun K hK => ?_) AllReadyH.nil
      go_simp
      refine (HN.out _ ((HB3.out.drew.alloc (Nat.le_refl _) _))).mono ?_
      rintro e w4 ⟨v4, rfl, ho4, hb4⟩
      have K4 := hidp (addK4 ((HB3.out.drew.alloc (Nat.le_refl _) _)) ho4 hb4)
      have hV4 := hidp (addV4 (v := v) (x := w3.heap.size) ho4 hb4 (Blk.new' _ (tL v) _ _ rfl))
      replace hT := hidp (H3.out.below K4.out.2)
      clear ho4 hb4
      go_wp2_with fail
      refine hK.out _ _ hT.out.kv (fun hHeld' => ?_)
      clear hK K hHeld
      have hHeld := hHeld'
      clear hHeld'
      try simp only [Act.put, List.setIfInBounds_toArray, List.set_cons_zero, List.set_cons_succ]
      refine wpAnyH_ready (rs := [6]) (by kernel_rfl) (by simp) ?_
      refine AllReadyH.cons (o := _) rfl (fun K hK => ?_) AllReadyH.nil
      go_simp
      refine (addI5 (v := v) (i := i) K4.out HCut.out.le hlen64.out (.inl ⟨rfl, hV4.out⟩)).mono ?_
      rintro e w5 ⟨v5, rfl, ho5, hb5⟩
      obtain ⟨p5, c5, rfl, _⟩ := OwnT.slice ho5
      have H5 := hidp (H3.out.below hb5)
      have hO5 := hidp ho5
      replace hT := H5
      clear ho5 hb5
      go_wp2_with fail
      refine hK.out _ _ hT.out.kv (fun hHeld' => ?_)
      clear hK K hHeld
      have hHeld := hHeld'
      clear hHeld'
      try simp only [Act.put, List.setIfInBounds_toArray, List.set_cons_zero, List.set_cons_succ]
      refine wpAnyH_takeTo2 (i := 7) (oi := _) (v := ?_) (some 37) rfl rfl (by kernel_rfl) (by kernel_rfl) (by kernel_rfl) (fun _ _ _ h => h) (Or.inl ⟨by rfl, ?_⟩) hHeld ?_
      rotate_left
      · intro w hSw
        go_simp
        try with_reducible rfl
      try simp only [Act.put, List.setIfInBounds_toArray, List.set_cons_zero, List.set_cons_succ]
      refine wpAnyH_ready (rs := [8]) (by kernel_rfl) (by simp) ?_
      refine AllReadyH.cons (o := _) rfl (fun K hK => ?_) AllReadyH.nil
      have k33 := (hT.out.kc.cell 33).trans (cC_33 hpp.out)
      have f33 := hT.out.kc.free 33
      go_simp
      refine hK.out _ _ (hT.out.kv.other _ _ (by simp)) (fun hHeld' => ?_)
      clear hK K hHeld hHeld' k33 f33
      try simp only [Act.put, List.setIfInBounds_toArray, List.set_cons_zero, List.set_cons_succ]
      refine wpAnyH_done (by kernel_rfl) ?_ _
      have H6 := hidp (hT.out.set hpp.out (.slice p5 (insT l i v).length c5))
      have hO6 := hidp (hO5.out.bex (g := w.heap.size) ((Bex.refl w.heap.size w5).setCell 33 (.slice p5 (insT l i v).length c5)) (by have := H3.out.lt; omega))
      obtain ⟨w6, hw6⟩ : ∃ W, W = w5.setCell ⟨w.heap.size, 33, none⟩ (.slice p5 (insT l i v).length c5) := ⟨_, rfl⟩
      rw [← hw6] at H6 hO6 ⊢
      clear hw6 H5 hO5 hT
      have hl6 := hidp (cC_len (h := h) (sl := .slice p5 (insT l i v).length c5) hpp.out)
      have ho6 := hidp (cC_one h p p5 (insT l i v).length c5)
      go_wp2_with first
        | (with_reducible refine (?_ : wpList _ _ _ _ _ _); refine wpList_load_blk rfl 63 _ rfl w.heap.size (cC h p (.slice p5 (insT l i v).length c5)) 63 rfl H6.out.kc _ Try.underlying63 rfl (by rw [hl6.out]; kernel_rfl) ?_)
        | (with_reducible refine (?_ : wpList _ _ _ _ _ _); refine wpList_store_blk rfl 63 _ _ rfl (w.heap.size + 2) (cC h p (.slice p5 (insT l i v).length c5)) (cC 0 zh32 (.slice none 0 0)) 63 rfl rfl H6.out.kr (by rw [hl6.out]; kernel_rfl) (by rw [hl6.out, hl0.out]) ho6.out ?_; intro w13 hw13; have F1 := hidp (show Blk w13 (w.heap.size + 2) (cC h p (.slice p5 (insT l i v).length c5)) 63 ∧ Below w.heap.size w w13 ∧ OwnT w13 w.heap.size (.slice p5 (insT l i v).length c5) (insT l i v) by rw [hw13.out]; exact ⟨H6.out.kr.row, H6.out.bel.trans (((But.refl (w.heap.size + 2) w6).setRow _).below (by omega)), (hO6.out.bex (g := w.heap.size + 2) (Bex.of_but ((But.refl (w.heap.size + 2) w6).setRow _)) (by have := H3.out.lt; omega)).base (by have := H3.out.lt; omega)⟩))
      refine bodyPost_ret (v := .tuple #[.agg (cC h p (.slice p5 (insT l i v).length c5)).toArray, .int .i64 0]) ?_ rfl ⟨.slice p5 (insT l i v).length c5, by rw [hR.out]; rfl, by rw [hR.out, ← HCut.out.insV]; exact F1.out.2.2, F1.out.2.1⟩
      exact results_row1 Try.results49 _ _ (w.heap.size + 2) 63 _ _ _ rfl F1.out.1 Try.underlying63 rfl (by rw [hl6.out]; kernel_rfl) rfl
  · skip
    go_simp
    replace hT := hidp (hT.out.below ((Below.refl _ _).alloc (Nat.le_refl _) (.cells #[.int .i64 v.a, .int .u64 (v.s : Nat)] 83)))
    refine hK.out _ _ hT.out.kv (fun hHeld' => ?_)
    clear hK K hHeld
    have hHeld := hHeld'
    clear hHeld'
    try simp only [Act.put, List.setIfInBounds_toArray, List.set_cons_zero, List.set_cons_succ]
    refine wpAnyH_ready (rs := [1]) (by kernel_rfl) (by simp) ?_
    refine AllReadyH.cons (o := _) rfl (fun K hK => ?_) AllReadyH.nil
    have c33 := (hT.out.kc.cell 33).trans (cC_33 hpp.out)
    have c33b : (w3.alloc (.cells #[.int .i64 v.a, .int .u64 (v.s : Nat)] 83)).cell? ⟨w.heap.size, 33, none⟩ = some (.slice a l.length cap) := c33
    go_simp
    refine hK.out _ _ hT.out.kv (fun hHeld' => ?_)
    clear hK K hHeld
    have hHeld := hHeld'
    clear hHeld'
    try simp only [Act.put, List.setIfInBounds_toArray, List.set_cons_zero, List.set_cons_succ]
    clear c33
    refine wpAnyH_ready (rs := [2]) (by kernel_rfl) (by simp) ?_
    refine AllReadyH.cons (o := _) rfl (fun K hK => ?_) AllReadyH.nil
    go_simp
    refine (HN.out _ ((HB3.out.drew.alloc (Nat.le_refl _) _))).mono ?_
    rintro e w4 ⟨v4, rfl, ho4, hb4⟩
    have K4 := hidp (addK4 ((HB3.out.drew.alloc (Nat.le_refl _) _)) ho4 hb4)
    have hV4 := hidp (addV4 (v := v) (x := w3.heap.size) ho4 hb4 (Blk.new' _ (tL v) _ _ rfl))
    replace hT := hidp (H3.out.below K4.out.2)
    clear ho4 hb4
    go_wp2_with fail
    refine hK.out _ _ hT.out.kv (fun hHeld' => ?_)
    clear hK K hHeld
    have hHeld := hHeld'
    clear hHeld'
    try simp only [Act.put, List.setIfInBounds_toArray, List.set_cons_zero, List.set_cons_succ]
    refine wpAnyH_ready (rs := [6]) (by kernel_rfl) (by simp) ?_
    refine AllReadyH.cons (o := _) rfl (fun K hK => ?_) AllReadyH.nil
    go_simp
    refine (addI5 (v := v) (i := i) K4.out HCut.out.le hlen64.out (.inl ⟨rfl, hV4.out⟩)).mono ?_
    rintro e w5 ⟨v5, rfl, ho5, hb5⟩
    obtain ⟨p5, c5, rfl, _⟩ := OwnT.slice ho5
    have H5 := hidp (H3.out.below hb5)
    have hO5 := hidp ho5
    replace hT := H5
    clear ho5 hb5
    go_wp2_with fail
    refine hK.out _ _ hT.out.kv (fun hHeld' => ?_)
    clear hK K hHeld
    have hHeld := hHeld'
    clear hHeld'
    try simp only [Act.put, List.setIfInBounds_toArray, List.set_cons_zero, List.set_cons_succ]
    refine wpAnyH_takeTo2 (i := 7) (oi := _) (v := ?_) (some 37) rfl rfl (by kernel_rfl) (by kernel_rfl) (by kernel_rfl) (fun _ _ _ h => h) (Or.inl ⟨by rfl, ?_⟩) hHeld ?_
    rotate_left
    · intro w hSw
      go_simp
      try with_reducible rfl
    try simp only [Act.put, List.setIfInBounds_toArray, List.set_cons_zero, List.set_cons_succ]
    refine wpAnyH_ready (rs := [8]) (by kernel_rfl) (by simp) ?_
    refine AllReadyH.cons (o := _) rfl (fun K hK => ?_) AllReadyH.nil
    have k33 := (hT.out.kc.cell 33).trans (cC_33 hpp.out)
    have f33 := hT.out.kc.free 33
    go_simp
    refine hK.out _ _ (hT.out.kv.other _ _ (by simp)) (fun hHeld' => ?_)
    clear hK K hHeld hHeld' k33 f33
    try simp only [Act.put, List.setIfInBounds_toArray, List.set_cons_zero, List.set_cons_succ]
    refine wpAnyH_done (by kernel_rfl) ?_ _
    have H6 := hidp (hT.out.set hpp.out (.slice p5 (insT l i v).length c5))
    have hO6 := hidp (hO5.out.bex (g := w.heap.size) ((Bex.refl w.heap.size w5).setCell 33 (.slice p5 (insT l i v).length c5)) (by have := H3.out.lt; omega))
    obtain ⟨w6, hw6⟩ : ∃ W, W = w5.setCell ⟨w.heap.size, 33, none⟩ (.slice p5 (insT l i v).length c5) := ⟨_, rfl⟩
    rw [← hw6] at H6 hO6 ⊢
    clear hw6 H5 hO5 hT
    have hl6 := hidp (cC_len (h := h) (sl := .slice p5 (insT l i v).length c5) hpp.out)
    have ho6 := hidp (cC_one h p p5 (insT l i v).length c5)
    go_wp2_with first
      | (with_reducible refine (?_ : wpList _ _ _ _ _ _); refine wpList_load_blk rfl 63 _ rfl w.heap.size (cC h p (.slice p5 (insT l i v).length c5)) 63 rfl H6.out.kc _ Try.underlying63 rfl (by rw [hl6.out]; kernel_rfl) ?_)
      | (with_reducible refine (?_ : wpList _ _ _ _ _ _); refine wpList_store_blk rfl 63 _ _ rfl (w.heap.size + 2) (cC h p (.slice p5 (insT l i v).length c5)) (cC 0 zh32 (.slice none 0 0)) 63 rfl rfl H6.out.kr (by rw [hl6.out]; kernel_rfl) (by rw [hl6.out, hl0.out]) ho6.out ?_; intro w13 hw13; have F1 := hidp (show Blk w13 (w.heap.size + 2) (cC h p (.slice p5 (insT l i v).length c5)) 63 ∧ Below w.heap.size w w13 ∧ OwnT w13 w.heap.size (.slice p5 (insT l i v).length c5) (insT l i v) by rw [hw13.out]; exact ⟨H6.out.kr.row, H6.out.bel.trans (((But.refl (w.heap.size + 2) w6).setRow _).below (by omega)), (hO6.out.bex (g := w.heap.size + 2) (Bex.of_but ((But.refl (w.heap.size + 2) w6).setRow _)) (by have := H3.out.lt; omega)).base (by have := H3.out.lt; omega)⟩))
    refine bodyPost_ret (v := .tuple #[.agg (cC h p (.slice p5 (insT l i v).length c5)).toArray, .int .i64 0]) ?_ rfl ⟨.slice p5 (insT l i v).length c5, by rw [hR.out]; rfl, by rw [hR.out, ← HCut.out.insV]; exact F1.out.2.2, F1.out.2.1⟩
    exact results_row1 Try.results49 _ _ (w.heap.size + 2) 63 _ _ _ rfl F1.out.1 Try.underlying63 rfl (by rw [hl6.out]; kernel_rfl) rfl
end Go.Proofs.Ytbhkjflpkpkdlaa
