/-
  Commit: rows of votes of one's own; slices.Clone, slices.Insert.
-/
import Derived.Test.YtbhkjflpkpkdlaaL7b
import Derived.Test.YtbhkjflpkpkdlaaQh
import Derived.OwnWalk
import Derived.Lib.AppendZerosOnto
import Derived.Lib.Overlaps
import Derived.Shelf.Spec.SlicesInsertGrow
import Derived.Deep.AppendLies
namespace Go.Proofs.Ytbhkjflpkpkdlaa
open Go.RowKit Go.Lib
set_option linter.unusedSimpArgs false

theorem info_vote : (Try.prog.info? 83).map (fun i => (i.zero, i.size, i.bytes)) = some (some (.agg #[.int .i64 0, .int .u64 0]), 2, 16) := by kernel_rfl
/-- Votes in a row of one's own. -/
def OwnT (w : World) (base : Nat) (v : Value) (l : List Vt) : Prop := w.ownsRow base 83 2 v l.length (l.flatMap tL)
theorem tL_len (v : Vt) : (tL v).length = 2 := rfl
theorem flat2 : ∀ l : List Vt, (l.flatMap tL).length = l.length * 2
  | [] => rfl
  | v :: l => by rw [List.flatMap_cons, List.length_append, flat2 l, tL_len, List.length_cons]; omega
theorem flatT_at : ∀ (l : List Vt) (i : Nat) (v : Vt), l[i]? = some v → ∀ j c, (tL v)[j]? = some c → (l.flatMap tL)[i * 2 + j]? = some c
  | [], _, _, h, _, _, _ => by simp at h
  | u :: l, 0, v, h, j, c, hc => by
    simp only [List.getElem?_cons_zero, Option.some.injEq] at h
    subst h
    have hj : j < 2 := by rw [← tL_len u]; exact (List.getElem?_eq_some_iff.1 hc).1
    rw [List.flatMap_cons, List.getElem?_append_left (by rw [tL_len]; omega), Nat.zero_mul, Nat.zero_add]
    exact hc
  | u :: l, i + 1, v, h, j, c, hc => by
    rw [List.flatMap_cons, List.getElem?_append_right (by rw [tL_len]; omega), tL_len, show (i + 1) * 2 + j - 2 = i * 2 + j by omega]
    exact flatT_at l i v (by simpa using h) j c hc
theorem flatT_get {l : List Vt} {j : Nat} {u : Value} (h : (l.flatMap tL)[j]? = some u) : ∃ v, l[j / 2]? = some v ∧ (tL v)[j % 2]? = some u := by
  have hj := (List.getElem?_eq_some_iff.1 h).1
  rw [flat2] at hj
  have hlt : j / 2 < l.length := by omega
  refine ⟨l[j / 2], List.getElem?_eq_getElem hlt, ?_⟩
  have hm : j % 2 < (tL l[j / 2]).length := by rw [tL_len]; omega
  have q := flatT_at l (j / 2) _ (List.getElem?_eq_getElem hlt) (j % 2) _ (List.getElem?_eq_getElem hm)
  rw [show j / 2 * 2 + j % 2 = j by omega, h] at q
  rw [List.getElem?_eq_getElem hm, ← q]
theorem tL_one (v : Vt) : ∀ u ∈ tL v, u.oneCell' = true := by
  intro u hu
  simp only [tL, List.mem_cons, List.not_mem_nil, or_false] at hu
  rcases hu with rfl | rfl <;> rfl
theorem flatT_one (l : List Vt) : ∀ u ∈ l.flatMap tL, u.oneCell' = true := by
  intro u hu
  obtain ⟨v, _, h⟩ := List.mem_flatMap.1 hu
  exact tL_one v u h
theorem OwnT.ts {w : World} {base : Nat} {v : Value} {l : List Vt} (h : OwnT w base v l) (hok : ∀ u ∈ l, VtOk u) : ∃ p b cap, v = .slice p l.length cap ∧ base ≤ b ∧ Ts w p b 0 cap l ∧ (p = none → cap = 0) := by
  rcases h.2 with ⟨h1, h2⟩ | ⟨g, cap, cur, h1, h2, h3, h4, h5, h6, h7⟩
  · have hl : l = [] := List.eq_nil_of_length_eq_zero h2
    subst hl
    exact ⟨none, base, 0, h1, Nat.le_refl _, Ts.nil _ _ _, fun _ => rfl⟩
  · refine ⟨some ⟨g, 0, none⟩, g, cap, h1, h2, ⟨hok, h4, fun _ => ⟨rfl, (Array.getElem?_eq_some_iff.1 h3).1⟩, fun i u hi j c hc => ?_⟩, fun e => by cases e⟩
    have h8 := flatT_at l i u hi j c hc
    rw [← h7] at h8
    simp only [World.cell?, h3]
    rw [Nat.zero_add]
    rw [List.getElem?_take] at h8
    split at h8
    · simpa using h8
    · cases h8
theorem OwnT.nil (w : World) (base : Nat) : OwnT w base (.slice none 0 0) [] := ⟨rfl, .inl ⟨rfl, rfl⟩⟩
theorem OwnT.kept {w w' : World} {base : Nat} {v : Value} {l : List Vt} {row : Option Nat} (h : OwnT w base v l) (hg : w.grownBy w' row) (hne : ∀ k, v.ownBlock = some k → row ≠ some k) : OwnT w' base v l := by
  refine ⟨h.1, ?_⟩
  rcases h.2 with h2 | ⟨g, cap, cur, h1, h2, h3, r⟩
  · exact .inl h2
  · exact .inr ⟨g, cap, cur, h1, h2, (hg.block g (Array.getElem?_eq_some_iff.1 h3).1 (fun e => hne g (by rw [h1]; rfl) e.symm)).trans h3, r⟩
theorem OwnT.below {w w' : World} {base : Nat} {v : Value} {l : List Vt} (h : OwnT w base v l) (hB : Below w.heap.size w w') : OwnT w' base v l := by
  refine ⟨h.1, ?_⟩
  rcases h.2 with h2 | ⟨g, cap, cur, h1, h2, h3, r⟩
  · exact .inl h2
  · exact .inr ⟨g, cap, cur, h1, h2, (hB.block g (Array.getElem?_eq_some_iff.1 h3).1).trans h3, r⟩
theorem OwnT.bex {w w' : World} {base g : Nat} {v : Value} {l : List Vt} (h : OwnT w base v l) (hB : Bex g w w') (hg : g < base) : OwnT w' base v l := by
  refine ⟨h.1, ?_⟩
  rcases h.2 with h2 | ⟨k, cap, cur, h1, h2, h3, r⟩
  · exact .inl h2
  · exact .inr ⟨k, cap, cur, h1, h2, (hB.block k (Array.getElem?_eq_some_iff.1 h3).1 (by omega)).trans h3, r⟩
theorem OwnT.lt {w : World} {B k : Nat} {v : Value} {l : List Vt} (h : OwnT w B v l) (hk : v.ownBlock = some k) : B ≤ k ∧ k < w.heap.size := World.ownsRow.lt h k hk
theorem OwnT.base {w : World} {B C : Nat} {v : Value} {l : List Vt} (h : OwnT w B v l) (hC : C ≤ B) : OwnT w C v l := by
  refine ⟨h.1, ?_⟩
  rcases h.2 with h2 | ⟨g, cap, cur, h1, h2, r⟩
  · exact .inl h2
  · exact .inr ⟨g, cap, cur, h1, Nat.le_trans hC h2, r⟩
theorem OwnT.snoc {w : World} {B : Nat} {v : Value} {l : List Vt} {u : Vt} (h : w.ownsRow B 83 2 v (l.length + 1) (l.flatMap tL ++ tL u)) : OwnT w B v (l ++ [u]) := by
  unfold OwnT
  rw [List.length_append, List.flatMap_append, List.flatMap_cons, List.flatMap_nil, List.append_nil]
  exact h
/-- Votes that came in are hung onto a row of one's own. -/
theorem wpList_append_ts {ops : Array Oper} {rest : List Oper} {o : Oper} {a : Act} {w : World} {Q : Exit → Act → World → Prop} (hgd : o.guard = none) (s x : Operand)
    (ho : o.op = .call { callee := .builtin .append, args := #[s, x], argTypes := #[61, 61] }) (base n : Nat) (xs : List Value) (v : Value) (hs : a.eval s = v)
    (hown : w.ownsRow base 83 2 v n xs) (p : Option Addr) (b oo cap : Nat) (l : List Vt) (hx : a.eval x = .slice p l.length cap) (hb : Ts w p b oo cap l) (hn : n + l.length ≤ 100000) (hbase : base ≤ w.heap.size)
    (h : ∀ v' w', w'.ownsRow base 83 2 v' (n + l.length) (xs ++ l.flatMap tL) → w.grownBy w' v.ownBlock → wpList Try.prog ops Q rest (a.put o.dst v') w') : wpList Try.prog ops Q (o :: rest) a w := by
  obtain ⟨i0, hi, hz0, hz1, hz2⟩ := info_parts info_vote
  cases hp : p with
  | none =>
    have h1 : cap = 0 := by
      rcases Nat.eq_zero_or_pos cap with h0 | h0
      · exact h0
      · have := (hb.ptr h0).1; rw [hp] at this; cases this
    have h2 := hb.le
    have hL : l = [] := List.eq_nil_of_length_eq_zero (by omega)
    subst hL
    refine wpList_append_own_none hgd s x 61 ho base 83 i0 2 Try.underlying61 hi v n xs hs hown (by rw [hx, hp, h1]; rfl) ?_
    exact h v w (by simpa using hown) ⟨rfl, rfl, rfl, Nat.le_refl _, fun _ _ _ => rfl⟩
  | some y =>
    exact wpList_append_own _ hgd s x 61 ho base 83 i0 _ 2 16 Try.underlying61 hi hz0 hz1 hz2 rfl (by decide) v n xs hs hown y l.length cap (l.flatMap tL) (by rw [hx, hp]) (flat2 l)
      (fun j u hj => by
        obtain ⟨v, h1, h2⟩ := flatT_get hj
        have hlt := (List.getElem?_eq_some_iff.1 h1).1
        have hy := (hb.ptr (by have := hb.le; omega)).1
        rw [hp] at hy
        cases hy
        have q := hb.cell _ _ h1 _ _ h2
        rw [Addr.add_mid, show oo + j = oo + j / 2 * 2 + j % 2 by omega]
        exact q) (flatT_one l) (by unfold maxLen; omega) (by omega) hbase (fun v' w' h1 h2 _ => h v' w' h1 h2)
theorem own_nothingT (w : World) : (w.alloc (.cells #[] 83)).ownsRow w.heap.size 83 2 (.slice (some ⟨w.heap.size, 0, none⟩) 0 0) 0 [] :=
  ⟨rfl, .inr ⟨w.heap.size, 0, #[], rfl, Nat.le_refl _, heap_alloc_new w _, by decide, by decide, rfl, rfl⟩⟩
theorem run_nil_nilT (w : World) : (binOp .eql 61 (.slice none 0 0) (.slice none 0 0)).run Try.prog w = .ok (.bool true) w := by kernel_rfl
theorem run_sl_nilT (a : Addr) (n c : Nat) (w : World) : (binOp .eql 61 (.slice (some a) n c) (.slice none 0 0)).run Try.prog w = .ok (.bool false) w := by
  have h : ∀ d : Nat, (Op.equalIn (d + 1) 61 (.slice (some a) n c) (.slice none 0 0)).run Try.prog w = .ok false w := fun d => by
    simp [Op.equalIn, run_underlying Try.underlying61]
  simp only [binOp]
  simp [Op.equal, Op.maxDepth, h 9999]
set_option maxRecDepth 20000 in
set_option maxHeartbeats 2000000 in
theorem tclone_any (p : Option Addr) (b o cap : Nat) (l : List Vt) (w : World) (h : Ts w p b o cap l) (hz : p = none → cap = 0) (hn : l.length ≤ 1000) :
    Calls Try.prog 112 #[.slice p l.length cap] w fun e w' => ∃ v, e = .returned v ∧ OwnT w' w.heap.size v l ∧ Below w.heap.size w w' := by
  cases p with
  | none =>
    have hc := hz rfl
    have h2 := h.le
    have hL : l = [] := List.eq_nil_of_length_eq_zero (by omega)
    subst hc hL
    clear h hz hn h2
    have q := run_nil_nilT w
    go_enter Try.func112, Try.ntmps112
    go_wp2
    go_ret
    exact ⟨_, rfl, OwnT.nil _ _, Below.refl _ _⟩
  | some q =>
    have hB : Hid (Below w.heap.size w (w.alloc (.cells #[] 83))) := hidp ((Below.refl _ w).alloc (Nat.le_refl _) _)
    have HS := hidp (h.below hB.out)
    have hown := hidp (own_nothingT w)
    have HN := hidp hn
    have qn := fun w => run_sl_nilT q l.length cap w
    clear h hn hz
    go_enter Try.func112, Try.ntmps112
    go_wp2_with (at_builtin; refine wpList_append_ts rfl _ _ rfl w.heap.size 0 [] _ rfl hown.out (some q) b o cap l rfl HS.out (by have := HN.out; omega) (by simp) ?_; intro v' w1 hown' hgrow; have hO := hidp hown'; have hB1 := hidp (hB.out.grown hgrow (by simp) (fun j hj => (hown.out.lt j hj).1)); clear hown' hgrow)
    have hO2 := hO.out
    rw [Nat.zero_add, List.nil_append] at hO2
    go_ret
    exact ⟨_, rfl, hO2, hB1.out⟩

theorem under_votes : Try.prog.underlying 61 = some (.slice (Try.prog.elem 61)) := by kernel_rfl
theorem run_size_vote (w : World) : (sizeOf 83).run Try.prog w = .ok 2 w := by kernel_rfl
theorem elem_votes : Try.prog.elem 61 = 83 := by kernel_rfl
theorem run_t_lo (g n c k : Nat) (h : k ≤ n) (hc : k < c) (w : World) : (Instr.sliceAt 61 (.slice (some ⟨g, 0, none⟩) n c) (some (.int .i64 (k : Int))) none none).run Try.prog w = .ok (.slice (some ⟨g, k * 2, none⟩) (n - k) (c - k)) w := by
  rw [run_sliceAt_slice (h := under_votes), run_slice_l (ht := under_votes) (l := (k : Int)) (h0 := by omega) (h1 := by omega), elem_votes, run_size_vote]
  simp only [Result.andThen_ok, sliced]
  rw [show (k : Int).toNat = k by omega]
  simp [Addr.add, show ¬ c = k by omega]
  try omega
def partT (a : Option Addr) (cap k : Nat) : Option Addr := if cap = k then a else a.map (·.add (k * 2))
theorem run_t_any (p : Option Addr) (n c k : Nat) (h : k ≤ n) (w : World) : (Instr.sliceAt 61 (.slice p n c) (some (.int .i64 (k : Int))) none none).run Try.prog w = .ok (.slice (partT p c k) (n - k) (c - k)) w := by
  rw [run_sliceAt_slice (h := under_votes), run_slice_l (ht := under_votes) (l := (k : Int)) (h0 := by omega) (h1 := by omega), elem_votes, run_size_vote]
  simp only [Result.andThen_ok, sliced]
  rw [show (k : Int).toNat = k by omega]
  rfl
theorem run_t_hi (g n c k : Nat) (h : k ≤ c) (w : World) : (Instr.sliceAt 61 (.slice (some ⟨g, 0, none⟩) n c) none (some (.int .i64 (k : Int))) none).run Try.prog w = .ok (.slice (some ⟨g, 0, none⟩) k c) w := by
  rw [run_sliceAt_slice (h := under_votes), run_slice_h (ht := under_votes) (h := (k : Int)) (h0 := by omega) (h2 := by omega), elem_votes, run_size_vote]
  simp [Result.andThen_ok, sliced, Addr.add]
theorem run_copy_cells2 (w : World) (dT sT ty elem : TypeId) (b o dLen dCap : Nat) (a : Addr) (sLen sCap : Nat) (cs : List Value)
    (hu : Try.prog.underlying dT = some (.slice elem)) (hs : (Try.prog.info? elem).map (·.size) = some 2) (hn : cs.length = Nat.min sLen dLen * 2)
    (hsrc : ∀ j v, cs[j]? = some v → w.cell? (a.add j) = some v) (hc : ∀ j, j < cs.length → (w.cell? ⟨b, o + j, none⟩).isSome = true) (hf : ∀ j, j < cs.length → w.frozen? ⟨b, o + j, none⟩ = false) (h1 : ∀ v ∈ cs, v.oneCell' = true) :
    (Builtin.copy_ #[dT, sT] ty #[.slice (some ⟨b, o, none⟩) dLen dCap, .slice (some a) sLen sCap]).run Try.prog w = .ok (goInt (Nat.min sLen dLen)) (w.setCells b o cs) := by
  have hl := run_loadCells_list (P := Try.prog) w a cs hsrc
  have hst := run_storeCells_cells (P := Try.prog) b o cs 0 w (by simpa using hc) (by simpa using hf) h1
  cases hq : Try.prog.info? elem with
  | none => simp [hq] at hs
  | some i =>
    have hi : i.size = 2 := by simpa [hq] using hs
    simp [Builtin.copy_, run_underlying hu, Builtin.lenOf, Builtin.firstCells, sizeOf, typeInfo, hq, hi, ← hn, hl, hst]
theorem setsL_mid2 {A X Y D Z N : List Value} {k : Nat} (hA : A.length = k * 2) (hX : X.length = 2) (hN : N.length = 2) (hY : Y.length = D.length) : setsL (setsL (A ++ (X ++ (Y ++ Z))) ((k + 1) * 2) D) (k * 2) N = A ++ (N ++ (D ++ Z)) := by
  have e1 := setsL_mid D (A ++ X) Y Z hY
  rw [List.append_assoc, List.append_assoc, List.length_append, hA, hX, show k * 2 + 2 = (k + 1) * 2 by omega] at e1
  rw [e1]
  have e2 := setsL_mid N A X (D ++ Z) (by rw [hX, hN])
  rw [hA] at e2
  exact e2
theorem setsL_mid3 {A X Y D Z N : List Value} {k : Nat} (hA : A.length = k * 2) (hX : X.length = 2) (hN : N.length = 2) (hY : Y.length = D.length) : setsL (setsL (A ++ (X ++ (Y ++ Z))) (k * 2) N) ((k + 1) * 2) D = A ++ (N ++ (D ++ Z)) := by
  have e2 := setsL_mid N A X (Y ++ Z) (by rw [hX, hN])
  rw [hA] at e2
  rw [e2]
  have e1 := setsL_mid D (A ++ N) Y Z hY
  rw [List.append_assoc, List.append_assoc, List.length_append, hA, hN, show k * 2 + 2 = (k + 1) * 2 by omega] at e1
  exact e1
/-- A list with one more at a place. -/
def insT (l : List Vt) (i : Nat) (v : Vt) : List Vt := l.take i ++ v :: l.drop i
theorem insT_flat (l : List Vt) (i : Nat) (v : Vt) : (insT l i v).flatMap tL = (l.take i).flatMap tL ++ (tL v ++ (l.drop i).flatMap tL) := by
  unfold insT
  rw [List.flatMap_append, List.flatMap_cons]
theorem insT_len {l : List Vt} {i : Nat} {v : Vt} (h : i ≤ l.length) : (insT l i v).length = l.length + 1 := by
  unfold insT
  simp
  omega
theorem ownT_made {w : World} {B g cap i : Nat} {l : List Vt} {v : Vt} {Z : List Value} (hi : i ≤ l.length) (hg : B ≤ g) (hb : Blk w g ((l.take i).flatMap tL ++ (tL v ++ ((l.drop i).flatMap tL ++ Z))) 83) (hc : l.length + 1 ≤ cap) (hm : cap ≤ maxLen)
    (hz : ((l.take i).flatMap tL ++ (tL v ++ ((l.drop i).flatMap tL ++ Z))).length = cap * 2) : OwnT w B (.slice (some ⟨g, 0, none⟩) (l.length + 1) cap) (insT l i v) := by
  refine ⟨flat2 _, .inr ⟨g, cap, _, by rw [insT_len hi], hg, hb, by rw [insT_len hi]; exact hc, hm, by simpa using hz, ?_⟩⟩
  have hF := flat2 (insT l i v)
  rw [insT_flat]
  rw [insT_flat] at hF
  rw [← hF]
  rw [show ((l.take i).flatMap tL ++ (tL v ++ ((l.drop i).flatMap tL ++ Z))) = ((l.take i).flatMap tL ++ (tL v ++ (l.drop i).flatMap tL)) ++ Z by simp only [List.append_assoc]]
  exact List.take_left
theorem Bex.grownBy {g : Nat} {w w' : World} (h : Bex g w w') : w.grownBy w' (some g) := ⟨h.os, h.tape, h.output, h.size, fun k hk hne => h.block k hk (fun e => hne (by rw [e]))⟩

set_option maxRecDepth 100000 in
set_option maxHeartbeats 4000000 in
/-- At the end. -/
theorem tinsert_end (B : Nat) (sv : Value) (p : Option Addr) (cap : Nat) (l : List Vt) (v : Vt) (vb : Nat) (w : World) (hsv : sv = .slice p l.length cap) (h : OwnT w B sv l) (hl : l.length ≤ 1000) (hv : Blk w vb (tL v) 83) (hB : B ≤ w.heap.size) :
    Calls Try.prog 111 #[sv, .int .i64 (l.length : Nat), .slice (some ⟨vb, 0, none⟩) 1 1] w fun e w' => ∃ sv', e = .returned sv' ∧ OwnT w' B sv' (l ++ [v]) ∧ w.grownBy w' sv.ownBlock := by
  subst hsv
  obtain ⟨i0, hi0, hz0, hz1, hz2⟩ := info_parts info_vote
  have hr := run_t_any p l.length cap l.length (Nat.le_refl _)
  have HO := hidp h
  have HV := hidp hv
  have HN := hidp (And.intro hl hB)
  clear h hv hl hB
  go_enter Try.func111, Try.ntmps111
  go_wp2_with (at_builtin; refine wpList_append_own _ rfl _ _ 61 rfl B 83 i0 _ 2 16 Try.underlying61 hi0 hz0 hz1 hz2 rfl (by decide) _ l.length (l.flatMap tL) rfl HO.out ⟨vb, 0, none⟩ 1 1 (tL v) rfl rfl (fun j u hj => by rw [Addr.add_mid, Nat.zero_add]; exact (HV.out.cell j).trans hj) (tL_one v) (by have := HN.out.1; unfold maxLen; omega) (by have := HN.out.1; omega) HN.out.2 ?_; intro v' w1 hown' hgrow _; have hO := hidp (OwnT.snoc hown'); have hG := hidp hgrow; clear hown' hgrow)
  go_ret
  exact ⟨_, rfl, hO.out, hG.out⟩
end Go.Proofs.Ytbhkjflpkpkdlaa
