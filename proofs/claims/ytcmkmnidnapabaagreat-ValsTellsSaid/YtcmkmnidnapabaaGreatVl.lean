/-
  Change: what a set is behind changes, or why it is none.
-/
import Derived.Test.YtcmkmnidnapabaaGreatUc
import Derived.Test.YtcmkmnidnapabaaGreatUb
import Derived.Maps.AppendAt
namespace Go.Proofs.YtcmkmnidnapabaaGreat
open Go.RowKit Go.Lib Go.Shelf Go.Maps
attribute [local go_sem] Oper.semAt_some

/-- The two result variables. -/
def Res (W : World) (r : Nat) (v : Value) (x : Int) : Prop := Blk W r [v] 22 ∧ Blk W (r + 1) [.int .i64 x] 30
theorem Res.f {W : World} {r : Nat} {v : Value} {x : Int} (h : Res W r v x) : W.cell? ⟨r, 0, none⟩ = some v ∧ W.cell? ⟨r + 1, 0, none⟩ = some (.int .i64 x) ∧ W.frozen? ⟨r, 0, none⟩ = false ∧ W.frozen? ⟨r + 1, 0, none⟩ = false := ⟨h.1.cell 0, h.2.cell 0, h.1.free 0, h.2.free 0⟩
theorem Res.below {W W' : World} {r : Nat} {v : Value} {x : Int} (h : Res W r v x) (hb : Below W.heap.size W W') : Res W' r v x := ⟨hb.blk' h.1, hb.blk' h.2⟩
theorem Res.put {W : World} {r : Nat} {v : Value} {x : Int} (h : Res W r v x) (v' : Value) (x' : Int) : Res ((W.setCell ⟨r, 0, none⟩ v').setCell ⟨r + 1, 0, none⟩ (.int .i64 x')) r v' x' :=
  ⟨(h.1.set 0 v').other _ _ (by simp), (h.2.other _ _ (by simp)).set 0 _⟩
def kept (l : List Vd) : List Vd := l.filter (fun v => v.p != 0)
def chgO (l c : List Vd) : List Vd × Nat :=
  if chk l ≠ 0 then ([], chk l) else if chgFrom l none c ≠ 0 then ([], chgFrom l none c) else
  if 64 < (kept (mrg l c)).length then ([], 7) else if kept (mrg l c) = [] then ([], 6) else (kept (mrg l c), 0)
theorem Blk.turn {W W' : World} {b : Nat} {cs : List Value} {T : TypeId} {row : Option Nat} (h : Blk W b cs T) (hg : W.grownBy W' row) (hr : ∀ r, row = some r → ∃ o : Obj, W.heap[r]? = some o ∧ o.isCells = false) : Blk W' b cs T :=
  (hg.block b h.lt (fun e => by
    obtain ⟨o, ho, hc⟩ := hr b e.symm
    rw [show W.heap[b]? = _ from h] at ho
    cases ho
    simp [Obj.isCells] at hc)).trans h
theorem OwnV.turn {W W' : World} {B : Nat} {v : Value} {l : List Vd} {row : Option Nat} (h : OwnV W B v l) (hg : W.grownBy W' row) (hr : ∀ r, row = some r → ∃ o : Obj, W.heap[r]? = some o ∧ o.isCells = false) : OwnV W' B v l := by
  refine ⟨h.1, ?_⟩
  rcases h.2 with h2 | ⟨g, cap, cur, h1, h2, h3, r⟩
  · exact .inl h2
  · refine .inr ⟨g, cap, cur, h1, h2, (hg.block g (Array.getElem?_eq_some_iff.1 h3).1 (fun e => ?_)).trans h3, r⟩
    obtain ⟨o, ho, hc⟩ := hr g e.symm
    rw [h3] at ho
    cases ho
    simp [Obj.isCells] at hc
theorem Res.turn {W W' : World} {r : Nat} {v : Value} {x : Int} {row : Option Nat} (h : Res W r v x) (hg : W.grownBy W' row) (hr : ∀ r, row = some r → ∃ o : Obj, W.heap[r]? = some o ∧ o.isCells = false) : Res W' r v x := ⟨h.1.turn hg hr, h.2.turn hg hr⟩
theorem Below.turn {B C : Nat} {w W W' : World} {row : Option Nat} (h : Below B w W) (hg : W.grownBy W' row) (hB : B ≤ W.heap.size) (hC : B ≤ C) (hr : ∀ r, row = some r → C ≤ r ∧ ∃ o : Obj, W.heap[r]? = some o ∧ o.isCells = false) : Below B w W' :=
  h.grown hg hB (fun k e => Nat.le_trans hC (hr k e).1)
/-- Between two rounds. -/
def ChI (w : World) (g : Nat) (pre : List Vd) (W : World) : Prop := (∃ v, Blk W g [v] 22 ∧ OwnV W w.heap.size v (kept pre)) ∧ (kept pre).length ≤ 64 ∧ Res W w.heap.size (.slice none 0 0) 0 ∧ Below w.heap.size w W
/-- A round has left. -/
def ChX (w : World) (cd : Code) (pre : List Vd) (W : World) : Prop := cd = .ret ∧ 64 < (kept pre).length ∧ Res W w.heap.size (.slice none 0 0) 7 ∧ Below w.heap.size w W
theorem ChI_own (w : World) (g C : Nat) (hC : w.heap.size ≤ C) : OwnFrom C (ChI w g) := by
  rintro s W W' row ⟨⟨v, h1, h2⟩, h3, h4, h5⟩ hg hr
  have hr' := fun r e => (hr r e).2
  exact ⟨⟨v, h1.turn hg hr', h2.turn hg hr'⟩, h3, h4.turn hg hr', Below.turn h5 hg h5.size hC hr⟩
theorem ChX_own (w : World) (cd : Code) (C : Nat) (hC : w.heap.size ≤ C) : OwnFrom C (ChX w cd) := by
  rintro s W W' row ⟨h1, h2, h4, h5⟩ hg hr
  exact ⟨h1, h2, h4.turn hg (fun r e => (hr r e).2), Below.turn h5 hg h5.size hC hr⟩
theorem mrg_ok {lo lf : List Vd} (h1 : ∀ v ∈ lo, VdOk v) (h2 : ∀ v ∈ lf, VdOk v) : ∀ v ∈ mrg lo lf, VdOk v := by
  induction lo, lf using mrg.induct with
  | case1 f => rw [mrg_nil]; exact h2
  | case2 a o => rw [mrg_nil']; exact h1
  | case3 a o b f h ih =>
    rw [mrg, if_pos h]
    intro v hv
    rcases List.mem_cons.1 hv with rfl | hv
    · exact h1 _ (by simp)
    · exact ih (fun u hu => h1 u (by simp [hu])) h2 v hv
  | case4 a o b f h h' ih =>
    rw [mrg, if_neg h, if_pos h']
    intro v hv
    rcases List.mem_cons.1 hv with rfl | hv
    · exact h2 _ (by simp)
    · exact ih h1 (fun u hu => h2 u (by simp [hu])) v hv
  | case5 a o b f h h' ih =>
    rw [mrg, if_neg h, if_neg h']
    intro v hv
    rcases List.mem_cons.1 hv with rfl | hv
    · exact h2 _ (by simp)
    · exact ih (fun u hu => h1 u (by simp [hu])) (fun u hu => h2 u (by simp [hu])) v hv
theorem kept_snoc0 {pre : List Vd} {x : Vd} (h : x.p = 0) : kept (pre ++ [x]) = kept pre := by unfold kept; rw [List.filter_append]; simp [h]
theorem kept_snoc {pre : List Vd} {x : Vd} (h : x.p ≠ 0) : kept (pre ++ [x]) = kept pre ++ [x] := by unfold kept; rw [List.filter_append]; simp [h]
theorem OwnV.ne {W : World} {B b : Nat} {v : Value} {l : List Vd} {cs : List Value} {T : TypeId} (h : OwnV W B v l) (hb : Blk W b cs T) (hT : T ≠ 111) : v.ownBlock ≠ some b := by
  intro e
  rcases h.2 with ⟨h1, _⟩ | ⟨g, cap, cur, h1, h2, h3, _⟩
  · rw [h1] at e; cases e
  · rw [h1] at e
    simp only [Value.ownBlock, Option.some.injEq] at e
    subst e
    rw [show W.heap[g]? = _ from hb] at h3
    cases h3
    exact hT rfl
theorem OwnV.cells {W : World} {B : Nat} {v : Value} {l : List Vd} (h : OwnV W B v l) : ∀ (j : Nat) (o : Obj), v.ownBlock = some j → W.heap[j]? = some o → o.isCells = true := by
  intro j o e ho
  rcases h.2 with ⟨h1, _⟩ | ⟨g, cap, cur, h1, h2, h3, _⟩
  · rw [h1] at e; cases e
  · rw [h1] at e
    simp only [Value.ownBlock, Option.some.injEq] at e
    subst e
    rw [h3] at ho
    cases ho
    rfl
theorem OwnV.set {W : World} {B b : Nat} {v : Value} {l : List Vd} (h : OwnV W B v l) (hb : v.ownBlock ≠ some b) (k : Nat) (u : Value) : OwnV (W.setCell ⟨b, k, none⟩ u) B v l := by
  refine ⟨h.1, ?_⟩
  rcases h.2 with h2 | ⟨g, cap, cur, h1, h2, h3, r⟩
  · exact .inl h2
  · refine .inr ⟨g, cap, cur, h1, h2, (Below.heap_setCell W ⟨b, k, none⟩ u g (fun e => ?_)).trans h3, r⟩
    subst e
    rw [h1] at hb
    exact hb rfl
theorem Blk.grown {W W' : World} {b : Nat} {cs : List Value} {T : TypeId} {row : Option Nat} (h : Blk W b cs T) (hg : W.grownBy W' row) (hne : row ≠ some b) : Blk W' b cs T := (hg.block b h.lt (fun e => hne e.symm)).trans h
/-- A validator is hung on. -/
theorem ChI.more {w W w7 : World} {g : Nat} {pre : List Vd} {x : Vd} {v v' : Value} {o : Obj} (hv : Blk W g [v] 22) (hrow : OwnV W w.heap.size v (kept pre)) (hres : Res W w.heap.size (.slice none 0 0) 0) (hbel : Below w.heap.size w W) (hg : w.heap.size + 1 < g) (h64 : (kept pre).length < 64) (hx : x.p ≠ 0)
    (ho : w7.ownsRow w.heap.size 111 5 v' ((kept pre).length + 1) ((kept pre).flatMap vL ++ vL x)) (hgr : (W.alloc o).grownBy w7 v.ownBlock) (C : Nat) :
    Blk w7 g [v] 22 ∧ KeepsFrom C W (w7.setCell ⟨g, 0, none⟩ v') ∧ Below w.heap.size W (w7.setCell ⟨g, 0, none⟩ v') ∧ ChI w g (pre ++ [x]) (w7.setCell ⟨g, 0, none⟩ v') := by
  have n82 : 22 ≠ 111 := by decide
  have n26 : 30 ≠ 111 := by decide
  have ba : Below W.heap.size W (W.alloc o) := (Below.refl _ W).alloc (Nat.le_refl _) o
  have ra := hrow.below ba
  have v7 := (hv.alloc o).grown hgr (ra.ne (hv.alloc o) n82)
  have o7 : OwnV w7 w.heap.size v' (kept (pre ++ [x])) := by rw [kept_snoc hx]; exact OwnV.snoc ho
  have b7 : Below w.heap.size W w7 := ((Below.refl _ W).alloc hbel.size o).grown hgr (Nat.le_trans hbel.size ba.size) (fun j e => (ra.lt e).1)
  have k7 : KeepsOthers W w7 := (KeepsOthers.alloc W o).trans (KeepsOthers.of_grownBy hgr (ra.cells))
  have b8 : Below w.heap.size W (w7.setCell ⟨g, 0, none⟩ v') := b7.setCell (p := ⟨g, 0, none⟩) (by show w.heap.size ≤ g; omega) v'
  refine ⟨v7, (k7.trans (KeepsOthers.setCell _ _ _)).from C, b8, ⟨v', v7.set 0 v', o7.set (o7.ne v7 n82) 0 v'⟩, ?_, ⟨?_, ?_⟩, hbel.trans b8⟩
  · rw [kept_snoc hx, List.length_append]; simp; omega
  · exact ((hres.1.alloc o).grown hgr (ra.ne (hres.1.alloc o) n82)).other _ _ (by simp; omega)
  · exact ((hres.2.alloc o).grown hgr (ra.ne (hres.2.alloc o) n26)).other _ _ (by simp; omega)
theorem merged_any (a1 : Option Addr) (n1 m1 : Nat) (a2 : Option Addr) (n2 m2 : Nat) (w : World) : Calls Tryz.prog 205 #[.slice a1 n1 m1, .slice a2 n2 m2] w fun e w' =>
    e = .returned (.func (.func 255) #[] #[.pointer (some ⟨w.heap.size, 0, none⟩), .pointer (some ⟨w.heap.size + 1, 0, none⟩)]) ∧ Blk w' w.heap.size [.slice a1 n1 m1] 22 ∧ Blk w' (w.heap.size + 1) [.slice a2 n2 m2] 22 ∧ Below w.heap.size w w' := by
  have hmf : ∀ (fn : Fn) (first cap : Array Value) (w : World), (Instr.makeFunc fn first cap).run Tryz.prog w = .ok (.func fn first cap) w := fun _ _ _ _ => rfl
  go_enter Tryz.func205, Tryz.ntmps205
  go_wp2
  go_ret
  exact ⟨rfl, (Blk.new w [.slice a1 n1 m1] _).alloc _, Blk.new' _ [.slice a2 n2 m2] _ _ (by simp), ((Below.refl _ w).alloc (Nat.le_refl _) _).alloc (by simp) _⟩
theorem merged_stops (n : Nat) (hn : 1 ≤ n) (B1 B2 n₀ : Nat) (a1 : Option Addr) (b1 o1 cap1 : Nat) (lo : List Vd) (a2 : Option Addr) (b2 o2 cap2 : Nat) (lf : List Vd) (w : World)
    (hB1 : Blk w B1 [.slice a1 lo.length cap1] 22) (hB2 : Blk w B2 [.slice a2 lf.length cap2] 22) (h1 : Vs w a1 b1 o1 cap1 lo) (h2 : Vs w a2 b2 o2 cap2 lf) (hb1 : 0 < cap1 → b1 < n₀) (hb2 : 0 < cap2 → b2 < n₀) (hlen : lo.length ≤ 1000000 ∧ lf.length ≤ 1000000) (hn0 : n₀ ≤ w.heap.size) :
    SeqStopsK Fence.wide n Tryz.prog 255 #[.pointer (some ⟨B1, 0, none⟩), .pointer (some ⟨B2, 0, none⟩)] encV (Below n₀) (fun xs => xs = mrg lo lf) (fun pre => pre <+: mrg lo lf) (mrg lo lf).length w :=
  fun l J Jx W hW hJ _ hY h0 => merged1_in n hn l B1 B2 n₀ a1 b1 o1 cap1 lo a2 b2 o2 cap2 lf J Jx W hJ hY (hW.blk' hB1) (hW.blk' hB2) (h1.below hW) (h2.below hW) hb1 hb2 hlen (Nat.le_trans hn0 hW.size) h0
theorem Vs.turn {W W' : World} {a : Option Addr} {b o cap D : Nat} {l : List Vd} (h : Vs W a b o cap l) (hg : W.grownBy W' (some D)) (hK : W.heap[D]? = some (.deferred (some []))) : Vs W' a b o cap l :=
  ⟨h.ok, h.le, fun h0 => ⟨(h.ptr h0).1, Nat.lt_of_lt_of_le (h.ptr h0).2 hg.size⟩, fun i v hi j c hc => by
    have hcell := h.cell i v hi j c hc
    have hlt := cell_lt hcell
    have hne : b ≠ D := by
      intro e
      subst e
      simp [World.cell?, hK] at hcell
    exact (World.cell?_of_block (w := W) (a := ⟨b, o + i * 5 + j, none⟩) (hg.block b hlt (fun e => hne (by cases e; rfl)))).trans hcell⟩
/-- The function leaves with its mark. -/
theorem leave_marked {w W : World} {D : Nat} {tm : Array Value} {sv : Value} {x : Int} {R : Ending → World → Prop} (hres : Res W w.heap.size sv x) (hK : W.heap[D]? = some (.deferred (some []))) (hD : w.heap.size ≤ D) (hbel : Below w.heap.size w W)
    (hrs : ∀ W' : World, W'.cell? ⟨w.heap.size, 0, none⟩ = some sv → W'.cell? ⟨w.heap.size + 1, 0, none⟩ = some (.int .i64 x) → (results Tryz.f141 tm).run Tryz.prog W' = .ok (.tuple #[sv, .int .i64 x]) W')
    (hR : ∀ W', Below w.heap.size w W' → W.grownBy W' (some D) → R (.returned (.tuple #[sv, .int .i64 x])) W') :
    bodyPostM Fence.wide 9 Tryz.prog Tryz.f141 R .ret { tmps := tm, defers := [{ target := .collected D, args := #[] }] } W := by
  have hg : W.grownBy (W.putObj D (.deferred none)) (some D) := grownBy_putObj' W D _
  have hr : ∀ r, some D = some r → ∃ o : Obj, W.heap[r]? = some o ∧ o.isCells = false := fun r e => by cases e; exact ⟨_, hK, rfl⟩
  have hres' := hres.turn hg hr
  refine ⟨by simp, .inl ⟨_, _, rfl, run_takeDeferred hK, ?_⟩⟩
  exact ⟨_, hrs _ hres'.f.1 hres'.f.2.1, hR _ (Below.turn hbel hg hbel.size (Nat.le_refl _) (fun r e => by cases e; exact ⟨hD, _, hK, rfl⟩)) hg⟩
theorem kept_prefix {pre l : List Vd} (h : pre <+: l) : (kept pre).length ≤ (kept l).length := by
  obtain ⟨t, rfl⟩ := h
  unfold kept
  rw [List.filter_append, List.length_append]
  omega
/-- The cells behind a row of one's own may be written. -/
def Ow (W : World) (b n : Nat) : Prop := 0 < n → ∃ cs, Blk W b cs 111 ∧ n * 5 ≤ cs.length
theorem OwnV.ow {w : World} {base : Nat} {p : Option Addr} {b o n cap : Nat} {l : List Vd} (h : OwnV w base (.slice p n cap) l) (hv : Vs w p b o cap l) : Ow w b l.length := by
  intro h0
  have hp := (hv.ptr (by have := hv.le; omega)).1
  rcases h.2 with ⟨_, h2⟩ | ⟨g, cp, cur, h1, h2, h3, h4, h5, h6, h7⟩
  · omega
  · cases h1
    cases hp
    refine ⟨cur.toList, h3, ?_⟩
    have h8 : (l.flatMap vL).length ≤ cur.toList.length := by
      have e : (l.flatMap vL).length = (List.take (l.length * 5) cur.toList).length := by rw [h7]
      rw [e, List.length_take]; omega
    rw [flat5] at h8
    exact h8
theorem Ow.turn {W W' : World} {b n D : Nat} (h : Ow W b n) (hg : W.grownBy W' (some D)) (hK : W.heap[D]? = some (.deferred (some []))) : Ow W' b n := fun h0 => by
  obtain ⟨cs, h1, h2⟩ := h h0
  exact ⟨cs, h1.turn hg (fun r e => by cases e; exact ⟨_, hK, rfl⟩), h2⟩
theorem Ow.bex {w w' : World} {g b n : Nat} (h : Ow w b n) (hB : Bex g w w') (hne : 0 < n → g ≠ b) : Ow w' b n := fun h0 => by
  obtain ⟨cs, h1, h2⟩ := h h0
  exact ⟨cs, hB.blk h1 (fun e => hne h0 e.symm), h2⟩
set_option maxRecDepth 100000 in
set_option maxHeartbeats 2000000 in
theorem change_w (a1 : Option Addr) (b1 o1 cap1 : Nat) (l : List Vd) (a2 : Option Addr) (b2 o2 cap2 : Nat) (c : List Vd) (w : World) (h1 : Vs w a1 b1 o1 cap1 l) (h2 : Vs w a2 b2 o2 cap2 c) (hc : c.length ≤ 1000000) (hl0 : l.length ≤ 1000000) :
    CallsIn Fence.wide 9 Tryz.prog 141 #[.slice a1 l.length cap1, .slice a2 c.length cap2] w fun e w' => (∃ p b cap, e = .returned (.tuple #[.slice p (chgO l c).1.length cap, .int .i64 ((chgO l c).2 : Nat)]) ∧ w.heap.size ≤ b ∧ Vs w' p b 0 cap (chgO l c).1 ∧ Ow w' b (chgO l c).1.length) ∧ Below w.heap.size w w' := by
  have HA := hidp (show Below w.heap.size w ((w.alloc (.cells #[.slice none 0 0] 22)).alloc (.cells #[.int .i64 0] 30)) from ((Below.refl _ w).alloc (Nat.le_refl _) _).alloc (by simp) _)
  have HR := hidp (show Blk ((w.alloc (.cells #[.slice none 0 0] 22)).alloc (.cells #[.int .i64 0] 30)) w.heap.size [.slice none 0 0] 22 ∧ Blk ((w.alloc (.cells #[.slice none 0 0] 22)).alloc (.cells #[.int .i64 0] 30)) (w.heap.size + 1) [.int .i64 0] 30 from ⟨(Blk.new w [.slice none 0 0] _).alloc _, Blk.new' _ [.int .i64 0] _ _ (by simp)⟩)
  have HV := hidp (And.intro h1 (And.intro h2 (And.intro hc hl0)))
  have HC := hidp (check_any a1 b1 o1 cap1 l _ (h1.below HA.out))
  clear h1 h2 hc hl0
  refine callsIn_of_wp_marks Tryz.func141 rfl trivial ?_ rfl
  simp only [Tryz.ntmps141, List.size_toArray, List.length_cons, List.length_nil, Nat.reduceAdd, Nat.reduceSub, Array.replicate_succ, Array.replicate_zero, List.push_toArray, List.append_toArray, List.nil_append, List.cons_append]
  gi_wp2_with fail
  refine ⟨trivial, ?_⟩
  refine (callsIn_wide.2 HC.out).mono ?_
  rintro e w1 ⟨rfl, hb⟩
  have hR1 := hidp (show Res w1 w.heap.size (.slice none 0 0) 0 from Res.below HR.out hb)
  have hB1 := hidp (HA.out.trans (hb.mono HA.out.size))
  clear hb HC HA HR
  obtain ⟨c0, c1, f0, f1⟩ := hR1.out.f
  by_cases hk : chk l = 0
  · have hck := chk_ok hk
    have hsr := (sorted_of hck.2.2.1).1
    have HK := hidp (And.intro hck (And.intro hsr hk))
    rw [hk]
    have HD := hidp (checkChanges_any a1 b1 o1 cap1 l a2 b2 o2 cap2 c w1 (HV.out.1.below hB1.out) (HV.out.2.1.below hB1.out) hsr HV.out.2.2.2 HV.out.2.2.1)
    clear hck hsr
    gi_wp2_with fail
    refine ⟨trivial, ?_⟩
    refine (callsIn_wide.2 HD.out).mono ?_
    rintro e w2 ⟨rfl, hb⟩
    have hR2 := hidp (hR1.out.below hb)
    have hB2 := hidp (hB1.out.trans (hb.mono hB1.out.size))
    clear hb HD hR1 hB1 c0 c1 f0 f1
    obtain ⟨c0, c1, f0, f1⟩ := hR2.out.f
    by_cases hg : chgFrom l none c = 0
    · rw [hg]
      have HB := hidp (fun o : Obj => (Below.refl w2.heap.size w2).alloc (Nat.le_refl _) o)
      have HM := hidp (fun o : Obj => merged_any a1 l.length cap1 a2 c.length cap2 (w2.alloc o))
      gi_wp2_with fail
      refine ⟨trivial, ?_⟩
      refine (callsIn_wide.2 (HM.out _)).mono ?_
      rintro e w3 ⟨rfl, m1, m2, hb⟩
      have hg3 : w2.heap.size < w3.heap.size := by have := hb.size; simp at this; omega
      have hB3 := hidp (hB2.out.trans (((HB.out _).trans (hb.mono (HB.out _).size)).mono hB2.out.size))
      have hR3 := hidp (show Res w3 w.heap.size (.slice none 0 0) 0 from (hR2.out.below (HB.out (.cells #[.slice none 0 0] 22))).below hb)
      have hC3 := hidp (show Blk w3 w2.heap.size [.slice none 0 0] 22 from hb.blk' (Blk.new w2 [.slice none 0 0] _))
      have hS := merged_stops 8 (by decide) _ _ w.heap.size a1 b1 o1 cap1 l a2 b2 o2 cap2 c w3 m1 m2 (HV.out.1.below hB3.out) (HV.out.2.1.below hB3.out) (fun h => (HV.out.1.ptr h).2) (fun h => (HV.out.2.1.ptr h).2) ⟨HV.out.2.2.2, HV.out.2.2.1⟩ hB3.out.size
      have hlt := hR2.out.2.lt
      clear hb m1 m2 hR2 hB2 c0 c1 f0 f1
      gi_wp2
      have hwg : w.heap.size ≤ w3.heap.size := by omega
      simp only [World.size_alloc] at hS
      refine wpIn_rangeFunc_ownH (n := 9) rfl (by decide) (gf := 255) (lb := #[.pointer (some ⟨w2.heap.size + 1, 0, none⟩), .pointer (some ⟨w2.heap.size + 1 + 1, 0, none⟩)]) rfl trivial (enters_of Tryz.func255 (by kernel_rfl) rfl)
        hS belowK_t (belowK_b hwg) (Below.refl _ _) (fun _ => rfl) (ChI w w2.heap.size) (ChX w) (ChI_own w _ _ hwg) (fun cd => ChX_own w cd _ hwg)
        ⟨⟨_, hC3.out, OwnV.nil _ _⟩, by simp [kept], hR3.out, hB3.out⟩
        (fun x a' W => ∃ Bx, Blk W Bx [.int .u8 (kd (x).k 3 : Nat), .int .u8 (kd (x).k 2 : Nat), .int .u8 (kd (x).k 1 : Nat), .int .u8 (kd (x).k 0 : Nat), .int .i64 (x).p] 111 ∧ a' = { tmps := #[.slice a1 l.length cap1, .slice a2 c.length cap2, undef, undef, .pointer (some ⟨w.heap.size, 0, none⟩), .pointer (some ⟨w.heap.size + 1, 0, none⟩), .int .i64 0, .int .i64 0, .pointer (some ⟨w2.heap.size, 0, none⟩), .pointer (some ⟨Bx, 0, none⟩), .slice a1 l.length cap1, .int .i64 0, .int .i64 0, .bool false, undef, .slice a1 l.length cap1, .slice a2 c.length cap2, .int .i64 0, .int .i64 0, .bool false, undef, .slice a1 l.length cap1, .slice a2 c.length cap2, .func (.func 255) #[] #[.pointer (some ⟨w2.heap.size + 1, 0, none⟩), .pointer (some ⟨w2.heap.size + 1 + 1, 0, none⟩)], .agg #[.int .u8 (kd (x).k 3 : Nat), .int .u8 (kd (x).k 2 : Nat), .int .u8 (kd (x).k 1 : Nat), .int .u8 (kd (x).k 0 : Nat), .int .i64 (x).p], undef, undef, undef, undef, undef, undef, undef, undef, undef, undef, undef, undef, undef, undef], defers := [] })
        (fun x a' s W W' row h hg hr => by obtain ⟨Bx, h2, h3⟩ := h; exact ⟨Bx, h2.turn hg (fun r e => (hr r e).2), h3⟩) ?assign ?body ?done ?stop
      case assign =>
        rintro ll pre x W K hI hK
        have hW := hI.2.2.2.size
        gi_wp2
        exact hK _ _ ((KeepsOthers.alloc _ _).from _) ((Below.refl _ W).alloc hW _) (ChI_own w _ _ (Nat.le_refl _) _ _ _ none hI (World.grownBy_alloc W _ none) (fun r h => by cases h)) ⟨W.heap.size, Blk.new W [.int .u8 (kd (x).k 3 : Nat), .int .u8 (kd (x).k 2 : Nat), .int .u8 (kd (x).k 1 : Nat), .int .u8 (kd (x).k 0 : Nat), .int .i64 (x).p] _, rfl⟩
      case body =>
        rintro ll pre x a' W hll ⟨r, hr⟩ ⟨⟨v, hv, hrow⟩, h64, hres, hbel⟩ ⟨Bx, bX, rfl⟩ hlen
        obtain ⟨i0, hi, hz0, hz1, hz2⟩ := info_parts info_val
        have x0 := bX.cell 0
        have x1 := bX.cell 1
        have x2 := bX.cell 2
        have x3 := bX.cell 3
        have x4 := bX.cell 4
        have v0 := hv.cell 0
        have v1 := hv.free 0
        simp only [List.getElem?_cons_zero, List.getElem?_cons_succ] at x0 x1 x2 x3 x4 v0
        obtain ⟨c0, c1, f0, f1⟩ := hres.f
        have hsz := hbel.size
        have hv1 := hidp hv
        have hrow1 := hidp hrow
        have hres1 := hidp hres
        have hbel1 := hidp hbel
        clear hv hrow hres hbel bX
        by_cases hx : x.p = 0
        · have hpb : (x.p == 0) = true := by rw [hx]; rfl
          have hk0 := kept_snoc0 (pre := pre) hx
          gi_wp2
          exact ⟨KeepsFrom.refl _ _, Below.refl _ _, ⟨_, hv1.out, by rw [hk0]; exact hrow1.out⟩, by rw [hk0]; exact h64, hres1.out, hbel1.out⟩
        · have hpb : (x.p == 0) = false := by rw [beq_eq_false_iff_ne]; exact hx
          have hks := kept_snoc (pre := pre) hx
          obtain ⟨p, pc, rfl⟩ : ∃ p pc, v = .slice p (kept pre).length pc := by
            rcases hrow1.out.2 with ⟨h1, h2⟩ | ⟨g, cap, cur, h1, _⟩
            · exact ⟨none, 0, by rw [h1, h2]⟩
            · exact ⟨_, _, h1⟩
          by_cases h6 : (kept pre).length = 64
          · have ht : ((((kept pre).length : Nat) : Int) == 64) = true := by rw [h6]; rfl
            gi_wp2
            refine ⟨((KeepsOthers.setCell _ _ _).trans (KeepsOthers.setCell _ _ _)).from _, rfl, by rw [hks, List.length_append, h6]; simp, hres1.out.put _ _, ?_⟩
            exact (hbel1.out.setCell (p := ⟨w.heap.size, 0, none⟩) (Nat.le_refl _) _).setCell (p := ⟨w.heap.size + 1, 0, none⟩) (by simp) _
          · have ht : ((((kept pre).length : Nat) : Int) == 64) = false := by rw [beq_eq_false_iff_ne]; omega
            gi_wp2_with (gi_at_builtin; refine wpListIn_append_own _ rfl _ _ 22 rfl w.heap.size 111 i0 _ 5 16 Tryz.underlying22 hi hz0 hz1 hz2 rfl (by decide) _ _ _ rfl (hrow1.out.below ((Below.refl _ W).alloc (Nat.le_refl _) _)) ⟨W.heap.size, 0, none⟩ 1 1 (vL x) rfl rfl (new_cells W (vL x) _) (vL_one _) (by unfold maxLen; omega) (by omega) (by simp; omega) ?_; intro v' w7 ho7 hg7 _; obtain ⟨gv, cv, rfl⟩ := ownsRow_succ ho7; have hM := hidp (ChI.more hv1.out hrow1.out hres1.out hbel1.out hlt (by omega) hx ho7 hg7 w3.heap.size); have v7 := hM.out.1.cell 0; have f7 := hM.out.1.free 0; clear ho7 hg7)
            exact ⟨hM.out.2.1, hM.out.2.2.1, hM.out.2.2.2⟩
      case done =>
        rintro D xs W hD rfl ⟨⟨v, hv, hrow⟩, h64, hres, hbel⟩ hK
        obtain ⟨c0, c1, f0, f1⟩ := hres.f
        have v0 := hv.cell 0
        simp only [List.getElem?_cons_zero] at v0
        have hres1 := hidp hres
        have hbel1 := hidp hbel
        have hokm := mrg_ok (lo := l) (lf := c) HV.out.1.ok HV.out.2.1.ok
        obtain ⟨p, pb, pc, rfl, hpb, hvs⟩ := hrow.vs (fun u hu => hokm u ((List.mem_filter.1 hu).1))
        have hvs1 := hidp hvs
        have hrow1 := hidp hrow
        clear hres hbel hv hvs hokm hrow
        by_cases hz : kept (mrg l c) = []
        · have hzl : (kept (mrg l c)).length = 0 := by rw [hz]; rfl
          have ht : ((((kept (mrg l c)).length : Nat) : Int) == 0) = true := by rw [hzl]; rfl
          gi_wp2
          have hO := hidp (show chgO l c = ([], 6) by unfold chgO; rw [if_neg (by rw [hk]; simp), if_neg (by rw [hg]; simp), if_neg (by omega), if_pos hz])
          refine leave_marked (hres1.out.put _ _) ((KeepsOthers.setCell _ _ _).same D _ ((KeepsOthers.setCell _ _ _).same D _ hK rfl) rfl) (by omega) ((hbel1.out.setCell (p := ⟨w.heap.size, 0, none⟩) (Nat.le_refl _) _).setCell (p := ⟨w.heap.size + 1, 0, none⟩) (by simp) _) (fun W' d0 d1 => by simp [results, Tryz.results141, go_sem, d0, d1]) ?_
          intro W' hb hgr
          exact ⟨⟨none, w.heap.size, 0, by rw [hO.out]; rfl, Nat.le_refl _, by rw [hO.out]; exact ⟨by simp, by simp, fun h => absurd h (by omega), fun i v hi => by simp at hi⟩, by rw [hO.out]; exact fun h => absurd h (by simp)⟩, hb⟩
        · have hzl : (kept (mrg l c)).length ≠ 0 := fun h => hz (List.eq_nil_of_length_eq_zero h)
          have ht : ((((kept (mrg l c)).length : Nat) : Int) == 0) = false := by rw [beq_eq_false_iff_ne]; omega
          gi_wp2
          have hO := hidp (show chgO l c = (kept (mrg l c), 0) by unfold chgO; rw [if_neg (by rw [hk]; simp), if_neg (by rw [hg]; simp), if_neg (by omega), if_neg hz])
          have hK2 := (KeepsOthers.setCell (W.setCell ⟨w.heap.size, 0, none⟩ (.slice p (kept (mrg l c)).length pc)) ⟨w.heap.size + 1, 0, none⟩ (.int .i64 0)).same D _ ((KeepsOthers.setCell W ⟨w.heap.size, 0, none⟩ (.slice p (kept (mrg l c)).length pc)).same D _ hK rfl) rfl
          refine leave_marked (hres1.out.put _ _) hK2 (by omega) ((hbel1.out.setCell (p := ⟨w.heap.size, 0, none⟩) (Nat.le_refl _) _).setCell (p := ⟨w.heap.size + 1, 0, none⟩) (by simp) _) (fun W' d0 d1 => by simp [results, Tryz.results141, go_sem, d0, d1]) ?_
          intro W' hb hgr
          have n82 : 22 ≠ 111 := by decide
          have n26 : 30 ≠ 111 := by decide
          have q1 := hrow1.out.ne hres1.out.1 n82
          have q2 := hrow1.out.ne hres1.out.2 n26
          have hbx : 0 < pc → w.heap.size ≠ pb ∧ w.heap.size + 1 ≠ pb := fun h0 => by
            have h1 := (hvs1.out.ptr h0).1
            rw [h1] at q1 q2
            simp only [Value.ownBlock, ne_eq, Option.some.injEq] at q1 q2
            exact ⟨fun e => q1 e.symm, fun e => q2 e.symm⟩
          have hpc : 0 < (kept (mrg l c)).length → 0 < pc := fun h0 => by have := hvs1.out.le; omega
          refine ⟨⟨p, pb, pc, by rw [hO.out]; rfl, hpb, ?_, ?_⟩, hb⟩
          · rw [hO.out]
            refine Vs.turn ?_ hgr hK2
            exact (hvs1.out.bex ((Bex.refl w.heap.size W).setCell 0 _) (fun h0 => (hbx h0).1)).bex ((Bex.refl (w.heap.size + 1) _).setCell 0 _) (fun h0 => (hbx h0).2)
          · rw [hO.out]
            refine Ow.turn ?_ hgr hK2
            exact ((hrow1.out.ow hvs1.out).bex ((Bex.refl w.heap.size W).setCell 0 _) (fun h0 => (hbx (hpc h0)).1)).bex ((Bex.refl (w.heap.size + 1) _).setCell 0 _) (fun h0 => (hbx (hpc h0)).2)
      case stop =>
        rintro D cd pre W hD hpre ⟨rfl, h64, hres, hbel⟩ hK
        have hO := hidp (show chgO l c = ([], 7) by unfold chgO; rw [if_neg (by rw [hk]; simp), if_neg (by rw [hg]; simp), if_pos (Nat.lt_of_lt_of_le h64 (kept_prefix hpre))])
        gi_wp2
        refine leave_marked hres hK (by omega) hbel (fun W' d0 d1 => by simp [results, Tryz.results141, go_sem, d0, d1]) ?_
        intro W' hb hgr
        exact ⟨⟨none, w.heap.size, 0, by rw [hO.out]; rfl, Nat.le_refl _, by rw [hO.out]; exact ⟨by simp, by simp, fun h => absurd h (by omega), fun i v hi => by simp at hi⟩, by rw [hO.out]; exact fun h => absurd h (by simp)⟩, hb⟩
    · have hO := hidp (show chgO l c = ([], chgFrom l none c) by unfold chgO; rw [if_neg (by rw [hk]; simp), if_pos hg])
      have ht : (((chgFrom l none c : Nat) : Int) != 0) = true := by rw [bne_iff_ne]; omega
      clear hg hk
      generalize chgFrom l none c = n at *
      gi_wp2
      have hb := hR2.out.put (.slice none 0 0) (n : Nat)
      have hB := hidp ((hB2.out.setCell (p := ⟨w.heap.size, 0, none⟩) (Nat.le_refl _) (.slice none 0 0)).setCell (p := ⟨w.heap.size + 1, 0, none⟩) (by simp) (.int .i64 (n : Nat)))
      obtain ⟨W, hW⟩ : ∃ W, W = (w2.setCell ⟨w.heap.size, 0, none⟩ (.slice none 0 0)).setCell ⟨w.heap.size + 1, 0, none⟩ (.int .i64 (n : Nat)) := ⟨_, rfl⟩
      rw [← hW] at hb hB ⊢
      obtain ⟨d0, d1, _, _⟩ := hb.f
      refine ⟨.tuple #[.slice none 0 0, .int .i64 (n : Nat)], ?_, ?_⟩
      · simp [results, Tryz.results141, go_sem, d0, d1]
      · exact ⟨⟨none, w.heap.size, 0, by rw [hO.out]; rfl, Nat.le_refl _, by rw [hO.out]; exact ⟨by simp, by simp, fun h => absurd h (by omega), fun i v hi => by simp at hi⟩, by rw [hO.out]; exact fun h => absurd h (by simp)⟩, hB.out⟩
  · have hO := hidp (show chgO l c = ([], chk l) by unfold chgO; rw [if_pos hk])
    have ht : (((chk l : Nat) : Int) != 0) = true := by rw [bne_iff_ne]; omega
    clear hk
    generalize chk l = n at *
    gi_wp2
    have hb := hR1.out.put (.slice none 0 0) (n : Nat)
    have hB := hidp ((hB1.out.setCell (p := ⟨w.heap.size, 0, none⟩) (Nat.le_refl _) (.slice none 0 0)).setCell (p := ⟨w.heap.size + 1, 0, none⟩) (by simp) (.int .i64 (n : Nat)))
    obtain ⟨W, hW⟩ : ∃ W, W = (w1.setCell ⟨w.heap.size, 0, none⟩ (.slice none 0 0)).setCell ⟨w.heap.size + 1, 0, none⟩ (.int .i64 (n : Nat)) := ⟨_, rfl⟩
    rw [← hW] at hb hB ⊢
    obtain ⟨d0, d1, _, _⟩ := hb.f
    refine ⟨.tuple #[.slice none 0 0, .int .i64 (n : Nat)], ?_, ?_⟩
    · simp [results, Tryz.results141, go_sem, d0, d1]
    · exact ⟨⟨none, w.heap.size, 0, by rw [hO.out]; rfl, Nat.le_refl _, by rw [hO.out]; exact ⟨by simp, by simp, fun h => absurd h (by omega), fun i v hi => by simp at hi⟩, by rw [hO.out]; exact fun h => absurd h (by simp)⟩, hB.out⟩
theorem change_own (a1 : Option Addr) (b1 o1 cap1 : Nat) (l : List Vd) (a2 : Option Addr) (b2 o2 cap2 : Nat) (c : List Vd) (w : World) (h1 : Vs w a1 b1 o1 cap1 l) (h2 : Vs w a2 b2 o2 cap2 c) (hc : c.length ≤ 1000000) (hl0 : l.length ≤ 1000000) :
    Calls Tryz.prog 141 #[.slice a1 l.length cap1, .slice a2 c.length cap2] w fun e w' => (∃ p b cap, e = .returned (.tuple #[.slice p (chgO l c).1.length cap, .int .i64 ((chgO l c).2 : Nat)]) ∧ w.heap.size ≤ b ∧ Vs w' p b 0 cap (chgO l c).1 ∧ Ow w' b (chgO l c).1.length) ∧ Below w.heap.size w w' :=
  callsIn_wide.1 (change_w a1 b1 o1 cap1 l a2 b2 o2 cap2 c w h1 h2 hc hl0)
theorem change_any (a1 : Option Addr) (b1 o1 cap1 : Nat) (l : List Vd) (a2 : Option Addr) (b2 o2 cap2 : Nat) (c : List Vd) (w : World) (h1 : Vs w a1 b1 o1 cap1 l) (h2 : Vs w a2 b2 o2 cap2 c) (hc : c.length ≤ 1000000) (hl0 : l.length ≤ 1000000) :
    Calls Tryz.prog 141 #[.slice a1 l.length cap1, .slice a2 c.length cap2] w fun e w' => (∃ p b cap, e = .returned (.tuple #[.slice p (chgO l c).1.length cap, .int .i64 ((chgO l c).2 : Nat)]) ∧ w.heap.size ≤ b ∧ Vs w' p b 0 cap (chgO l c).1) ∧ Below w.heap.size w w' :=
  (change_own a1 b1 o1 cap1 l a2 b2 o2 cap2 c w h1 h2 hc hl0).mono fun _ _ ⟨⟨p, b, cap, h1, h2, h3, _⟩, hb⟩ => ⟨⟨p, b, cap, h1, h2, h3⟩, hb⟩
end Go.Proofs.YtcmkmnidnapabaaGreat
