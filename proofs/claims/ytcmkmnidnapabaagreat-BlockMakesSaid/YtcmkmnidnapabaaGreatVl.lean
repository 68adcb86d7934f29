/-
  Change: what a set is behind changes, or why it is none.
-/
import Derived.Test.YtcmkmnidnapabaaGreatUc
import Derived.Test.YtcmkmnidnapabaaGreatUb
import Derived.Maps.AppendAt
namespace Go.Proofs.YtcmkmnidnapabaaGreat
open Go.RowKit Go.Lib Go.Shelf Go.Maps
attribute [local go_sem] Oper.semAt_some

/-- The two result variables. -/
def Res (W : World) (r : Nat) (v : Value) (x : Int) : Prop := Blk W r [v] 22 ∧ Blk W (r + 1) [.int .i64 x] 30
theorem Res.f {W : World} {r : Nat} {v : Value} {x : Int} (h : Res W r v x) : W.cell? ⟨r, 0, none⟩ = some v ∧ W.cell? ⟨r + 1, 0, none⟩ = some (.int .i64 x) ∧ W.frozen? ⟨r, 0, none⟩ = false ∧ W.frozen? ⟨r + 1, 0, none⟩ = false := ⟨h.1.cell 0, h.2.cell 0, h.1.free 0, h.2.free 0⟩
theorem Res.below {W W' : World} {r : Nat} {v : Value} {x : Int} (h : Res W r v x) (hb : Below W.heap.size W W') : Res W' r v x := ⟨hb.blk' h.1, hb.blk' h.2⟩
theorem Res.put {W : World} {r : Nat} {v : Value} {x : Int} (h : Res W r v x) (v' : Value) (x' : Int) : Res ((W.setCell ⟨r, 0, none⟩ v').setCell ⟨r + 1, 0, none⟩ (.int .i64 x')) r v' x' :=
  ⟨(h.1.set 0 v').other _ _ (by simp), (h.2.other _ _ (by simp)).set 0 _⟩
def kept (l : List Vd) : List Vd := l.filter (fun v => v.p != 0)
def chgO (l c : List Vd) : List Vd × Nat :=
  if chk l ≠ 0 then ([], chk l) else if chgFrom l none c ≠ 0 then ([], chgFrom l none c) else
  if 64 < (kept (mrg l c)).length then ([], 7) else if kept (mrg l c) = [] then ([], 6) else (kept (mrg l c), 0)
theorem Blk.turn {W W' : World} {b : Nat} {cs : List Value} {T : TypeId} {row : Option Nat} (h : Blk W b cs T) (hg : W.grownBy W' row) (hr : ∀ r, row = some r → ∃ o : Obj, W.heap[r]? = some o ∧ o.isCells = false) : Blk W' b cs T :=
  (hg.block b h.lt (fun e => by
    obtain ⟨o, ho, hc⟩ := hr b e.symm
    rw [show W.heap[b]? = _ from h] at ho
    cases ho
    simp [Obj.isCells] at hc)).trans h
theorem OwnV.turn {W W' : World} {B : Nat} {v : Value} {l : List Vd} {row : Option Nat} (h : OwnV W B v l) (hg : W.grownBy W' row) (hr : ∀ r, row = some r → ∃ o : Obj, W.heap[r]? = some o ∧ o.isCells = false) : OwnV W' B v l := by
  refine ⟨h.1, ?_⟩
  rcases h.2 with h2 | ⟨g, cap, cur, h1, h2, h3, r⟩
  · exact .inl h2
  · refine .inr ⟨g, cap, cur, h1, h2, (hg.block g (Array.getElem?_eq_some_iff.1 h3).1 (fun e => ?_)).trans h3, r⟩
    obtain ⟨o, ho, hc⟩ := hr g e.symm
    rw [h3] at ho
    cases ho
    simp [Obj.isCells] at hc
theorem Res.turn {W W' : World} {r : Nat} {v : Value} {x : Int} {row : Option Nat} (h : Res W r v x) (hg : W.grownBy W' row) (hr : ∀ r, row = some r → ∃ o : Obj, W.heap[r]? = some o ∧ o.isCells = false) : Res W' r v x := ⟨h.1.turn hg hr, h.2.turn hg hr⟩
theorem Below.turn {B C : Nat} {w W W' : World} {row : Option Nat} (h : Below B w W) (hg : W.grownBy W' row) (hB : B ≤ W.heap.size) (hC : B ≤ C) (hr : ∀ r, row = some r → C ≤ r ∧ ∃ o : Obj, W.heap[r]? = some o ∧ o.isCells = false) : Below B w W' :=
  h.grown hg hB (fun k e => Nat.le_trans hC (hr k e).1)
/-- Between two rounds. -/
def ChI (w : World) (g : Nat) (pre : List Vd) (W : World) : Prop := (∃ v, Blk W g [v] 22 ∧ OwnV W w.heap.size v (kept pre)) ∧ (kept pre).length ≤ 64 ∧ Res W w.heap.size (.slice none 0 0) 0 ∧ Below w.heap.size w W
/-- A round has left. -/
def ChX (w : World) (cd : Code) (pre : List Vd) (W : World) : Prop := cd = .ret ∧ 64 < (kept pre).length ∧ Res W w.heap.size (.slice none 0 0) 7 ∧ Below w.heap.size w W
theorem kept_snoc {pre : List Vd} {x : Vd} (h : x.p ≠ 0) : kept (pre ++ [x]) = kept pre ++ [x] := by unfold kept; rw [List.filter_append]; simp [h]
theorem OwnV.ne {W : World} {B b : Nat} {v : Value} {l : List Vd} {cs : List Value} {T : TypeId} (h : OwnV W B v l) (hb : Blk W b cs T) (hT : T ≠ 111) : v.ownBlock ≠ some b := by
  intro e
  rcases h.2 with ⟨h1, _⟩ | ⟨g, cap, cur, h1, h2, h3, _⟩
  · rw [h1] at e; cases e
  · rw [h1] at e
    simp only [Value.ownBlock, Option.some.injEq] at e
    subst e
    rw [show W.heap[g]? = _ from hb] at h3
    cases h3
    exact hT rfl
theorem OwnV.cells {W : World} {B : Nat} {v : Value} {l : List Vd} (h : OwnV W B v l) : ∀ (j : Nat) (o : Obj), v.ownBlock = some j → W.heap[j]? = some o → o.isCells = true := by
  intro j o e ho
  rcases h.2 with ⟨h1, _⟩ | ⟨g, cap, cur, h1, h2, h3, _⟩
  · rw [h1] at e; cases e
  · rw [h1] at e
    simp only [Value.ownBlock, Option.some.injEq] at e
    subst e
    rw [h3] at ho
    cases ho
    rfl
theorem OwnV.set {W : World} {B b : Nat} {v : Value} {l : List Vd} (h : OwnV W B v l) (hb : v.ownBlock ≠ some b) (k : Nat) (u : Value) : OwnV (W.setCell ⟨b, k, none⟩ u) B v l := by
  refine ⟨h.1, ?_⟩
  rcases h.2 with h2 | ⟨g, cap, cur, h1, h2, h3, r⟩
  · exact .inl h2
  · refine .inr ⟨g, cap, cur, h1, h2, (Below.heap_setCell W ⟨b, k, none⟩ u g (fun e => ?_)).trans h3, r⟩
    subst e
    rw [h1] at hb
    exact hb rfl
theorem Blk.grown {W W' : World} {b : Nat} {cs : List Value} {T : TypeId} {row : Option Nat} (h : Blk W b cs T) (hg : W.grownBy W' row) (hne : row ≠ some b) : Blk W' b cs T := (hg.block b h.lt (fun e => hne e.symm)).trans h
/-- A validator is hung on. -/
theorem ChI.more {w W w7 : World} {g : Nat} {pre : List Vd} {x : Vd} {v v' : Value} {o : Obj} (hv : Blk W g [v] 22) (hrow : OwnV W w.heap.size v (kept pre)) (hres : Res W w.heap.size (.slice none 0 0) 0) (hbel : Below w.heap.size w W) (hg : w.heap.size + 1 < g) (h64 : (kept pre).length < 64) (hx : x.p ≠ 0)
    (ho : w7.ownsRow w.heap.size 111 5 v' ((kept pre).length + 1) ((kept pre).flatMap vL ++ vL x)) (hgr : (W.alloc o).grownBy w7 v.ownBlock) (C : Nat) :
    Blk w7 g [v] 22 ∧ KeepsFrom C W (w7.setCell ⟨g, 0, none⟩ v') ∧ Below w.heap.size W (w7.setCell ⟨g, 0, none⟩ v') ∧ ChI w g (pre ++ [x]) (w7.setCell ⟨g, 0, none⟩ v') := by
  have n82 : 22 ≠ 111 := by decide
  have n26 : 30 ≠ 111 := by decide
  have ba : Below W.heap.size W (W.alloc o) := (Below.refl _ W).alloc (Nat.le_refl _) o
  have ra := hrow.below ba
  have v7 := (hv.alloc o).grown hgr (ra.ne (hv.alloc o) n82)
  have o7 : OwnV w7 w.heap.size v' (kept (pre ++ [x])) := by rw [kept_snoc hx]; exact OwnV.snoc ho
  have b7 : Below w.heap.size W w7 := ((Below.refl _ W).alloc hbel.size o).grown hgr (Nat.le_trans hbel.size ba.size) (fun j e => (ra.lt e).1)
  have k7 : KeepsOthers W w7 := (KeepsOthers.alloc W o).trans (KeepsOthers.of_grownBy hgr (ra.cells))
  have b8 : Below w.heap.size W (w7.setCell ⟨g, 0, none⟩ v') := b7.setCell (p := ⟨g, 0, none⟩) (by show w.heap.size ≤ g; omega) v'
  refine ⟨v7, (k7.trans (KeepsOthers.setCell _ _ _)).from C, b8, ⟨v', v7.set 0 v', o7.set (o7.ne v7 n82) 0 v'⟩, ?_, ⟨?_, ?_⟩, hbel.trans b8⟩
  · rw [kept_snoc hx, List.length_append]; simp; omega
  · exact ((hres.1.alloc o).grown hgr (ra.ne (hres.1.alloc o) n82)).other _ _ (by simp; omega)
  · exact ((hres.2.alloc o).grown hgr (ra.ne (hres.2.alloc o) n26)).other _ _ (by simp; omega)
theorem Vs.turn {W W' : World} {a : Option Addr} {b o cap D : Nat} {l : List Vd} (h : Vs W a b o cap l) (hg : W.grownBy W' (some D)) (hK : W.heap[D]? = some (.deferred (some []))) : Vs W' a b o cap l :=
  ⟨h.ok, h.le, fun h0 => ⟨(h.ptr h0).1, Nat.lt_of_lt_of_le (h.ptr h0).2 hg.size⟩, fun i v hi j c hc => by
    have hcell := h.cell i v hi j c hc
    have hlt := cell_lt hcell
    have hne : b ≠ D := by
      intro e
      subst e
      simp [World.cell?, hK] at hcell
    exact (World.cell?_of_block (w := W) (a := ⟨b, o + i * 5 + j, none⟩) (hg.block b hlt (fun e => hne (by cases e; rfl)))).trans hcell⟩
/-- The cells behind a row of one's own may be written. -/
def Ow (W : World) (b n : Nat) : Prop := 0 < n → ∃ cs, Blk W b cs 111 ∧ n * 5 ≤ cs.length
theorem OwnV.ow {w : World} {base : Nat} {p : Option Addr} {b o n cap : Nat} {l : List Vd} (h : OwnV w base (.slice p n cap) l) (hv : Vs w p b o cap l) : Ow w b l.length := by
  intro h0
  have hp := (hv.ptr (by have := hv.le; omega)).1
  rcases h.2 with ⟨_, h2⟩ | ⟨g, cp, cur, h1, h2, h3, h4, h5, h6, h7⟩
  · omega
  · cases h1
    cases hp
    refine ⟨cur.toList, h3, ?_⟩
    have h8 : (l.flatMap vL).length ≤ cur.toList.length := by
      have e : (l.flatMap vL).length = (List.take (l.length * 5) cur.toList).length := by rw [h7]
      rw [e, List.length_take]; omega
    rw [flat5] at h8
    exact h8
theorem Ow.turn {W W' : World} {b n D : Nat} (h : Ow W b n) (hg : W.grownBy W' (some D)) (hK : W.heap[D]? = some (.deferred (some []))) : Ow W' b n := fun h0 => by
  obtain ⟨cs, h1, h2⟩ := h h0
  exact ⟨cs, h1.turn hg (fun r e => by cases e; exact ⟨_, hK, rfl⟩), h2⟩
theorem Ow.bex {w w' : World} {g b n : Nat} (h : Ow w b n) (hB : Bex g w w') (hne : 0 < n → g ≠ b) : Ow w' b n := fun h0 => by
  obtain ⟨cs, h1, h2⟩ := h h0
  exact ⟨cs, hB.blk h1 (fun e => hne h0 e.symm), h2⟩
end Go.Proofs.YtcmkmnidnapabaaGreat
