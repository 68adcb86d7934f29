/-
  The reference of layer 5: changed, by definition.
-/
import Derived.Test.YtdiklimikkplcaaRc
import Derived.OwnWalk
namespace Go.Proofs.Ytdiklimikkplcaa
open Go.RowKit Go.Lib Go.Maps

/-- A list, changed by one, from here on; was the change put already? -/
def goC (c : Vd) : Bool → List Vd → List Vd
  | p, [] => if p then [] else [c]
  | p, v :: r => (if p = false ∧ c.k < v.k then [c] else []) ++ ((if v.k = c.k then [] else [v]) ++ goC c (p || decide (c.k < v.k)) r)
def chgd (l : List Vd) (c : Vd) : List Vd := goC c (c.p == 0) l
structure ChS (w wr : World) (c : Vd) (A : List Vd) (v : Value) : Prop where
  own : OwnV wr (w.heap.size + 1) v A
  bel : Below w.heap.size w wr
  box : Blk wr w.heap.size (vL c) 122
  lt : w.heap.size + 1 ≤ wr.heap.size
theorem ChS.below {w wr w2 : World} {c : Vd} {A : List Vd} {v : Value} (H : ChS w wr c A v) (hb : Below wr.heap.size wr w2) : ChS w w2 c A v :=
  ⟨H.own.below hb, H.bel.trans (hb.mono H.bel.size), hb.blk' H.box, Nat.le_trans H.lt hb.size⟩
theorem ChS.drewN {w wr : World} {c : Vd} {A : List Vd} {v : Value} (H : ChS w wr c A v) (n : Nat) : ChS w (wr.drewN n) c A v := H.below ((Below.refl _ _).drewN n)
theorem ChS.own2 {w wr : World} {c : Vd} {A : List Vd} {v : Value} (H : ChS w wr c A v) (o : Obj) : (wr.alloc o).ownsRow (w.heap.size + 1) 122 5 v A.length (A.flatMap vL) ∧ w.heap.size + 1 ≤ (wr.alloc o).heap.size :=
  ⟨H.own.below ((Below.refl _ wr).alloc (Nat.le_refl _) o), by have := H.lt; simp; omega⟩
theorem ChS.app {w wr w7 : World} {c u : Vd} {A : List Vd} {v v' : Value} {o : Obj} (H : ChS w wr c A v) (ho : w7.ownsRow (w.heap.size + 1) 122 5 v' (A.length + 1) (A.flatMap vL ++ vL u)) (hg : (wr.alloc o).grownBy w7 v.ownBlock) : ChS w w7 c (A ++ [u]) v' := by
  have h2 := H.own2 o
  have b1 : Below (w.heap.size + 1) wr w7 := ((Below.refl (w.heap.size + 1) wr).alloc H.lt o).grown hg h2.2 (fun j hj => (h2.1.lt j hj).1)
  refine ⟨OwnV.snoc ho, H.bel.trans (b1.mono (Nat.le_succ _)), H.box.below b1 (Nat.lt_succ_self _), Nat.le_trans H.lt b1.size⟩
theorem goC_step {c v : Vd} {p : Bool} {l : List Vd} {i : Nat} (hv : l[i]? = some v) : goC c p (l.drop i) = (if p = false ∧ c.k < v.k then [c] else []) ++ ((if v.k = c.k then [] else [v]) ++ goC c (p || decide (c.k < v.k)) (l.drop (i + 1))) := by
  obtain ⟨hlt, rfl⟩ := List.getElem?_eq_some_iff.1 hv
  rw [List.drop_eq_getElem_cons hlt]
  rfl
theorem run_ne_key (a b : Nat) (ha : a < 4294967296) (hb : b < 4294967296) (w : World) : (binOp .neq 36 (.agg #[.int .u8 (kd a 3 : Nat), .int .u8 (kd a 2 : Nat), .int .u8 (kd a 1 : Nat), .int .u8 (kd a 0 : Nat)]) (.agg #[.int .u8 (kd b 3 : Nat), .int .u8 (kd b 2 : Nat), .int .u8 (kd b 1 : Nat), .int .u8 (kd b 0 : Nat)])).run Try.prog w = .ok (.bool (!decide (a = b))) w := by
  have q := run_eqIn_key 9998 a b ha hb w
  simp only [binOp]
  simp [Op.equal, Op.maxDepth, q]
theorem Vs.five {w : World} {a : Option Addr} {b o cap : Nat} {l : List Vd} (h : Vs w a b o cap l) {i : Nat} {v : Vd} (hv : l[i]? = some v) : w.cell? ⟨b, o + i * 5, none⟩ = some (.int .u8 (kd v.k 3 : Nat)) ∧ w.cell? ⟨b, o + i * 5 + 1, none⟩ = some (.int .u8 (kd v.k 2 : Nat)) ∧ w.cell? ⟨b, o + i * 5 + 2, none⟩ = some (.int .u8 (kd v.k 1 : Nat)) ∧ w.cell? ⟨b, o + i * 5 + 3, none⟩ = some (.int .u8 (kd v.k 0 : Nat)) ∧ w.cell? ⟨b, o + i * 5 + 4, none⟩ = some (.int .i64 v.p) :=
  ⟨h.cell i v hv 0 _ rfl, h.cell i v hv 1 _ rfl, h.cell i v hv 2 _ rfl, h.cell i v hv 3 _ rfl, h.cell i v hv 4 _ rfl⟩
theorem box5 {w : World} {x : Nat} {c : Vd} {T : TypeId} (h : Blk w x (vL c) T) : w.cell? ⟨x, 0, none⟩ = some (.int .u8 (kd c.k 3 : Nat)) ∧ w.cell? ⟨x, 1, none⟩ = some (.int .u8 (kd c.k 2 : Nat)) ∧ w.cell? ⟨x, 2, none⟩ = some (.int .u8 (kd c.k 1 : Nat)) ∧ w.cell? ⟨x, 3, none⟩ = some (.int .u8 (kd c.k 0 : Nat)) ∧ w.cell? ⟨x, 4, none⟩ = some (.int .i64 c.p) :=
  ⟨h.cell 0, h.cell 1, h.cell 2, h.cell 3, h.cell 4⟩
/-- A key in one block, a key in another one. -/
def K3 (b x b2 y ku kv : Nat) (W : World) : Prop := W.cell? ⟨b, x, none⟩ = some (.int .u8 (kd ku 3 : Nat)) ∧ W.cell? ⟨b, x + 1, none⟩ = some (.int .u8 (kd ku 2 : Nat)) ∧ W.cell? ⟨b, x + 2, none⟩ = some (.int .u8 (kd ku 1 : Nat)) ∧ W.cell? ⟨b, x + 3, none⟩ = some (.int .u8 (kd ku 0 : Nat)) ∧ W.cell? ⟨b2, y, none⟩ = some (.int .u8 (kd kv 3 : Nat)) ∧ W.cell? ⟨b2, y + 1, none⟩ = some (.int .u8 (kd kv 2 : Nat)) ∧ W.cell? ⟨b2, y + 2, none⟩ = some (.int .u8 (kd kv 1 : Nat)) ∧ W.cell? ⟨b2, y + 3, none⟩ = some (.int .u8 (kd kv 0 : Nat))
theorem K3.drew {b x b2 y ku kv : Nat} {W : World} (h : Hid (K3 b x b2 y ku kv W)) : Hid (K3 b x b2 y ku kv W.drew) := hidp h.out
theorem K3.below {b x b2 y ku kv : Nat} {W W' : World} (h : Hid (K3 b x b2 y ku kv W)) (hB : Below W.heap.size W W') : Hid (K3 b x b2 y ku kv W') := by
  obtain ⟨h0, h1, h2, h3, h4, h5, h6, h7⟩ := h.out
  exact hidp ⟨(hB.cell (cell_lt h0)).trans h0, (hB.cell (cell_lt h1)).trans h1, (hB.cell (cell_lt h2)).trans h2, (hB.cell (cell_lt h3)).trans h3, (hB.cell (cell_lt h4)).trans h4, (hB.cell (cell_lt h5)).trans h5, (hB.cell (cell_lt h6)).trans h6, (hB.cell (cell_lt h7)).trans h7⟩
end Go.Proofs.Ytdiklimikkplcaa
