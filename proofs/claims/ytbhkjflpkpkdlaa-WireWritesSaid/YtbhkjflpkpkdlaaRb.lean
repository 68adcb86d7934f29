/-
  The reference of layer 5: Check, Find, by definition.
-/
import Derived.Test.YtbhkjflpkpkdlaaRa
import Derived.Test.YtbhkjflpkpkdlaaUb
import Derived.Deep.RegionHeld3
namespace Go.Proofs.Ytbhkjflpkpkdlaa
open Go.RowKit Go.Lib Go.Maps

theorem Vs.drewN {w : World} {a : Option Addr} {b o cap : Nat} {l : List Vd} (h : Vs w a b o cap l) (n : Nat) : Vs (w.drewN n) a b o cap l := ⟨h.ok, h.le, h.ptr, h.cell⟩
def prevK (l : List Vd) (i : Nat) : Option Nat := if i = 0 then none else (l[i - 1]?).map (·.k)
theorem prevK_succ {l : List Vd} {i : Nat} {v : Vd} (hv : l[i]? = some v) : prevK l (i + 1) = some v.k := by
  unfold prevK
  rw [if_neg (by omega), Nat.add_sub_cancel, hv]; rfl
structure RcI (w wr : World) (i : Nat) (l : List Vd) : Prop where
  bel : Below w.heap.size w wr
  e : chkFrom 1 none l = chkFrom 1 (prevK l i) (l.drop i)
theorem RcI.next {w wr w' : World} {i : Nat} {l : List Vd} {v : Vd} (H : RcI w wr i l) (hv : l[i]? = some v) (h0 : nextE (prevK l i) v 1 = 0) (hb : Below w.heap.size w w') : RcI w w' (i + 1) l := by
  refine ⟨hb, ?_⟩
  rw [H.e, prevK_succ hv]
  obtain ⟨hlt, rfl⟩ := List.getElem?_eq_some_iff.1 hv
  rw [List.drop_eq_getElem_cons hlt]
  simp only [chkFrom, h0, if_true]
theorem RcI.fail {w wr : World} {i : Nat} {l : List Vd} {v : Vd} (H : RcI w wr i l) (hv : l[i]? = some v) {n : Nat} (h0 : nextE (prevK l i) v 1 = n) (hn : n ≠ 0) : chkFrom 1 none l = n := by
  rw [H.e]
  obtain ⟨hlt, rfl⟩ := List.getElem?_eq_some_iff.1 hv
  rw [List.drop_eq_getElem_cons hlt]
  simp only [chkFrom]
  rw [if_neg (by omega), h0]
theorem RcI.last {w wr : World} {i : Nat} {l : List Vd} (H : RcI w wr i l) (hi : l.length ≤ i) : chkFrom 1 none l = 0 := by
  rw [H.e, List.drop_eq_nil_of_le hi]
  cases prevK l i <;> rfl
/-- Two keys lie side by side. -/
def K2 (b x y ku kv : Nat) (W : World) : Prop := W.cell? ⟨b, x, none⟩ = some (.int .u8 (kd ku 3 : Nat)) ∧ W.cell? ⟨b, x + 1, none⟩ = some (.int .u8 (kd ku 2 : Nat)) ∧ W.cell? ⟨b, x + 2, none⟩ = some (.int .u8 (kd ku 1 : Nat)) ∧ W.cell? ⟨b, x + 3, none⟩ = some (.int .u8 (kd ku 0 : Nat)) ∧ W.cell? ⟨b, y, none⟩ = some (.int .u8 (kd kv 3 : Nat)) ∧ W.cell? ⟨b, y + 1, none⟩ = some (.int .u8 (kd kv 2 : Nat)) ∧ W.cell? ⟨b, y + 2, none⟩ = some (.int .u8 (kd kv 1 : Nat)) ∧ W.cell? ⟨b, y + 3, none⟩ = some (.int .u8 (kd kv 0 : Nat))
theorem K2.drew {b x y ku kv : Nat} {W : World} (h : Hid (K2 b x y ku kv W)) : Hid (K2 b x y ku kv W.drew) := hidp h.out
theorem K2.below {b x y ku kv : Nat} {W W' : World} (h : Hid (K2 b x y ku kv W)) (hB : Below W.heap.size W W') : Hid (K2 b x y ku kv W') := by
  obtain ⟨h0, h1, h2, h3, h4, h5, h6, h7⟩ := h.out
  exact hidp ⟨(hB.cell (cell_lt h0)).trans h0, (hB.cell (cell_lt h1)).trans h1, (hB.cell (cell_lt h2)).trans h2, (hB.cell (cell_lt h3)).trans h3, (hB.cell (cell_lt h4)).trans h4, (hB.cell (cell_lt h5)).trans h5, (hB.cell (cell_lt h6)).trans h6, (hB.cell (cell_lt h7)).trans h7⟩
end Go.Proofs.Ytbhkjflpkpkdlaa
