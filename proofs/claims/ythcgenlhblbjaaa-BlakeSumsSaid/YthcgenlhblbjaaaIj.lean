/-
  Plain, and what the answer's block knows between its statements.
-/
import Derived.Test.YthcgenlhblbjaaaIi
import Derived.Test.YthcgenlhblbjaaaIg
namespace Go.Proofs.Ythcgenlhblbjaaa
open Go.RowKit Go.Lib

/-! The words that rounds begin with, filled pair by pair. -/
def partV (h : List Nat) (i : Nat) : List Nat := (List.range 16).map fun j => if j < i then h.getD j 0 else if 8 ≤ j ∧ j < 8 + i then initL.getD (j - 8) 0 else 0
theorem partV_len (h : List Nat) (i : Nat) : (partV h i).length = 16 := by unfold partV; simp
theorem partV_zero (h : List Nat) : partV h 0 = List.replicate 16 0 := by unfold partV; rfl
theorem partV_all {h : List Nat} (h8 : h.length = 8) : partV h 8 = h ++ initL := by
  apply List.ext_getElem?
  intro j
  unfold partV
  rw [List.getElem?_map]
  by_cases hj : j < 8
  · rw [List.getElem?_range (by omega), List.getElem?_append_left (by omega), List.getElem?_eq_getElem (by omega)]
    simp only [Option.map_some, hj, if_true]
    rw [List.getD_eq_getElem?_getD, List.getElem?_eq_getElem (by omega)]; rfl
  · by_cases hk : j < 16
    · rw [List.getElem?_range hk, List.getElem?_append_right (by omega), h8, List.getElem?_eq_getElem (by show j - 8 < 8; omega)]
      simp only [Option.map_some, hj, if_false]
      rw [if_pos (by omega), List.getD_eq_getElem?_getD, List.getElem?_eq_getElem (by show j - 8 < 8; omega)]; rfl
    · rw [List.getElem?_eq_none (by simp; omega), List.getElem?_eq_none (by rw [List.length_append, h8]; show 8 + 8 ≤ j; omega)]; rfl
theorem partV_set (h : List Nat) {i : Nat} (hi : i < 8) : ((partV h i).set i (h.getD i 0)).set (i + 8) (initL.getD i 0) = partV h (i + 1) := by
  apply List.ext_getElem?
  intro n
  rw [List.getElem?_set, List.getElem?_set, List.length_set, partV_len]
  unfold partV
  by_cases h1 : i + 8 = n
  · subst h1
    rw [if_pos rfl, if_pos (by omega), List.getElem?_map, List.getElem?_range (by omega), Option.map_some, if_neg (by omega), if_pos (by omega), show i + 8 - 8 = i by omega]
  · rw [if_neg h1]
    by_cases h2 : i = n
    · subst h2
      rw [if_pos rfl, if_pos (by omega), List.getElem?_map, List.getElem?_range (by omega), Option.map_some, if_pos (by omega)]
    · rw [if_neg h2, List.getElem?_map, List.getElem?_map]
      by_cases hn : n < 16
      · rw [List.getElem?_range hn, Option.map_some, Option.map_some]
        by_cases h3 : n < i
        · rw [if_pos h3, if_pos (by omega)]
        · rw [if_neg h3, if_neg (show ¬ n < i + 1 by omega)]
          by_cases h4 : 8 ≤ n ∧ n < 8 + i
          · rw [if_pos h4, if_pos (by omega)]
          · rw [if_neg h4, if_neg (by omega)]
      · rw [List.getElem?_eq_none (by simp; omega)]; rfl

/-! A round, mixing by mixing. -/
def halfL (v p : List Nat) : Nat → List Nat
  | 0 => v
  | 1 => mixL v 0 4 8 12 (p.getD 0 0) (p.getD 1 0)
  | 2 => mixL (mixL v 0 4 8 12 (p.getD 0 0) (p.getD 1 0)) 1 5 9 13 (p.getD 2 0) (p.getD 3 0)
  | 3 => mixL (mixL (mixL v 0 4 8 12 (p.getD 0 0) (p.getD 1 0)) 1 5 9 13 (p.getD 2 0) (p.getD 3 0)) 2 6 10 14 (p.getD 4 0) (p.getD 5 0)
  | _ => mixL (mixL (mixL (mixL v 0 4 8 12 (p.getD 0 0) (p.getD 1 0)) 1 5 9 13 (p.getD 2 0) (p.getD 3 0)) 2 6 10 14 (p.getD 4 0) (p.getD 5 0)) 3 7 11 15 (p.getD 6 0) (p.getD 7 0)
def restL (v p : List Nat) : Nat → List Nat
  | 0 => v
  | 1 => mixL v 0 5 10 15 (p.getD 8 0) (p.getD 9 0)
  | 2 => mixL (mixL v 0 5 10 15 (p.getD 8 0) (p.getD 9 0)) 1 6 11 12 (p.getD 10 0) (p.getD 11 0)
  | 3 => mixL (mixL (mixL v 0 5 10 15 (p.getD 8 0) (p.getD 9 0)) 1 6 11 12 (p.getD 10 0) (p.getD 11 0)) 2 7 8 13 (p.getD 12 0) (p.getD 13 0)
  | _ => mixL (mixL (mixL (mixL v 0 5 10 15 (p.getD 8 0) (p.getD 9 0)) 1 6 11 12 (p.getD 10 0) (p.getD 11 0)) 2 7 8 13 (p.getD 12 0) (p.getD 13 0)) 3 4 9 14 (p.getD 14 0) (p.getD 15 0)
theorem round_halves (v p : List Nat) : roundL v p = restL (halfL v p 4) p 4 := rfl
theorem halfL_words {v : List Nat} (h : Words 16 v) (p : List Nat) : ∀ k, Words 16 (halfL v p k)
  | 0 => h
  | 1 => mixL_words h _ _ _ _ _ _
  | 2 => mixL_words (mixL_words h _ _ _ _ _ _) _ _ _ _ _ _
  | 3 => mixL_words (mixL_words (mixL_words h _ _ _ _ _ _) _ _ _ _ _ _) _ _ _ _ _ _
  | _ + 4 => mixL_words (mixL_words (mixL_words (mixL_words h _ _ _ _ _ _) _ _ _ _ _ _) _ _ _ _ _ _) _ _ _ _ _ _
theorem restL_words {v : List Nat} (h : Words 16 v) (p : List Nat) : ∀ k, Words 16 (restL v p k)
  | 0 => h
  | 1 => mixL_words h _ _ _ _ _ _
  | 2 => mixL_words (mixL_words h _ _ _ _ _ _) _ _ _ _ _ _
  | 3 => mixL_words (mixL_words (mixL_words h _ _ _ _ _ _) _ _ _ _ _ _) _ _ _ _ _ _
  | _ + 4 => mixL_words (mixL_words (mixL_words (mixL_words h _ _ _ _ _ _) _ _ _ _ _ _) _ _ _ _ _ _) _ _ _ _ _ _
theorem rowL_lt {r : Nat} (hr : r < 10) (j : Nat) : (rowL r).getD j 0 < 16 := by
  have h : ∀ r, r < 10 → ∀ x ∈ rowL r, x < 16 := by decide
  rw [List.getD_eq_getElem?_getD]
  cases hj : (rowL r)[j]? with
  | none => show 0 < 16; decide
  | some x => exact h r hr x (List.mem_of_getElem? hj)
theorem pickL_get {m : List Nat} {r : Nat} (hr : r < 10) {j : Nat} (hj : j < 16) : (pickL m r).getD j 0 = m.getD ((rowL r).getD j 0) 0 := by
  unfold pickL
  rw [List.getD_eq_getElem?_getD, List.getElem?_map, List.getD_eq_getElem?_getD (l := rowL r), List.getElem?_eq_getElem (by rw [rowL_len hr]; exact hj)]
  rfl
theorem ints_get {v : List Nat} {i : Nat} (h : i < v.length) : (ints v)[i]? = some (.int .i64 (v.getD i 0 : Nat)) := by
  unfold ints
  rw [List.getElem?_map, List.getD_eq_getElem?_getD, List.getElem?_eq_getElem h]; rfl

/-- What the answer's block knows between its statements: h, the result, the block's words, v. -/
structure BlS (w wr : World) (h m v : List Nat) : Prop where
  bh : Blk wr w.heap.size (wvs h) 40
  br : Blk wr (w.heap.size + 1) (wvs (List.replicate 8 0)) 40
  bm : Blk wr (w.heap.size + 1 + 1) (wvs m) 66
  bv : Blk wr (w.heap.size + 3) (wvs v) 66
  bel : Below w.heap.size w wr
theorem BlS.drew {w wr : World} {h m v : List Nat} (H : BlS w wr h m v) : BlS w wr.drew h m v := ⟨H.bh.drew, H.br.drew, H.bm.drew, H.bv.drew, H.bel.drew⟩
theorem BlS.below {w wr w' : World} {h m v : List Nat} (H : BlS w wr h m v) (hb : Below wr.heap.size wr w') : BlS w w' h m v :=
  ⟨H.bh.below hb H.bh.lt, H.br.below hb H.br.lt, H.bm.below hb H.bm.lt, H.bv.below hb H.bv.lt, btrans H.bel hb⟩
theorem BlS.alloc {w wr : World} {h m v : List Nat} (H : BlS w wr h m v) (o : Obj) : BlS w (wr.alloc o) h m v :=
  ⟨H.bh.alloc o, H.br.alloc o, H.bm.alloc o, H.bv.alloc o, H.bel.alloc H.bel.size o⟩
theorem BlS.butv {w wr w' : World} {h m v v' : List Nat} (H : BlS w wr h m v) (hb : But (w.heap.size + 3) wr w') (hv : Blk w' (w.heap.size + 3) (wvs v') 66) : BlS w w' h m v' :=
  ⟨hb.blk H.bh (by omega), hb.blk H.br (by omega), hb.blk H.bm (by omega), hv, H.bel.trans (hb.below (by omega))⟩
theorem BlS.setv {w wr : World} {h m v : List Nat} (H : BlS w wr h m v) (i x : Nat) : BlS w (wr.setCell ⟨w.heap.size + 3, i, none⟩ (.int .u32 (x : Nat))) h m (v.set i x) :=
  H.butv ((But.refl _ wr).setCell _ _) (wvs_set v i x ▸ H.bv.set i _)
theorem BlS.seth {w wr : World} {h m v : List Nat} (H : BlS w wr h m v) (i x : Nat) : BlS w (wr.setCell ⟨w.heap.size, i, none⟩ (.int .u32 (x : Nat))) (h.set i x) m v := by
  have hb := (But.refl w.heap.size wr).setCell i (.int .u32 (x : Nat))
  exact ⟨wvs_set h i x ▸ H.bh.set i _, hb.blk H.br (by omega), hb.blk H.bm (by omega), hb.blk H.bv (by omega), H.bel.trans (hb.below (Nat.le_refl _))⟩
theorem BlS.other {w wr w' : World} {h m v : List Nat} {c : Nat} (H : BlS w wr h m v) (hb : But c wr w') (hc : w.heap.size + 4 ≤ c) : BlS w w' h m v :=
  ⟨hb.blk H.bh (by omega), hb.blk H.br (by omega), hb.blk H.bm (by omega), hb.blk H.bv (by omega), H.bel.trans (hb.below (by omega))⟩

/-- A whole array is loaded in a region's head that only reads. -/
theorem wpStill_load_blk {P : Program} {ops : Array Oper} {w : World} {Q : Act → Prop} {a : Act} {o : Oper} {rest : List Oper} (hgd : o.guard = none) (ty : TypeId) (x : Operand) (ho : o.op = .load ty x)
    (b : Nat) (cs : List Value) (T : TypeId) (hx : a.eval x = .pointer (some ⟨b, 0, none⟩)) (hb : Blk w b cs T) (d : TypeDesc) (hu : P.underlying ty = some d) (hd : d.isRow = true) (hi : (P.info? ty).map (·.size) = some cs.length)
    (h : wpStill P ops w Q rest (a.put o.dst (.agg cs.toArray))) : wpStill P ops w Q (o :: rest) a := by
  have hw : Region.wanted o (yielded ops a.tmps) = true := by unfold Region.wanted; rw [hgd]
  have hl := run_loadVar_mid (P := P) w b 0 ty cs d (fun j v hj => by rw [Nat.zero_add]; exact (hb.cell j).trans hj) hu hd hi
  refine wpStill_step (fun K hK => ?_)
  rw [if_pos hw]
  unfold Oper.still execOp
  simp only [ho, hx, Instr.loadAt, Instr.sureAddr, Sem.run_bind, Sem.run_pure, Result.andThen_ok, hl, Oper.stillUpon]
  exact ⟨trivial, hK _ h⟩
end Go.Proofs.Ythcgenlhblbjaaa
