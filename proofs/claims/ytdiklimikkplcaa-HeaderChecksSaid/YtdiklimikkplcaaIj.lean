/-
  Plain, and what the answer's block knows between its statements.
-/
import Derived.Test.YtdiklimikkplcaaIi
import Derived.Test.YtdiklimikkplcaaIg
namespace Go.Proofs.Ytdiklimikkplcaa
open Go.RowKit Go.Lib

theorem run_index_cellsK {T e : TypeId} {n : Nat} {d : TypeDesc} (hT : Try.prog.underlying T = some (.array n e)) (he : Try.prog.underlying e = some d) (hd : (match d with | .struct _ | .array _ _ => false | _ => true) = true) (hs : (Try.prog.info? e).map (·.size) = some 1)
    (cs : List Value) (i : Nat) (hi : i < n) (v : Value) (hv : cs[i]? = some v) (w : World) : (Instr.index T (.agg cs.toArray) (.int .i64 (i : Nat))).run Try.prog w = .ok v w := by
  cases hq : Try.prog.info? e with
  | none => simp [hq] at hs
  | some j =>
    have hj : j.size = 1 := by simpa [hq] using hs
    have hagg : (isAgg e).run Try.prog w = .ok false w := by
      unfold isAgg
      rw [Sem.run_bind, run_underlying he w]
      cases d <;> simp_all
    simp [Instr.index, asIntOf, run_underlying hT, sizeOf, typeInfo, hq, hj, part, hagg, hv]
    intro hle; omega


/-! The words that rounds begin with, filled pair by pair. -/
def partHv (h : List Nat) (i : Nat) : List Nat := (List.range 16).map fun j => if j < i then h.getD j 0 else if 8 ≤ j ∧ j < 8 + i then initL.getD (j - 8) 0 else 0
theorem partV_len (h : List Nat) (i : Nat) : (partHv h i).length = 16 := by unfold partHv; simp
theorem partV_zero (h : List Nat) : partHv h 0 = List.replicate 16 0 := by unfold partHv; rfl
theorem partV_all {h : List Nat} (h8 : h.length = 8) : partHv h 8 = h ++ initL := by
  apply List.ext_getElem?
  intro j
  unfold partHv
  rw [List.getElem?_map]
  by_cases hj : j < 8
  · rw [List.getElem?_range (by omega), List.getElem?_append_left (by omega), List.getElem?_eq_getElem (by omega)]
    simp only [Option.map_some, hj, if_true]
    rw [List.getD_eq_getElem?_getD, List.getElem?_eq_getElem (by omega)]; rfl
  · by_cases hk : j < 16
    · rw [List.getElem?_range hk, List.getElem?_append_right (by omega), h8, List.getElem?_eq_getElem (by show j - 8 < 8; omega)]
      simp only [Option.map_some, hj, if_false]
      rw [if_pos (by omega), List.getD_eq_getElem?_getD, List.getElem?_eq_getElem (by show j - 8 < 8; omega)]; rfl
    · rw [List.getElem?_eq_none (by simp; omega), List.getElem?_eq_none (by rw [List.length_append, h8]; show 8 + 8 ≤ j; omega)]; rfl
theorem partV_set (h : List Nat) {i : Nat} (hi : i < 8) : ((partHv h i).set i (h.getD i 0)).set (i + 8) (initL.getD i 0) = partHv h (i + 1) := by
  apply List.ext_getElem?
  intro n
  rw [List.getElem?_set, List.getElem?_set, List.length_set, partV_len]
  unfold partHv
  by_cases h1 : i + 8 = n
  · subst h1
    rw [if_pos rfl, if_pos (by omega), List.getElem?_map, List.getElem?_range (by omega), Option.map_some, if_neg (by omega), if_pos (by omega), show i + 8 - 8 = i by omega]
  · rw [if_neg h1]
    by_cases h2 : i = n
    · subst h2
      rw [if_pos rfl, if_pos (by omega), List.getElem?_map, List.getElem?_range (by omega), Option.map_some, if_pos (by omega)]
    · rw [if_neg h2, List.getElem?_map, List.getElem?_map]
      by_cases hn : n < 16
      · rw [List.getElem?_range hn, Option.map_some, Option.map_some]
        by_cases h3 : n < i
        · rw [if_pos h3, if_pos (by omega)]
        · rw [if_neg h3, if_neg (show ¬ n < i + 1 by omega)]
          by_cases h4 : 8 ≤ n ∧ n < 8 + i
          · rw [if_pos h4, if_pos (by omega)]
          · rw [if_neg h4, if_neg (by omega)]
      · rw [List.getElem?_eq_none (by simp; omega)]; rfl

/-! A round, mixing by mixing. -/
def halfL (v p : List Nat) : Nat → List Nat
  | 0 => v
  | 1 => mixL v 0 4 8 12 (p.getD 0 0) (p.getD 1 0)
  | 2 => mixL (mixL v 0 4 8 12 (p.getD 0 0) (p.getD 1 0)) 1 5 9 13 (p.getD 2 0) (p.getD 3 0)
  | 3 => mixL (mixL (mixL v 0 4 8 12 (p.getD 0 0) (p.getD 1 0)) 1 5 9 13 (p.getD 2 0) (p.getD 3 0)) 2 6 10 14 (p.getD 4 0) (p.getD 5 0)
  | _ => mixL (mixL (mixL (mixL v 0 4 8 12 (p.getD 0 0) (p.getD 1 0)) 1 5 9 13 (p.getD 2 0) (p.getD 3 0)) 2 6 10 14 (p.getD 4 0) (p.getD 5 0)) 3 7 11 15 (p.getD 6 0) (p.getD 7 0)
def restL (v p : List Nat) : Nat → List Nat
  | 0 => v
  | 1 => mixL v 0 5 10 15 (p.getD 8 0) (p.getD 9 0)
  | 2 => mixL (mixL v 0 5 10 15 (p.getD 8 0) (p.getD 9 0)) 1 6 11 12 (p.getD 10 0) (p.getD 11 0)
  | 3 => mixL (mixL (mixL v 0 5 10 15 (p.getD 8 0) (p.getD 9 0)) 1 6 11 12 (p.getD 10 0) (p.getD 11 0)) 2 7 8 13 (p.getD 12 0) (p.getD 13 0)
  | _ => mixL (mixL (mixL (mixL v 0 5 10 15 (p.getD 8 0) (p.getD 9 0)) 1 6 11 12 (p.getD 10 0) (p.getD 11 0)) 2 7 8 13 (p.getD 12 0) (p.getD 13 0)) 3 4 9 14 (p.getD 14 0) (p.getD 15 0)
theorem round_halves (v p : List Nat) : roundL v p = restL (halfL v p 4) p 4 := rfl
theorem halfL_words {v : List Nat} (h : Words 16 v) (p : List Nat) : ∀ k, Words 16 (halfL v p k)
  | 0 => h
  | 1 => mixL_words h _ _ _ _ _ _
  | 2 => mixL_words (mixL_words h _ _ _ _ _ _) _ _ _ _ _ _
  | 3 => mixL_words (mixL_words (mixL_words h _ _ _ _ _ _) _ _ _ _ _ _) _ _ _ _ _ _
  | _ + 4 => mixL_words (mixL_words (mixL_words (mixL_words h _ _ _ _ _ _) _ _ _ _ _ _) _ _ _ _ _ _) _ _ _ _ _ _
theorem restL_words {v : List Nat} (h : Words 16 v) (p : List Nat) : ∀ k, Words 16 (restL v p k)
  | 0 => h
  | 1 => mixL_words h _ _ _ _ _ _
  | 2 => mixL_words (mixL_words h _ _ _ _ _ _) _ _ _ _ _ _
  | 3 => mixL_words (mixL_words (mixL_words h _ _ _ _ _ _) _ _ _ _ _ _) _ _ _ _ _ _
  | _ + 4 => mixL_words (mixL_words (mixL_words (mixL_words h _ _ _ _ _ _) _ _ _ _ _ _) _ _ _ _ _ _) _ _ _ _ _ _
theorem rowL_lt {r : Nat} (hr : r < 10) (j : Nat) : (rowL r).getD j 0 < 16 := by
  have h : ∀ r, r < 10 → ∀ x ∈ rowL r, x < 16 := by decide
  rw [List.getD_eq_getElem?_getD]
  cases hj : (rowL r)[j]? with
  | none => show 0 < 16; decide
  | some x => exact h r hr x (List.mem_of_getElem? hj)
theorem pickL_get {m : List Nat} {r : Nat} (hr : r < 10) {j : Nat} (hj : j < 16) : (pickL m r).getD j 0 = m.getD ((rowL r).getD j 0) 0 := by
  unfold pickL
  rw [List.getD_eq_getElem?_getD, List.getElem?_map, List.getD_eq_getElem?_getD (l := rowL r), List.getElem?_eq_getElem (by rw [rowL_len hr]; exact hj)]
  rfl
theorem ints_get {v : List Nat} {i : Nat} (h : i < v.length) : (ints v)[i]? = some (.int .i64 (v.getD i 0 : Nat)) := by
  unfold ints
  rw [List.getElem?_map, List.getD_eq_getElem?_getD, List.getElem?_eq_getElem h]; rfl

/-- What the answer's block knows between its statements: h, the result, the block's words, v. -/
structure BlS (w wr : World) (h m v : List Nat) : Prop where
  bh : Blk wr w.heap.size (wvs h) 136
  br : Blk wr (w.heap.size + 1) (wvs (List.replicate 8 0)) 136
  bm : Blk wr (w.heap.size + 1 + 1) (wvs m) 213
  bv : Blk wr (w.heap.size + 3) (wvs v) 213
  bel : Below w.heap.size w wr
theorem BlS.drew {w wr : World} {h m v : List Nat} (H : BlS w wr h m v) : BlS w wr.drew h m v := ⟨H.bh.drew, H.br.drew, H.bm.drew, H.bv.drew, H.bel.drew⟩
theorem BlS.below {w wr w' : World} {h m v : List Nat} (H : BlS w wr h m v) (hb : Below wr.heap.size wr w') : BlS w w' h m v :=
  ⟨H.bh.below hb H.bh.lt, H.br.below hb H.br.lt, H.bm.below hb H.bm.lt, H.bv.below hb H.bv.lt, btrans H.bel hb⟩
theorem BlS.alloc {w wr : World} {h m v : List Nat} (H : BlS w wr h m v) (o : Obj) : BlS w (wr.alloc o) h m v :=
  ⟨H.bh.alloc o, H.br.alloc o, H.bm.alloc o, H.bv.alloc o, H.bel.alloc H.bel.size o⟩
theorem BlS.butv {w wr w' : World} {h m v v' : List Nat} (H : BlS w wr h m v) (hb : But (w.heap.size + 3) wr w') (hv : Blk w' (w.heap.size + 3) (wvs v') 213) : BlS w w' h m v' :=
  ⟨hb.blk H.bh (by omega), hb.blk H.br (by omega), hb.blk H.bm (by omega), hv, H.bel.trans (hb.below (by omega))⟩
theorem BlS.setv {w wr : World} {h m v : List Nat} (H : BlS w wr h m v) (i x : Nat) : BlS w (wr.setCell ⟨w.heap.size + 3, i, none⟩ (.int .u32 (x : Nat))) h m (v.set i x) :=
  H.butv ((But.refl _ wr).setCell _ _) (wvs_set v i x ▸ H.bv.set i _)
theorem BlS.seth {w wr : World} {h m v : List Nat} (H : BlS w wr h m v) (i x : Nat) : BlS w (wr.setCell ⟨w.heap.size, i, none⟩ (.int .u32 (x : Nat))) (h.set i x) m v := by
  have hb := (But.refl w.heap.size wr).setCell i (.int .u32 (x : Nat))
  exact ⟨wvs_set h i x ▸ H.bh.set i _, hb.blk H.br (by omega), hb.blk H.bm (by omega), hb.blk H.bv (by omega), H.bel.trans (hb.below (Nat.le_refl _))⟩
theorem BlS.other {w wr w' : World} {h m v : List Nat} {c : Nat} (H : BlS w wr h m v) (hb : But c wr w') (hc : w.heap.size + 4 ≤ c) : BlS w w' h m v :=
  ⟨hb.blk H.bh (by omega), hb.blk H.br (by omega), hb.blk H.bm (by omega), hb.blk H.bv (by omega), H.bel.trans (hb.below (by omega))⟩

end Go.Proofs.Ytdiklimikkplcaa
