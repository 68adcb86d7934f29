/-
  Sigs: signatures as cells; a key of the table's map; the table as a list.
-/
import Derived.Test.YtbhkjflpkpkdlaaUa
import Derived.Maps.OwnSet
import Derived.DeepKeys4
namespace Go.Proofs.Ytbhkjflpkpkdlaa
open Go.RowKit Go.Lib Go.Maps

/-- A signature: its key's bytes, its hash's bytes, its word. -/
structure Sg where
  k : List Nat
  p : List Nat
  s : Nat
  deriving DecidableEq
structure SgOk (x : Sg) : Prop where
  k : Bytes 4 x.k
  p : Bytes 32 x.p
  s : x.s < 18446744073709551616
def sC (x : Sg) : List Value := bvs x.k ++ (bvs x.p ++ [.int .u64 (x.s : Nat)])
theorem sC_len {x : Sg} (h : SgOk x) : (sC x).length = 37 := by unfold sC; simp [bvs_len, h.k.1, h.p.1]
theorem sC_one (x : Sg) : (sC x).toArray.all (·.oneCell') = true := by
  rw [List.all_toArray, List.all_eq_true]
  intro y hy
  unfold sC at hy
  simp only [List.mem_append, List.mem_cons, List.not_mem_nil, or_false] at hy
  rcases hy with h | h | rfl
  · exact bvs_oneL _ y h
  · exact bvs_oneL _ y h
  · rfl
theorem sC_inj {x y : Sg} (hx : SgOk x) (hy : SgOk y) (h : sC x = sC y) : x = y := by
  unfold sC at h
  have e1 := List.append_inj h (by rw [bvs_len, bvs_len, hx.k.1, hy.k.1])
  have e2 := List.append_inj e1.2 (by rw [bvs_len, bvs_len, hx.p.1, hy.p.1])
  have inj : ∀ {a b : List Nat}, bvs a = bvs b → a = b := fun {a b} e => by
    unfold bvs at e
    exact (List.map_inj_right (fun u v huv => by
      have q : ((u : Nat) : Int) = ((v : Nat) : Int) := by simpa using huv
      omega)).1 e
  obtain ⟨k, p, s⟩ := x
  obtain ⟨k', p', s'⟩ := y
  have e3 : s = s' := by
    have q : ((s : Nat) : Int) = ((s' : Nat) : Int) := by simpa using e2.2
    omega
  simp only [Sg.mk.injEq]
  exact ⟨inj e1.1, inj e2.1, e3⟩

section
variable {P : Program}
theorem lits_u8 {t : TypeId} (h : P.underlying t = some (.int .u8)) (d n : Nat) (hn : n < 256) : P.keyLits (d + 1) t [.int .u8 (n : Nat)] = some [.int .u8 (n : Nat)] := by
  have hw : (Lit.int .u8 ((n : Nat) : Int)).wf = true := WalkArith.wf_u8 (by omega)
  unfold Program.keyLits
  simp only [h, true_and]
  rw [if_pos hw]
theorem lits_u64 {t : TypeId} (h : P.underlying t = some (.int .u64)) (d n : Nat) (hn : n < 18446744073709551616) : P.keyLits (d + 1) t [.int .u64 (n : Nat)] = some [.int .u64 (n : Nat)] := by
  have hw : (Lit.int .u64 ((n : Nat) : Int)).wf = true := WalkArith.wf_u64 (by omega)
  unfold Program.keyLits
  simp only [h, true_and]
  rw [if_pos hw]
theorem mapM_all {α β : Type} {f : α → Option β} : ∀ (l : List α), (∀ x ∈ l, ∃ y, f x = some y) → ∃ r, l.mapM f = some r
  | [], _ => ⟨[], rfl⟩
  | x :: l, h => by
    obtain ⟨y, hy⟩ := h x (by simp)
    obtain ⟨r, hr⟩ := mapM_all l (fun z hz => h z (by simp [hz]))
    exact ⟨y :: r, by rw [List.mapM_cons, hy, hr]; rfl⟩
theorem lits_arr {t e : TypeId} {n : Nat} (h : P.underlying t = some (.array n e)) (he : P.underlying e = some (.int .u8)) (ce : P.cellsOf e = 1) (ct : P.cellsOf t = n) (d : Nat) {L : List Nat} (hL : Bytes n L) : ∃ r, P.keyLits (d + 2) t (bvs L) = some r := by
  have hlen : (bvs L).length = P.cellsOf t := by rw [bvs_len, hL.1, ct]
  obtain ⟨r, hr⟩ := mapM_all (f := fun i => P.keyLits (d + 1) e (((bvs L).drop (i * P.cellsOf e)).take (P.cellsOf e))) (List.range n) (fun i hi => by
    have hi' : i < L.length := by rw [hL.1]; exact List.mem_range.1 hi
    have e1 : ((bvs L).drop (i * P.cellsOf e)).take (P.cellsOf e) = [.int .u8 (L[i] : Nat)] := by
      rw [ce, Nat.mul_one, List.drop_eq_getElem_cons (by rw [bvs_len]; exact hi')]
      simp [bvs]
    rw [e1]
    exact ⟨_, lits_u8 he d L[i] (hL.2 _ (List.getElem_mem hi'))⟩)
  refine ⟨r.flatten, ?_⟩
  unfold Program.keyLits
  simp only [h]
  rw [if_pos hlen, hr]
  rfl
end
theorem sg_wide : (match Try.prog.underlying 158 with | some (.array _ _) | some (.struct _) => true | _ => false) = true := by rw [Try.underlying158]
set_option maxRecDepth 100000 in
theorem laidOutS : laidOutB Try.prog = true := by kernel_rfl
set_option maxRecDepth 100000 in
theorem sg_law : Keyed Try.prog 158 := Keyed.of_law (deep_law_laid laidOutS (m := 4) (by decide) (of_decide_eq_true (by kernel_rfl)) (by kernel_rfl) sg_wide)
end Go.Proofs.Ytbhkjflpkpkdlaa
