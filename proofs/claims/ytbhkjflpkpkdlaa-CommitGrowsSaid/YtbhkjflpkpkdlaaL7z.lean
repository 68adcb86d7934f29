/-
  Commit, plain: votes of two lists together, looked up in the first alone.
-/
import Derived.Test.YtbhkjflpkpkdlaaL7y
namespace Go.Proofs.Ytbhkjflpkpkdlaa

theorem tw_all {p : Vt → Bool} : ∀ (a : List Vt), (∀ u ∈ a, p u = true) → a.takeWhile p = a ∧ a.dropWhile p = []
  | [], _ => ⟨rfl, rfl⟩
  | u :: a, h => by
    have ih := tw_all a (fun x hx => h x (by simp [hx]))
    have hu := h u (by simp)
    rw [List.takeWhile_cons, List.dropWhile_cons, hu]
    exact ⟨by simp [ih.1], by simp [ih.2]⟩
theorem insV_end {a : List Vt} {v : Vt} (h : ∀ u ∈ a, u.a < v.a) : insV a v = a ++ [v] := by
  have q := tw_all (p := fun u => decide (u.a < v.a)) a (fun u hu => decide_eq_true (h u hu))
  unfold insV
  rw [q.1, q.2]
theorem uni_self : ∀ (l a : List Vt), SortedT (a ++ l) → uniV a l = some (a ++ l)
  | [], a, _ => by simp [uniV]
  | v :: r, a, h => by
    have hp := h
    unfold SortedT at hp
    rw [List.pairwise_append] at hp
    have hlt : ∀ u ∈ a, u.a < v.a := fun u hu => hp.2.2 u hu v (by simp)
    have hn : ofT a v.a = none := by
      unfold ofT
      rw [List.find?_eq_none]
      intro u hu
      have := hlt u hu
      simp
      omega
    have e : stepU a v = some (a ++ [v]) := by unfold stepU; rw [hn, insV_end hlt]
    show (stepU a v).bind (fun b => uniV b r) = _
    rw [e, Option.bind_some, uni_self r (a ++ [v]) (by rw [List.append_assoc]; exact h), List.append_assoc]
    rfl
theorem ofT_insV {l : List Vt} {v : Vt} {x : Int} (h : v.a ≠ x) : ofT (insV l v) x = ofT l x := by
  unfold ofT insV
  conv => rhs; rw [← List.takeWhile_append_dropWhile (p := fun u => decide (u.a < v.a)) (l := l)]
  rw [List.find?_append, List.find?_append, List.find?_cons]
  have : (v.a == x) = false := by rw [beq_eq_false_iff_ne]; exact h
  rw [this]
theorem uni_next {l1 l2 all : List Vt} {i : Nat} {v : Vt} (hv : l2[i]? = some v) (h : uniV [] (l1 ++ l2.take i) = some all) : uniV [] (l1 ++ l2.take (i + 1)) = stepU all v := by
  obtain ⟨hlt, rfl⟩ := List.getElem?_eq_some_iff.1 hv
  rw [List.take_succ_eq_append_getElem hlt, ← List.append_assoc, uniV_append, h, Option.bind_some]
  simp only [uniV]
  cases stepU all l2[i] <;> rfl
theorem uni_none {l1 l2 : List Vt} {i : Nat} (h : uniV [] (l1 ++ l2.take i) = none) : uniO l1 l2 = ([], 8) := by
  unfold uniO
  have e : l1 ++ l2 = (l1 ++ l2.take i) ++ l2.drop i := by rw [List.append_assoc, List.take_append_drop]
  rw [e, uniV_append, h]
  rfl
theorem uni_look {l1 l2 : List Vt} (h1 : SortedT l1) : ∀ (i : Nat) (all : List Vt), i ≤ l2.length → uniV [] (l1 ++ l2.take i) = some all → ∀ x, (∀ u ∈ l2.take i, u.a ≠ x) → ofT all x = ofT l1 x
  | 0, all, _, h, x, _ => by
    rw [List.take_zero, List.append_nil, uni_self l1 [] (by simpa using h1)] at h
    simp at h
    rw [h]
  | i + 1, all, hi, h, x, hx => by
    have hlt : i < l2.length := by omega
    have hv := List.getElem?_eq_getElem hlt
    cases hp : uniV [] (l1 ++ l2.take i) with
    | none =>
      rw [List.take_succ_eq_append_getElem hlt, ← List.append_assoc, uniV_append, hp] at h
      simp at h
    | some all' =>
      rw [uni_next hv hp] at h
      have ht : l2.take (i + 1) = l2.take i ++ [l2[i]] := List.take_succ_eq_append_getElem hlt
      have hx' : ∀ u ∈ l2.take i, u.a ≠ x := fun u hu => hx u (by rw [ht]; exact List.mem_append_left _ hu)
      have hne : (l2[i]).a ≠ x := hx _ (by rw [ht]; exact List.mem_append_right _ (List.mem_singleton.2 rfl))
      have ih := uni_look h1 i all' (by omega) hp x hx'
      unfold stepU at h
      split at h
      · cases h
        rw [ofT_insV hne, ih]
      · split at h
        · cases h; exact ih
        · cases h
theorem look_at {l1 l2 all : List Vt} {i : Nat} {v : Vt} (h1 : SortedT l1) (h2 : SortedT l2) (hv : l2[i]? = some v) (h : uniV [] (l1 ++ l2.take i) = some all) : ofT all v.a = ofT l1 v.a := by
  have hlt := (List.getElem?_eq_some_iff.1 hv).1
  refine uni_look h1 i all (by omega) h v.a fun u hu => ?_
  obtain ⟨m, hm, rfl⟩ := List.getElem_of_mem hu
  rw [List.length_take] at hm
  rw [List.getElem_take]
  have := h2.at (List.getElem?_eq_getElem (show m < l2.length by omega)) hv (by omega)
  omega
theorem join_bad {l1 l2 all : List Vt} {i : Nat} {v u : Vt} (h1 : SortedT l1) (h2 : SortedT l2) (hv : l2[i]? = some v) (h : uniV [] (l1 ++ l2.take i) = some all) (hu : ofT l1 v.a = some u) (hs : u.s ≠ v.s) : uniO l1 l2 = ([], 8) := by
  refine uni_none (i := i + 1) ?_
  rw [uni_next hv h]
  unfold stepU
  rw [look_at h1 h2 hv h, hu]
  simp only
  rw [if_neg hs]
theorem join_same {l1 l2 all : List Vt} {i : Nat} {v u : Vt} (h1 : SortedT l1) (h2 : SortedT l2) (hv : l2[i]? = some v) (h : uniV [] (l1 ++ l2.take i) = some all) (hu : ofT l1 v.a = some u) (hs : u.s = v.s) : uniV [] (l1 ++ l2.take (i + 1)) = some all := by
  rw [uni_next hv h]
  unfold stepU
  rw [look_at h1 h2 hv h, hu]
  simp only
  rw [if_pos hs]
theorem join_new {l1 l2 all : List Vt} {i : Nat} {v : Vt} (h1 : SortedT l1) (h2 : SortedT l2) (hv : l2[i]? = some v) (h : uniV [] (l1 ++ l2.take i) = some all) (hu : ofT l1 v.a = none) : uniV [] (l1 ++ l2.take (i + 1)) = some (laidL all v) ∧ (laidL all v).length = all.length + 1 ∧ ∀ x ∈ laidL all v, x = v ∨ x ∈ all := by
  have e := look_at h1 h2 hv h
  rw [hu] at e
  have el : laidL all v = insV all v := laidL_ins (ofT_none e)
  rw [el]
  refine ⟨?_, insV_len _ _, fun x hx => insV_mem hx⟩
  rw [uni_next hv h]
  unfold stepU
  rw [e]
theorem join_done {l1 l2 all : List Vt} (h : uniV [] (l1 ++ l2.take l2.length) = some all) : uniO l1 l2 = (all, 0) := by
  rw [List.take_length] at h
  unfold uniO
  rw [h]
theorem join_start {l1 l2 : List Vt} (h1 : SortedT l1) : uniV [] (l1 ++ l2.take 0) = some l1 := by
  rw [List.take_zero, List.append_nil, uni_self l1 [] (by simpa using h1)]
  simp
end Go.Proofs.Ytbhkjflpkpkdlaa
