/-
  Plain: what makes a set another one, at once or in two parts.
-/
import Derived.Test.YtlfmmmlheloloaaSb
import Derived.Test.YtlfmmmlheloloaaRf
namespace Go.Proofs.Ytlfmmmlheloloaa
open Go.RowKit Go.Lib

theorem SortedK.one {l : List Vd} (h : SortedK l) {u v : Vd} (hu : u ∈ l) (hv : v ∈ l) (e : u.k = v.k) : u = v := by
  obtain ⟨i, hi, rfl⟩ := List.getElem_of_mem hu
  obtain ⟨j, hj, rfl⟩ := List.getElem_of_mem hv
  rcases Nat.lt_trichotomy i j with h1 | h1 | h1
  · have := sorted_at h (List.getElem?_eq_getElem hi) (List.getElem?_eq_getElem hj) h1; omega
  · subst h1; rfl
  · have := sorted_at h (List.getElem?_eq_getElem hj) (List.getElem?_eq_getElem hi) h1; omega
theorem SortedK.cons {a : Vd} {l : List Vd} : SortedK (a :: l) ↔ (∀ v ∈ l, a.k < v.k) ∧ SortedK l := List.pairwise_cons
/-- What is in the changes has a key of one of both. -/
theorem mdL_key : ∀ {l m : List Vd} {v : Vd}, v ∈ mdL l m → (∃ a ∈ l, a.k = v.k) ∨ v ∈ m
  | [], f, v, h => by rw [mdL_nil] at h; exact .inr h
  | a :: o, [], v, h => by
    rw [mdL] at h
    rcases List.mem_cons.1 h with rfl | h
    · exact .inl ⟨a, by simp, rfl⟩
    · rcases mdL_key h with ⟨x, h1, h2⟩ | h1
      · exact .inl ⟨x, by simp [h1], h2⟩
      · simp at h1
  | a :: o, b :: f, v, h => by
    rw [mdL] at h
    split at h
    · rcases List.mem_cons.1 h with rfl | h
      · exact .inl ⟨a, by simp, rfl⟩
      · rcases mdL_key h with ⟨x, h1, h2⟩ | h1
        · exact .inl ⟨x, by simp [h1], h2⟩
        · exact .inr h1
    · split at h
      · rcases List.mem_cons.1 h with rfl | h
        · exact .inr (by simp)
        · rcases mdL_key h with h1 | h1
          · exact .inl h1
          · exact .inr (by simp [h1])
      · rcases List.mem_append.1 h with h | h
        · split at h
          · simp at h
          · rw [List.mem_singleton] at h; subst h; exact .inr (by simp)
        · rcases mdL_key h with ⟨x, h1, h2⟩ | h1
          · exact .inl ⟨x, by simp [h1], h2⟩
          · exact .inr (by simp [h1])
termination_by l m => l.length + m.length
/-- No key that stands behind what one has. -/
theorem mdL_above {l m : List Vd} {x : Nat} (hl : ∀ v ∈ l, x < v.k) (hm : ∀ v ∈ m, x < v.k) : ∀ v ∈ mdL l m, x < v.k := fun v hv => by
  rcases mdL_key hv with ⟨a, h1, h2⟩ | h1
  · have := hl a h1; omega
  · exact hm v h1
theorem mdL_sorted : ∀ {l m : List Vd}, SortedK l → SortedK m → SortedK (mdL l m)
  | [], f, _, hm => by rw [mdL_nil]; exact hm
  | a :: o, [], hl, hm => by
    rw [SortedK.cons] at hl
    rw [mdL, SortedK.cons]
    exact ⟨mdL_above hl.1 (by simp), mdL_sorted hl.2 hm⟩
  | a :: o, b :: f, hl, hm => by
    have hl0 := hl
    have hm0 := hm
    rw [SortedK.cons] at hl hm
    rw [mdL]
    split
    · rename_i hab
      rw [SortedK.cons]
      exact ⟨mdL_above hl.1 (fun v hv => by rcases List.mem_cons.1 hv with rfl | hv; exact hab; have := hm.1 v hv; show a.k < v.k; omega), mdL_sorted hl.2 hm0⟩
    · split
      · rename_i hba
        rw [SortedK.cons]
        exact ⟨mdL_above (fun v hv => by rcases List.mem_cons.1 hv with rfl | hv; exact hba; have := hl.1 v hv; omega) hm.1, mdL_sorted hl0 hm.2⟩
      · have ih := mdL_sorted hl.2 hm.2
        split
        · exact ih
        · rw [List.singleton_append, SortedK.cons]
          exact ⟨mdL_above (fun v hv => by have := hl.1 v hv; omega) hm.1, ih⟩
termination_by l m => l.length + m.length
theorem mem_mdL : ∀ {l m : List Vd} {v : Vd}, SortedK l → SortedK m → (v ∈ mdL l m ↔ (v ∈ m ∧ v ∉ l) ∨ (v.p = 0 ∧ (∃ a ∈ l, a.k = v.k) ∧ ∀ b ∈ m, b.k ≠ v.k))
  | [], f, v, _, _ => by rw [mdL_nil]; simp
  | a :: o, [], v, hl, hm => by
    have hl0 := hl
    rw [SortedK.cons] at hl
    have ih := mem_mdL (l := o) (m := []) (v := v) hl.2 hm
    rw [mdL, List.mem_cons, ih]
    constructor
    · rintro (rfl | h | ⟨h1, ⟨x, h2, h3⟩, h4⟩)
      · exact .inr ⟨rfl, ⟨a, by simp, rfl⟩, by simp⟩
      · simp at h
      · exact .inr ⟨h1, ⟨x, by simp [h2], h3⟩, h4⟩
    · rintro (h | ⟨h1, ⟨x, h2, h3⟩, h4⟩)
      · simp at h
      · rcases List.mem_cons.1 h2 with rfl | h2
        · exact .inl (by obtain ⟨k, p⟩ := v; simp only at h1 h3; rw [h1, ← h3])
        · exact .inr (.inr ⟨h1, ⟨x, h2, h3⟩, h4⟩)
  | a :: o, b :: f, v, hl, hm => by
    have hl0 := hl
    have hm0 := hm
    rw [SortedK.cons] at hl hm
    rw [mdL]
    split
    · rename_i hab
      have ih := mem_mdL (l := o) (m := b :: f) (v := v) hl.2 hm0
      have hf : ∀ x ∈ b :: f, a.k < x.k := fun x hx => by
        rcases List.mem_cons.1 hx with rfl | hx
        · exact hab
        · have := hm.1 x hx; omega
      rw [List.mem_cons, ih]
      constructor
      · rintro (rfl | ⟨h1, h2⟩ | ⟨h1, ⟨x, h2, h3⟩, h4⟩)
        · exact .inr ⟨rfl, ⟨a, by simp, rfl⟩, fun x hx e => by have := hf x hx; have e' : x.k = a.k := e; omega⟩
        · refine .inl ⟨h1, fun h => ?_⟩
          rcases List.mem_cons.1 h with rfl | h
          · have := hf _ h1; omega
          · exact h2 h
        · exact .inr ⟨h1, ⟨x, by simp [h2], h3⟩, h4⟩
      · rintro (⟨h1, h2⟩ | ⟨h1, ⟨x, h2, h3⟩, h4⟩)
        · exact .inr (.inl ⟨h1, fun h => h2 (by simp [h])⟩)
        · rcases List.mem_cons.1 h2 with rfl | h2
          · exact .inl (by obtain ⟨k, p⟩ := v; simp only at h1 h3; rw [h1, ← h3])
          · exact .inr (.inr ⟨h1, ⟨x, h2, h3⟩, h4⟩)
    · split
      · rename_i hba
        have ih := mem_mdL (l := a :: o) (m := f) (v := v) hl0 hm.2
        have hf : ∀ x ∈ a :: o, b.k < x.k := fun x hx => by
          rcases List.mem_cons.1 hx with rfl | hx
          · exact hba
          · have := hl.1 x hx; omega
        rw [List.mem_cons, ih]
        constructor
        · rintro (rfl | ⟨h1, h2⟩ | ⟨h1, ⟨x, h2, h3⟩, h4⟩)
          · exact .inl ⟨by simp, fun h => by have := hf _ h; omega⟩
          · exact .inl ⟨by simp [h1], h2⟩
          · refine .inr ⟨h1, ⟨x, h2, h3⟩, fun y hy e => ?_⟩
            rcases List.mem_cons.1 hy with rfl | hy
            · have := hf x h2; omega
            · exact h4 y hy e
        · rintro (⟨h1, h2⟩ | ⟨h1, h2, h4⟩)
          · rcases List.mem_cons.1 h1 with rfl | h1
            · exact .inl rfl
            · exact .inr (.inl ⟨h1, h2⟩)
          · exact .inr (.inr ⟨h1, h2, fun y hy => h4 y (by simp [hy])⟩)
      · have hk : a.k = b.k := by omega
        have ih := mem_mdL (l := o) (m := f) (v := v) hl.2 hm.2
        rw [List.mem_append, ih]
        constructor
        · rintro (h | ⟨h1, h2⟩ | ⟨h1, ⟨x, h2, h3⟩, h4⟩)
          · split at h
            · simp at h
            · rename_i hne
              rw [List.mem_singleton] at h
              subst h
              refine .inl ⟨by simp, fun h => ?_⟩
              rcases List.mem_cons.1 h with h | h
              · exact hne h.symm
              · have := hl.1 _ h; omega
          · refine .inl ⟨by simp [h1], fun h => ?_⟩
            rcases List.mem_cons.1 h with rfl | h
            · have := hm.1 _ h1; omega
            · exact h2 h
          · refine .inr ⟨h1, ⟨x, by simp [h2], h3⟩, fun y hy e => ?_⟩
            rcases List.mem_cons.1 hy with rfl | hy
            · have := hl.1 x h2; omega
            · exact h4 y hy e
        · rintro (⟨h1, h2⟩ | ⟨h1, ⟨x, h2, h3⟩, h4⟩)
          · rcases List.mem_cons.1 h1 with rfl | h1
            · refine .inl ?_
              rw [if_neg (fun e => h2 (by simp [e]))]
              simp
            · exact .inr (.inl ⟨h1, fun h => h2 (by simp [h])⟩)
          · rcases List.mem_cons.1 h2 with rfl | h2
            · exact absurd (hk.symm.trans h3) (h4 b (by simp))
            · exact .inr (.inr ⟨h1, ⟨x, h2, h3⟩, fun y hy => h4 y (by simp [hy])⟩)
termination_by l m => l.length + m.length
theorem chgAll_mdL {l m : List Vd} (hl : chk l = 0) (hm : chk m = 0) : chgAll l (mdL l m) = m := by
  have sl := (sorted_of (chk_ok hl).2.2.1).1
  have sm := (sorted_of (chk_ok hm).2.2.1).1
  have sd := mdL_sorted sl sm
  refine SortedK.ext (chgAll_sorted sl) sm fun v => ?_
  rw [mem_chgAll sd]
  constructor
  · rintro (⟨h1, h2⟩ | ⟨h1, h2⟩)
    · rcases (mem_mdL sl sm).1 h1 with h | h
      · exact h.1
      · exact absurd h.1 h2
    · by_cases hv : v ∈ m
      · exact hv
      · by_cases hb : ∃ b ∈ m, b.k = v.k
        · obtain ⟨b, hb1, hb2⟩ := hb
          have hbl : b ∉ l := fun h => hv (by rw [← sl.one h h1 hb2]; exact hb1)
          exact absurd hb2 (h2 b ((mem_mdL sl sm).2 (.inl ⟨hb1, hbl⟩)))
        · exact absurd rfl (h2 ⟨v.k, 0⟩ ((mem_mdL sl sm).2 (.inr ⟨rfl, ⟨v, h1, rfl⟩, fun b hb1 hb2 => hb ⟨b, hb1, hb2⟩⟩)))
  · intro hv
    by_cases hvl : v ∈ l
    · refine .inr ⟨hvl, fun u hu e => ?_⟩
      rcases (mem_mdL sl sm).1 hu with h | h
      · exact h.2 (by rw [sm.one h.1 hv e]; exact hvl)
      · exact h.2.2 v hv e.symm
    · have := (chk_ok hm).2.2.2 v hv
      exact .inl ⟨(mem_mdL sl sm).2 (.inl ⟨hv, hvl⟩), by omega⟩
theorem nextE_of {q : Option Nat} {v : Vd} {least : Int} (hq : ∀ x, q = some x → x < v.k) (h1 : least ≤ v.p) (h2 : v.p ≤ 4611686018427387904) : nextE q v least = 0 := by
  cases q with
  | none =>
    unfold nextE
    simp only [Bool.false_eq_true, if_false]
    rw [if_neg (by omega)]
  | some x =>
    have h := hq x rfl
    unfold nextE
    rw [if_neg (by simp; omega), if_neg (by omega)]
/-- Changes that may be. -/
def Fit (l c : List Vd) : Prop := ∀ v ∈ c, (0 ≤ v.p ∧ v.p ≤ 4611686018427387904) ∧ (v.p = 0 → ∃ a ∈ l, a.k = v.k)
theorem chgFrom_fit {l : List Vd} : ∀ {c : List Vd} {q : Option Nat}, SortedK c → (∀ x, q = some x → ∀ v ∈ c, x < v.k) → Fit l c → chgFrom l q c = 0
  | [], q, _, _, _ => by cases q <;> rfl
  | v :: c, q, hs, hq, hf => by
    rw [SortedK.cons] at hs
    have h1 := hf v (by simp)
    have ih := chgFrom_fit (l := l) (c := c) (q := some v.k) hs.2 (fun x hx u hu => by cases hx; exact hs.1 u hu) (fun u hu => hf u (by simp [hu]))
    have hn : nextE q v 0 = 0 := nextE_of (fun x hx => hq x hx v (by simp)) h1.1.1 h1.1.2
    have hh : ¬ (v.p = 0 ∧ hasK l v.k = false) := fun h => by
      obtain ⟨a, ha, hk⟩ := h1.2 h.1
      have h2 := h.2
      unfold hasK at h2
      rw [List.any_eq_false] at h2
      exact h2 a ha (by simpa using hk)
    simp only [chgFrom, hn, if_true, if_neg hh, ih]
theorem fit_mdL {l m : List Vd} (hl : chk l = 0) (hm : chk m = 0) : Fit l (mdL l m) := fun v hv => by
  have sl := (sorted_of (chk_ok hl).2.2.1).1
  have sm := (sorted_of (chk_ok hm).2.2.1).1
  rcases (mem_mdL sl sm).1 hv with h | h
  · have := (chk_ok hm).2.2.2 v h.1
    exact ⟨by omega, fun h0 => by omega⟩
  · exact ⟨by omega, fun _ => h.2.1⟩
theorem chgO_fit {l c : List Vd} (hl : chk l = 0) (hs : SortedK c) (hf : Fit l c) : chgO l c = if 64 < (chgAll l c).length then ([], 7) else if chgAll l c = [] then ([], 6) else (chgAll l c, 0) := by
  have hg := chgFrom_fit (l := l) (q := none) hs (by simp) hf
  have hk := chgAll_kept hl hg
  unfold chgO
  rw [if_neg (by omega), if_neg (by omega), hk]
theorem chkFrom_of {l : List Vd} : ∀ {q : Option Nat}, SortedK l → (∀ x, q = some x → ∀ v ∈ l, x < v.k) → (∀ v ∈ l, 1 ≤ v.p ∧ v.p ≤ 4611686018427387904) → chkFrom 1 q l = 0 := by
  induction l with
  | nil => intro q _ _ _; cases q <;> rfl
  | cons v c ih =>
    intro q hs hq hf
    rw [SortedK.cons] at hs
    have h1 := hf v (by simp)
    have hn : nextE q v 1 = 0 := nextE_of (fun x hx => hq x hx v (by simp)) h1.1 h1.2
    simp only [chkFrom, hn, if_true]
    exact ih hs.2 (fun x hx u hu => by cases hx; exact hs.1 u hu) (fun u hu => hf u (by simp [hu]))
theorem chk_of {l : List Vd} (hs : SortedK l) (hf : ∀ v ∈ l, 1 ≤ v.p ∧ v.p ≤ 4611686018427387904) (h0 : l ≠ []) (h64 : l.length ≤ 64) : chk l = 0 := by
  unfold chk
  rw [if_neg (fun h => h0 (List.eq_nil_of_length_eq_zero h)), if_neg (by omega)]
  exact chkFrom_of hs (by simp) hf
theorem goC_keep {c : Vd} : ∀ {l : List Vd}, (goC c true l).length ≤ l.length
  | l => by have := goC_le (c := c) (l := l) (p := true); simpa using this
theorem chgd_kept (l : List Vd) (c : Vd) : (chgd l c).length ≤ l.length + (kept [c]).length := by
  unfold chgd kept
  by_cases h : c.p = 0
  · rw [show (c.p == 0) = true by simpa using h]
    have := goC_keep (c := c) (l := l)
    omega
  · have := goC_le (c := c) (l := l) (p := (c.p == 0))
    rw [show (c.p == 0) = false by simpa using h] at this ⊢
    simp [h] at this ⊢
    omega
theorem kept_app (a b : List Vd) : kept (a ++ b) = kept a ++ kept b := by unfold kept; rw [List.filter_append]
theorem chgAll_len : ∀ (c l : List Vd), (chgAll l c).length ≤ l.length + (kept c).length
  | [], l => by simp [chgAll]
  | u :: c, l => by
    have h1 := chgAll_len c (chgd l u)
    have h2 := chgd_kept l u
    have h3 : (kept (u :: c)).length = (kept [u]).length + (kept c).length := by rw [← List.singleton_append, kept_app, List.length_append]
    have e : chgAll l (u :: c) = chgAll (chgd l u) c := rfl
    rw [e, h3]
    omega
theorem kept_mdL : ∀ (l m : List Vd), (kept (mdL l m)).length ≤ m.length
  | [], f => by rw [mdL_nil]; exact List.length_filter_le _ _
  | a :: o, [] => by
    have ih := kept_mdL o []
    rw [mdL, ← List.singleton_append, kept_app, List.length_append]
    have h : (kept [(⟨a.k, 0⟩ : Vd)]).length = 0 := rfl
    omega
  | a :: o, b :: f => by
    have hb : (kept [b]).length ≤ 1 := List.length_filter_le _ _
    rw [mdL]
    split
    · have ih := kept_mdL o (b :: f)
      rw [← List.singleton_append, kept_app, List.length_append]
      have h : (kept [(⟨a.k, 0⟩ : Vd)]).length = 0 := rfl
      omega
    · split
      · have ih := kept_mdL (a :: o) f
        rw [← List.singleton_append, kept_app, List.length_append, List.length_cons]
        omega
      · have ih := kept_mdL o f
        rw [kept_app, List.length_append, List.length_cons]
        split
        · have h : (kept ([] : List Vd)).length = 0 := rfl
          omega
        · omega
termination_by l m => l.length + m.length
theorem chgAll_app (l a b : List Vd) : chgAll l (a ++ b) = chgAll (chgAll l a) b := by unfold chgAll; rw [List.foldl_append]
end Go.Proofs.Ytlfmmmlheloloaa
