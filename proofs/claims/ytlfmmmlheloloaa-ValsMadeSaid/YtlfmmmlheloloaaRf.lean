/-
  Plain: changed one by one, or merged and kept: the same.
-/
import Derived.Test.YtlfmmmlheloloaaRd
import Derived.Test.YtlfmmmlheloloaaVl
namespace Go.Proofs.Ytlfmmmlheloloaa
open Go.RowKit Go.Lib

theorem SortedK.ext : ∀ {l m : List Vd}, SortedK l → SortedK m → (∀ v, v ∈ l ↔ v ∈ m) → l = m
  | [], [], _, _, _ => rfl
  | [], b :: m, _, _, h => absurd ((h b).2 (by simp)) (by simp)
  | a :: l, [], _, _, h => absurd ((h a).1 (by simp)) (by simp)
  | a :: l, b :: m, hl, hm, h => by
    unfold SortedK at hl hm
    rw [List.pairwise_cons] at hl hm
    have e : a = b := by
      rcases List.mem_cons.1 ((h a).1 (by simp)) with h1 | h1
      · exact h1
      · rcases List.mem_cons.1 ((h b).2 (by simp)) with h2 | h2
        · exact h2.symm
        · have := hm.1 a h1; have := hl.1 b h2; omega
    subst e
    congr 1
    refine SortedK.ext hl.2 hm.2 fun v => ⟨fun hv => ?_, fun hv => ?_⟩
    · rcases List.mem_cons.1 ((h v).1 (by simp [hv])) with h1 | h1
      · subst h1; have := hl.1 v hv; omega
      · exact h1
    · rcases List.mem_cons.1 ((h v).2 (by simp [hv])) with h1 | h1
      · subst h1; have := hm.1 v hv; omega
      · exact h1
theorem mem_goT {c : Vd} : ∀ {l : List Vd} {v : Vd}, v ∈ goC c true l ↔ v ∈ l ∧ v.k ≠ c.k
  | [], v => by simp [goC]
  | u :: l, v => by
    have ih := mem_goT (c := c) (l := l) (v := v)
    simp only [goC, Bool.true_or, Bool.true_eq_false, false_and, if_false, List.nil_append, List.mem_append, List.mem_cons, ih]
    by_cases h : u.k = c.k
    · rw [if_pos h]
      constructor
      · rintro (h1 | h1)
        · simp at h1
        · exact ⟨.inr h1.1, h1.2⟩
      · rintro ⟨rfl | h1, h2⟩
        · exact absurd h h2
        · exact .inr ⟨h1, h2⟩
    · rw [if_neg h, List.mem_singleton]
      constructor
      · rintro (rfl | h1)
        · exact ⟨.inl rfl, h⟩
        · exact ⟨.inr h1.1, h1.2⟩
      · rintro ⟨h1 | h1, h2⟩
        · exact .inl h1
        · exact .inr ⟨h1, h2⟩
theorem mem_goF {c : Vd} : ∀ {l : List Vd} {v : Vd}, v ∈ goC c false l ↔ (v ∈ l ∧ v.k ≠ c.k) ∨ v = c
  | [], v => by simp [goC]
  | u :: l, v => by
    by_cases hk : c.k < u.k
    · have ih := mem_goT (c := c) (l := l) (v := v)
      have h : ¬ u.k = c.k := by omega
      simp only [goC, hk, decide_true, Bool.false_or, and_self, if_true, List.mem_append, List.not_mem_nil, or_false, ih, if_neg h, List.mem_cons]
      constructor
      · rintro (rfl | rfl | h1)
        · exact .inr rfl
        · exact .inl ⟨.inl rfl, h⟩
        · exact .inl ⟨.inr h1.1, h1.2⟩
      · rintro (⟨h1 | h1, h2⟩ | h1)
        · exact .inr (.inl h1)
        · exact .inr (.inr ⟨h1, h2⟩)
        · exact .inl h1
    · have ih := mem_goF (c := c) (l := l) (v := v)
      simp only [goC, hk, decide_false, Bool.or_false, and_false, if_false, List.nil_append, List.mem_append, List.mem_cons, ih]
      by_cases h : u.k = c.k
      · rw [if_pos h]
        constructor
        · rintro (h1 | h1 | h1)
          · simp at h1
          · exact .inl ⟨.inr h1.1, h1.2⟩
          · exact .inr h1
        · rintro (⟨rfl | h1, h2⟩ | h1)
          · exact absurd h h2
          · exact .inr (.inl ⟨h1, h2⟩)
          · exact .inr (.inr h1)
      · rw [if_neg h, List.mem_singleton]
        constructor
        · rintro (rfl | h1 | h1)
          · exact .inl ⟨.inl rfl, h⟩
          · exact .inl ⟨.inr h1.1, h1.2⟩
          · exact .inr h1
        · rintro (⟨h1 | h1, h2⟩ | h1)
          · exact .inl h1
          · exact .inr (.inl ⟨h1, h2⟩)
          · exact .inr (.inr h1)
theorem mem_chgd {l : List Vd} {c v : Vd} : v ∈ chgd l c ↔ (v ∈ l ∧ v.k ≠ c.k) ∨ (v = c ∧ c.p ≠ 0) := by
  unfold chgd
  by_cases h : c.p = 0
  · simp [h, mem_goT]
  · rw [show (c.p == 0) = false by simpa using h, mem_goF]
    simp [h]
theorem goT_sorted {c : Vd} : ∀ {l : List Vd}, SortedK l → SortedK (goC c true l)
  | [], _ => by simp [goC, SortedK]
  | u :: l, h => by
    unfold SortedK at h
    rw [List.pairwise_cons] at h
    have ih := goT_sorted (c := c) h.2
    simp only [goC, Bool.true_or, Bool.true_eq_false, false_and, if_false, List.nil_append]
    by_cases hk : u.k = c.k
    · rw [if_pos hk]; exact ih
    · rw [if_neg hk]
      refine List.pairwise_cons.2 ⟨fun v hv => ?_, ih⟩
      exact h.1 v (mem_goT.1 hv).1
theorem goF_sorted {c : Vd} : ∀ {l : List Vd}, SortedK l → SortedK (goC c false l)
  | [], _ => by simp [goC, SortedK]
  | u :: l, h => by
    have h0 := h
    unfold SortedK at h
    rw [List.pairwise_cons] at h
    by_cases hck : c.k < u.k
    · have ih := goT_sorted (c := c) h.2
      have hk : ¬ u.k = c.k := by omega
      simp only [goC, hck, decide_true, Bool.false_or, and_self, if_true, if_neg hk]
      show SortedK (c :: u :: goC c true l)
      refine List.pairwise_cons.2 ⟨fun v hv => ?_, List.pairwise_cons.2 ⟨fun v hv => ?_, ih⟩⟩
      · rcases List.mem_cons.1 hv with h1 | h1
        · subst h1; exact hck
        · have := h.1 v (mem_goT.1 h1).1; omega
      · exact h.1 v (mem_goT.1 hv).1
    · have ih := goF_sorted (c := c) h.2
      simp only [goC, hck, decide_false, Bool.or_false, and_false, if_false, List.nil_append]
      by_cases hk : u.k = c.k
      · rw [if_pos hk]; exact ih
      · rw [if_neg hk]
        refine List.pairwise_cons.2 ⟨fun v hv => ?_, ih⟩
        rcases mem_goF.1 hv with h1 | h1
        · exact h.1 v h1.1
        · subst h1; omega
theorem chgd_sorted {l : List Vd} {c : Vd} (h : SortedK l) : SortedK (chgd l c) := by
  unfold chgd
  cases (c.p == 0)
  · exact goF_sorted h
  · exact goT_sorted h
theorem goC_le {c : Vd} : ∀ {l : List Vd} {p : Bool}, (goC c p l).length ≤ l.length + (if p then 0 else 1)
  | [], p => by cases p <;> simp [goC]
  | u :: l, p => by
    have h1 := goC_le (c := c) (l := l) (p := true)
    have h2 := goC_le (c := c) (l := l) (p := false)
    cases p
    · by_cases hk : c.k < u.k
      · simp only [goC, hk, decide_true, Bool.false_or, and_self, if_true, List.length_append, List.length_cons]
        split <;> simp at h1 ⊢ <;> omega
      · simp only [goC, hk, decide_false, Bool.or_false, and_false, if_false, List.length_append, List.length_cons]
        split <;> simp at h2 ⊢ <;> omega
    · simp only [goC, Bool.true_or, Bool.true_eq_false, false_and, if_false, List.length_append, List.length_cons]
      split <;> simp at h1 ⊢ <;> omega
theorem chgd_le (l : List Vd) (c : Vd) : (chgd l c).length ≤ l.length + 1 := by
  have := goC_le (c := c) (l := l) (p := (c.p == 0))
  unfold chgd
  split at this <;> omega
def chgAll (l c : List Vd) : List Vd := c.foldl chgd l
theorem chgAll_sorted : ∀ {c l : List Vd}, SortedK l → SortedK (chgAll l c)
  | [], _, h => h
  | _ :: c, _, h => chgAll_sorted (c := c) (chgd_sorted h)
theorem mem_chgAll : ∀ {c l : List Vd} {v : Vd}, SortedK c → (v ∈ chgAll l c ↔ (v ∈ c ∧ v.p ≠ 0) ∨ (v ∈ l ∧ ∀ u ∈ c, u.k ≠ v.k))
  | [], l, v, _ => by simp [chgAll]
  | u :: c, l, v, h => by
    unfold SortedK at h
    rw [List.pairwise_cons] at h
    have ih := mem_chgAll (c := c) (l := chgd l u) (v := v) h.2
    have e : chgAll l (u :: c) = chgAll (chgd l u) c := rfl
    rw [e, ih, mem_chgd]
    constructor
    · rintro (⟨h1, h2⟩ | ⟨⟨h1, h2⟩ | ⟨rfl, h2⟩, h3⟩)
      · exact .inl ⟨by simp [h1], h2⟩
      · refine .inr ⟨h1, fun x hx => ?_⟩
        rcases List.mem_cons.1 hx with rfl | hx
        · exact fun e => h2 e.symm
        · exact h3 x hx
      · exact .inl ⟨by simp, h2⟩
    · rintro (⟨h1, h2⟩ | ⟨h1, h2⟩)
      · rcases List.mem_cons.1 h1 with rfl | h1
        · refine .inr ⟨.inr ⟨rfl, h2⟩, fun x hx e => ?_⟩
          have := h.1 x hx; omega
        · exact .inl ⟨h1, h2⟩
      · exact .inr ⟨.inl ⟨h1, fun e => h2 u (by simp) e.symm⟩, fun x hx => h2 x (by simp [hx])⟩
theorem mem_mrg : ∀ {l c : List Vd} {v : Vd}, SortedK l → SortedK c → (v ∈ mrg l c ↔ v ∈ c ∨ (v ∈ l ∧ ∀ u ∈ c, u.k ≠ v.k))
  | [], c, v, _, _ => by rw [mrg_nil]; simp
  | a :: l, [], v, _, _ => by rw [mrg_nil']; simp
  | a :: l, b :: c, v, hl, hc => by
    have hl0 := hl
    have hc0 := hc
    unfold SortedK at hl hc
    rw [List.pairwise_cons] at hl hc
    unfold mrg
    split
    · rename_i hab
      have ih := mem_mrg (l := l) (c := b :: c) (v := v) hl.2 hc0
      rw [List.mem_cons, ih]
      constructor
      · rintro (rfl | h1 | ⟨h1, h2⟩)
        · refine .inr ⟨by simp, fun u hu e => ?_⟩
          rcases List.mem_cons.1 hu with rfl | hu
          · omega
          · have := hc.1 u hu; omega
        · exact .inl h1
        · exact .inr ⟨by simp [h1], h2⟩
      · rintro (h1 | ⟨h1, h2⟩)
        · exact .inr (.inl h1)
        · rcases List.mem_cons.1 h1 with rfl | h1
          · exact .inl rfl
          · exact .inr (.inr ⟨h1, h2⟩)
    · split
      · rename_i hba
        have ih := mem_mrg (l := a :: l) (c := c) (v := v) hl0 hc.2
        rw [List.mem_cons, ih]
        constructor
        · rintro (rfl | h1 | ⟨h1, h2⟩)
          · exact .inl (by simp)
          · exact .inl (by simp [h1])
          · refine .inr ⟨h1, fun u hu e => ?_⟩
            rcases List.mem_cons.1 hu with rfl | hu
            · rcases List.mem_cons.1 h1 with rfl | h1
              · omega
              · have := hl.1 v h1; omega
            · exact h2 u hu e
        · rintro (h1 | ⟨h1, h2⟩)
          · rcases List.mem_cons.1 h1 with rfl | h1
            · exact .inl rfl
            · exact .inr (.inl h1)
          · exact .inr (.inr ⟨h1, fun u hu => h2 u (by simp [hu])⟩)
      · have hk : a.k = b.k := by omega
        have ih := mem_mrg (l := l) (c := c) (v := v) hl.2 hc.2
        rw [List.mem_cons, ih]
        constructor
        · rintro (rfl | h1 | ⟨h1, h2⟩)
          · exact .inl (by simp)
          · exact .inl (by simp [h1])
          · refine .inr ⟨by simp [h1], fun u hu e => ?_⟩
            rcases List.mem_cons.1 hu with rfl | hu
            · have := hl.1 v h1; omega
            · exact h2 u hu e
        · rintro (h1 | ⟨h1, h2⟩)
          · rcases List.mem_cons.1 h1 with rfl | h1
            · exact .inl rfl
            · exact .inr (.inl h1)
          · rcases List.mem_cons.1 h1 with rfl | h1
            · exact absurd hk.symm (h2 b (by simp))
            · exact .inr (.inr ⟨h1, fun u hu => h2 u (by simp [hu])⟩)
termination_by l c => l.length + c.length
theorem mrg_sorted : ∀ {l c : List Vd}, SortedK l → SortedK c → SortedK (mrg l c)
  | [], c, _, hc => by rw [mrg_nil]; exact hc
  | a :: l, [], hl, _ => by rw [mrg_nil']; exact hl
  | a :: l, b :: c, hl, hc => by
    have hl0 := hl
    have hc0 := hc
    unfold SortedK at hl hc
    rw [List.pairwise_cons] at hl hc
    unfold mrg
    split
    · rename_i hab
      refine List.pairwise_cons.2 ⟨fun v hv => ?_, mrg_sorted hl.2 hc0⟩
      rcases (mem_mrg hl.2 hc0).1 hv with h1 | h1
      · rcases List.mem_cons.1 h1 with rfl | h1
        · exact hab
        · have := hc.1 v h1; omega
      · exact hl.1 v h1.1
    · split
      · rename_i hba
        refine List.pairwise_cons.2 ⟨fun v hv => ?_, mrg_sorted hl0 hc.2⟩
        rcases (mem_mrg hl0 hc.2).1 hv with h1 | h1
        · exact hc.1 v h1
        · rcases List.mem_cons.1 h1.1 with rfl | h2
          · exact hba
          · have := hl.1 v h2; omega
      · have hk : a.k = b.k := by omega
        refine List.pairwise_cons.2 ⟨fun v hv => ?_, mrg_sorted hl.2 hc.2⟩
        rcases (mem_mrg hl.2 hc.2).1 hv with h1 | h1
        · exact hc.1 v h1
        · have := hl.1 v h1.1; omega
termination_by l c => l.length + c.length
theorem kept_sorted {l : List Vd} (h : SortedK l) : SortedK (kept l) := List.Pairwise.filter _ h
theorem chg_sorted {l : List Vd} : ∀ {c : List Vd} {q : Option Nat}, chgFrom l q c = 0 → SortedK c ∧ ∀ x, q = some x → ∀ v ∈ c, x < v.k
  | [], q, _ => ⟨by simp [SortedK], by simp⟩
  | v :: c, q, h => by
    simp only [chgFrom] at h
    by_cases h0 : nextE q v 0 = 0
    · rw [if_pos h0] at h
      by_cases h1 : v.p = 0 ∧ hasK l v.k = false
      · rw [if_pos h1] at h; cases h
      · rw [if_neg h1] at h
        have ih := chg_sorted h
        have hq : ∀ x, q = some x → x < v.k := fun x hx => by
          subst hx
          rcases Nat.lt_or_ge x v.k with h2 | h2
          · exact h2
          · unfold nextE at h0
            rw [if_pos (by simpa using h2)] at h0
            cases h0
        refine ⟨List.pairwise_cons.2 ⟨fun u hu => ih.2 v.k rfl u hu, ih.1⟩, fun x hx u hu => ?_⟩
        rcases List.mem_cons.1 hu with rfl | hu
        · exact hq x hx
        · have := hq x hx; have := ih.2 v.k rfl u hu; omega
    · rw [if_neg h0] at h; exact absurd h h0
theorem chgAll_kept {l c : List Vd} (hl : chk l = 0) (hc : chgFrom l none c = 0) : chgAll l c = kept (mrg l c) := by
  have sl := (sorted_of (chk_ok hl).2.2.1).1
  have sc := (chg_sorted hc).1
  refine SortedK.ext (chgAll_sorted sl) (kept_sorted (mrg_sorted sl sc)) fun v => ?_
  unfold kept
  rw [mem_chgAll sc, List.mem_filter, mem_mrg sl sc]
  constructor
  · rintro (⟨h1, h2⟩ | ⟨h1, h2⟩)
    · exact ⟨.inl h1, by simpa using h2⟩
    · have := (chk_ok hl).2.2.2 v h1
      exact ⟨.inr ⟨h1, h2⟩, by simp; omega⟩
  · rintro ⟨h1 | h1, h2⟩
    · exact .inl ⟨h1, by simpa using h2⟩
    · exact .inr h1
end Go.Proofs.Ytlfmmmlheloloaa
