/-
  Plain: the second part behind the first; parts of a set in memory.
-/
import Derived.Test.YtlfmmmlheloloaaSc
import Derived.Test.YtlfmmmlheloloaaUc
namespace Go.Proofs.Ytlfmmmlheloloaa
open Go.RowKit Go.Lib

theorem mem_fit {l A : List Vd} (hl : chk l = 0) (sA : SortedK A) (hf : Fit l A) : ∀ v ∈ chgAll l A, 1 ≤ v.p ∧ v.p ≤ 4611686018427387904 := fun v hv => by
  rcases (mem_chgAll sA).1 hv with h | h
  · have := (hf v h.1).1; have := h.2; omega
  · exact (chk_ok hl).2.2.2 v h.1
theorem second {l m A B : List Vd} (hl : chk l = 0) (hm : chk m = 0) (sA : SortedK A) (sB : SortedK B) (hA : ∀ v ∈ A, v ∈ mdL l m) (hB : ∀ v ∈ B, v ∈ mdL l m) (hk : ∀ u ∈ A, ∀ v ∈ B, u.k ≠ v.k) (hD : ∀ v ∈ mdL l m, v ∈ A ∨ v ∈ B)
    (hne : chgAll l A ≠ []) (h64 : (chgAll l A).length ≤ 64) : chgO (chgAll l A) B = (m, 0) := by
  have sl := (sorted_of (chk_ok hl).2.2.1).1
  have sm := (sorted_of (chk_ok hm).2.2.1).1
  have sD := mdL_sorted sl sm
  have fD := fit_mdL hl hm
  have sx : SortedK (chgAll l A) := chgAll_sorted sl
  have hx := chk_of sx (mem_fit hl sA (fun v hv => fD v (hA v hv))) hne h64
  have fB : Fit (chgAll l A) B := fun v hv => by
    have h1 := fD v (hB v hv)
    refine ⟨h1.1, fun h0 => ?_⟩
    obtain ⟨a, ha, hak⟩ := h1.2 h0
    exact ⟨a, (mem_chgAll sA).2 (.inr ⟨ha, fun u hu e => hk u hu v hv (e.trans hak)⟩), hak⟩
  have e : chgAll (chgAll l A) B = m := by
    rw [← chgAll_mdL hl hm]
    refine SortedK.ext (chgAll_sorted sx) (chgAll_sorted sl) fun v => ?_
    rw [chgAll_mdL hl hm, mem_chgAll sB, mem_chgAll sA]
    have q := mem_chgAll (l := l) (v := v) sD
    rw [chgAll_mdL hl hm] at q
    rw [q]
    constructor
    · rintro (⟨h1, h2⟩ | ⟨⟨h1, h2⟩ | ⟨h1, h2⟩, h3⟩)
      · exact .inl ⟨hB v h1, h2⟩
      · exact .inl ⟨hA v h1, h2⟩
      · exact .inr ⟨h1, fun u hu => (hD u hu).elim (h2 u) (h3 u)⟩
    · rintro (⟨h1, h2⟩ | ⟨h1, h2⟩)
      · rcases hD v h1 with h | h
        · exact .inr ⟨.inl ⟨h, h2⟩, fun u hu e => hk v h u hu e.symm⟩
        · exact .inl ⟨h, h2⟩
      · exact .inr ⟨.inr ⟨h1, fun u hu => h2 u (hA u hu)⟩, fun u hu => h2 u (hB u hu)⟩
  have hm2 := chk_ok hm
  rw [chgO_fit hx sB fB, e, if_neg (by omega), if_neg (fun h => by rw [h] at hm2; simp at hm2)]
structure Parts (l m P Q : List Vd) : Prop where
  all : chgO l (mdL l m) = (m, 0)
  back : chgO m (mdL m l) = (l, 0)
  none : chgO l [] = (l, 0)
  fst : chgAll l P = [] ∧ chgO l P = ([], 6) ∨ chgAll l P ≠ [] ∧ chgO l P = (chgAll l P, 0) ∧ chgO (chgAll l P) Q = (m, 0)
  snd : chgAll l Q = [] ∧ chgO l Q = ([], 6) ∨ chgAll l Q ≠ [] ∧ chgO l Q = (chgAll l Q, 0) ∧ chgO (chgAll l Q) P = (m, 0)
theorem all_of {l m : List Vd} (hl : chk l = 0) (hm : chk m = 0) : chgO l (mdL l m) = (m, 0) := by
  have sl := (sorted_of (chk_ok hl).2.2.1).1
  have sm := (sorted_of (chk_ok hm).2.2.1).1
  have hm2 := chk_ok hm
  rw [chgO_fit hl (mdL_sorted sl sm) (fit_mdL hl hm), chgAll_mdL hl hm, if_neg (by omega), if_neg (fun h => by rw [h] at hm2; simp at hm2)]
theorem none_of {l : List Vd} (hl : chk l = 0) : chgO l [] = (l, 0) := by
  have hl2 := chk_ok hl
  have e : chgAll l [] = l := rfl
  rw [chgO_fit hl (by simp [SortedK]) (fun v hv => by simp at hv), e, if_neg (by omega), if_neg (fun h => by rw [h] at hl2; simp at hl2)]
theorem parts_of {l m : List Vd} (hl : chk l = 0) (hm : chk m = 0) (h30 : l.length ≤ 30) (hm30 : m.length ≤ 30) (r : Nat) : Parts l m ((mdL l m).take r) ((mdL l m).drop r) := by
  have sl := (sorted_of (chk_ok hl).2.2.1).1
  have sm := (sorted_of (chk_ok hm).2.2.1).1
  have sD := mdL_sorted sl sm
  have fD := fit_mdL hl hm
  have hD := List.take_append_drop r (mdL l m)
  have sPQ : SortedK ((mdL l m).take r ++ (mdL l m).drop r) := by rw [hD]; exact sD
  unfold SortedK at sPQ
  obtain ⟨sP, sQ, hPQ⟩ := List.pairwise_append.1 sPQ
  have hP : ∀ v ∈ (mdL l m).take r, v ∈ mdL l m := fun v hv => List.mem_of_mem_take hv
  have hQ : ∀ v ∈ (mdL l m).drop r, v ∈ mdL l m := fun v hv => List.mem_of_mem_drop hv
  have hO : ∀ v ∈ mdL l m, v ∈ (mdL l m).take r ∨ v ∈ (mdL l m).drop r := fun v hv => by rw [← hD] at hv; exact List.mem_append.1 hv
  have hkd := kept_mdL l m
  have hkp : (kept ((mdL l m).take r)).length + (kept ((mdL l m).drop r)).length = (kept (mdL l m)).length := by rw [← List.length_append, ← kept_app, hD]
  have l1 := chgAll_len ((mdL l m).take r) l
  have l2 := chgAll_len ((mdL l m).drop r) l
  refine ⟨all_of hl hm, all_of hm hl, none_of hl, ?_, ?_⟩
  · have q := chgO_fit hl sP (fun v hv => fD v (hP v hv))
    rw [if_neg (by omega)] at q
    by_cases h : chgAll l ((mdL l m).take r) = []
    · rw [if_pos h] at q; exact .inl ⟨h, q⟩
    · rw [if_neg h] at q
      exact .inr ⟨h, q, second hl hm sP sQ hP hQ (fun u hu v hv => Nat.ne_of_lt (hPQ u hu v hv)) hO h (by omega)⟩
  · have q := chgO_fit hl sQ (fun v hv => fD v (hQ v hv))
    rw [if_neg (by omega)] at q
    by_cases h : chgAll l ((mdL l m).drop r) = []
    · rw [if_pos h] at q; exact .inl ⟨h, q⟩
    · rw [if_neg h] at q
      exact .inr ⟨h, q, second hl hm sQ sP hQ hP (fun u hu v hv => Nat.ne_of_gt (hPQ v hv u hu)) (fun v hv => (hO v hv).symm) h (by omega)⟩
theorem mdL_len : ∀ (l m : List Vd), (mdL l m).length ≤ l.length + m.length
  | [], f => by rw [mdL_nil]; simp
  | a :: o, [] => by
    have ih := mdL_len o []
    rw [mdL]; simp only [List.length_cons, List.length_nil] at ih ⊢; omega
  | a :: o, b :: f => by
    rw [mdL]
    split
    · have ih := mdL_len o (b :: f)
      simp only [List.length_cons] at ih ⊢; omega
    · split
      · have ih := mdL_len (a :: o) f
        simp only [List.length_cons] at ih ⊢; omega
      · have ih := mdL_len o f
        rw [List.length_append]
        split <;> simp only [List.length_cons, List.length_nil] <;> omega
termination_by l m => l.length + m.length
theorem mdL_ok {l m : List Vd} (h1 : ∀ v ∈ l, VdOk v) (h2 : ∀ v ∈ m, VdOk v) (sl : SortedK l) (sm : SortedK m) : ∀ v ∈ mdL l m, VdOk v := fun v hv => by
  rcases (mem_mdL sl sm).1 hv with h | h
  · exact h2 v h.1
  · obtain ⟨h0, ⟨a, ha, hk⟩, _⟩ := h
    exact ⟨by rw [← hk]; exact (h1 a ha).k, by omega⟩
/-- A part's address. -/
def partW (a : Option Addr) (cap k : Nat) : Option Addr := if cap = k then a else a.map (·.add (k * 5))
theorem run_part_vl (a : Option Addr) (len cap n : Nat) (h : n ≤ len) (w : World) : (Instr.sliceAt 82 (.slice a len cap) (some (.int .i64 (n : Int))) none none).run Try.prog w = .ok (.slice (partW a cap n) (len - n) (cap - n)) w := by
  rw [run_sliceAt_slice (h := under_vals), run_slice_l (ht := under_vals) (l := (n : Int)) (h0 := by omega) (h1 := by omega), elem_vals, run_size_val]
  simp only [Result.andThen_ok, sliced]
  rw [show (n : Int).toNat = n by omega]
  rfl
theorem run_part_vh (a : Option Addr) (len cap n : Nat) (h : n ≤ cap) (w : World) : (Instr.sliceAt 82 (.slice a len cap) none (some (.int .i64 (n : Int))) none).run Try.prog w = .ok (.slice a n cap) w := by
  rw [run_sliceAt_slice (h := under_vals), run_slice_h (ht := under_vals) (h := (n : Int)) (h0 := by omega) (h2 := by omega), elem_vals, run_size_val]
  simp only [Result.andThen_ok, sliced]
  cases a <;> simp [Addr.add]
theorem Vs.take {w : World} {a : Option Addr} {b o cap : Nat} {l : List Vd} (h : Vs w a b o cap l) (n : Nat) : Vs w a b o cap (l.take n) :=
  ⟨fun v hv => h.ok v (List.mem_of_mem_take hv), by have := h.le; rw [List.length_take]; omega, h.ptr, fun i v hi j c hc => h.cell i v (by rw [List.getElem?_take] at hi; split at hi; exact hi; cases hi) j c hc⟩
theorem Vs.drop {w : World} {a : Option Addr} {b o cap : Nat} {l : List Vd} (h : Vs w a b o cap l) (n : Nat) (hn : n ≤ l.length) : Vs w (partW a cap n) b (o + n * 5) (cap - n) (l.drop n) := by
  refine ⟨fun v hv => h.ok v (List.mem_of_mem_drop hv), by have := h.le; rw [List.length_drop]; omega, fun h0 => ?_, fun i v hi j c hc => ?_⟩
  · obtain ⟨h1, h2⟩ := h.ptr (by omega)
    refine ⟨?_, h2⟩
    unfold partW
    rw [if_neg (by omega), h1]
    simp [Addr.add]
  · rw [List.getElem?_drop] at hi
    have q := h.cell (n + i) v hi j c hc
    rw [show o + n * 5 + i * 5 + j = o + (n + i) * 5 + j by omega]
    exact q
end Go.Proofs.Ytlfmmmlheloloaa
