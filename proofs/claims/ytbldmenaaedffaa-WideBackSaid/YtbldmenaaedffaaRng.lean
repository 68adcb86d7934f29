/-
  A range over a function whose iterator may write the variables that it has captured: one law for the statement, over whatever iterator, where the body always goes on.
-/
import Derived.RangeFuncNested
import Derived.RangeFuncBound
import Derived.RangeFuncCalls
import Derived.RangeFuncLeaves
import Derived.RangeFuncBox
import Derived.Shelf.Abstract
import Derived.Test.YtbldmenaaedffaaMem
namespace Go.Proofs.Ytbldmenaaedffaa
open Go.RowKit Go.Shelf

/-- What an iterator may lean on: the caller's invariant stands when new memory is laid, and when a cell of a block of X is written. -/
structure Firm {α : Type} (X : Nat → Prop) (J : List α → World → Prop) : Prop where
  more : ∀ s W W', J s W → Below W.heap.size W W' → J s W'
  cell : ∀ s W b k v, X b → J s W → J s (W.setCell ⟨b, k, none⟩ v)

/-- An iterator's contract: called with whatever loop's yield it returns; some xs with S have come; its rounds keep Kp. -/
def Iter {α : Type} (P : Program) (g : Nat) (lb : Array Value) (encs : α → Array Value) (X : Nat → Prop) (Kp : World → World → Prop) (S : List α → Prop) (N : Nat) (w : World) : Prop :=
  ∀ (n l : Nat) (J : List α → World → Prop) (W : World), Below w.heap.size w W → Firm X J →
    (∀ pre x W1, J pre W1 → pre.length < N → YieldAt Fence.wide (n - 1) P l (encs x) W1 fun e W' => e = .returned (.bool true) ∧ J (pre ++ [x]) W' ∧ Kp W1 W') →
    J [] W →
    CallsIn Fence.wide n P g (#[.func (.yield l) #[] #[]] ++ lb) W fun e W' => (∃ v, e = .returned v) ∧ ∃ xs, S xs ∧ J xs W'

theorem wide_round : Fence.wide.round = none := rfl

theorem heap_setCell_other {W : World} {j : Nat} {o : Obj} (hj : W.heap[j]? = some o) (ho : o.isCells = false) (b k : Nat) (v : Value) : (W.setCell ⟨b, k, none⟩ v).heap[j]? = some o := by
  by_cases h : j = b
  · subst h
    simp only [World.setCell, Array.getElem?_modify, hj]
    cases o <;> first | rfl | simp [Obj.isCells] at ho
  · exact (Below.heap_setCell W ⟨b, k, none⟩ v j h).trans hj

theorem range_all {α : Type} {P : Program} {n : Nat} {g : Operand} {ps : Array Tmp} {assign body : Code} {Q : Exit → Act → World → Prop} {a : Act} {w : World}
    {gf : Nat} {lb : Array Value} (hg : a.eval g = .func (.func gf) #[] lb) (eg : Enters P gf)
    {encs : α → Array Value} {X : Nat → Prop} {Kp : World → World → Prop} {S : List α → Prop} {N : Nat} {w0 : World} (hseq : Iter P gf lb encs X Kp S N w0) (hb0 : Below w0.heap.size w0 w)
    (hps : ∀ x, (encs x).size = ps.size)
    (hKt : ∀ {A B C : World}, Kp A B → Kp B C → Kp A C) (hKb : ∀ (W : World) (l : Nat) (o : Obj), w.heap.size ≤ l → Kp W (W.putObj l o))
    (I : List α → World → Prop) (hI : Firm X I) (hIp : ∀ s W l o o', w.heap.size ≤ l → I s W → W.heap[l]? = some o → o.isCells = false → I s (W.putObj l o')) (h0 : I [] w)
    (a₁ : α → Act)
    (hassign : ∀ (l : Nat) (x : α) (W : World) (K : Act → World → Prop), K (a₁ x) W →
      assign.wpIn (Fence.wide.inRound l) (n - 1 - 1) P (Exit.then K (fun _ _ _ => False)) { tmps := (ps.zip (encs x)).foldl (fun t (p, v) => t.setIfInBounds p v) a.tmps, defers := [] } W)
    (hbody : ∀ (l : Nat) (pre : List α) (x : α) (W : World), I pre W → pre.length < N →
      body.wpIn (Fence.wide.inRound l) (n - 1 - 1) P (fun e _ W' => e = .normal ∧ KeepsOthers W W' ∧ Kp W W' ∧ I (pre ++ [x]) W') (a₁ x) W)
    (hdone : ∀ (D : Nat) (xs : List α) (W : World), w.heap.size ≤ D → S xs → I xs W → W.heap[D]? = some (.deferred (some [])) → Q .normal { a with defers := { target := .collected D, args := #[] } :: a.defers } W) :
    (Code.rangeFunc g ps assign body).wpIn Fence.wide n P Q a w := by
  refine wpIn_rangeFunc ?_
  intro fn hfn
  obtain ⟨rec, hrec⟩ : ∃ rec : LoopState → Loop, rec = fun st => { state := st, pending := none, fn, tmps := a.tmps, params := ps, assign, body, defers := w.heap.size } := ⟨_, rfl⟩
  obtain ⟨l, hl⟩ : ∃ l, l = w.heap.size + 1 := ⟨_, rfl⟩
  obtain ⟨W1, hW1⟩ : ∃ W1, (w.alloc (.deferred (some []))).alloc (.loop (rec .ready)) = W1 := ⟨_, rfl⟩
  have b1 : Below w.heap.size w W1 := by rw [← hW1]; exact ((Below.refl _ w).alloc (Nat.le_refl _) _).alloc (by simp) _
  have hL1 : W1.heap[l]? = some (.loop (rec .ready)) := by
    rw [← hW1, hl]; have h := World.alloc_heap_new (w.alloc (.deferred (some []))) (.loop (rec .ready)); rwa [World.size_alloc] at h
  have hD1 : W1.heap[w.heap.size]? = some (.deferred (some [])) := by
    rw [← hW1]; exact (Below.heap_alloc _ _ _ (by simp)).trans (World.alloc_heap_new w _)
  -- the two facts of book-keeping that go along with the caller's own
  obtain ⟨J, hJ⟩ : ∃ J : List α → World → Prop, J = fun pre W => I pre W ∧ W.heap[l]? = some (.loop (rec .ready)) ∧ W.heap[w.heap.size]? = some (.deferred (some [])) := ⟨_, rfl⟩
  have hfirm : Firm X J := by
    rw [hJ]
    exact ⟨fun s W W' ⟨hi, h2, h3⟩ hB => ⟨hI.more s W W' hi hB, (hB.block l (Array.getElem?_eq_some_iff.1 h2).1).trans h2, (hB.block _ (Array.getElem?_eq_some_iff.1 h3).1).trans h3⟩,
      fun s W b k v hX ⟨hi, h2, h3⟩ => ⟨hI.cell s W b k v hX hi, heap_setCell_other h2 rfl b k v, heap_setCell_other h3 rfl b k v⟩⟩
  refine ⟨l, [{ target := .collected w.heap.size, args := #[] }], W1, { target := .fn (.func gf) lb, args := #[.func (.yield l) #[] #[]] }, W1, gf,
    #[.func (.yield l) #[] #[]] ++ lb, W1, ?_, ?_, fun _ _ => trivial, ?_, fun h => by simp [Fence.wide] at h, ?_⟩
  · rw [← hW1, hrec, hl]; exact run_enterLoop_outer _ _ _ _ _
  · simp only [resolve, hg]
    simp [go_sem]
  · simp only [invoke, go_sem]
    exact eg _ _
  · refine (hseq (n - 1) l J W1 (hb0.trans (b1.mono hb0.size)) hfirm ?_ (by rw [hJ]; exact ⟨hI.more _ _ _ h0 b1, hL1, hD1⟩)).mono ?_
    · intro pre x W hJW hlen
      rw [hJ] at hJW
      obtain ⟨hi, h2, h3⟩ := hJW
      have hlt : l < W.heap.size := (Array.getElem?_eq_some_iff.1 h2).1
      have hne : w.heap.size ≠ l := by omega
      have hy := run_yield (P := P) (args := encs x) h2 (by rw [hrec]; exact hps x)
      rw [hrec] at hy
      obtain ⟨V, hV⟩ : ∃ V, W.putObj l (.loop { rec .ready with state := .busy }) = V := ⟨_, rfl⟩
      have v2 : V.heap[l]? = some (.loop { rec .ready with state := .busy }) := by rw [← hV]; exact World.putObj_heap_same hlt
      have v3 : V.heap[w.heap.size]? = some (.deferred (some [])) := by rw [← hV]; exact (World.putObj_heap_other (by omega)).trans h3
      have vi : I pre V := by rw [← hV]; exact hIp _ _ _ _ _ (by omega) hi h2 rfl
      have vk : Kp W V := by rw [← hV]; exact hKb _ _ _ (by omega)
      refine ⟨fn, _, assign, body, hy, roundIn_of_wpIn hfn (hassign _ x W _ ⟨V, ?_, ?_⟩)⟩
      · rw [← hV]; exact run_beginRound h2 (by rw [hrec])
      · refine wpIn_mono (hbody _ pre x V vi hlen) ?_
        rintro e a3 W3 ⟨rfl, ko, kk, i3⟩
        have w2 := ko.same _ _ v2 rfl
        have w3 := ko.same _ _ v3 rfl
        have hl3 : l < W3.heap.size := (Array.getElem?_eq_some_iff.1 w2).1
        have hend := run_endRound (P := P) none w2
        refine ⟨_, _, hend, ?_⟩
        rw [hJ]
        refine ⟨by simp, ⟨hIp _ _ _ _ _ (by omega) i3 w2 rfl, ?_, (World.putObj_heap_other (by omega)).trans w3⟩, hKt (hKt vk kk) (hKb _ _ _ (by omega))⟩
        rw [World.putObj_heap_same hl3, hrec]
        simp
    · rintro e W2 ⟨⟨v, rfl⟩, xs, hS, hJ2⟩
      rw [hJ] at hJ2
      obtain ⟨hi, h2, h3⟩ := hJ2
      have hend : (Instr.endLoop l).run P W2 = .ok none (W2.putObj l (.loop { rec .ready with state := .exhausted })) := by
        have h := run_endLoop (P := P) h2 (by rw [hrec]; simp)
        rw [hrec] at h ⊢
        exact h
      exact ⟨none, _, hend, hdone _ xs _ (Nat.le_refl _) hS (hIp _ _ _ _ _ (by omega) hi h2 rfl) ((World.putObj_heap_other (by omega)).trans h3)⟩
end Go.Proofs.Ytbldmenaaedffaa
