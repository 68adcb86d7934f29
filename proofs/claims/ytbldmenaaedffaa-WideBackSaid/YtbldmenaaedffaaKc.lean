/-
  More of the calls that WideKnown makes, each at its numbers.
-/
import Derived.Test.YtbldmenaaedffaaKa
namespace Go.Proofs.Ytbldmenaaedffaa
open Go.RowKit

theorem good_of {s : ByteArray} (h : ∀ j : Fin s.size, 48 ≤ (s[j.1]'j.2).toNat ∧ (s[j.1]'j.2).toNat ≤ 57) : ∀ j, ¬ badB s j := by
  rintro j ⟨hj, hb⟩
  have := h ⟨j, hj⟩
  simp only at this
  omega

/-- Whole numbers that were just laid. -/
theorem ints_new (w : World) (zs : List Int) (T : TypeId) : IntsAt (w.alloc (.cells (zs.map (fun z => Value.int .i64 z)).toArray T)) (some ⟨w.heap.size, 0, none⟩) zs := by
  intro k hk
  refine ⟨_, _, rfl, ?_⟩
  rw [Nat.zero_add, World.cell?_alloc_new]
  simp [hk]

theorem ks1 (w : World) : Calls Try.prog 18 #[.slice (some ⟨w.heap.size, 0, none⟩) 4 4] (w.alloc (.cells #[.int .i64 4611686018427387904, .int .i64 4611686018427387904, .int .i64 4611686018427387904, .int .i64 4611686018427387904] 3)) fun e w' => e = .returned (.tuple #[.agg #[.int .u64 1, .int .u64 0], .int .i64 0]) ∧ Below (w.alloc (.cells #[.int .i64 4611686018427387904, .int .i64 4611686018427387904, .int .i64 4611686018427387904, .int .i64 4611686018427387904] 3)).heap.size (w.alloc (.cells #[.int .i64 4611686018427387904, .int .i64 4611686018427387904, .int .i64 4611686018427387904, .int .i64 4611686018427387904] 3)) w' := by
  have h := Sum_any (some ⟨w.heap.size, 0, none⟩) 4 4 [4611686018427387904, 4611686018427387904, 4611686018427387904, 4611686018427387904] _ (by decide) (by decide) rfl (ints_new w _ 3)
  have e : sumV [4611686018427387904, 4611686018427387904, 4611686018427387904, 4611686018427387904] = .tuple #[.agg #[.int .u64 1, .int .u64 0], .int .i64 0] := by
    rw [sumV_ok (by decide)]
    have h0 : sumN [4611686018427387904, 4611686018427387904, 4611686018427387904, 4611686018427387904] = twoN := by decide +kernel
    rw [h0]
    have h1 : hiw twoN = 1 := by decide +kernel
    have h2 : low twoN = 0 := by decide +kernel
    show Value.tuple #[.agg #[.int .u64 (hiw twoN : Nat), .int .u64 (low twoN : Nat)], _] = _
    rw [h1, h2]; rfl
  rw [e] at h
  exact h
theorem ks2 (w : World) : Calls Try.prog 18 #[.slice (some ⟨w.heap.size, 0, none⟩) 2 2] (w.alloc (.cells #[.int .i64 1, .int .i64 (-1)] 3)) fun e w' => e = .returned (.tuple #[wz, .int .i64 3]) ∧ Below (w.alloc (.cells #[.int .i64 1, .int .i64 (-1)] 3)).heap.size (w.alloc (.cells #[.int .i64 1, .int .i64 (-1)] 3)) w' := by
  have h := Sum_any (some ⟨w.heap.size, 0, none⟩) 2 2 [1, -1] _ (by decide) (by decide) rfl (ints_new w _ 3)
  rw [sumV_neg (z := -1) (by decide) (by decide)] at h
  exact h

def topN : Nat := 9223372036854775808
theorem wv_top : wv topN = .agg #[.int .u64 0, .int .u64 9223372036854775808] := by
  have h1 : hiw topN = 0 := by decide +kernel
  have h2 : low topN = 9223372036854775808 := by decide +kernel
  show Value.agg #[.int .u64 (hiw topN : Nat), .int .u64 (low topN : Nat)] = _
  rw [h1, h2]; rfl
theorem wv_7 : wv 7 = .agg #[.int .u64 0, .int .u64 7] := by
  have h1 : hiw 7 = 0 := by decide +kernel
  have h2 : low 7 = 7 := by decide +kernel
  show Value.agg #[.int .u64 (hiw 7 : Nat), .int .u64 (low 7 : Nat)] = _
  rw [h1, h2]; rfl
theorem wv_two : wv twoN = .agg #[.int .u64 1, .int .u64 0] := by
  have h1 : hiw twoN = 1 := by decide +kernel
  have h2 : low twoN = 0 := by decide +kernel
  show Value.agg #[.int .u64 (hiw twoN : Nat), .int .u64 (low twoN : Nat)] = _
  rw [h1, h2]; rfl
theorem kc1 (w : World) : Calls Try.prog 22 #[.agg #[.int .u64 0, .int .u64 9223372036854775808]] w fun e w' => e = .returned (.int .i64 9223372036854775807) ∧ Below w.heap.size w w' := by
  have h := Clamp_any topN w
  rw [wv_top, show clampI topN = 9223372036854775807 by decide +kernel] at h
  exact h
theorem kc2 (w : World) : Calls Try.prog 22 #[.agg #[.int .u64 0, .int .u64 7]] w fun e w' => e = .returned (.int .i64 7) ∧ Below w.heap.size w w' := by
  have h := Clamp_any 7 w
  rw [wv_7, show clampI 7 = 7 by decide +kernel] at h
  exact h
theorem km0 (w : World) : Calls Try.prog 25 #[.agg #[.int .u64 0, .int .u64 1], .int .i64 (-1), .agg #[.int .u64 0, .int .u64 1], .int .i64 1] w fun e w' => e = .returned (.tuple #[.bool false, .int .i64 3]) ∧ Below w.heap.size w w' := by
  rw [← wv_1]
  exact More_neg 1 1 (-1) 1 w (by decide)
theorem km1 (w : World) : Calls Try.prog 36 #[wv mostN, .int .i64 2, wv mostN, .int .i64 2, .bool false] w fun e w' => e = .returned (.bool true) ∧ Below w.heap.size w w' :=
  lmore_true mostN mostN 2 2 false w fun w => by
    have h := More_any mostN mostN 2 2 w (by decide) (by decide) (by decide) (by decide)
    rw [show moreB (mostN * 2) (mostN * 2) = false by decide +kernel] at h
    exact h
theorem km2 (w : World) : Calls Try.prog 36 #[.agg #[.int .u64 1, .int .u64 0], .int .i64 1, .agg #[.int .u64 0, .int .u64 9223372036854775808], .int .i64 2, .bool false] w fun e w' => e = .returned (.bool true) ∧ Below w.heap.size w w' := by
  rw [← wv_two, ← wv_top]
  exact lmore_true twoN topN 1 2 false w fun w => by
    have h := More_any twoN topN 1 2 w (by decide) (by decide) (by decide) (by decide)
    rw [show moreB (twoN * 1) (topN * 2) = false by decide +kernel] at h
    exact h
theorem km3 (w : World) : Calls Try.prog 36 #[.agg #[.int .u64 0, .int .u64 0], .int .i64 5, .agg #[.int .u64 0, .int .u64 1], .int .i64 0, .bool false] w fun e w' => e = .returned (.bool true) ∧ Below w.heap.size w w' := by
  rw [← wv_0, ← wv_1]
  exact lmore_true 0 1 5 0 false w fun w => by
    have h := More_any 0 1 5 0 w (by decide) (by decide) (by decide) (by decide)
    rw [show moreB (0 * 5) (1 * 0) = false by decide +kernel] at h
    exact h
theorem ktx (w : World) : Calls Try.prog 29 #[.agg #[.int .u64 0, .int .u64 0]] w fun e w' => e = .returned (.string ⟨#[48]⟩) ∧ Below w.heap.size w w' := by
  rw [← wv_0, ← text_zero]
  exact Text_any 0 w (by decide)
theorem kr1 (w : World) : Calls Try.prog 37 #[.string ⟨#[51, 52, 48, 50, 56, 50, 51, 54, 54, 57, 50, 48, 57, 51, 56, 52, 54, 51, 52, 54, 51, 51, 55, 52, 54, 48, 55, 52, 51, 49, 55, 54, 56, 50, 49, 49, 52, 53, 54]⟩, .agg #[.int .u64 0, .int .u64 0], .int .i64 3, .int .i64 0] w fun e w' => e = .returned (.bool true) ∧ Below w.heap.size w w' := by
  rw [← wv_0]
  refine lreads_true _ 0 3 0 w fun w => ?_
  have hg : ∀ j, ¬ badB ⟨#[51, 52, 48, 50, 56, 50, 51, 54, 54, 57, 50, 48, 57, 51, 56, 52, 54, 51, 52, 54, 51, 51, 55, 52, 54, 48, 55, 52, 51, 49, 55, 54, 56, 50, 49, 49, 52, 53, 54]⟩ j := good_of (by decide +kernel)
  have h := Read_digits _ w (by decide) hg (fun w => mal_ok _ w (by decide) (by decide) (fun h => by revert h; decide) hg)
  rw [if_neg (by decide +kernel)] at h
  rw [wv_0]; exact h
theorem kr2 (w : World) : Calls Try.prog 37 #[.string ⟨#[48, 55]⟩, .agg #[.int .u64 0, .int .u64 0], .int .i64 5, .int .i64 0] w fun e w' => e = .returned (.bool true) ∧ Below w.heap.size w w' := by
  rw [← wv_0]
  refine lreads_true _ 0 5 0 w fun w => ?_
  rw [wv_0]
  exact Read_mal _ 5 0 w (by decide) fun w => mal_zero _ w (by decide) (by decide) (by decide) (good_of (by decide +kernel))
theorem kr3 (w : World) : Calls Try.prog 37 #[.string ⟨#[]⟩, .agg #[.int .u64 0, .int .u64 0], .int .i64 6, .int .i64 0] w fun e w' => e = .returned (.bool true) ∧ Below w.heap.size w w' := by
  rw [← wv_0]
  refine lreads_true _ 0 6 0 w fun w => ?_
  rw [wv_0]
  exact Read_mal _ 6 0 w (by decide) fun w => mal_empty _ w (by decide)
theorem kr4 (w : World) : Calls Try.prog 37 #[.string ⟨#[49, 97]⟩, .agg #[.int .u64 0, .int .u64 0], .int .i64 5, .int .i64 1] w fun e w' => e = .returned (.bool true) ∧ Below w.heap.size w w' := by
  rw [← wv_0]
  refine lreads_true _ 0 5 1 w fun w => ?_
  rw [wv_0]
  refine Read_mal _ 5 1 w (by decide) fun w => mal_bad _ 1 w (by decide) ⟨by decide, .inr (by decide)⟩ ?_
  intro j hj
  obtain rfl : j = 0 := by omega
  rintro ⟨h, hb⟩
  revert hb; revert h; decide
end Go.Proofs.Ytbldmenaaedffaa
