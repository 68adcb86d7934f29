/-
  Hashes compared with ==; what was read, in one contract.
-/
import Derived.Test.YthcgenlhblbjaaaHm
import Derived.Test.YthcgenlhblbjaaaHo
namespace Go.Proofs.Ythcgenlhblbjaaa
open Go.RowKit Go.Lib

theorem run_part_byte (v : List Nat) (i : Nat) (hi : i < v.length) (w : World) : (part 5 (bvs v).toArray i).run Try.prog w = .ok (.int .u8 (v.getD i 0 : Nat)) w := by
  have hagg : (isAgg 5).run Try.prog w = .ok false w := by
    unfold isAgg
    rw [Sem.run_bind, run_underlying Try.underlying5 w]
    rfl
  have hg : (bvs v).toArray[i]? = some (.int .u8 (v.getD i 0 : Nat)) := by rw [List.getElem?_toArray]; exact bvs_get hi
  simp [part, hagg, hg]
theorem run_equalIn_hash (d : Nat) (a b : List Nat) (ha : a.length = 32) (hb : b.length = 32) (w : World) : (Op.equalIn (d + 2) 26 (.agg (bvs a).toArray) (.agg (bvs b).toArray)).run Try.prog w = .ok (decide (a = b)) w := by
  have hs : (sizeOf 5).run Try.prog w = .ok 1 w := by
    obtain ⟨j, hj⟩ : ∃ j, Try.prog.info? 5 = some j := Option.isSome_iff_exists.1 (by kernel_rfl)
    have h1 : (Try.prog.info? 5).map (·.size) = some 1 := by kernel_rfl
    rw [hj] at h1
    simp only [Option.map_some, Option.some.injEq] at h1
    simp [sizeOf, typeInfo, hj, h1]
  have hall : decide (a = b) = (List.range' 0 32 1).all (fun i => a.getD i 0 == b.getD i 0) := by
    rw [Bool.eq_iff_iff, decide_eq_true_eq, List.all_eq_true]
    constructor
    · rintro rfl i _; exact beq_self_eq_true _
    · intro h
      apply List.ext_getElem (by omega)
      intro i h1 h2
      have := h i (by simp; omega)
      rw [beq_iff_eq, List.getD_eq_getElem?_getD, List.getD_eq_getElem?_getD, List.getElem?_eq_getElem h1, List.getElem?_eq_getElem h2] at this
      exact this
  rw [hall, Op.equalIn]
  simp only [Sem.run_bind, run_underlying Try.underlying26, Result.andThen_ok, hs]
  simp only [Std.Legacy.Range.forIn_eq_forIn_range', Std.Legacy.Range.size, Nat.mul_one, Nat.sub_zero, Nat.add_one_sub_one, Nat.div_one]
  have hl : ∀ i ∈ List.range' 0 32 1, i < 32 := by intro i hi; simp at hi; omega
  generalize List.range' 0 32 1 = l at hl
  induction l with
  | nil => simp
  | cons i l ih =>
    have h1 := run_part_byte a i (by rw [ha]; exact hl i (by simp)) w
    have h2 := run_part_byte b i (by rw [hb]; exact hl i (by simp)) w
    have h3 : (Op.equalIn (d + 1) 5 (.int .u8 (a.getD i 0 : Nat)) (.int .u8 (b.getD i 0 : Nat))).run Try.prog w = .ok (a.getD i 0 == b.getD i 0) w := by
      rw [run_equalIn_int w d 5 .u8 .u8 _ _ Try.underlying5]
      congr 1
      rw [Bool.eq_iff_iff, beq_iff_eq, beq_iff_eq]; omega
    simp only [List.forIn_cons, Sem.run_bind, h1, h2, h3, Result.andThen_ok, List.all_cons]
    cases a.getD i 0 == b.getD i 0
    · simp
    · simp only [Bool.not_true, Bool.false_eq_true, if_false, Sem.run_pure, Result.andThen_ok, Bool.true_and]
      exact ih (fun j hj => hl j (by simp [hj]))
theorem run_eql_hash (a b : List Nat) (ha : a.length = 32) (hb : b.length = 32) (w : World) : (binOp .eql 26 (.agg (bvs a).toArray) (.agg (bvs b).toArray)).run Try.prog w = .ok (.bool (decide (a = b))) w := by
  rw [run_eql_struct, run_equalIn_hash 9998 a b ha hb]; rfl
theorem run_neq_hash (a b : List Nat) (ha : a.length = 32) (hb : b.length = 32) (w : World) : (binOp .neq 26 (.agg (bvs a).toArray) (.agg (bvs b).toArray)).run Try.prog w = .ok (.bool (!decide (a = b))) w := by
  rw [run_neq_struct, run_equalIn_hash 9998 a b ha hb]; rfl
theorem guard_hash : Try.prog.eqGuardType Try.prog.depth 26 = false := by kernel_rfl

/-! What is read, in one contract. -/
def goodR (s : ByteArray) : Prop := s.size = 64 ∧ ∀ j, j < 64 → dgV s j < 16
open Classical in
noncomputable def readO (s : ByteArray) : List Nat × Nat := if goodR s then (readL s, 0) else (List.replicate 32 0, 5)
theorem readO_ok {s : ByteArray} (h : goodR s) : readO s = (readL s, 0) := by unfold readO; rw [if_pos h]
theorem readO_no {s : ByteArray} (h : ¬ goodR s) : readO s = (List.replicate 32 0, 5) := by unfold readO; rw [if_neg h]
theorem readO_len (s : ByteArray) : (readO s).1.length = 32 := by
  by_cases h : goodR s
  · rw [readO_ok h]; exact readL_len s
  · rw [readO_no h]; rfl
/-- A text of 64 bytes that is none has a first byte that is no digit. -/
theorem first_bad {s : ByteArray} (hs : s.size = 64) (h : ¬ goodR s) : ∃ i, i < 64 ∧ ¬ dgV s i < 16 ∧ ∀ j, j < i → dgV s j < 16 := by
  have key : ∀ n, n ≤ 64 → (∀ j, j < n → dgV s j < 16) ∨ ∃ i, i < n ∧ ¬ dgV s i < 16 ∧ ∀ j, j < i → dgV s j < 16 := by
    intro n
    induction n with
    | zero => exact fun _ => .inl fun j hj => absurd hj (by omega)
    | succ n ih =>
      intro hn
      rcases ih (by omega) with h1 | ⟨i, h1, h2, h3⟩
      · by_cases hd : dgV s n < 16
        · refine .inl fun j hj => ?_
          rcases Nat.lt_or_ge j n with hj2 | hj2
          · exact h1 j hj2
          · obtain rfl : j = n := by omega
            exact hd
        · exact .inr ⟨n, by omega, hd, h1⟩
      · exact .inr ⟨i, by omega, h2, h3⟩
  rcases key 64 (Nat.le_refl _) with h1 | h1
  · exact absurd ⟨hs, h1⟩ h
  · exact h1
theorem read_any (s : ByteArray) (w : World) : Calls Try.prog 14 #[.string s] w fun e w' => e = .returned (.tuple #[.agg (bvs (readO s).1).toArray, .int .i64 ((readO s).2 : Nat)]) ∧ Below w.heap.size w w' := by
  by_cases h : goodR s
  · rw [readO_ok h]; exact read_ok s w h.1 h.2
  · rw [readO_no h]
    by_cases hs : s.size = 64
    · obtain ⟨i, h1, h2, h3⟩ := first_bad hs h
      exact read_bad s i w hs h1 h2 h3
    · exact read_len s w hs
end Go.Proofs.Ythcgenlhblbjaaa
