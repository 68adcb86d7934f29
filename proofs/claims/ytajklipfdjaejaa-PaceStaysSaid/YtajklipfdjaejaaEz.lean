/-
  Plain laws: Smooth of two finite doubles, whose difference is finite, is never outside of both.
-/
import Derived.Test.YtajklipfdjaejaaEy
import Derived.Test.YtajklipfdjaejaaEu
namespace Go.Proofs.Ytajklipfdjaejaa
open Ieee

theorem word_parts {neg : Bool} {r : Nat} (h : r ≤ inf) : rung (wordN neg r) = r ∧ negB (wordN neg r) = neg ∧ nanB (wordN neg r) = false ∧ sv (wordN neg r) = signedI neg (vR r) ∧ wordN neg r < 18446744073709551616 := by
  have h63 : r < top63 := Nat.lt_of_le_of_lt h (by decide)
  have e1 : rung (wordN neg r) = r := by
    unfold rung wordN
    split
    · rw [Nat.add_mod_left, Nat.mod_eq_of_lt h63]
    · exact Nat.mod_eq_of_lt h63
  have e2 : negB (wordN neg r) = neg := by
    unfold negB wordN
    cases neg
    · simp only [Bool.false_eq_true, if_false]; rw [Nat.div_eq_of_lt h63]; rfl
    · simp only [if_true]; rw [Nat.add_div_left _ (by decide), Nat.div_eq_of_lt h63]; rfl
  refine ⟨e1, e2, ?_, by rw [sv_eq, e1, e2], ?_⟩
  · have h1 : ¬ nanB (wordN neg r) = true := by
      rw [nanB_iff]
      unfold rung at e1
      omega
    simpa using h1
  · unfold wordN; unfold top63 at h63 ⊢; split <;> omega
theorem read_fin2 {x : Nat} (h : rung x < inf) : ∃ m k : Nat, FloatKind.f64.format.read x = .number (negB x) m (-1074 + (k : Int)) ∧ m * 2 ^ k = vR (rung x) ∧ m < bin + bin := by
  rw [read_eq]
  unfold rung at h ⊢
  by_cases h1 : x % top63 < bin
  · rw [if_pos h1]
    exact ⟨x % top63, 0, by simp [negB], by rw [vR_lo h1]; simp, by omega⟩
  · rw [if_neg h1, if_pos h]
    exact ⟨_, _, rfl, (vR_hi h1).symm, by have := Nat.mod_lt (x % top63) bin_pos; omega⟩
theorem signedI_scale (s : Bool) (m k : Nat) : signedI s m * (2 : Int) ^ k = signedI s (m * 2 ^ k) := by
  unfold signedI
  cases s <;> simp [Int.neg_mul]

/-- A sum of two numbers. -/
theorem sum_fin (s t : Bool) (m n a b : Nat) : ∃ (neg : Bool) (mag k : Nat), (Datum.number s m (-1074 + (a : Int))).sum (.number t n (-1074 + (b : Int))) = some (.number neg mag (-1074 + (k : Int))) ∧
    mag * 2 ^ k = (signedI s (m * 2 ^ a) + signedI t (n * 2 ^ b)).natAbs ∧ (signedI s (m * 2 ^ a) + signedI t (n * 2 ^ b) < 0 → neg = true) ∧ (0 < signedI s (m * 2 ^ a) + signedI t (n * 2 ^ b) → neg = false) := by
  have hmin : min (-1074 + (a : Int)) (-1074 + (b : Int)) = -1074 + ((min a b : Nat) : Int) := by omega
  have e1 : (-1074 + (a : Int) - (-1074 + ((min a b : Nat) : Int))).toNat = a - min a b := by omega
  have e2 : (-1074 + (b : Int) - (-1074 + ((min a b : Nat) : Int))).toNat = b - min a b := by omega
  have hT : (signedI s (m * 2 ^ (a - min a b)) + signedI t (n * 2 ^ (b - min a b))) * (2 : Int) ^ min a b = signedI s (m * 2 ^ a) + signedI t (n * 2 ^ b) := by
    rw [Int.add_mul, signedI_scale, signedI_scale, Nat.mul_assoc, Nat.mul_assoc, ← Nat.pow_add, ← Nat.pow_add, Nat.sub_add_cancel (Nat.min_le_left a b), Nat.sub_add_cancel (Nat.min_le_right a b)]
  have hp : (0 : Int) < (2 : Int) ^ min a b := Int.pow_pos (by decide)
  have hS : (Datum.number s m (-1074 + (a : Int))).sum (.number t n (-1074 + (b : Int))) = some (.number (if signedI s (m * 2 ^ (a - min a b)) + signedI t (n * 2 ^ (b - min a b)) = 0 then s && t else decide (signedI s (m * 2 ^ (a - min a b)) + signedI t (n * 2 ^ (b - min a b)) < 0)) (signedI s (m * 2 ^ (a - min a b)) + signedI t (n * 2 ^ (b - min a b))).natAbs (-1074 + ((min a b : Nat) : Int))) := by
    simp only [Datum.sum, hmin, e1, e2, signed_eq]
  refine ⟨_, _, min a b, hS, ?_, ?_, ?_⟩
  · rw [← hT, Int.natAbs_mul, Int.natAbs_pow]; rfl
  · rw [← hT]
    intro h
    have h1 : signedI s (m * 2 ^ (a - min a b)) + signedI t (n * 2 ^ (b - min a b)) < 0 := by
      rcases Int.lt_or_le (signedI s (m * 2 ^ (a - min a b)) + signedI t (n * 2 ^ (b - min a b))) 0 with h2 | h2
      · exact h2
      · have := Int.mul_nonneg h2 (Int.le_of_lt hp); omega
    rw [if_neg (by omega)]; simp [h1]
  · rw [← hT]
    intro h
    have h1 : 0 < signedI s (m * 2 ^ (a - min a b)) + signedI t (n * 2 ^ (b - min a b)) := by
      rcases Int.lt_or_le 0 (signedI s (m * 2 ^ (a - min a b)) + signedI t (n * 2 ^ (b - min a b))) with h2 | h2
      · exact h2
      · have := Int.mul_nonneg (show 0 ≤ -(signedI s (m * 2 ^ (a - min a b)) + signedI t (n * 2 ^ (b - min a b))) by omega) (Int.le_of_lt hp)
        rw [Int.neg_mul] at this; omega
    rw [if_neg (by omega)]; simp; omega

/-- What is rounded lies between what it lay between. -/
theorem round_bd {neg : Bool} {mag k : Nat} {T : Int} (hm : mag * 2 ^ k = T.natAbs) (hn : T < 0 → neg = true) (hp : 0 < T → neg = false) {s t : Bool} {r q : Nat} (hr : r ≤ inf) (hq : q ≤ inf) (hlo : signedI s (vR r) ≤ T) (hhi : T ≤ signedI t (vR q)) :
    signedI s (vR r) ≤ sv (wordN neg (rungN mag (k : Int))) ∧ sv (wordN neg (rungN mag (k : Int))) ≤ signedI t (vR q) := by
  rw [(word_parts (rungN_le mag (k : Int))).2.2.2.1]
  have hk : ((k : Int)).toNat = k := Int.toNat_natCast k
  have hk2 : (-(k : Int)).toNat = 0 := by omega
  have le : ∀ r, T.natAbs ≤ vR r → vR (rungN mag (k : Int)) ≤ vR r := fun r h => vR_le.2 (near_le mag k r (by rw [hk, hk2, hm]; simpa using h))
  have ge : ∀ r, r ≤ inf → vR r ≤ T.natAbs → vR r ≤ vR (rungN mag (k : Int)) := fun r hr h => vR_le.2 (near_ge mag k r hr (by rw [hk, hk2, hm]; simpa using h))
  have z : T = 0 → vR (rungN mag (k : Int)) = 0 := by
    intro h
    have := le 0 (by rw [h]; simp)
    rw [vR_zero] at this; omega
  have ler := le r; have leq := le q; have ger := ge r hr; have geq := ge q hq
  generalize vR (rungN mag (k : Int)) = v at *
  generalize vR r = vr at *
  generalize vR q = vq at *
  unfold signedI at *
  rcases Int.lt_trichotomy T 0 with h | h | h
  · rw [hn h]; simp only [if_true]
    cases s <;> cases t <;> simp only [Bool.false_eq_true, if_false, if_true] at * <;> omega
  · have hv := z h
    subst hv
    cases s <;> cases t <;> cases neg <;> simp only [Bool.false_eq_true, if_false, if_true] at * <;> omega
  · rw [hp h]; simp only [Bool.false_eq_true, if_false]
    cases s <;> cases t <;> simp only [Bool.false_eq_true, if_false, if_true] at * <;> omega
end Go.Proofs.Ytajklipfdjaejaa
