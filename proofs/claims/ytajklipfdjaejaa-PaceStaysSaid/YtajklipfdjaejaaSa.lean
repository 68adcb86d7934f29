/-
  Plain laws: an eighth; Smooth of two finite doubles, whose difference is finite, is never outside of both.
-/
import Derived.Test.YtajklipfdjaejaaEz
namespace Go.Proofs.Ytajklipfdjaejaa
open Ieee

theorem fsub_fin {x y : Nat} (hx : rung x < inf) (hy : rung y < inf) : ∃ (neg : Bool) (mag k : Nat), fsub y x = some (wordN neg (rungN mag (k : Int))) ∧ mag * 2 ^ k = (sv y - sv x).natAbs ∧ (sv y - sv x < 0 → neg = true) ∧ (0 < sv y - sv x → neg = false) := by
  obtain ⟨m, a, hr, hm, _⟩ := read_fin2 hx
  obtain ⟨n, b, hr2, hn, _⟩ := read_fin2 hy
  obtain ⟨neg, mag, k, h1, h2, h3, h4⟩ := sum_fin (negB y) (!negB x) n m b a
  rw [hn, hm] at h2 h3 h4
  have e : signedI (negB y) (vR (rung y)) + signedI (!negB x) (vR (rung x)) = sv y - sv x := by
    rw [sv_eq, sv_eq]
    unfold signedI
    cases negB x <;> cases negB y <;> simp <;> omega
  rw [e] at h2 h3 h4
  refine ⟨neg, mag, k, ?_, h2, h3, h4⟩
  unfold fsub floatBits Format.sub
  simp only [hr, hr2, Datum.opposite, h1, Option.map_some]
  exact congrArg some (nearest_eq neg mag k)
theorem fadd_fin {x y : Nat} (hx : rung x < inf) (hy : rung y < inf) : ∃ (neg : Bool) (mag k : Nat), fadd x y = some (wordN neg (rungN mag (k : Int))) ∧ mag * 2 ^ k = (sv x + sv y).natAbs ∧ (sv x + sv y < 0 → neg = true) ∧ (0 < sv x + sv y → neg = false) := by
  obtain ⟨m, a, hr, hm, _⟩ := read_fin2 hx
  obtain ⟨n, b, hr2, hn, _⟩ := read_fin2 hy
  obtain ⟨neg, mag, k, h1, h2, h3, h4⟩ := sum_fin (negB x) (negB y) m n a b
  rw [hn, hm, ← sv_eq, ← sv_eq] at h2 h3 h4
  refine ⟨neg, mag, k, ?_, h2, h3, h4⟩
  unfold fadd floatBits Format.add
  simp only [hr, hr2, h1, Option.map_some]
  exact congrArg some (nearest_eq neg mag k)
theorem read_c8 : FloatKind.f64.format.read c8 = .number false bin (-49) := by decide
theorem bin_52 : bin = 2 ^ 52 := by decide
/-- An eighth, rounded: not above any double that is not below it. -/
theorem fdiv8_fin {d : Nat} (hd : rung d < inf) : ∃ r, r ≤ inf ∧ fdiv8 d = some (wordN (negB d) r) ∧ ∀ q, vR (rung d) ≤ 8 * vR q → r ≤ q := by
  obtain ⟨m, a, hr, hm, hlt⟩ := read_fin2 hd
  have hl : m.log2 ≤ 53 := by
    have h1 : bin + bin = 2 ^ 53 := by decide
    rw [h1] at hlt
    by_cases h0 : m = 0
    · subst h0; decide
    · have := (Nat.log2_lt h0).2 hlt; omega
  obtain ⟨u, hu⟩ : ∃ u, 106 - m.log2 = u + 52 := ⟨54 - m.log2, by omega⟩
  have e1 : m <<< (u + 52) / bin = m * 2 ^ u := by
    rw [Nat.shiftLeft_eq, Nat.pow_add, ← Nat.mul_assoc, ← bin_52, Nat.mul_div_cancel _ bin_pos]
  have e2 : m <<< (u + 52) % bin = 0 := by
    rw [Nat.shiftLeft_eq, Nat.pow_add, ← Nat.mul_assoc, ← bin_52, Nat.mul_mod_left]
  have hq : (FloatKind.f64.format.read d).quotient 54 (FloatKind.f64.format.read c8) = some (.number (negB d) (2 * (m * 2 ^ u)) (-1074 + ((a : Int) - 4 - u))) := by
    rw [hr, read_c8]
    unfold Datum.quotient
    simp only [show ¬ bin = 0 by decide, if_false]
    rw [show 54 + bin.log2 - m.log2 = u + 52 by rw [show bin.log2 = 52 by decide]; omega, e1, e2]
    simp only [Bool.xor_false, bne_self_eq_false, Bool.toNat_false, Nat.add_zero]
    congr 2
    omega
  refine ⟨rungN (2 * (m * 2 ^ u)) ((a : Int) - 4 - u), rungN_le _ _, ?_, ?_⟩
  · unfold fdiv8 floatBits Format.div
    simp only
    rw [show FloatKind.f64.format.fractionBits + 2 = 54 from rfl, hq]
    exact congrArg some (nearest_eq _ _ _)
  · intro q h
    rw [← hm] at h
    refine near_le _ _ _ ?_
    -- both sides, times 2 ^ (u + 4)
    have key : 2 * (m * 2 ^ u) * 2 ^ ((a : Int) - 4 - u).toNat * 2 ^ 3 = m * 2 ^ a * 2 ^ (-((a : Int) - 4 - u)).toNat := by
      have e : (2 : Nat) * (m * 2 ^ u) = m * 2 ^ (u + 1) := by rw [Nat.pow_succ, ← Nat.mul_assoc m, Nat.mul_comm 2]
      rw [e, Nat.mul_assoc, Nat.mul_assoc, Nat.mul_assoc, ← Nat.pow_add, ← Nat.pow_add, ← Nat.pow_add]
      congr 2
      omega
    have h2 : 2 * (m * 2 ^ u) * 2 ^ ((a : Int) - 4 - u).toNat * 2 ^ 3 ≤ vR q * 2 ^ (-((a : Int) - 4 - u)).toNat * 2 ^ 3 := by
      rw [key]
      refine Nat.le_trans (Nat.mul_le_mul_right _ h) ?_
      rw [Nat.mul_comm 8 (vR q), Nat.mul_assoc, Nat.mul_assoc, Nat.mul_comm 8]
      exact Nat.le_refl _
    exact Nat.le_of_mul_le_mul_right h2 (by decide)

/-- The double of a power of two. -/
def pwR (l : Nat) : Nat := (l - 52) * bin + 2 ^ min l 52
theorem vR_pw (l : Nat) : vR (pwR l) = 2 ^ l := by
  unfold pwR
  have h1 : 2 ^ min l 52 ≤ bin := by rw [bin_52]; exact Nat.pow_le_pow_right (by decide) (Nat.min_le_right _ _)
  rw [vR_kept _ _ (by omega) ?_, ← Nat.pow_add]
  · congr 1; omega
  · by_cases h : l ≤ 52
    · exact .inl (by omega)
    · right; rw [Nat.min_eq_right (by omega), ← bin_52]; exact Nat.le_refl _

theorem smooth_between {x y : Nat} (hx : rung x < inf) (hy : rung y < inf) (hd : ∀ d, fsub y x = some d → rung d < inf) :
    ∃ z, smO x y = some z ∧ nanB z = false ∧ (sv x ≤ sv y → sv x ≤ sv z ∧ sv z ≤ sv y) ∧ (sv y ≤ sv x → sv y ≤ sv z ∧ sv z ≤ sv x) := by
  have hnx : nanB x = false := by
    have h : ¬ nanB x = true := by rw [nanB_iff]; unfold rung at hx; omega
    simpa using h
  obtain ⟨neg, mag, k, h1, h2, h3, h4⟩ := fsub_fin hx hy
  have hwd := word_parts (neg := neg) (rungN_le mag (k : Int))
  have hdf := hd _ h1
  obtain ⟨r, hr, g1, g2⟩ := fdiv8_fin hdf
  rw [hwd.2.1] at g1
  rw [hwd.1] at g2 hdf
  have hwe := word_parts (neg := neg) hr
  -- the eighth is not above the difference
  have hle : vR r ≤ (sv y - sv x).natAbs := by
    have hk : ((k : Int)).toNat = k := Int.toNat_natCast k
    have hk2 : (-(k : Int)).toNat = 0 := by omega
    by_cases h0 : (sv y - sv x).natAbs = 0
    · have q1 := near_le mag k 0 (by rw [hk, hk2, h2, h0]; simp)
      have q2 : rungN mag (k : Int) = 0 := by omega
      rw [q2] at g2
      have q3 := g2 0 (by rw [vR_zero]; omega)
      have q4 : r = 0 := by omega
      rw [q4, vR_zero]; omega
    · have p1 : 2 ^ (sv y - sv x).natAbs.log2 ≤ (sv y - sv x).natAbs := Nat.log2_self_le h0
      have p2 : (sv y - sv x).natAbs < 2 ^ ((sv y - sv x).natAbs.log2 + 1) := Nat.lt_log2_self
      have q1 := near_le mag k (pwR ((sv y - sv x).natAbs.log2 + 1)) (by rw [hk, hk2, h2, vR_pw]; omega)
      have q2 := vR_le.2 q1
      rw [vR_pw] at q2
      have q3 := g2 (pwR (sv y - sv x).natAbs.log2) (by rw [vR_pw]; rw [Nat.pow_succ] at q2; omega)
      have q4 := vR_le.2 q3
      rw [vR_pw] at q4
      omega
  -- the eighth is finite
  have hre : r < inf := by
    have q := g2 (rungN mag (k : Int)) (by omega)
    omega
  obtain ⟨neg2, mag2, k2, i1, i2, i3, i4⟩ := fadd_fin (x := x) (y := wordN neg r) hx (by rw [hwe.1]; exact hre)
  refine ⟨wordN neg2 (rungN mag2 (k2 : Int)), ?_, (word_parts (rungN_le mag2 (k2 : Int))).2.2.1, ?_, ?_⟩
  · unfold smO
    rw [if_neg (by simp [hnx]), h1, Option.bind_some, g1, Option.bind_some, i1]
  · intro hle2
    have e : sv (wordN neg r) = signedI neg (vR r) := hwe.2.2.2.1
    have hs : 0 ≤ sv (wordN neg r) ∧ sv (wordN neg r) ≤ sv y - sv x := by
      rw [e]
      rcases Int.lt_or_le 0 (sv y - sv x) with h | h
      · rw [h4 h]; unfold signedI; simp; omega
      · have : vR r = 0 := by omega
        rw [this]; unfold signedI; cases neg <;> simp <;> omega
    have := round_bd (T := sv x + sv (wordN neg r)) i2 i3 i4 (s := negB x) (t := negB y) (r := rung x) (q := rung y) (by omega) (by omega) (by rw [← sv_eq]; omega) (by rw [← sv_eq]; omega)
    rwa [← sv_eq, ← sv_eq] at this
  · intro hle2
    have e : sv (wordN neg r) = signedI neg (vR r) := hwe.2.2.2.1
    have hs : sv (wordN neg r) ≤ 0 ∧ sv y - sv x ≤ sv (wordN neg r) := by
      rw [e]
      rcases Int.lt_or_le (sv y - sv x) 0 with h | h
      · rw [h3 h]; unfold signedI; simp; omega
      · have : vR r = 0 := by omega
        rw [this]; unfold signedI; cases neg <;> simp <;> omega
    have := round_bd (T := sv x + sv (wordN neg r)) i2 i3 i4 (s := negB y) (t := negB x) (r := rung y) (q := rung x) (by omega) (by omega) (by rw [← sv_eq]; omega) (by rw [← sv_eq]; omega)
    rwa [← sv_eq, ← sv_eq] at this
end Go.Proofs.Ytajklipfdjaejaa
