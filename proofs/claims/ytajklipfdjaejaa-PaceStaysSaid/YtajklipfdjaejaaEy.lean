/-
  Plain laws: rounding to the nearest double keeps the order, and leaves what is a double.
-/
import Derived.Test.YtajklipfdjaejaaEt
namespace Go.Proofs.Ytajklipfdjaejaa
open Ieee

theorem cut_zero (neg : Bool) (n : Nat) : Toward.even.cut neg n 0 = n := by
  unfold Toward.cut
  simp [Nat.mod_one]
/-- What is cut off by rounding to even: between two whole numbers the nearer one. -/
theorem cut_bd (neg : Bool) (n drop : Nat) : (∀ q, q * 2 ^ drop ≤ n → q ≤ Toward.even.cut neg n drop) ∧ (∀ q, n ≤ q * 2 ^ drop → Toward.even.cut neg n drop ≤ q) := by
  have key : ∀ (g low rest : Nat) (b : Bool), 0 < g → n = g * low + rest → rest < g → (b = true → g ≤ 2 * rest) → (∀ q, q * g ≤ n → q ≤ low + b.toNat) ∧ (∀ q, n ≤ q * g → low + b.toNat ≤ q) := by
    intro g low rest b hg hn hr hb
    constructor
    · intro q hq
      have h1 : q * g < (low + 1) * g := by rw [Nat.add_mul, Nat.mul_comm low g]; omega
      have h2 := Nat.lt_of_mul_lt_mul_right h1
      omega
    · intro q hq
      cases hbb : b
      · have h1 : low * g ≤ q * g := by rw [Nat.mul_comm low g]; omega
        have h2 := Nat.le_of_mul_le_mul_right h1 hg
        simpa using h2
      · have h3 := hb hbb
        have h1 : low * g < q * g := by rw [Nat.mul_comm low g]; omega
        have h2 := Nat.lt_of_mul_lt_mul_right h1
        simp; omega
  unfold Toward.cut
  simp only [Nat.shiftLeft_eq, Nat.one_mul]
  by_cases hd : drop ≤ n.log2 + 2
  · rw [Nat.min_eq_left hd]
    refine key (2 ^ drop) (n / 2 ^ drop) (n % 2 ^ drop) _ (Nat.two_pow_pos _) (Nat.div_add_mod _ _).symm (Nat.mod_lt _ (Nat.two_pow_pos _)) ?_
    intro h
    simp only [Bool.or_eq_true, Bool.and_eq_true, decide_eq_true_eq, beq_iff_eq] at h
    omega
  · rw [Nat.min_eq_right (by omega)]
    have hlt : n < 2 ^ (n.log2 + 1) := Nat.lt_log2_self
    have hp : 2 ^ (n.log2 + 2) = 2 ^ (n.log2 + 1) * 2 := Nat.pow_succ ..
    have hn : n / 2 ^ (n.log2 + 2) = 0 := Nat.div_eq_of_lt (by omega)
    have hm : n % 2 ^ (n.log2 + 2) = n := Nat.mod_eq_of_lt (by omega)
    rw [hn, hm]
    have hb : (decide (2 ^ (n.log2 + 2) < 2 * n) || 2 ^ (n.log2 + 2) == 2 * n && 0 % 2 == 1) = false := by
      simp; omega
    rw [hb]
    simp only [Bool.toNat_false, Nat.add_zero]
    refine ⟨fun q hq => ?_, fun q _ => Nat.zero_le _⟩
    have h3 : 2 ^ (n.log2 + 1) ≤ 2 ^ drop := Nat.pow_le_pow_right (by decide) (by omega)
    rcases Nat.eq_zero_or_pos q with h | h
    · omega
    · have h4 : 1 * 2 ^ drop ≤ q * 2 ^ drop := Nat.mul_le_mul_right _ h
      omega

/-- What L and kept make is worth kept times 2^L. -/
theorem vR_kept (L k : Nat) (h1 : k ≤ bin + bin) (h2 : L = 0 ∨ bin ≤ k) : vR (L * bin + k) = k * 2 ^ L := by
  have hb : 0 < bin := bin_pos
  by_cases hk : k = bin + bin
  · subst hk
    have e : L * bin + (bin + bin) = (L + 2) * bin := by rw [Nat.add_mul]; omega
    rw [e, vR_hi (by rw [Nat.add_mul]; omega), Nat.mul_mod_left, Nat.mul_div_cancel _ hb, Nat.add_zero]
    rw [show L + 2 - 1 = L + 1 by omega, Nat.pow_succ, Nat.add_mul, Nat.mul_comm (2 ^ L) 2, ← Nat.mul_assoc, Nat.mul_comm bin 2, Nat.two_mul, Nat.add_mul]
  · by_cases hlo : k < bin
    · have hL : L = 0 := by omega
      subst hL
      rw [Nat.zero_mul, Nat.zero_add, vR_lo hlo]; simp
    · have e : L * bin + k = bin * (L + 1) + (k - bin) := by rw [Nat.mul_add, Nat.mul_comm]; omega
      rw [e, vR_hi (by rw [Nat.mul_add]; omega), Nat.mul_add_mod, Nat.mod_eq_of_lt (show k - bin < bin by omega), Nat.mul_add_div hb, Nat.div_eq_of_lt (show k - bin < bin by omega), Nat.add_zero, Nat.add_sub_cancel]
      rw [show bin + (k - bin) = k by omega]

def lastP (mag : Nat) (p : Int) : Nat := (max (p + (mag.log2 : Int) - 52) 0).toNat
def keptN (mag : Nat) (p : Int) : Nat := Toward.even.cut false (mag <<< (p - (lastP mag p : Int)).toNat) ((lastP mag p : Int) - p).toNat
def rungN (mag : Nat) (p : Int) : Nat := if mag = 0 then 0 else min (lastP mag p * bin + keptN mag p) inf
def wordN (neg : Bool) (r : Nat) : Nat := if neg = true then top63 + r else r
theorem cut_neg (neg : Bool) (n drop : Nat) : Toward.even.cut neg n drop = Toward.even.cut false n drop := rfl
theorem nearest_eq (neg : Bool) (mag : Nat) (p : Int) : FloatKind.f64.format.nearest neg mag (-1074 + p) = wordN neg (rungN mag p) := by
  unfold Format.nearest rungN
  by_cases h : mag = 0
  · rw [if_pos h, if_pos h]; rfl
  · rw [if_neg h, if_neg h]
    have hl : FloatKind.f64.format.leastPlace = -1074 := by decide
    have hf : (FloatKind.f64.format.fractionBits : Int) = 52 := rfl
    have e1 : max (-1074 + p + (mag.log2 : Int) - (FloatKind.f64.format.fractionBits : Int)) FloatKind.f64.format.leastPlace = -1074 + (lastP mag p : Int) := by
      rw [hl, hf]; unfold lastP; omega
    simp only [e1]
    rw [hl, cut_neg]
    unfold keptN
    rw [show (-1074 + p - (-1074 + (lastP mag p : Int))).toNat = (p - (lastP mag p : Int)).toNat by congr 1; omega, show (-1074 + (lastP mag p : Int) - (-1074 + p)).toNat = ((lastP mag p : Int) - p).toNat by congr 1; omega, show (-1074 + (lastP mag p : Int) - -1074).toNat = lastP mag p by omega]
    rfl
theorem rungN_le (mag : Nat) (p : Int) : rungN mag p ≤ inf := by
  unfold rungN; split
  · decide
  · exact Nat.min_le_right _ _

/-- How a number stands to a multiple of 2^L is how it stands to what is kept. -/
theorem scale_eq (mag q : Nat) (p : Int) (L : Nat) : mag * 2 ^ p.toNat * 2 ^ ((L : Int) - p).toNat = mag <<< (p - (L : Int)).toNat * (2 ^ L * 2 ^ (-p).toNat) ∧ q * 2 ^ L * 2 ^ (-p).toNat * 2 ^ ((L : Int) - p).toNat = q * 2 ^ ((L : Int) - p).toNat * (2 ^ L * 2 ^ (-p).toNat) := by
  constructor
  · rw [Nat.shiftLeft_eq, Nat.mul_assoc, Nat.mul_assoc, ← Nat.pow_add, ← Nat.pow_add, ← Nat.pow_add]
    congr 2; omega
  · simp only [Nat.mul_assoc, Nat.mul_comm, Nat.mul_left_comm]
theorem kept_bd (mag : Nat) (p : Int) : (∀ q, q * 2 ^ lastP mag p * 2 ^ (-p).toNat ≤ mag * 2 ^ p.toNat → q ≤ keptN mag p) ∧ (∀ q, mag * 2 ^ p.toNat ≤ q * 2 ^ lastP mag p * 2 ^ (-p).toNat → keptN mag p ≤ q) := by
  have hc := cut_bd false (mag <<< (p - (lastP mag p : Int)).toNat) ((lastP mag p : Int) - p).toNat
  have hpos : 0 < 2 ^ lastP mag p * 2 ^ (-p).toNat := Nat.mul_pos (Nat.two_pow_pos _) (Nat.two_pow_pos _)
  have hpos2 : 0 < 2 ^ ((lastP mag p : Int) - p).toNat := Nat.two_pow_pos _
  constructor
  · intro q h
    refine hc.1 q (Nat.le_of_mul_le_mul_right ?_ hpos)
    obtain ⟨e1, e2⟩ := scale_eq mag q p (lastP mag p)
    rw [← e1, ← e2]
    exact Nat.mul_le_mul_right _ h
  · intro q h
    refine hc.2 q (Nat.le_of_mul_le_mul_right ?_ hpos)
    obtain ⟨e1, e2⟩ := scale_eq mag q p (lastP mag p)
    rw [← e1, ← e2]
    exact Nat.mul_le_mul_right _ h
theorem kept_hi (mag : Nat) (p : Int) : keptN mag p ≤ bin + bin := by
  refine (kept_bd mag p).2 _ ?_
  have h1 : mag < 2 ^ (mag.log2 + 1) := Nat.lt_log2_self
  have h2 : bin + bin = 2 ^ 53 := by decide
  rw [h2, ← Nat.pow_add, ← Nat.pow_add]
  refine Nat.le_trans (Nat.mul_le_mul_right _ (Nat.le_of_lt h1)) ?_
  rw [← Nat.pow_add]
  refine Nat.pow_le_pow_right (by decide) ?_
  unfold lastP; omega
theorem kept_lo {mag : Nat} (p : Int) (h : mag ≠ 0) (hL : ¬ lastP mag p = 0) : bin * 2 ^ lastP mag p * 2 ^ (-p).toNat ≤ mag * 2 ^ p.toNat := by
  have h1 : 2 ^ mag.log2 ≤ mag := Nat.log2_self_le h
  have h2 : bin = 2 ^ 52 := by decide
  rw [h2, ← Nat.pow_add, ← Nat.pow_add]
  refine Nat.le_trans ?_ (Nat.mul_le_mul_right _ h1)
  rw [← Nat.pow_add]
  refine Nat.pow_le_pow_right (by decide) ?_
  unfold lastP at hL ⊢; omega
theorem kept_worth {mag : Nat} (p : Int) (h : mag ≠ 0) : vR (lastP mag p * bin + keptN mag p) = keptN mag p * 2 ^ lastP mag p := by
  refine vR_kept _ _ (kept_hi mag p) ?_
  by_cases hL : lastP mag p = 0
  · exact .inl hL
  · exact .inr ((kept_bd mag p).1 _ (kept_lo p h hL))

/-- Rounding is not above what is above. -/
theorem near_le (mag : Nat) (p : Int) (r : Nat) (h : mag * 2 ^ p.toNat ≤ vR r * 2 ^ (-p).toNat) : rungN mag p ≤ r := by
  unfold rungN
  by_cases hm : mag = 0
  · rw [if_pos hm]; omega
  · rw [if_neg hm]
    refine Nat.le_trans (Nat.min_le_left _ _) ?_
    rcases Nat.lt_or_ge r (lastP mag p * bin + keptN mag p) with hr | hr
    · exfalso
      have hw := kept_worth p hm
      have hlt := vR_mono hr
      rw [hw] at hlt
      -- what is below what is kept is below what is one less
      by_cases hk : keptN mag p = 0
      · rw [hk] at hlt; omega
      · by_cases hL : lastP mag p = 0 ∨ bin < keptN mag p
        · have h1 : vR (lastP mag p * bin + (keptN mag p - 1)) = (keptN mag p - 1) * 2 ^ lastP mag p := by
            refine vR_kept _ _ (by have := kept_hi mag p; omega) ?_
            rcases hL with h | h
            · exact .inl h
            · exact .inr (by omega)
          have h2 : vR r ≤ vR (lastP mag p * bin + (keptN mag p - 1)) := vR_le.2 (by omega)
          rw [h1] at h2
          have h3 := (kept_bd mag p).2 (keptN mag p - 1) (Nat.le_trans h (Nat.mul_le_mul_right _ h2))
          omega
        · have hlo := kept_lo p hm (fun h => hL (.inl h))
          have hb : bin ≤ keptN mag p := (kept_bd mag p).1 _ hlo
          have he : keptN mag p = bin := by
            rcases Nat.lt_or_ge bin (keptN mag p) with h | h
            · exact absurd (.inr h) hL
            · omega
          rw [he] at hlt
          have h4 : vR r * 2 ^ (-p).toNat < bin * 2 ^ lastP mag p * 2 ^ (-p).toNat := Nat.mul_lt_mul_of_pos_right hlt (Nat.two_pow_pos _)
          omega
    · exact hr
/-- Rounding is not below what is below. -/
theorem near_ge (mag : Nat) (p : Int) (r : Nat) (hr : r ≤ inf) (h : vR r * 2 ^ (-p).toNat ≤ mag * 2 ^ p.toNat) : r ≤ rungN mag p := by
  unfold rungN
  by_cases hm : mag = 0
  · rw [if_pos hm]
    subst hm
    rw [Nat.zero_mul] at h
    have h1 : vR r = 0 := by
      rcases Nat.eq_zero_or_pos (vR r) with h0 | h0
      · exact h0
      · have := Nat.mul_pos h0 (Nat.two_pow_pos (-p).toNat); omega
    have h2 : vR r ≤ vR 0 := by rw [h1]; exact Nat.zero_le _
    exact vR_le.1 h2
  · rw [if_neg hm]
    refine Nat.le_min.2 ⟨?_, hr⟩
    rcases Nat.lt_or_ge (lastP mag p * bin + keptN mag p) r with hlt | hge
    · exfalso
      have hk := kept_hi mag p
      have h1 : (keptN mag p + 1) * 2 ^ lastP mag p ≤ vR (lastP mag p * bin + keptN mag p + 1) := by
        by_cases h2 : keptN mag p < bin + bin
        · have h3 : lastP mag p = 0 ∨ bin ≤ keptN mag p + 1 := by
            by_cases hL : lastP mag p = 0
            · exact .inl hL
            · exact .inr (by have := (kept_bd mag p).1 _ (kept_lo p hm hL); omega)
          rw [Nat.add_assoc, vR_kept _ _ (by omega) h3]; exact Nat.le_refl _
        · have he : keptN mag p = bin + bin := by omega
          have e1 : lastP mag p * bin + keptN mag p + 1 = (lastP mag p + 1) * bin + (bin + 1) := by rw [he, Nat.add_mul]; omega
          rw [e1, vR_kept _ _ (by have := bin_pos; omega) (.inr (by omega)), he, Nat.pow_succ, Nat.mul_comm (2 ^ lastP mag p) 2, ← Nat.mul_assoc]
          exact Nat.mul_le_mul_right _ (by omega)
      have h2 : vR (lastP mag p * bin + keptN mag p + 1) ≤ vR r := vR_le.2 hlt
      have h3 := (kept_bd mag p).1 (keptN mag p + 1) (Nat.le_trans (Nat.mul_le_mul_right _ (Nat.le_trans h1 h2)) h)
      omega
    · exact hge
end Go.Proofs.Ytajklipfdjaejaa
