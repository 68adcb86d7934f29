/-
  Plain laws: dividing by 10, bit by bit.
-/
import Derived.Test.YtbldmenaaedffaaWo
import Derived.Laws.Bits64b
namespace Go.Proofs.Ytbldmenaaedffaa

def tpN (a n : Nat) : Nat := a / 2 ^ n
def quoN (a n : Nat) : Nat := tpN a n / 10 * 2 ^ n
def bitN (a k : Nat) : Nat := tpN a k % 2
theorem B64_pow : B64 = 2 ^ 64 := by decide
theorem bitN_lt (a k : Nat) : bitN a k < 2 := Nat.mod_lt _ (by decide)
theorem topN_step (a k : Nat) : tpN a k = 2 * tpN a (k + 1) + bitN a k := by
  unfold bitN tpN
  rw [Nat.pow_succ, ← Nat.div_div_eq_div_mul]
  omega
theorem quo_small {a k : Nat} (h : tpN a (k + 1) % 10 * 2 + bitN a k < 10) : tpN a k % 10 = tpN a (k + 1) % 10 * 2 + bitN a k ∧ quoN a k = quoN a (k + 1) := by
  have h1 := topN_step a k
  have h2 : tpN a k / 10 = 2 * (tpN a (k + 1) / 10) := by omega
  refine ⟨by omega, ?_⟩
  unfold quoN
  rw [h2, Nat.pow_succ, Nat.mul_comm 2, Nat.mul_assoc, Nat.mul_comm 2]
theorem quo_great {a k : Nat} (h : ¬ tpN a (k + 1) % 10 * 2 + bitN a k < 10) : tpN a k % 10 = tpN a (k + 1) % 10 * 2 + bitN a k - 10 ∧ quoN a k = quoN a (k + 1) + 2 ^ k := by
  have h1 := topN_step a k
  have h3 := bitN_lt a k
  have h2 : tpN a k / 10 = 2 * (tpN a (k + 1) / 10) + 1 := by omega
  refine ⟨by omega, ?_⟩
  unfold quoN
  rw [h2, Nat.add_mul, Nat.one_mul, Nat.pow_succ, Nat.mul_comm 2, Nat.mul_assoc, Nat.mul_comm 2]
theorem bit_lo {a k : Nat} (h : k < 64) : low a / 2 ^ (k % 64) % 2 = bitN a k := by
  rw [Nat.mod_eq_of_lt h]
  unfold low bitN tpN
  have e : B64 = 2 ^ k * 2 ^ (64 - k) := by rw [B64_pow, ← Nat.pow_add]; congr 1; omega
  rw [e, Nat.mod_mul_right_div_self]
  exact Nat.mod_mod_of_dvd _ (by rw [show 64 - k = (63 - k) + 1 by omega, Nat.pow_succ]; exact Nat.dvd_mul_left _ _)
theorem bit_hi {a k : Nat} (h : ¬ k < 64) (h2 : k < 128) : hiw a / 2 ^ (k % 64) % 2 = bitN a k := by
  rw [show k % 64 = k - 64 by omega]
  unfold hiw bitN tpN
  rw [Nat.div_div_eq_div_mul, B64_pow, ← Nat.pow_add, show 64 + (k - 64) = k by omega]
theorem and_one (m : Nat) (h : m < 18446744073709551616) : bits .and .u64 (m : Int) 1 = ((m % 2 : Nat) : Int) := by
  have h2 := bits_and_u64_nat m 1 h (by decide)
  rw [show m &&& 1 = m % 2 from Nat.and_two_pow_sub_one_eq_mod _ 1] at h2
  exact h2
theorem cast_div_pow (m j : Nat) : (m : Int) / 2 ^ j = ((m / 2 ^ j : Nat) : Int) := by
  rw [Int.natCast_ediv, Int.natCast_pow]; rfl
theorem and_lo {a k : Nat} (h : k < 64) : bits .and .u64 (((low a : Nat) : Int) / 2 ^ (k % 64)) 1 = ((bitN a k : Nat) : Int) := by
  rw [cast_div_pow, and_one _ (Nat.lt_of_le_of_lt (Nat.div_le_self _ _) (low_lt a)), bit_lo h]
theorem and_hi {a k : Nat} (ha : a < W128) (h : ¬ k < 64) (h2 : k < 128) : bits .and .u64 (((hiw a : Nat) : Int) / 2 ^ (k % 64)) 1 = ((bitN a k : Nat) : Int) := by
  rw [cast_div_pow, and_one _ (Nat.lt_of_le_of_lt (Nat.div_le_self _ _) (hiw_lt ha)), bit_hi h h2]
theorem pow_lt64 {j : Nat} (h : j < 64) : 2 ^ j < 18446744073709551616 := Nat.pow_lt_pow_right (by decide) h
theorem wrap_pow {j : Nat} (h : j < 64) : IntKind.u64.wrap ((2 : Int) ^ j) = ((2 ^ j : Nat) : Int) := by
  have h1 := pow_lt64 h
  have e : ((2 : Int) ^ j) = ((2 ^ j : Nat) : Int) := by rw [Int.natCast_pow]; rfl
  rw [e]
  generalize 2 ^ j = m at h1 ⊢
  rw [IntKind.wrap_u64]; omega
theorem or_pow (q j : Nat) (hq : q * 2 ^ (j + 1) < 18446744073709551616) (h : j < 64) : bits .or .u64 ((q * 2 ^ (j + 1) : Nat) : Int) (IntKind.u64.wrap ((2 : Int) ^ j)) = ((q * 2 ^ (j + 1) + 2 ^ j : Nat) : Int) := by
  rw [wrap_pow h, bits_or_u64_nat _ _ hq (pow_lt64 h)]
  have h2 := Nat.shiftLeft_add_eq_or_of_lt (i := j + 1) (b := 2 ^ j) (Nat.pow_lt_pow_right (by decide) (by omega)) q
  rw [Nat.shiftLeft_eq] at h2
  exact congrArg _ h2.symm
/-- A quotient's words, with a bit more. -/
theorem words_lo (q : Nat) {k : Nat} (h : k < 64) : ∃ p, low (q * 2 ^ (k + 1)) = p * 2 ^ (k + 1) ∧ low (q * 2 ^ (k + 1) + 2 ^ k) = p * 2 ^ (k + 1) + 2 ^ k ∧ hiw (q * 2 ^ (k + 1) + 2 ^ k) = hiw (q * 2 ^ (k + 1)) := by
  have e : B64 = 2 ^ (k + 1) * 2 ^ (63 - k) := by rw [B64_pow, ← Nat.pow_add]; congr 1; omega
  have h1 : q * 2 ^ (k + 1) % B64 = q % 2 ^ (63 - k) * 2 ^ (k + 1) := by
    rw [e, Nat.mul_comm q, Nat.mul_mod_mul_left, Nat.mul_comm]
  have h2 : q % 2 ^ (63 - k) < 2 ^ (63 - k) := Nat.mod_lt _ (Nat.two_pow_pos _)
  have h3 : q % 2 ^ (63 - k) * 2 ^ (k + 1) + 2 ^ k < B64 := by
    have h4 : (q % 2 ^ (63 - k) + 1) * 2 ^ (k + 1) ≤ 2 ^ (63 - k) * 2 ^ (k + 1) := Nat.mul_le_mul_right _ h2
    rw [Nat.add_mul, Nat.one_mul, Nat.mul_comm (2 ^ (63 - k)), ← e] at h4
    have h5 : 2 ^ k < 2 ^ (k + 1) := Nat.pow_lt_pow_right (by decide) (by omega)
    omega
  have h6 := Nat.div_add_mod (q * 2 ^ (k + 1)) B64
  rw [h1] at h6
  refine ⟨q % 2 ^ (63 - k), h1, ?_, ?_⟩
  · unfold low
    rw [← h6, Nat.add_assoc, Nat.mul_add_mod, Nat.mod_eq_of_lt h3]
  · unfold hiw
    have hb : 0 < B64 := by decide
    conv => lhs; rw [← h6, Nat.add_assoc, Nat.mul_add_div hb, Nat.div_eq_of_lt h3, Nat.add_zero]
theorem words_hi (q : Nat) {k : Nat} (h : ¬ k < 64) : hiw (q * 2 ^ (k + 1)) = q * 2 ^ (k - 64 + 1) ∧ hiw (q * 2 ^ (k + 1) + 2 ^ k) = q * 2 ^ (k - 64 + 1) + 2 ^ (k - 64) ∧ low (q * 2 ^ (k + 1) + 2 ^ k) = low (q * 2 ^ (k + 1)) := by
  have hb : 0 < B64 := by decide
  have e1 : q * 2 ^ (k + 1) = q * 2 ^ (k - 64 + 1) * B64 := by rw [B64_pow, Nat.mul_assoc, ← Nat.pow_add]; congr 2; omega
  have e2 : 2 ^ k = 2 ^ (k - 64) * B64 := by rw [B64_pow, ← Nat.pow_add]; congr 1; omega
  unfold hiw low
  rw [e1, e2, ← Nat.add_mul, Nat.mul_div_cancel _ hb, Nat.mul_div_cancel _ hb, Nat.mul_mod_left, Nat.mul_mod_left]
  exact ⟨rfl, rfl, rfl⟩
theorem quo_lo {a k : Nat} (h64 : k < 64) (h : ¬ tpN a (k + 1) % 10 * 2 + bitN a k < 10) : bits .or .u64 ((low (quoN a (k + 1)) : Nat) : Int) (IntKind.u64.wrap ((2 : Int) ^ (k % 64))) = ((low (quoN a k) : Nat) : Int) ∧ hiw (quoN a k) = hiw (quoN a (k + 1)) := by
  obtain ⟨p, p1, p2, p3⟩ := words_lo (tpN a (k + 1) / 10) h64
  have hq := (quo_great h).2
  rw [hq]
  unfold quoN
  rw [p1, p2, p3, Nat.mod_eq_of_lt h64]
  exact ⟨or_pow p k (by rw [← p1]; exact low_lt _) h64, rfl⟩
theorem quo_lt {a n : Nat} (ha : a < W128) : quoN a n < W128 := by
  unfold quoN tpN
  refine Nat.lt_of_le_of_lt ?_ ha
  exact Nat.le_trans (Nat.mul_le_mul_right _ (Nat.div_le_self _ _)) (Nat.div_mul_le_self _ _)
theorem quo_hi {a k : Nat} (ha : a < W128) (h64 : ¬ k < 64) (h128 : k < 128) (h : ¬ tpN a (k + 1) % 10 * 2 + bitN a k < 10) : bits .or .u64 ((hiw (quoN a (k + 1)) : Nat) : Int) (IntKind.u64.wrap ((2 : Int) ^ (k % 64))) = ((hiw (quoN a k) : Nat) : Int) ∧ low (quoN a k) = low (quoN a (k + 1)) := by
  obtain ⟨p1, p2, p3⟩ := words_hi (tpN a (k + 1) / 10) h64
  have hl := hiw_lt (quo_lt (n := k + 1) ha)
  have hq := (quo_great h).2
  rw [hq]
  unfold quoN at hl ⊢
  rw [p1] at hl
  rw [p1, p2, p3, show k % 64 = k - 64 by omega]
  exact ⟨or_pow _ _ hl (by omega), rfl⟩
theorem top_0 (a : Nat) : tpN a 0 = a := by unfold tpN; simp
theorem quo_0 (a : Nat) : quoN a 0 = d10 a := by unfold quoN tpN d10; simp
theorem top_128 {a : Nat} (h : a < W128) : tpN a 128 = 0 := Nat.div_eq_of_lt h
theorem quo_128 {a : Nat} (h : a < W128) : quoN a 128 = 0 := by unfold quoN; rw [top_128 h]
end Go.Proofs.Ytbldmenaaedffaa
