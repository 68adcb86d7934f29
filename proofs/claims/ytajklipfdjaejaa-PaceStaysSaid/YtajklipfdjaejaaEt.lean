/-
  Plain laws: what a double is worth, and that the order of paces is that of whole numbers.
-/
import Derived.Test.YtajklipfdjaejaaEe
namespace Go.Proofs.Ytajklipfdjaejaa
open Ieee

/-- What a rung is worth, in units of the least number. -/
def vR (r : Nat) : Nat := if r < bin then r else (bin + r % bin) * 2 ^ (r / bin - 1)
theorem bin_pos : 0 < bin := by decide
theorem vR_lo {r : Nat} (h : r < bin) : vR r = r := by unfold vR; rw [if_pos h]
theorem vR_hi {r : Nat} (h : ¬ r < bin) : vR r = (bin + r % bin) * 2 ^ (r / bin - 1) := by unfold vR; rw [if_neg h]
theorem vR_ge {r : Nat} (h : ¬ r < bin) : bin * 2 ^ (r / bin - 1) ≤ vR r := by
  rw [vR_hi h]; exact Nat.mul_le_mul_right _ (by omega)
theorem vR_lt {r : Nat} (h : ¬ r < bin) : vR r < bin * 2 ^ (r / bin) := by
  have h1 : 0 < r / bin := Nat.div_pos (by omega) bin_pos
  obtain ⟨q, hq⟩ : ∃ q, r / bin = q + 1 := ⟨r / bin - 1, by omega⟩
  rw [vR_hi h, hq, Nat.add_sub_cancel, Nat.pow_succ]
  have h2 : r % bin < bin := Nat.mod_lt _ bin_pos
  have h3 : (bin + r % bin) * 2 ^ q < (bin + bin) * 2 ^ q := Nat.mul_lt_mul_of_pos_right (by omega) (Nat.two_pow_pos _)
  have h4 : (bin + bin) * 2 ^ q = bin * (2 ^ q * 2) := by rw [← Nat.two_mul, Nat.mul_comm 2 bin, Nat.mul_assoc, Nat.mul_comm 2]
  omega
theorem vR_mono {r s : Nat} (h : r < s) : vR r < vR s := by
  by_cases hs : s < bin
  · rw [vR_lo hs, vR_lo (by omega)]; exact h
  · by_cases hr : r < bin
    · rw [vR_lo hr]
      have h1 := vR_ge hs
      have h2 : bin * 1 ≤ bin * 2 ^ (s / bin - 1) := Nat.mul_le_mul_left _ (Nat.two_pow_pos _)
      omega
    · have hq : r / bin ≤ s / bin := Nat.div_le_div_right (by omega)
      by_cases he : r / bin = s / bin
      · rw [vR_hi hr, vR_hi hs, he]
        have e1 := Nat.div_add_mod r bin
        have e2 := Nat.div_add_mod s bin
        rw [he] at e1
        exact Nat.mul_lt_mul_of_pos_right (by omega) (Nat.two_pow_pos _)
      · have h1 := vR_lt hr
        have h2 := vR_ge hs
        have h3 : bin * 2 ^ (r / bin) ≤ bin * 2 ^ (s / bin - 1) := Nat.mul_le_mul_left _ (Nat.pow_le_pow_right (by decide) (by omega))
        omega
theorem vR_le {r s : Nat} : vR r ≤ vR s ↔ r ≤ s := by
  constructor
  · intro h
    rcases Nat.lt_or_ge s r with h1 | h1
    · have := vR_mono h1; omega
    · exact h1
  · intro h
    rcases Nat.lt_or_ge r s with h1 | h1
    · have := vR_mono h1; omega
    · have : r = s := by omega
      subst this; exact Nat.le_refl _
theorem vR_lt_iff {r s : Nat} : vR r < vR s ↔ r < s := by
  rw [← Nat.not_le, ← Nat.not_le, vR_le]

def rung (x : Nat) : Nat := x % top63
def negB (x : Nat) : Bool := x / top63 % 2 == 1
/-- What a double that is no NaN is worth. -/
def sv (x : Nat) : Int := if negB x = true then -(vR (rung x) : Int) else (vR (rung x) : Int)
def signedI (s : Bool) (v : Nat) : Int := if s = true then -(v : Int) else (v : Int)
theorem sv_eq (x : Nat) : sv x = signedI (negB x) (vR (rung x)) := rfl

/-- A finite number as it is read. -/
theorem read_fin {x : Nat} (h : rung x < inf) : ∃ m k : Nat, FloatKind.f64.format.read x = .number (negB x) m (-1074 + (k : Int)) ∧ m * 2 ^ k = vR (rung x) := by
  rw [read_eq]
  unfold rung at h ⊢
  by_cases h1 : x % top63 < bin
  · rw [if_pos h1]
    exact ⟨x % top63, 0, by simp [negB], by rw [vR_lo h1]; simp⟩
  · rw [if_neg h1, if_pos h]
    exact ⟨_, _, rfl, (vR_hi h1).symm⟩
theorem read_inf {x : Nat} (h : rung x = inf) : FloatKind.f64.format.read x = .infinity (negB x) := by
  rw [read_eq]
  unfold rung at h
  rw [if_neg (by rw [h]; decide), if_neg (by rw [h]; decide), if_pos h]
  rfl
theorem no_nan {x : Nat} (h : nanB x = false) : rung x ≤ inf := by
  have h1 : ¬ nanB x = true := by simp [h]
  rw [nanB_iff] at h1
  unfold rung; omega
theorem shl_pow (m k : Nat) : m <<< k = m * 2 ^ k := Nat.shiftLeft_eq m k
theorem signed_eq (s : Bool) (m k : Nat) : Ieee.signed s m k = signedI s (m * 2 ^ k) := by
  unfold Ieee.signed signedI
  rw [shl_pow]
theorem compare_int (a b : Int) : compare a b = if a < b then .lt else if a = b then .eq else .gt := rfl
theorem cmp_lt {a b : Int} (h : a < b) : compare a b = .lt := by rw [compare_int, if_pos h]
theorem cmp_gt {a b : Int} (h : b < a) : compare a b = .gt := by rw [compare_int, if_neg (by omega), if_neg (by omega)]
theorem sI_t (v : Nat) : signedI true v = -(v : Int) := rfl
theorem sI_f (v : Nat) : signedI false v = (v : Int) := rfl
theorem compare_scale (s t : Bool) (u v c : Nat) (hc : 0 < c) : compare (signedI s (u * c)) (signedI t (v * c)) = compare (signedI s u) (signedI t v) := by
  have e : ∀ (s : Bool) (u : Nat), signedI s (u * c) = signedI s u * (c : Int) := by
    intro s u
    unfold signedI
    cases s <;> simp [Int.neg_mul]
  rw [e, e, compare_int, compare_int]
  have hc' : (0 : Int) < c := by omega
  have h1 : signedI s u * (c : Int) < signedI t v * (c : Int) ↔ signedI s u < signedI t v := by
    constructor
    · intro h; exact Int.lt_of_mul_lt_mul_right h (by omega)
    · intro h; exact Int.mul_lt_mul_of_pos_right h hc'
  have h2 : signedI s u * (c : Int) = signedI t v * (c : Int) ↔ signedI s u = signedI t v := by
    constructor
    · intro h; exact Int.eq_of_mul_eq_mul_right (by omega) h
    · intro h; rw [h]
  simp only [h1, h2]
theorem order_fin {s t : Bool} {m n a b : Nat} : (Datum.number s m (-1074 + (a : Int))).order (.number t n (-1074 + (b : Int))) = some (compare (signedI s (m * 2 ^ a)) (signedI t (n * 2 ^ b))) := by
  have hmin : min (-1074 + (a : Int)) (-1074 + (b : Int)) = -1074 + ((min a b : Nat) : Int) := by omega
  simp only [Datum.order, hmin]
  have e1 : (-1074 + (a : Int) - (-1074 + ((min a b : Nat) : Int))).toNat = a - min a b := by omega
  have e2 : (-1074 + (b : Int) - (-1074 + ((min a b : Nat) : Int))).toNat = b - min a b := by omega
  rw [e1, e2, signed_eq, signed_eq, ← compare_scale s t _ _ (2 ^ min a b) (Nat.two_pow_pos _), Nat.mul_assoc, Nat.mul_assoc, ← Nat.pow_add, ← Nat.pow_add, Nat.sub_add_cancel (Nat.min_le_left a b), Nat.sub_add_cancel (Nat.min_le_right a b)]
theorem signedI_bd {v V : Nat} (h : v < V) (s : Bool) : -(V : Int) < signedI s v ∧ signedI s v < (V : Int) := by
  unfold signedI; split <;> omega
theorem fo_sv {x y : Nat} (hx : nanB x = false) (hy : nanB y = false) : fo x y = some (compare (sv x) (sv y)) := by
  have h1 := no_nan hx
  have h2 := no_nan hy
  unfold fo Format.order
  by_cases e1 : rung x = inf
  · rw [read_inf e1, sv_eq x, e1]
    by_cases e2 : rung y = inf
    · rw [read_inf e2, sv_eq y, e2]
      cases negB x <;> cases negB y <;> decide +kernel
    · obtain ⟨n, b, hr, hn⟩ := read_fin (x := y) (by omega)
      have hb := signedI_bd (vR_mono (show rung y < inf by omega)) (negB y)
      rw [hr, sv_eq y]
      simp only [Datum.order]
      cases hs : negB x
      · rw [cmp_gt (by rw [sI_f]; exact hb.2)]; rfl
      · rw [cmp_lt (by rw [sI_t]; exact hb.1)]; rfl
  · obtain ⟨m, a, hr, hm⟩ := read_fin (x := x) (by omega)
    rw [hr, sv_eq x]
    by_cases e2 : rung y = inf
    · have hb := signedI_bd (vR_mono (show rung x < inf by omega)) (negB x)
      rw [read_inf e2, sv_eq y, e2]
      simp only [Datum.order]
      cases hs : negB y
      · rw [cmp_lt (by rw [sI_f]; exact hb.2)]; rfl
      · rw [cmp_gt (by rw [sI_t]; exact hb.1)]; rfl
    · obtain ⟨n, b, hr2, hn⟩ := read_fin (x := y) (by omega)
      rw [hr2, order_fin, hm, hn, sv_eq y]
end Go.Proofs.Ytajklipfdjaejaa
