/-
  Plain laws: the order of paces is that of whole numbers, its keys.
-/
import Derived.Test.YtajklipfdjaejaaEt
namespace Go.Proofs.Ytajklipfdjaejaa

def keyN (x : Nat) : Int := if nanB x = true then (top63 : Int) else if negB x = true then -(rung x : Int) - 1 else (rung x : Int)
def sgnI (a b : Int) : Int := if a < b then -1 else if b < a then 1 else 0
theorem rung_lt (x : Nat) : rung x < top63 := Nat.mod_lt _ (by decide)
theorem parts {x : Nat} (h : x < 18446744073709551616) : (negB x = true ∧ x = top63 + rung x ∧ sgN x = 1) ∨ (negB x = false ∧ x = rung x ∧ sgN x = 0) := by
  unfold negB rung sgN
  rcases top_cases h with h1 | h1
  · right
    refine ⟨by rw [h1]; rfl, ?_, by rw [h1]; rfl⟩
    unfold top63 at *; omega
  · left
    refine ⟨by rw [h1]; rfl, ?_, by rw [h1]; rfl⟩
    unfold top63 at *; omega
theorem vR_zero : vR 0 = 0 := by decide
theorem vR_pos {r : Nat} (h : ¬ r = 0) : 0 < vR r := by
  have := vR_mono (show 0 < r by omega)
  omega
theorem beq_ord (o : Ordering) (r : Ordering) : ((some o == some r) = true) ↔ o = r := by cases o <;> cases r <;> decide
theorem lt_sv {x y : Nat} (hx : nanB x = false) (hy : nanB y = false) : ltB x y = true ↔ sv x < sv y := by
  unfold ltB
  rw [fo_sv hx hy, beq_ord, compare_int]
  split
  · simp_all
  · split <;> simp_all
theorem gt_sv {x y : Nat} (hx : nanB x = false) (hy : nanB y = false) : gtB x y = true ↔ sv y < sv x := by
  unfold gtB
  rw [fo_sv hx hy, beq_ord, compare_int]
  split
  · simp; omega
  · split
    · simp; omega
    · simp; omega
theorem cmp_key (x y : Nat) (hx : x < 18446744073709551616) (hy : y < 18446744073709551616) : cmpN x y = sgnI (keyN x) (keyN y) := by
  rw [cmpN_ref x y hx hy]
  unfold refCmpN keyN sgnI
  have rx := rung_lt x
  have ry := rung_lt y
  cases hnx : nanB x <;> cases hny : nanB y
  · simp only [Bool.false_eq_true, if_false, or_self]
    simp only [lt_sv hnx hny, gt_sv hnx hny]
    unfold sv
    have hm := @vR_le (rung x) (rung y)
    have hm2 := @vR_le (rung y) (rung x)
    have p1 := @vR_pos (rung x)
    have p2 := @vR_pos (rung y)
    have z : ∀ r, r = 0 → vR r = 0 := fun r h => by rw [h]; exact vR_zero
    have z1 := z (rung x)
    have z2 := z (rung y)
    rcases parts hx with ⟨a1, _, a3⟩ | ⟨a1, _, a3⟩ <;> rcases parts hy with ⟨b1, _, b3⟩ | ⟨b1, _, b3⟩ <;> rw [a1, b1, a3, b3] <;> simp only [Bool.false_eq_true, if_false, if_true] <;> (split <;> (try split) <;> (try split) <;> (try split) <;> omega)
  · simp only [Bool.false_eq_true, if_false, if_true, or_true]
    unfold top63 at *
    split <;> (try split) <;> (try split) <;> omega
  · simp only [Bool.false_eq_true, if_false, if_true, true_or]
    unfold top63 at *
    split <;> (try split) <;> (try split) <;> omega
  · simp
theorem key_form (x y : Nat) (hx : x < 18446744073709551616) (hy : y < 18446744073709551616) : formN x = formN y ↔ keyN x = keyN y := by
  have rx := rung_lt x
  have ry := rung_lt y
  unfold keyN
  cases hnx : nanB x <;> cases hny : nanB y
  · rw [formN_no hnx, formN_no hny]
    rcases parts hx with ⟨a1, a2, _⟩ | ⟨a1, a2, _⟩ <;> rcases parts hy with ⟨b1, b2, _⟩ | ⟨b1, b2, _⟩ <;> rw [a1, b1] <;> simp only [Bool.false_eq_true, if_false, if_true] <;> unfold top63 at * <;> omega
  · have hne : ¬ formN x = formN y := fun h => by
      rw [formN_no hnx, formN_yes hny] at h
      rw [h] at hnx
      exact absurd hnx (by decide +kernel)
    refine ⟨fun h => absurd h hne, fun h => ?_⟩
    exfalso
    simp only [Bool.false_eq_true, if_false, if_true] at h
    unfold top63 at *
    split at h <;> omega
  · have hne : ¬ formN x = formN y := fun h => by
      rw [formN_yes hnx, formN_no hny] at h
      rw [← h] at hny
      exact absurd hny (by decide +kernel)
    refine ⟨fun h => absurd h hne, fun h => ?_⟩
    exfalso
    simp only [Bool.false_eq_true, if_false, if_true] at h
    unfold top63 at *
    split at h <;> omega
  · rw [formN_yes hnx, formN_yes hny]; simp
theorem sgn_cases (a b : Int) : (sgnI a b = -1 ∧ a < b) ∨ (sgnI a b = 0 ∧ a = b) ∨ (sgnI a b = 1 ∧ b < a) := by
  unfold sgnI
  split
  · omega
  · split <;> omega
end Go.Proofs.Ytajklipfdjaejaa
