/-
  Plain: what is read is what is written.
-/
import Derived.Test.YtlfmmmlheloloaaKa
namespace Go.Proofs.Ytlfmmmlheloloaa
open Go.RowKit Go.Lib Go.Maps

theorem getD_lt {L : List Nat} (h : ∀ x ∈ L, x < 256) (i : Nat) : L.getD i 0 < 256 := by
  rw [List.getD_eq_getElem?_getD]
  cases hi : L[i]? with
  | none => show 0 < 256; decide
  | some x => exact h x (List.mem_of_getElem? hi)
theorem valL_dig {L : List Nat} (h : ∀ x ∈ L, x < 256) : ∀ k, k ≤ L.length → ∀ i, i < k → valL (L.take k) / 256 ^ i % 256 = L.getD (k - 1 - i) 0 := by
  intro k
  induction k with
  | zero => intro _ i hi; omega
  | succ k ih =>
    intro hk i hi
    rw [valL_step (by omega)]
    have hd := getD_lt h k
    cases i with
    | zero =>
      rw [Nat.pow_zero, Nat.div_one, show k + 1 - 1 - 0 = k by omega]
      omega
    | succ i =>
      rw [Nat.pow_succ', ← Nat.div_div_eq_div_mul, show (valL (L.take k) * 256 + L.getD k 0) / 256 = valL (L.take k) by omega, ih (by omega) i (by omega)]
      congr 1
      omega
theorem valL_digit {L : List Nat} (h : ∀ x ∈ L, x < 256) (i : Nat) (hi : i < L.length) : valL L / 256 ^ i % 256 = L.getD (L.length - 1 - i) 0 := by
  have q := valL_dig h L.length (Nat.le_refl _) i hi
  rw [List.take_length] at q
  exact q
theorem getD_some {L : List Nat} {j : Nat} (h : j < L.length) : L[j]? = some (L.getD j 0) := by
  rw [List.getD_eq_getElem?_getD, List.getElem?_eq_getElem h]; rfl
theorem wordB_back {L : List Nat} (h : ∀ x ∈ L, x < 256) (h8 : L.length = 8) : wordB (valL L) = L := by
  apply List.ext_getElem?
  intro j
  by_cases hj : j < 8
  · refine Eq.trans ?_ (getD_some (L := L) (by omega)).symm
    unfold wordB formW
    simp only [List.getElem?_map, List.getElem?_range hj, Option.map_some]
    rw [if_pos (by omega), valL_digit h (7 - j) (by omega)]
    congr 2
    omega
  · rw [List.getElem?_eq_none (by rw [wordB_len]; omega), List.getElem?_eq_none (by omega)]
theorem numB_back {D : List Nat} (h : ∀ x ∈ D, x < 256) (h8 : D.length ≤ 8) : numB (valL D) D.length = D.length :: D := by
  apply List.ext_getElem?
  intro j
  by_cases hj : j < D.length + 1
  · unfold numB numF
    rw [List.getElem?_drop]
    cases j with
    | zero =>
      rw [Nat.add_zero, List.getElem?_set_self (by rw [formL_len]; omega)]
      rfl
    | succ j =>
      rw [List.getElem?_set_ne (by omega), List.getElem?_cons_succ]
      refine Eq.trans ?_ (getD_some (L := D) (by omega)).symm
      unfold formL
      simp only [List.getElem?_map, List.getElem?_range (show 8 - D.length + (j + 1) < 9 by omega), Option.map_some]
      rw [if_pos (by omega), show 8 - (8 - D.length + (j + 1)) = D.length - 1 - j by omega, valL_digit h (D.length - 1 - j) (by omega)]
      congr 2
      omega
  · rw [List.getElem?_eq_none (by rw [numB_len _ h8]; omega), List.getElem?_eq_none (by rw [List.length_cons]; omega)]
theorem digs_back {D : List Nat} (h : ∀ x ∈ D, x < 256) (h8 : D.length ≤ 8) (hb : ¬ badN D) : Digs (valL D) D.length ∧ valL D < 9223372036854775808 := by
  unfold badN at hb
  refine ⟨⟨valL_lt h, fun h0 => ?_, h8⟩, by omega⟩
  have q := valL_digit h (D.length - 1) (by omega)
  rw [show D.length - 1 - (D.length - 1) = 0 by omega] at q
  have h1 : D.getD 0 0 ≠ 0 := by omega
  rcases Nat.lt_or_ge (valL D) (256 ^ (D.length - 1)) with h2 | h2
  · rw [Nat.div_eq_of_lt h2] at q
    omega
  · exact h2
theorem pNum_form {R : List Nat} {v n : Nat} (hb : ∀ x ∈ R, x < 256) (h : pNum R = .ok v n) : ∃ dk, Digs v dk ∧ numB v dk = R.take n ∧ n = dk + 1 ∧ n ≤ R.length ∧ v < 9223372036854775808 := by
  cases R with
  | nil => cases h
  | cons k R =>
    rw [pNum_cons] at h
    split at h
    · cases h
    split at h
    · cases h
    split at h
    · cases h
    rename_i h8 hl hbad
    cases h
    have hD : ∀ x ∈ R.take k, x < 256 := fun x hx => hb x (List.mem_cons_of_mem _ (List.mem_of_mem_take hx))
    have hlen : (R.take k).length = k := by rw [List.length_take]; omega
    have h1 := digs_back hD (by omega) hbad
    have h2 := numB_back hD (by omega)
    rw [hlen] at h1 h2
    exact ⟨k, h1.1, by rw [h2]; rfl, rfl, by rw [List.length_cons]; omega, h1.2⟩
theorem pText_form {R T : List Nat} {n : Nat} {most : Int} (hb : ∀ x ∈ R, x < 256) (h : pText R most = .ok T n) : ∃ dk, Digs T.length dk ∧ numB T.length dk ++ T = R.take n ∧ n = dk + 1 + T.length ∧ n ≤ R.length := by
  unfold pText pLen at h
  cases hn : pNum R with
  | er x => rw [hn] at h; cases h
  | ok v n' =>
    rw [hn] at h
    simp only at h
    split at h
    · cases h
    rename_i hq
    split at hq
    · cases hq
    cases hq
    split at h
    · cases h
    cases h
    obtain ⟨dk, h1, h2, h3, h4, h5⟩ := pNum_form hb hn
    have hlen : ((R.drop n').take v).length = v := by rw [List.length_take, List.length_drop]; omega
    rw [hlen]
    exact ⟨dk, h1, by rw [h2, List.take_add], by omega, by omega⟩
theorem pWord_form {R : List Nat} {v n : Nat} (hb : ∀ x ∈ R, x < 256) (h : pWord R = .ok v n) : wordB v = R.take n ∧ n = 8 ∧ n ≤ R.length ∧ v < 18446744073709551616 := by
  unfold pWord at h
  split at h
  · cases h
  cases h
  have hD : ∀ x ∈ R.take 8, x < 256 := fun x hx => hb x (List.mem_of_mem_take hx)
  have hlen : (R.take 8).length = 8 := by rw [List.length_take]; omega
  exact ⟨wordB_back hD hlen, rfl, by omega, valL_word hD (by omega)⟩
theorem pPace_form {R : List Nat} {v n : Nat} (hb : ∀ x ∈ R, x < 256) (h : pPace R = .ok v n) : wordB (formN v) = R.take n ∧ formN v = v ∧ n = 8 ∧ n ≤ R.length ∧ v < 18446744073709551616 := by
  unfold pPace at h
  split at h
  · cases h
  split at h
  · rename_i hf
    cases h
    have hD : ∀ x ∈ R.take 8, x < 256 := fun x hx => hb x (List.mem_of_mem_take hx)
    have hlen : (R.take 8).length = 8 := by rw [List.length_take]; omega
    exact ⟨by rw [hf]; exact wordB_back hD hlen, hf, rfl, by omega, valL_word hD (by omega)⟩
  · cases h
theorem pBool_form {R : List Nat} {v : Bool} {n : Nat} (h : pBool R = .ok v n) : [bN v] = R.take n ∧ n = 1 ∧ n ≤ R.length := by
  cases R with
  | nil => cases h
  | cons x R =>
    rw [pBool_cons] at h
    split at h
    · cases h
    cases h
    refine ⟨?_, rfl, by rw [List.length_cons]; omega⟩
    rcases (show x = 0 ∨ x = 1 by omega) with rfl | rfl <;> rfl
end Go.Proofs.Ytlfmmmlheloloaa
