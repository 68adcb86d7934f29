/-
  Plain laws: of two numbers the greater one has the longer text, or the one that stands behind.
-/
import Derived.Test.YtbldmenaaedffaaBa
namespace Go.Proofs.Ytbldmenaaedffaa
open Go.RowKit

theorem foldl_lin (l : List Nat) : ∀ n, l.foldl (fun n d => n * 10 + d) n = n * 10 ^ l.length + numN l := by
  unfold numN
  induction l with
  | nil => intro n; simp
  | cons d l ih =>
    intro n
    rw [List.foldl_cons, List.foldl_cons, ih, ih (0 * 10 + d), List.length_cons, Nat.pow_succ, Nat.add_mul, Nat.add_mul, Nat.zero_mul, Nat.zero_add, Nat.mul_comm (10 ^ l.length), ← Nat.mul_assoc, Nat.add_assoc]
theorem numN_cons (d : Nat) (l : List Nat) : numN (d :: l) = d * 10 ^ l.length + numN l := by
  have h := foldl_lin l (0 * 10 + d)
  unfold numN at *
  rw [List.foldl_cons, h, Nat.zero_mul, Nat.zero_add]
theorem numN_lt (l : List Nat) (h : ∀ d ∈ l, d ≤ 9) : numN l < 10 ^ l.length := by
  induction l with
  | nil => simp [numN]
  | cons d l ih =>
    have h1 := ih fun x hx => h x (by simp [hx])
    have h2 := h d (by simp)
    rw [numN_cons, List.length_cons, Nat.pow_succ]
    have h3 : d * 10 ^ l.length ≤ 9 * 10 ^ l.length := Nat.mul_le_mul_right _ h2
    omega
theorem len_lt {a b : Nat} (h : (decL a).length < (decL b).length) : a < b := by
  have h1 := numN_lt _ (decL_le a)
  rw [num_decL] at h1
  have hb : ¬ b < 10 := by
    intro hb
    rw [decL_lt hb, List.length_singleton] at h
    have : 0 < (decL a).length := List.length_pos_iff.2 (decL_ne a)
    omega
  cases hc : decL b with
  | nil => exact absurd hc (decL_ne b)
  | cons d r =>
    have hd := decL_head b (by omega) d r hc
    have h2 := num_decL b
    rw [hc, numN_cons] at h2
    rw [hc, List.length_cons] at h
    have h3 : 10 ^ (decL a).length ≤ 10 ^ r.length := Nat.pow_le_pow_right (by decide) (by omega)
    have h4 : 1 * 10 ^ r.length ≤ d * 10 ^ r.length := Nat.mul_le_mul_right _ hd
    omega
theorem byte_lt {d e : Nat} (hd : d ≤ 9) (he : e ≤ 9) : (UInt8.ofNat (48 + d) < UInt8.ofNat (48 + e)) ↔ d < e := by
  rw [UInt8.lt_iff_toNat_lt, UInt8.toNat_ofNat_of_lt' (show 48 + d < 256 by omega), UInt8.toNat_ofNat_of_lt' (show 48 + e < 256 by omega)]; omega
theorem byte_eq {d e : Nat} (hd : d ≤ 9) (he : e ≤ 9) : (UInt8.ofNat (48 + d) == UInt8.ofNat (48 + e)) = true ↔ d = e := by
  rw [beq_iff_eq]
  constructor
  · intro h
    have := congrArg UInt8.toNat h
    rw [UInt8.toNat_ofNat_of_lt' (show 48 + d < 256 by omega), UInt8.toNat_ofNat_of_lt' (show 48 + e < 256 by omega)] at this
    omega
  · rintro rfl; rfl
theorem less_num : ∀ l m : List Nat, l.length = m.length → (∀ d ∈ l, d ≤ 9) → (∀ d ∈ m, d ≤ 9) → (Op.bytesLess (l.map fun d => UInt8.ofNat (48 + d)) (m.map fun d => UInt8.ofNat (48 + d)) = true ↔ numN l < numN m)
  | [], [], _, _, _ => by simp [Op.bytesLess, numN]
  | [], _ :: _, h, _, _ => by simp at h
  | _ :: _, [], h, _, _ => by simp at h
  | d :: l, e :: m, h, hl, hm => by
    have hd := hl d (by simp)
    have he := hm e (by simp)
    have h' : l.length = m.length := by simpa using h
    have ih := less_num l m h' (fun x hx => hl x (by simp [hx])) (fun x hx => hm x (by simp [hx]))
    have b1 := numN_lt l (fun x hx => hl x (by simp [hx]))
    have b2 := numN_lt m (fun x hx => hm x (by simp [hx]))
    rw [numN_cons, numN_cons, List.map_cons, List.map_cons, Op.bytesLess, h']
    rw [h'] at b1
    simp only [Bool.or_eq_true, Bool.and_eq_true, decide_eq_true_eq, byte_lt hd he, byte_eq hd he, ih]
    generalize 10 ^ m.length = P at *
    rcases Nat.lt_trichotomy d e with hde | hde | hde
    · have : (d + 1) * P ≤ e * P := Nat.mul_le_mul_right _ hde
      rw [Nat.add_mul] at this
      constructor
      · intro _; omega
      · intro _; exact .inl hde
    · subst hde
      constructor
      · rintro (h | ⟨_, h⟩) <;> omega
      · intro h; exact .inr ⟨rfl, by omega⟩
    · have : (e + 1) * P ≤ d * P := Nat.mul_le_mul_right _ hde
      rw [Nat.add_mul] at this
      constructor
      · rintro (h | ⟨h, _⟩) <;> omega
      · intro _; omega
theorem toList_data (s : ByteArray) : s.toList = s.data.toList := ByteArray.toList_eq s
/-- How the texts of two numbers stand. -/
theorem text_lt {a b : Nat} (h : a < b) : (textOf a).size < (textOf b).size ∨ ((textOf a).size = (textOf b).size ∧ Op.bytesLess (textOf a).toList (textOf b).toList = true) := by
  rw [textOf_len, textOf_len, toList_data, toList_data, textOf_bytes, textOf_bytes]
  rcases Nat.lt_trichotomy (decL a).length (decL b).length with h1 | h1 | h1
  · exact .inl h1
  · exact .inr ⟨h1, (less_num _ _ h1 (decL_le a) (decL_le b)).2 (by rw [num_decL, num_decL]; exact h)⟩
  · have := len_lt h1; omega
theorem text_gt {a b : Nat} (h : b < a) : ((textOf b).size < (textOf a).size) ∨ ((textOf a).size = (textOf b).size ∧ Op.bytesLess (textOf a).toList (textOf b).toList = false) := by
  rcases text_lt h with h1 | ⟨h1, _⟩
  · exact .inl h1
  · refine .inr ⟨h1.symm, ?_⟩
    rw [textOf_len, textOf_len] at h1
    rw [toList_data, toList_data, textOf_bytes, textOf_bytes]
    have hl := less_num (decL a) (decL b) h1.symm (decL_le a) (decL_le b)
    rw [num_decL, num_decL] at hl
    cases hc : Op.bytesLess ((decL a).map fun d => UInt8.ofNat (48 + d)) ((decL b).map fun d => UInt8.ofNat (48 + d))
    · rfl
    · have := hl.1 hc; omega
theorem text_inj {a b : Nat} (h : (textOf a).toList = (textOf b).toList) : a = b := by
  rw [toList_data, toList_data] at h
  have h1 : digs (textOf a) = digs (textOf b) := by unfold digs; rw [h]
  rw [digs_text, digs_text] at h1
  rw [← num_decL a, h1, num_decL]
end Go.Proofs.Ytbldmenaaedffaa
