/-
  Plain laws: a number's digits are read as it, and stand as it does.
-/
import Derived.Test.YtbldmenaaedffaaTf
namespace Go.Proofs.Ytbldmenaaedffaa
open Go.RowKit

theorem numN_snoc' (l : List Nat) (d : Nat) : numN (l ++ [d]) = numN l * 10 + d := by
  unfold numN; rw [List.foldl_append]; rfl
/-- The digits' numbers, the highest first. -/
def decL (a : Nat) : List Nat := (revDig a).reverse.map (· - 48)
theorem decL_lt {a : Nat} (h : a < 10) : decL a = [a] := by
  unfold decL; rw [revDig_lt h]
  have : m10 a = a := by unfold m10; omega
  simp [dgt, this]
theorem decL_ge {a : Nat} (h : ¬ a < 10) : decL a = decL (d10 a) ++ [m10 a] := by
  unfold decL; rw [revDig_ge h]
  simp [dgt]
theorem num_decL (a : Nat) : numN (decL a) = a := by
  induction a using Nat.strongRecOn with
  | _ a ih =>
    by_cases h : a < 10
    · rw [decL_lt h]; simp [numN]
    · rw [decL_ge h, numN_snoc', ih _ (d10_lt h)]
      unfold d10 m10; omega
theorem decL_le (a : Nat) : ∀ d ∈ decL a, d ≤ 9 := by
  induction a using Nat.strongRecOn with
  | _ a ih =>
    intro d hd
    by_cases h : a < 10
    · rw [decL_lt h, List.mem_singleton] at hd; omega
    · rw [decL_ge h, List.mem_append, List.mem_singleton] at hd
      rcases hd with hd | rfl
      · exact ih _ (d10_lt h) d hd
      · have := m10_lt a; omega
theorem decL_ne (a : Nat) : decL a ≠ [] := by
  by_cases h : a < 10
  · rw [decL_lt h]; simp
  · rw [decL_ge h]; simp
theorem decL_head (a : Nat) (h0 : 0 < a) : ∀ d r, decL a = d :: r → 0 < d := by
  induction a using Nat.strongRecOn with
  | _ a ih =>
    intro d r hd
    by_cases h : a < 10
    · rw [decL_lt h] at hd; injection hd with h1 h2; omega
    · rw [decL_ge h] at hd
      cases hc : decL (d10 a) with
      | nil => exact absurd hc (decL_ne _)
      | cons d' r' =>
        rw [hc] at hd
        injection hd with h1 h2
        rw [← h1]
        exact ih _ (d10_lt h) (by unfold d10; omega) d' r' hc
theorem textOf_bytes (a : Nat) : (textOf a).data.toList = (decL a).map fun d => UInt8.ofNat (48 + d) := by
  unfold textOf decL
  show (revDig a).reverse.map UInt8.ofNat = _
  rw [List.map_map]
  apply List.map_congr_left
  intro c hc
  have h1 : ∃ b, c = dgt b := by
    have : ∀ a, ∀ x ∈ revDig a, ∃ b, x = dgt b := by
      intro a
      induction a using Nat.strongRecOn with
      | _ a ih =>
        intro x hx
        by_cases h : a < 10
        · rw [revDig_lt h, List.mem_singleton] at hx; exact ⟨a, hx⟩
        · rw [revDig_ge h, List.mem_cons] at hx
          rcases hx with rfl | hx
          · exact ⟨a, rfl⟩
          · exact ih _ (d10_lt h) x hx
    exact this a c (List.mem_reverse.1 hc)
  obtain ⟨b, rfl⟩ := h1
  show UInt8.ofNat (dgt b) = UInt8.ofNat (48 + (dgt b - 48))
  congr 1
  unfold dgt; omega
theorem textOf_len (a : Nat) : (textOf a).size = (decL a).length := by
  have := congrArg List.length (textOf_bytes a)
  simpa using this
theorem digs_of {s : ByteArray} {l : List Nat} (h : s.data.toList = l.map fun d => UInt8.ofNat (48 + d)) (hl : ∀ d ∈ l, d ≤ 9) : digs s = l := by
  unfold digs
  rw [h, List.map_map]
  conv => rhs; rw [← List.map_id l]
  apply List.map_congr_left
  intro d hd
  have := hl d hd
  show (UInt8.ofNat (48 + d)).toNat - 48 = d
  rw [UInt8.toNat_ofNat_of_lt' (show 48 + d < 256 by omega)]; omega
theorem digs_text (a : Nat) : digs (textOf a) = decL a := digs_of (textOf_bytes a) (decL_le a)
theorem byte_of {s : ByteArray} {l : List Nat} (h : s.data.toList = l.map fun d => UInt8.ofNat (48 + d)) (hl : ∀ d ∈ l, d ≤ 9) {k : Nat} (hk : k < s.size) : ∃ d, d ∈ l ∧ s[k].toNat = 48 + d := by
  have hk2 : k < s.data.toList.length := by simpa using hk
  have e : s.data.toList[k] = s[k]'hk := rfl
  have hm : s[k]'hk ∈ s.data.toList := by rw [← e]; exact List.getElem_mem hk2
  rw [h] at hm
  obtain ⟨d, hd, he⟩ := List.mem_map.1 hm
  have := hl d hd
  exact ⟨d, hd, by rw [← he, UInt8.toNat_ofNat_of_lt' (show 48 + d < 256 by omega)]⟩
theorem text_good (a : Nat) : ∀ j, ¬ badB (textOf a) j := by
  rintro j ⟨h, hb⟩
  obtain ⟨d, hd, he⟩ := byte_of (textOf_bytes a) (decL_le a) h
  have := decL_le a d hd
  omega
theorem text_head (a : Nat) : ∀ h : 1 < (textOf a).size, ¬ ((textOf a)[0]'(by omega)).toNat = 48 := by
  intro h he
  by_cases h10 : a < 10
  · rw [textOf_len, decL_lt h10] at h; simp at h
  · have h0 : (digs (textOf a))[0]?.getD 0 = 0 := by rw [digs_get (k := 0) (by omega), he]
    rw [digs_text] at h0
    cases hc : decL a with
    | nil => exact decL_ne a hc
    | cons d r =>
      have h1 := decL_head a (by omega) d r hc
      rw [hc] at h0
      have h0 : d = 0 := h0
      omega
theorem text_ne (a : Nat) : ¬ (textOf a).size = 0 := by
  rw [textOf_len]
  intro h
  exact decL_ne a (List.eq_nil_of_length_eq_zero h)
theorem text_39 {a : Nat} (ha : a < W128) : ¬ 39 < (textOf a).size := by
  have := revDig_39 ha
  rw [textOf_size]; omega
theorem Read_text (a : Nat) (ha : a < W128) (w : World) : Calls Try.prog 27 #[.string (textOf a)] w fun e w' => e = .returned (.tuple #[wv a, fv 0 0]) ∧ Below w.heap.size w w' := by
  have h := Read_digits (textOf a) w (text_39 ha) (text_good a) (fun w => mal_ok _ w (by have := text_39 ha; omega) (text_ne a) (text_head a) (text_good a))
  rw [digs_text, num_decL, if_pos ha] at h
  exact h

/-- Digits with no nought ahead are those of their number. -/
theorem decL_num : ∀ rs : List Nat, rs ≠ [] → (∀ d ∈ rs, d ≤ 9) → (∀ d r, rs.reverse = d :: r → r ≠ [] → 0 < d) → decL (numN rs.reverse) = rs.reverse
  | [], h, _, _ => absurd rfl h
  | [d], _, h9, _ => by
    have hd := h9 d (by simp)
    have e : numN [d].reverse = d := by simp [numN]
    rw [e, decL_lt (by omega)]; rfl
  | d :: e :: rs, _, h9, h0 => by
    have hd := h9 d (by simp)
    have ih := decL_num (e :: rs) (by simp) (fun x hx => h9 x (by simp [List.mem_cons] at hx ⊢; right; exact hx)) (by
      intro x r hx hr
      refine h0 x (r ++ [d]) ?_ (by simp)
      rw [List.reverse_cons, hx]; rfl)
    have hpos : 0 < numN (e :: rs).reverse := by
      cases hc : (e :: rs).reverse with
      | nil => simp at hc
      | cons x r =>
        have hx := h0 x (r ++ [d]) (by rw [List.reverse_cons, hc]; rfl) (by simp)
        have h1 := foldl_ge r (0 * 10 + x)
        unfold numN
        rw [List.foldl_cons]
        omega
    rw [List.reverse_cons, numN_snoc']
    have hge : ¬ numN (e :: rs).reverse * 10 + d < 10 := by omega
    rw [decL_ge hge]
    have e1 : d10 (numN (e :: rs).reverse * 10 + d) = numN (e :: rs).reverse := by unfold d10; omega
    have e2 : m10 (numN (e :: rs).reverse * 10 + d) = d := by unfold m10; omega
    rw [e1, e2, ih]
theorem text_num {s : ByteArray} (h0 : ¬ s.size = 0) (hg : ∀ j, ¬ badB s j) (hz : ∀ h : 1 < s.size, ¬ (s[0]'(by omega)).toNat = 48) : textOf (numN (digs s)) = s := by
  have h9 := digs_le hg
  have hl := digs_len s
  have hne : (digs s).reverse ≠ [] := by
    intro h
    have h' : digs s = [] := by simpa using h
    rw [h'] at hl
    exact h0 hl.symm
  have hd : decL (numN (digs s)) = digs s := by
    have h := decL_num (digs s).reverse hne (fun d hd => h9 d (List.mem_reverse.1 hd)) (by
      intro d r hdr hr
      rw [List.reverse_reverse] at hdr
      have hsz : 1 < s.size := by
        rw [← hl, hdr, List.length_cons]
        have : 0 < r.length := List.length_pos_iff.2 hr
        omega
      exact digs_head hsz (hz hsz) hg d r hdr)
    rwa [List.reverse_reverse] at h
  apply ByteArray.ext
  apply Array.toList_inj.1
  rw [textOf_bytes, hd]
  unfold digs
  rw [List.map_map]
  conv => rhs; rw [← List.map_id s.data.toList]
  apply List.map_congr_left
  intro c hc
  obtain ⟨i, hi, rfl⟩ := List.getElem_of_mem hc
  have hi2 : i < s.size := by simpa using hi
  have hb := not_bad (hg i) hi2
  have e : s.data.toList[i] = s[i]'hi2 := rfl
  show UInt8.ofNat (48 + (s.data.toList[i].toNat - 48)) = s.data.toList[i]
  rw [e, show 48 + ((s[i]'hi2).toNat - 48) = (s[i]'hi2).toNat by omega]
  exact UInt8.ofNat_toNat
end Go.Proofs.Ytbldmenaaedffaa
