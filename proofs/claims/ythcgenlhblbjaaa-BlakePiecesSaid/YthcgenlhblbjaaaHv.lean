/-
  Plain: texts are read as they were, no other text is; texts stand as hashes do.
-/
import Derived.Test.YthcgenlhblbjaaaHp
import Derived.Test.YthcgenlhblbjaaaHt
namespace Go.Proofs.Ythcgenlhblbjaaa
open Go.RowKit Go.Lib

theorem hexC_hexV {c : Nat} (h : hexV c < 16) : hexC (hexV c) = c := by
  unfold hexV at *
  split at h
  · rename_i h1; rw [if_pos h1]; unfold hexC; rw [if_pos (by omega)]; omega
  · rename_i h1
    split at h
    · rename_i h2; rw [if_neg h1, if_pos h2]; unfold hexC; rw [if_neg (by omega)]; omega
    · omega
theorem hexC_lt_iff {d e : Nat} (hd : d < 16) (he : e < 16) : hexC d < hexC e ↔ d < e := by
  unfold hexC; split <;> split <;> omega
theorem byteAt_toB {l : List Nat} (hl : ∀ x ∈ l, x < 256) {i : Nat} (h : i < l.length) : byteAt (toB l) i = l.getD i 0 := by
  have h1 : i < (toB l).size := by rw [toB_size]; exact h
  rw [← byteAt_eq h1, toB_get hl h1]
theorem textL_get (a : List Nat) {j : Nat} (h : j < 64) : (textL a).getD j 0 = digT a j := by
  unfold textL
  rw [List.getD_eq_getElem?_getD, List.getElem?_map, List.getElem?_range h]; rfl
theorem text_byte {a : List Nat} (ha : ∀ x ∈ a, x < 256) {j : Nat} (h : j < 64) : byteAt (textB a) j = digT a j := by
  unfold textB
  rw [byteAt_toB (fun x hx => Nat.lt_trans (textL_lt ha x hx) (by decide)) (by rw [textL_len]; exact h), textL_get a h]
theorem getD_lt {a : List Nat} (ha : ∀ x ∈ a, x < 256) (i : Nat) : a.getD i 0 < 256 := by
  rw [List.getD_eq_getElem?_getD]
  cases hi : a[i]? with
  | none => show 0 < 256; decide
  | some x => exact ha x (List.mem_of_getElem? hi)
theorem text_dg {a : List Nat} (ha : ∀ x ∈ a, x < 256) {j : Nat} (h : j < 64) : dgV (textB a) j = if j % 2 = 0 then a.getD (j / 2) 0 / 16 else a.getD (j / 2) 0 % 16 := by
  have hx := getD_lt ha (j / 2)
  unfold dgV
  rw [text_byte ha h]
  unfold digT
  split
  · exact hexV_hexC (by omega)
  · exact hexV_hexC (by omega)
theorem text_good {a : List Nat} (ha : Bytes 32 a) : goodR (textB a) := by
  refine ⟨by unfold textB; rw [toB_size, textL_len], fun j hj => ?_⟩
  have hx := getD_lt ha.2 (j / 2)
  rw [text_dg ha.2 hj]
  split <;> omega
theorem read_text {a : List Nat} (ha : Bytes 32 a) : readL (textB a) = a := by
  apply List.ext_getElem?
  intro n
  unfold readL
  rw [List.getElem?_map]
  by_cases hn : n < 32
  · have hx := getD_lt ha.2 n
    rw [List.getElem?_range hn, List.getElem?_eq_getElem (by rw [ha.1]; exact hn)]
    simp only [Option.map_some]
    rw [text_dg ha.2 (by omega), text_dg ha.2 (by omega), if_pos (by omega), if_neg (by omega), show 2 * n / 2 = n by omega, show (2 * n + 1) / 2 = n by omega]
    have e : a.getD n 0 = a[n]'(by rw [ha.1]; exact hn) := by rw [List.getD_eq_getElem?_getD, List.getElem?_eq_getElem (by rw [ha.1]; exact hn)]; rfl
    rw [e]; congr 1; omega
  · rw [List.getElem?_eq_none (by simp; omega), List.getElem?_eq_none (by rw [ha.1]; omega)]; rfl
theorem readO_text {a : List Nat} (ha : Bytes 32 a) : readO (textB a) = (a, 0) := by rw [readO_ok (text_good ha), read_text ha]
theorem readL_get (s : ByteArray) {i : Nat} (h : i < 32) : (readL s).getD i 0 = 16 * dgV s (2 * i) + dgV s (2 * i + 1) := by
  unfold readL
  rw [List.getD_eq_getElem?_getD, List.getElem?_map, List.getElem?_range h]; rfl
theorem readL_bytes {s : ByteArray} (hg : goodR s) : Bytes 32 (readL s) := by
  refine ⟨readL_len s, fun x hx => ?_⟩
  simp only [readL, List.mem_map, List.mem_range] at hx
  obtain ⟨j, hj, rfl⟩ := hx
  have h1 := hg.2 (2 * j) (by omega)
  have h2 := hg.2 (2 * j + 1) (by omega)
  omega
theorem readO_bytes (s : ByteArray) : Bytes 32 (readO s).1 := by
  by_cases h : goodR s
  · rw [readO_ok h]; exact readL_bytes h
  · rw [readO_no h]; exact ⟨rfl, by decide⟩
/-- No other text is read. -/
theorem text_read {s : ByteArray} (hg : goodR s) : textB (readL s) = s := by
  have hb := readL_bytes hg
  have hsz : (textB (readL s)).size = 64 := by unfold textB; rw [toB_size, textL_len]
  apply ByteArray.ext
  apply Array.toList_inj.1
  apply List.ext_getElem?
  intro j
  by_cases hj : j < 64
  · have h1 : j < (textB (readL s)).data.toList.length := by simpa [hsz] using hj
    have h2 : j < s.data.toList.length := by simpa [hg.1] using hj
    have e1 := text_byte hb.2 hj
    have e2 : digT (readL s) j = byteAt s j := by
      have d1 := hg.2 (2 * (j / 2)) (by omega)
      have d2 := hg.2 (2 * (j / 2) + 1) (by omega)
      unfold digT
      rw [readL_get s (by omega)]
      by_cases h : j % 2 = 0
      · rw [if_pos h, show (16 * dgV s (2 * (j / 2)) + dgV s (2 * (j / 2) + 1)) / 16 = dgV s (2 * (j / 2)) by omega, show 2 * (j / 2) = j by omega]
        exact hexC_hexV (hg.2 j hj)
      · rw [if_neg h, show (16 * dgV s (2 * (j / 2)) + dgV s (2 * (j / 2) + 1)) % 16 = dgV s (2 * (j / 2) + 1) by omega, show 2 * (j / 2) + 1 = j by omega]
        exact hexC_hexV (hg.2 j hj)
    rw [e2] at e1
    rw [List.getElem?_eq_getElem h1, List.getElem?_eq_getElem h2]
    unfold byteAt at e1
    rw [List.getD_eq_getElem?_getD, List.getD_eq_getElem?_getD, List.getElem?_eq_getElem h1, List.getElem?_eq_getElem h2] at e1
    exact congrArg some (UInt8.toNat_inj.1 e1)
  · rw [List.getElem?_eq_none (by simp [hsz]; omega), List.getElem?_eq_none (by simp [hg.1]; omega)]

/-! The order. -/
def flat (a : List Nat) : List Nat := a.flatMap fun x => [hexC (x / 16), hexC (x % 16)]
theorem flat_get : ∀ (a : List Nat) (j : Nat), j < 2 * a.length → (flat a)[j]? = some (digT a j)
  | [], j, h => absurd h (by simp)
  | x :: a, 0, _ => rfl
  | x :: a, 1, _ => rfl
  | x :: a, j + 2, h => by
    have ih := flat_get a j (by simp at h; omega)
    have e : flat (x :: a) = hexC (x / 16) :: hexC (x % 16) :: flat a := rfl
    rw [e, List.getElem?_cons_succ, List.getElem?_cons_succ, ih]
    unfold digT
    rw [show (j + 2) % 2 = j % 2 by omega, show (j + 2) / 2 = j / 2 + 1 by omega]
    rfl
theorem flat_len : ∀ a : List Nat, (flat a).length = 2 * a.length
  | [] => rfl
  | x :: a => by
    have e : flat (x :: a) = hexC (x / 16) :: hexC (x % 16) :: flat a := rfl
    rw [e]; simp [flat_len a]; omega
theorem textL_flat {a : List Nat} (ha : a.length = 32) : textL a = flat a := by
  apply List.ext_getElem?
  intro j
  by_cases hj : j < 64
  · rw [flat_get a j (by omega)]
    unfold textL
    rw [List.getElem?_map, List.getElem?_range hj]; rfl
  · rw [List.getElem?_eq_none (by rw [textL_len]; omega), List.getElem?_eq_none (by rw [flat_len]; omega)]
theorem cmpL_cons (a b : Nat) (r q : List Nat) : cmpL (a :: r) (b :: q) = if a < b then -1 else if b < a then 1 else cmpL r q := rfl
theorem cmp_flat : ∀ (a b : List Nat), (∀ x ∈ a, x < 256) → (∀ x ∈ b, x < 256) → cmpL (flat a) (flat b) = cmpL a b
  | [], [], _, _ => rfl
  | [], _ :: _, _, _ => rfl
  | _ :: _, [], _, _ => rfl
  | x :: a, y :: b, ha, hb => by
    have ih := cmp_flat a b (fun z hz => ha z (by simp [hz])) (fun z hz => hb z (by simp [hz]))
    have hx := ha x (by simp)
    have hy := hb y (by simp)
    have e1 : flat (x :: a) = hexC (x / 16) :: hexC (x % 16) :: flat a := rfl
    have e2 : flat (y :: b) = hexC (y / 16) :: hexC (y % 16) :: flat b := rfl
    rw [e1, e2]
    simp only [cmpL_cons, ih, hexC_lt_iff (show x / 16 < 16 by omega) (show y / 16 < 16 by omega), hexC_lt_iff (show y / 16 < 16 by omega) (show x / 16 < 16 by omega), hexC_lt_iff (show x % 16 < 16 by omega) (show y % 16 < 16 by omega), hexC_lt_iff (show y % 16 < 16 by omega) (show x % 16 < 16 by omega)]
    by_cases h1 : x < y
    · rw [if_pos h1]
      by_cases h2 : x / 16 < y / 16
      · rw [if_pos h2]
      · rw [if_neg h2, if_neg (by omega), if_pos (by omega)]
    · rw [if_neg h1]
      by_cases h2 : y < x
      · rw [if_pos h2, if_neg (by omega)]
        by_cases h3 : y / 16 < x / 16
        · rw [if_pos h3]
        · rw [if_neg h3, if_neg (by omega), if_pos (by omega)]
      · rw [if_neg h2, if_neg (by omega), if_neg (by omega), if_neg (by omega), if_neg (by omega)]
theorem cmp_three : ∀ a b : List Nat, cmpL a b = -1 ∨ cmpL a b = 0 ∨ cmpL a b = 1
  | [], [] => by simp [cmpL]
  | [], _ :: _ => by simp [cmpL]
  | _ :: _, [] => by simp [cmpL]
  | x :: a, y :: b => by
    have ih := cmp_three a b
    rw [cmpL_cons]
    split
    · simp
    · split
      · simp
      · exact ih
theorem cmp_neg : ∀ a b : List Nat, cmpL b a = - cmpL a b
  | [], [] => by simp [cmpL]
  | [], _ :: _ => by simp [cmpL]
  | _ :: _, [] => by simp [cmpL]
  | x :: a, y :: b => by
    have ih := cmp_neg a b
    rw [cmpL_cons, cmpL_cons, ih]
    by_cases h1 : x < y
    · have h2 : ¬ y < x := by omega
      simp [h1, h2]
    · by_cases h2 : y < x
      · simp [h1, h2]
      · simp [h1, h2]
theorem cmp_zero : ∀ a b : List Nat, cmpL a b = 0 ↔ a = b
  | [], [] => by simp [cmpL]
  | [], _ :: _ => by simp [cmpL]
  | _ :: _, [] => by simp [cmpL]
  | x :: a, y :: b => by
    have ih := cmp_zero a b
    rw [cmpL_cons]
    by_cases h1 : x < y
    · rw [if_pos h1]
      refine ⟨fun h => (by cases h), fun h => ?_⟩
      injection h with h2 _; omega
    · rw [if_neg h1]
      by_cases h2 : y < x
      · rw [if_pos h2]
        refine ⟨fun h => (by cases h), fun h => ?_⟩
        injection h with h3 _; omega
      · rw [if_neg h2, ih]
        have : x = y := by omega
        subst this; simp
theorem toB_toList (l : List Nat) : (toB l).toList = l.map UInt8.ofNat := by
  rw [toList_data]; unfold toB; simp
theorem less_cmp : ∀ (l m : List Nat), (∀ x ∈ l, x < 256) → (∀ x ∈ m, x < 256) → Op.bytesLess (l.map UInt8.ofNat) (m.map UInt8.ofNat) = decide (cmpL l m = -1)
  | [], [], _, _ => rfl
  | [], _ :: _, _, _ => rfl
  | _ :: _, [], _, _ => rfl
  | x :: l, y :: m, hl, hm => by
    have ih := less_cmp l m (fun z hz => hl z (by simp [hz])) (fun z hz => hm z (by simp [hz]))
    have hx := hl x (by simp)
    have hy := hm y (by simp)
    have h1 := ofNat_lt hx hy
    have h2 : (UInt8.ofNat x == UInt8.ofNat y) = decide (x = y) := by
      rw [Bool.eq_iff_iff, beq_iff_eq, decide_eq_true_eq, ← UInt8.toNat_inj, UInt8.toNat_ofNat_of_lt' hx, UInt8.toNat_ofNat_of_lt' hy]
    simp only [List.map_cons, Op.bytesLess, ih, h2, cmpL_cons, h1]
    by_cases h3 : x < y
    · simp [h3]
    · by_cases h4 : y < x
      · have h5 : ¬ x = y := by omega
        simp [h4, h5, h3]
      · have h5 : x = y := by omega
        subst h5
        simp
theorem text_less {a b : List Nat} (ha : Bytes 32 a) (hb : Bytes 32 b) : Op.bytesLess (textB a).toList (textB b).toList = decide (cmpL a b = -1) := by
  unfold textB
  rw [toB_toList, toB_toList, less_cmp _ _ (fun x hx => Nat.lt_trans (textL_lt ha.2 x hx) (by decide)) (fun x hx => Nat.lt_trans (textL_lt hb.2 x hx) (by decide)), textL_flat ha.1, textL_flat hb.1, cmp_flat a b ha.2 hb.2]
theorem textB_inj {a b : List Nat} (ha : Bytes 32 a) (hb : Bytes 32 b) (h : textB a = textB b) : a = b := by
  rw [← read_text ha, h, read_text hb]
theorem text_same {a b : List Nat} (ha : Bytes 32 a) (hb : Bytes 32 b) : ((textB a).toList == (textB b).toList) = decide (cmpL a b = 0) := by
  rw [Bool.eq_iff_iff, beq_iff_eq, decide_eq_true_eq, cmp_zero]
  constructor
  · intro h
    rw [toList_data, toList_data] at h
    exact textB_inj ha hb (ByteArray.ext (Array.toList_inj.1 h))
  · rintro rfl; rfl
end Go.Proofs.Ythcgenlhblbjaaa
