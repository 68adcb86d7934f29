/-
  Plain: the rows as a text; rounds, digit by digit.
-/
import Derived.Test.YtdiklimikkplcaaHe
import Derived.Laws.RangeAny
import Derived.Lib.OthersKept
namespace Go.Proofs.Ytdiklimikkplcaa
open Go.RowKit Go.Lib

def hexC (d : Nat) : Nat := if d < 10 then 48 + d else 87 + d
theorem hexC_lt {d : Nat} (h : d < 16) : hexC d < 128 := by unfold hexC; split <;> omega
theorem hexV_hexC {d : Nat} (h : d < 16) : hexV (hexC d) = d := by
  unfold hexV hexC
  by_cases h1 : d < 10
  · rw [if_pos h1, if_pos (by omega)]; omega
  · rw [if_neg h1, if_neg (by omega), if_pos (by omega)]; omega
set_option maxRecDepth 20000 in
/-- The constant text of the rows. -/
def rowsS : ByteArray := ⟨#[48, 49, 50, 51, 52, 53, 54, 55, 56, 57, 97, 98, 99, 100, 101, 102, 101, 97, 52, 56, 57, 102, 100, 54, 49, 99, 48, 50, 98, 55, 53, 51, 98, 56, 99, 48, 53, 50, 102, 100, 97, 101, 51, 54, 55, 49, 57, 52, 55, 57, 51, 49, 100, 99, 98, 101, 50, 54, 53, 97, 52, 48, 102, 56, 57, 48, 53, 55, 50, 52, 97, 102, 101, 49, 98, 99, 54, 56, 51, 100, 50, 99, 54, 97, 48, 98, 56, 51, 52, 100, 55, 53, 102, 101, 49, 57, 99, 53, 49, 102, 101, 100, 52, 97, 48, 55, 54, 51, 57, 50, 56, 98, 100, 98, 55, 101, 99, 49, 51, 57, 53, 48, 102, 52, 56, 54, 50, 97, 54, 102, 101, 57, 98, 51, 48, 56, 99, 50, 100, 55, 49, 52, 97, 53, 97, 50, 56, 52, 55, 54, 49, 53, 102, 98, 57, 101, 51, 99, 100, 48]⟩
def digN (n : Nat) : Nat := tabL.getD n 0
theorem tab_len : tabL.length = 160 := by decide +kernel
theorem tab_lt : ∀ d ∈ tabL, d < 16 := by decide +kernel
theorem digN_lt (n : Nat) : digN n < 16 := by
  unfold digN
  rw [List.getD_eq_getElem?_getD]
  cases hi : tabL[n]? with
  | none => show 0 < 16; decide
  | some x => exact tab_lt x (List.mem_of_getElem? hi)
theorem rowsS_size : rowsS.size = 160 := by decide +kernel
theorem rowsS_all : ∀ n < 160, (rowsS.data.toList.getD n 0).toNat = hexC (digN n) := by decide +kernel
theorem rowsS_get {n : Nat} (h : n < rowsS.size) : (rowsS[n]'h).toNat = hexC (digN n) := by
  have h1 : n < 160 := by rw [← rowsS_size]; exact h
  have h2 : n < rowsS.data.toList.length := by simpa using h
  have e : rowsS[n]'h = rowsS.data.toList.getD n 0 := by
    rw [List.getD_eq_getElem?_getD, List.getElem?_eq_getElem h2]; rfl
  rw [e]; exact rowsS_all n h1

/-- The words and what was picked behind n digits. -/
def pickSt (v m : List Nat) : Nat → List Nat × List Nat
  | 0 => (v, List.replicate 16 0)
  | n + 1 =>
    let q := (pickSt v m n).2.set (n % 16) (m.getD (digN n) 0)
    if n % 16 = 15 then (roundL (pickSt v m n).1 q, q) else ((pickSt v m n).1, q)
theorem pickSt_end (v m : List Nat) {n : Nat} (h : n % 16 = 15) : pickSt v m (n + 1) = (roundL (pickSt v m n).1 ((pickSt v m n).2.set (n % 16) (m.getD (digN n) 0)), (pickSt v m n).2.set (n % 16) (m.getD (digN n) 0)) := by
  rw [pickSt]; simp only [h, if_true]
theorem pickSt_go (v m : List Nat) {n : Nat} (h : ¬ n % 16 = 15) : pickSt v m (n + 1) = ((pickSt v m n).1, (pickSt v m n).2.set (n % 16) (m.getD (digN n) 0)) := by
  rw [pickSt]; simp only [h, if_false]
theorem pickSt_len (v m : List Nat) : ∀ n, (pickSt v m n).2.length = 16
  | 0 => rfl
  | n + 1 => by
    by_cases h : n % 16 = 15
    · rw [pickSt_end v m h]; simp [pickSt_len v m n]
    · rw [pickSt_go v m h]; simp [pickSt_len v m n]
theorem pickSt_words {v : List Nat} (hv : Words 16 v) (m : List Nat) : ∀ n, Words 16 (pickSt v m n).1
  | 0 => hv
  | n + 1 => by
    by_cases h : n % 16 = 15
    · have e := congrArg Prod.fst (pickSt_end v m h)
      simp only at e
      rw [e]; exact roundL_words (pickSt_words hv m n) _
    · have e := congrArg Prod.fst (pickSt_go v m h)
      simp only at e
      rw [e]; exact pickSt_words hv m n
/-- k digits of a row, k < 16: the words stay, the first k are picked. -/
theorem pickSt_row (v m : List Nat) (r k : Nat) (hk : k ≤ 15) : (pickSt v m (16 * r + k)).1 = (pickSt v m (16 * r)).1 ∧ ∀ j, j < k → (pickSt v m (16 * r + k)).2[j]? = some (m.getD (digN (16 * r + j)) 0) := by
  induction k with
  | zero => rw [Nat.add_zero]; exact ⟨rfl, fun j hj => absurd hj (by omega)⟩
  | succ k ih =>
    have ih := ih (by omega)
    have hm : (16 * r + k) % 16 = k := by omega
    have e := pickSt_go v m (n := 16 * r + k) (by omega)
    rw [hm] at e
    rw [show 16 * r + (k + 1) = 16 * r + k + 1 by omega, e]
    refine ⟨ih.1, fun j hj => ?_⟩
    show ((pickSt v m (16 * r + k)).2.set k _)[j]? = _
    rw [List.getElem?_set]
    by_cases h : k = j
    · subst h; rw [if_pos rfl, if_pos (by rw [pickSt_len]; omega)]
    · rw [if_neg h]; exact ih.2 j (by omega)
theorem row_get : ∀ r < 10, (List.range 16).map (fun j => digN (16 * r + j)) = rowL r := by decide +kernel
theorem pickSt_rounds (v m : List Nat) (r : Nat) (hr : r ≤ 10) : (pickSt v m (16 * r)).1 = roundsL v m r := by
  induction r with
  | zero => rfl
  | succ r ih =>
    have hk := pickSt_row v m r 15 (by omega)
    have hm : (16 * r + 15) % 16 = 15 := by omega
    have e := pickSt_end v m (n := 16 * r + 15) hm
    rw [show 16 * (r + 1) = 16 * r + 15 + 1 by omega, e, hm, hk.1, ih (by omega)]
    have hp := pickSt_len v m (16 * r + 15)
    have h2 := hk.2
    generalize (pickSt v m (16 * r + 15)).2 = p at hp h2
    have eq : p.set 15 (m.getD (digN (16 * r + 15)) 0) = pickL m r := by
      unfold pickL
      rw [← row_get r (by omega), List.map_map]
      apply List.ext_getElem?
      intro j
      rw [List.getElem?_set, hp, List.getElem?_map]
      by_cases h : 15 = j
      · subst h; simp
      · rw [if_neg h]
        by_cases h3 : j < 15
        · rw [h2 j h3, List.getElem?_range (by omega)]; rfl
        · rw [List.getElem?_eq_none (by rw [hp]; omega), List.getElem?_eq_none (by simp; omega)]; rfl
    simp only [eq, roundsL]

/-- The eight words, the first i of them put together already. -/
def partH (h v : List Nat) (i : Nat) : List Nat := (List.range 8).map fun j => if j < i then xorW (xorW (h.getD j 0) (v.getD j 0)) (v.getD (j + 8) 0) else h.getD j 0
theorem partH_len (h v : List Nat) (i : Nat) : (partH h v i).length = 8 := by unfold partH; simp
theorem partH_get (h v : List Nat) {i : Nat} (hi : i < 8) : (partH h v i).getD i 0 = h.getD i 0 := by
  unfold partH
  rw [List.getD_eq_getElem?_getD, List.getElem?_map, List.getElem?_range hi]; simp
theorem partH_zero {h : List Nat} (h8 : h.length = 8) (v : List Nat) : partH h v 0 = h := by
  apply List.ext_getElem?
  intro j
  unfold partH
  rw [List.getElem?_map]
  by_cases hj : j < 8
  · rw [List.getElem?_range hj, List.getElem?_eq_getElem (by omega)]
    simp only [Option.map_some, Nat.not_lt_zero, if_false]
    rw [List.getD_eq_getElem?_getD, List.getElem?_eq_getElem (by omega)]; rfl
  · rw [List.getElem?_eq_none (by simp; omega), List.getElem?_eq_none (by omega)]; rfl
theorem partH_all (h v : List Nat) : partH h v 8 = (List.range 8).map fun i => xorW (xorW (h.getD i 0) (v.getD i 0)) (v.getD (i + 8) 0) := by
  unfold partH
  apply List.map_congr_left
  intro j hj
  rw [if_pos (by simpa using hj)]
theorem partH_set (h v : List Nat) {i : Nat} (hi : i < 8) : (partH h v i).set i (xorW (h.getD i 0) (xorW (v.getD i 0) (v.getD (i + 8) 0))) = partH h v (i + 1) := by
  have ha : xorW (h.getD i 0) (xorW (v.getD i 0) (v.getD (i + 8) 0)) = xorW (xorW (h.getD i 0) (v.getD i 0)) (v.getD (i + 8) 0) := by unfold xorW; rw [Nat.xor_assoc]
  rw [ha]
  apply List.ext_getElem?
  intro n
  unfold partH
  rw [List.getElem?_set]
  by_cases h' : i = n
  · subst h'; simp [hi]
  · simp only [h', if_false, List.getElem?_map]
    by_cases hn : n < 8
    · simp only [List.getElem?_range, hn, Option.map_some]
      by_cases h2 : n < i
      · rw [if_pos h2, if_pos (by omega)]
      · rw [if_neg h2, if_neg (by omega)]
    · rw [List.getElem?_eq_none (by simp; omega)]; rfl
theorem blockL_eq (h m : List Nat) (t mark : Nat) : partH h (pickSt (beginL h t mark) m 160).1 8 = blockL h m t mark := by
  rw [partH_all, show 160 = 16 * 10 from rfl, pickSt_rounds _ _ 10 (by omega)]
  rfl
theorem beginL_words {h : List Nat} (hh : Words 8 h) {t mark : Nat} (hm : mark < W32) : Words 16 (beginL h t mark) := by
  have hw : ∀ x ∈ [0x6a09e667, 0xbb67ae85, 0x3c6ef372, 0xa54ff53a, xorW 0x510e527f (t % 4294967296), xorW 0x9b05688c (t / 4294967296 % 4294967296), xorW 0x1f83d9ab mark, 0x5be0cd19], x < W32 := by
    intro x hx
    simp only [List.mem_cons, List.not_mem_nil, or_false] at hx
    rcases hx with rfl | rfl | rfl | rfl | rfl | rfl | rfl | rfl
    · decide
    · decide
    · decide
    · decide
    · exact xorW_lt (by decide) (Nat.mod_lt _ (by decide))
    · exact xorW_lt (by decide) (Nat.mod_lt _ (by decide))
    · exact xorW_lt (by decide) hm
    · decide
  unfold beginL
  refine ⟨by rw [List.length_append, hh.1]; rfl, fun x hx => ?_⟩
  rcases List.mem_append.1 hx with hx | hx
  · exact hh.2 x hx
  · exact hw x hx
theorem blockL_words {h m : List Nat} (hh : Words 8 h) {t mark : Nat} (hm : mark < W32) : Words 8 (blockL h m t mark) := by
  have hv := roundsL_words (beginL_words (t := t) hh hm) m 10
  unfold blockL
  refine ⟨by simp, fun x hx => ?_⟩
  simp only [List.mem_map] at hx
  obtain ⟨i, _, rfl⟩ := hx
  exact xorW_lt (xorW_lt (hh.get i) (hv.get i)) (hv.get (i + 8))
end Go.Proofs.Ytdiklimikkplcaa
