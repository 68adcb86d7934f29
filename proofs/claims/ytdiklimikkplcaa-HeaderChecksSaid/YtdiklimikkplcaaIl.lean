/-
  Plain: the answer's way to the last words: all bytes padded, block by block.
-/
import Derived.Test.YtdiklimikkplcaaIk
namespace Go.Proofs.Ytdiklimikkplcaa
open Go.RowKit Go.Lib

/-- How many bytes there are with the zeros behind them. -/
def fillM (n : Nat) : Nat := 64 * aheadL n + 64
theorem fillM_ge (n : Nat) : n ≤ fillM n := by unfold fillM aheadL; omega
theorem fillM_le (n : Nat) : fillM n ≤ n + 64 := by unfold fillM aheadL; omega
theorem fillM_go {n k : Nat} (h : n ≤ k) (hk : k < fillM n) : k = 0 ∨ k % 64 ≠ 0 := by
  unfold fillM aheadL at hk
  omega
theorem fillM_end (n : Nat) : fillM n ≠ 0 ∧ fillM n % 64 = 0 := by unfold fillM; omega
def allL (L : List Nat) (k : Nat) : List Nat := L ++ List.replicate (k - L.length) 0
theorem allL_len (L : List Nat) {k : Nat} (h : L.length ≤ k) : (allL L k).length = k := by unfold allL; simp; omega
theorem allL_start (L : List Nat) : allL L L.length = L := by unfold allL; simp
theorem allL_more (L : List Nat) {k : Nat} (h : L.length ≤ k) : allL L k ++ [0] = allL L (k + 1) := by
  unfold allL
  rw [List.append_assoc, show k + 1 - L.length = (k - L.length) + 1 by omega, List.replicate_succ']
theorem allL_bytes {L : List Nat} (h : ∀ x ∈ L, x < 256) (k : Nat) : ∀ x ∈ allL L k, x < 256 := by
  intro x hx
  unfold allL at hx
  rcases List.mem_append.1 hx with hx | hx
  · exact h x hx
  · rw [(List.mem_replicate.1 hx).2]; decide
/-- Block k. -/
def blkL (L : List Nat) (k : Nat) : List Nat := ((allL L (fillM L.length)).drop (64 * k)).take 64
theorem blkL_bytes {L : List Nat} (h : ∀ x ∈ L, x < 256) {k : Nat} (hk : k ≤ aheadL L.length) : Bytes 64 (blkL L k) := by
  refine ⟨?_, fun x hx => allL_bytes h _ x (List.mem_of_mem_drop (List.mem_of_mem_take hx))⟩
  unfold blkL
  rw [List.length_take, List.length_drop, allL_len L (fillM_ge _)]
  unfold fillM; omega
theorem blkL_full {L : List Nat} {k : Nat} (hk : k < aheadL L.length) : blkL L k = (L.drop (64 * k)).take 64 := by
  have h1 : 64 * (k + 1) ≤ L.length := by unfold aheadL at hk; omega
  unfold blkL allL
  rw [List.drop_append_of_le_length (by omega), List.take_append_of_le_length (by rw [List.length_drop]; omega)]
theorem blkL_last (L : List Nat) : blkL L (aheadL L.length) = padL (tailL L) := by
  have h1 : 64 * aheadL L.length ≤ L.length := by unfold aheadL; omega
  have h2 := tailL_len L
  have h3 := filledN_le L.length
  have h4 : (tailL L).length = L.length - 64 * aheadL L.length := by unfold tailL; rw [List.length_drop]
  unfold blkL allL
  rw [List.drop_append_of_le_length h1]
  show (tailL L ++ _).take 64 = _
  unfold padL
  rw [List.take_of_length_le (by rw [List.length_append, List.length_replicate]; unfold fillM; omega)]
  congr 2
  unfold fillM
  omega
/-- The words behind k blocks. -/
def hN (L : List Nat) (k : Nat) : List Nat := if k ≤ aheadL L.length then fullL L k else lastL L
theorem hN_zero (L : List Nat) : hN L 0 = startL := by unfold hN; rw [if_pos (Nat.zero_le _)]; rfl
theorem hN_end (L : List Nat) : hN L (aheadL L.length + 1) = lastL L := by unfold hN; rw [if_neg (by omega)]
theorem hN_words (L : List Nat) (k : Nat) : Words 8 (hN L k) := by
  unfold hN; split
  · exact fullL_words _ _
  · exact lastL_words _
theorem hN_step (L : List Nat) {k : Nat} (hk : k ≤ aheadL L.length) : blockL (hN L k) (wordsL (blkL L k)) (min L.length (64 * k + 64)) (markL (decide (64 * k + 64 = fillM L.length))) = hN L (k + 1) := by
  by_cases h : k < aheadL L.length
  · have h1 : 64 * (k + 1) ≤ L.length := by unfold aheadL at h; omega
    have h2 : ¬ 64 * k + 64 = fillM L.length := by unfold fillM; omega
    unfold hN
    rw [if_pos hk, if_pos (by omega), blkL_full h, decide_eq_false h2, show min L.length (64 * k + 64) = 64 * (k + 1) by omega]
    rfl
  · have h0 : k = aheadL L.length := by omega
    subst h0
    have h2 : 64 * aheadL L.length + 64 = fillM L.length := rfl
    rw [hN_end, blkL_last, decide_eq_true h2, wordsL_pad, show min L.length (64 * aheadL L.length + 64) = L.length by have := fillM_ge L.length; unfold fillM at this; omega]
    unfold hN
    rw [if_pos (Nat.le_refl _)]
    rfl
theorem start_set : initL.set 0 (xorW 1779033703 16842784) = startL := by decide

/-- The bytes of words, the first i of them. -/
def partO (h : List Nat) (i : Nat) : List Nat := (List.range 32).map fun j => if j < i then byteN (h.getD (j / 4) 0) (j % 4) else 0
theorem partO_len (h : List Nat) (i : Nat) : (partO h i).length = 32 := by unfold partO; simp
theorem partO_zero (h : List Nat) : partO h 0 = List.replicate 32 0 := by unfold partO; rfl
theorem partO_all (h : List Nat) : partO h 32 = bytesL h := by
  unfold partO bytesL byteN
  apply List.map_congr_left
  intro j hj
  rw [if_pos (by simpa using hj)]
theorem partO_set (h : List Nat) {i : Nat} (hi : i < 32) : (partO h i).set i (byteN (h.getD (i / 4) 0) (i % 4)) = partO h (i + 1) := by
  apply List.ext_getElem?
  intro n
  unfold partO
  rw [List.getElem?_set]
  by_cases h : i = n
  · subst h; simp [hi]
  · simp only [h, if_false, List.getElem?_map]
    by_cases hn : n < 32
    · simp only [List.getElem?_range, hn, Option.map_some]
      by_cases h2 : n < i
      · rw [if_pos h2, if_pos (by omega)]
      · rw [if_neg h2, if_neg (by omega)]
    · rw [List.getElem?_eq_none (by simp; omega)]; rfl
/-- A row of one's own, read. -/
theorem own_bytes {w : World} {base n : Nat} {v : Value} {A : List Nat} (h : w.ownsRow base 5 1 v n (bvs A)) (hn : A.length = n) (h0 : 0 < n) : ∃ g cap, v = .slice (some ⟨g, 0, none⟩) n cap ∧ base ≤ g ∧ n ≤ cap ∧ g < w.heap.size ∧ BytesAt w g 0 A := by
  subst hn
  rcases h.2 with ⟨_, h2⟩ | ⟨g, cap, cur, h1, h2, h3, h4, _, h6, h7⟩
  · omega
  · rw [Nat.mul_one] at h7
    have hb : Blk w g (bvs A ++ cur.toList.drop A.length) 5 := by unfold Blk; rw [h3, ← h7, List.take_append_drop]
    refine ⟨g, cap, h1, h2, h4, hb.lt, fun i hi => ?_⟩
    rw [Nat.zero_add, hb.cell i, List.getElem?_append_left (by rw [bvs_len]; exact hi)]
    exact bvs_get hi
theorem blkL_at (L : List Nat) (k : Nat) {i : Nat} (hi : i < 64) : (allL L (fillM L.length)).getD (64 * k + i) 0 = (blkL L k).getD i 0 := by
  unfold blkL
  rw [List.getD_eq_getElem?_getD, List.getD_eq_getElem?_getD, List.getElem?_take_of_lt hi, List.getElem?_drop]
end Go.Proofs.Ytdiklimikkplcaa
