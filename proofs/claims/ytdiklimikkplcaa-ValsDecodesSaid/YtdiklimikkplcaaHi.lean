/-
  Plain: a state behind bytes; what more bytes make of it.
-/
import Derived.Test.YtdiklimikkplcaaHg
import Derived.Laws.CopyOwn
namespace Go.Proofs.Ytdiklimikkplcaa
open Go.RowKit

def padL (l : List Nat) : List Nat := l ++ List.replicate (64 - l.length) 0
theorem padL_len {l : List Nat} (h : l.length ≤ 64) : (padL l).length = 64 := by unfold padL; simp; omega
theorem padL_bytes {l : List Nat} (h : l.length ≤ 64) (hb : ∀ x ∈ l, x < 256) : Bytes 64 (padL l) := by
  refine ⟨padL_len h, fun x hx => ?_⟩
  unfold padL at hx
  rcases List.mem_append.1 hx with hx | hx
  · exact hb x hx
  · rw [(List.mem_replicate.1 hx).2]; decide
theorem padL_nil : padL [] = List.replicate 64 0 := rfl
/-- What of the bytes lies in the last block. -/
def tailL (all : List Nat) : List Nat := all.drop (64 * aheadL all.length)
theorem tailL_len (all : List Nat) : (tailL all).length = filledN all.length := by
  unfold tailL aheadL filledN
  rw [List.length_drop]
  split <;> omega
theorem filledN_le (n : Nat) : filledN n ≤ 64 := by unfold filledN; split <;> omega
theorem wordL_pad {l : List Nat} (i : Nat) : wordL (padL l) i = wordL l i := by
  have e : ∀ j, (padL l).getD j 0 = l.getD j 0 := by
    intro j
    unfold padL
    rw [List.getD_eq_getElem?_getD, List.getD_eq_getElem?_getD, List.getElem?_append]
    split
    · rfl
    · rename_i hj
      rw [List.getElem?_eq_none (Nat.le_of_not_lt hj), List.getElem?_replicate]
      split <;> rfl
  unfold wordL
  rw [e, e, e, e]
theorem wordsL_pad (l : List Nat) : wordsL (padL l) = wordsL l := by
  unfold wordsL
  exact List.map_congr_left fun i _ => wordL_pad i
/-- Whole blocks hang on the bytes in them alone. -/
theorem fullL_app (a b : List Nat) (k : Nat) (h : 64 * k ≤ a.length) : fullL (a ++ b) k = fullL a k := by
  induction k with
  | zero => rfl
  | succ k ih =>
    have e : ((a ++ b).drop (64 * k)).take 64 = (a.drop (64 * k)).take 64 := by
      rw [List.drop_append_of_le_length (by omega), List.take_append_of_le_length (by rw [List.length_drop]; omega)]
    simp only [fullL]
    rw [ih (by omega), e]
theorem startL_words : Words 8 startL := by refine ⟨rfl, ?_⟩; decide
theorem fullL_words (b : List Nat) (k : Nat) : Words 8 (fullL b k) := by
  induction k with
  | zero => exact startL_words
  | succ k ih => exact blockL_words ih (by decide)

/-- The state's words and block behind bytes. -/
def hOf (all : List Nat) : List Nat := fullL all (aheadL all.length)
theorem hOf_words (all : List Nat) : Words 8 (hOf all) := fullL_words _ _
/-- The last block is full: it is put into the words. -/
theorem hOf_full {all : List Nat} (h : filledN all.length = 64) : blockL (hOf all) (wordsL (padL (tailL all))) all.length 0 = fullL all (aheadL all.length + 1) := by
  have hn : all.length = 64 * (aheadL all.length + 1) := by
    unfold filledN at h; unfold aheadL
    split at h <;> omega
  have e : tailL all = (all.drop (64 * aheadL all.length)).take 64 := by
    unfold tailL
    rw [List.take_of_length_le]
    rw [List.length_drop]; omega
  rw [wordsL_pad, e]
  unfold hOf
  simp only [fullL]
  rw [← hn]
/-- .. and the bytes that follow begin the next one. -/
theorem more_full {all piece : List Nat} (h : filledN all.length = 64) (h1 : 0 < piece.length) (h2 : piece.length ≤ 64) : hOf (all ++ piece) = fullL all (aheadL all.length + 1) ∧ tailL (all ++ piece) = piece := by
  have hn : all.length = 64 * (aheadL all.length + 1) := by
    unfold filledN at h; unfold aheadL
    split at h <;> omega
  have ha : aheadL (all ++ piece).length = aheadL all.length + 1 := by
    rw [List.length_append]
    generalize aheadL all.length = q at hn
    unfold aheadL; omega
  unfold hOf tailL
  rw [ha, ← hn]
  exact ⟨fullL_app _ _ _ (by omega), by rw [List.drop_append_of_le_length (Nat.le_refl _), List.drop_length, List.nil_append]⟩
/-- The last block is not full: what follows is laid behind what is in it. -/
theorem more_part {all piece : List Nat} (h : filledN all.length < 64) (h1 : 0 < piece.length) (h2 : piece.length ≤ 64 - filledN all.length) : hOf (all ++ piece) = hOf all ∧ tailL (all ++ piece) = tailL all ++ piece := by
  have ha : aheadL (all ++ piece).length = aheadL all.length := by
    rw [List.length_append]
    unfold filledN at h h2; unfold aheadL
    split at h <;> simp_all <;> omega
  have hle : 64 * aheadL all.length ≤ all.length := by unfold aheadL; omega
  unfold hOf tailL
  rw [ha]
  exact ⟨fullL_app _ _ _ hle, by rw [List.drop_append_of_le_length hle]⟩
/-- Bytes laid into a padded block behind those that are in it. -/
theorem splice_pad {x piece : List Nat} (h : x.length + piece.length ≤ 64) : splice (padL x) x.length piece = padL (x ++ piece) := by
  unfold splice padL
  rw [List.take_append_of_le_length (Nat.le_refl _), List.take_length, List.drop_append, List.drop_eq_nil_of_le (by omega), List.nil_append, List.drop_replicate, List.append_assoc, List.length_append]
  congr 3
  omega
theorem last_eq (all : List Nat) : blockL (hOf all) (wordsL (padL (tailL all))) all.length 0xffffffff = lastL all := by
  rw [wordsL_pad]; rfl

/-- A state lies in block g that has taken these bytes. -/
def So (w : World) (g : Nat) (sf : Value) (all : List Nat) : Prop := St w g sf all.length (hOf all) (padL (tailL all))
end Go.Proofs.Ytdiklimikkplcaa
