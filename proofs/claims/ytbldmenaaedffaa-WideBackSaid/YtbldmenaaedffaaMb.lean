/-
  Plain arithmetic, more: products in three words.
-/
import Derived.Test.YtbldmenaaedffaaMa
namespace Go.Proofs.Ytbldmenaaedffaa
theorem wd0_low (n : Nat) : wd0 n = low n := rfl
theorem wd1_hiw {n : Nat} (h : n < W128) : wd1 n = hiw n := by unfold wd1 hiw B64; unfold W128 at h; omega
theorem wd2_zero {n : Nat} (h : n < W128) : wd2 n = 0 := by unfold wd2; unfold W128 at h; omega
theorem wd2_pos {n : Nat} (h : ¬ n < W128) : ¬ wd2 n = 0 := by unfold wd2; unfold W128 at h; omega
theorem cmp_lex3 (a b : Nat) : cmpI a b = if wd2 a < wd2 b then -1 else if wd2 b < wd2 a then 1 else if wd1 a < wd1 b then -1 else if wd1 b < wd1 a then 1 else if wd0 a < wd0 b then -1 else if wd0 b < wd0 a then 1 else 0 := by
  have h1 := num3_wd a; have h2 := num3_wd b
  have a0 := wd0_lt a; have b0 := wd0_lt b; have a1 := wd1_lt a; have b1 := wd1_lt b
  unfold num3 at h1 h2
  unfold B64 at *
  unfold cmpI
  generalize wd0 a = x0 at *; generalize wd1 a = x1 at *; generalize wd2 a = x2 at *
  generalize wd0 b = y0 at *; generalize wd1 b = y1 at *; generalize wd2 b = y2 at *
  by_cases c1 : x2 < y2
  · rw [if_pos c1, if_pos (by omega)]
  rw [if_neg c1]
  by_cases c2 : y2 < x2
  · rw [if_pos c2, if_neg (by omega), if_pos (by omega)]
  rw [if_neg c2]
  by_cases c3 : x1 < y1
  · rw [if_pos c3, if_pos (by omega)]
  rw [if_neg c3]
  by_cases c4 : y1 < x1
  · rw [if_pos c4, if_neg (by omega), if_pos (by omega)]
  rw [if_neg c4]
  by_cases c5 : x0 < y0
  · rw [if_pos c5, if_pos (by omega)]
  rw [if_neg c5]
  by_cases c6 : y0 < x0
  · rw [if_pos c6, if_neg (by omega), if_pos (by omega)]
  rw [if_neg c6, if_neg (by omega), if_neg (by omega)]
end Go.Proofs.Ytbldmenaaedffaa
