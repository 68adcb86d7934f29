/-
  Plain arithmetic of numbers of 128 bits in two words: nothing of the program stands here.
-/
import Derived.WalkKit
namespace Go.Proofs.Ytdiklimikkplcaa
/-- 2^64 and 2^128, behind names. -/
def B64 : Nat := 18446744073709551616
def W128 : Nat := 340282366920938463463374607431768211456
def hiw (x : Nat) : Nat := x / B64
def low (x : Nat) : Nat := x % B64
theorem B64_eq : B64 = 18446744073709551616 := rfl
theorem W128_eq : W128 = 340282366920938463463374607431768211456 := rfl
theorem hiw_lt {x : Nat} (h : x < W128) : hiw x < B64 := by unfold hiw B64; unfold W128 at h; omega
theorem low_lt (x : Nat) : low x < B64 := by unfold low B64; omega
theorem hilow (x : Nat) : hiw x * B64 + low x = x := by unfold hiw low B64; omega
theorem hiw_mk {h l : Nat} (hl : l < B64) : hiw (h * B64 + l) = h := by unfold hiw B64 at *; omega
theorem low_mk {h l : Nat} (hl : l < B64) : low (h * B64 + l) = l := by unfold low B64 at *; omega
theorem mk_lt {h l : Nat} (hh : h < B64) (hl : l < B64) : h * B64 + l < W128 := by unfold B64 W128 at *; omega
/-- The carry of the lower words; the upper word, and what is carried out of it. -/
def carry (a b : Nat) : Nat := (low a + low b) / B64
def hi2 (a b : Nat) : Nat := (hiw a + hiw b + carry a b) % B64
def full (a b : Nat) : Nat := (hiw a + hiw b + carry a b) / B64
theorem add_low (a b : Nat) : (low a + low b) % B64 = low (a + b) := by unfold low B64; omega
theorem carry_le (a b : Nat) : carry a b ≤ 1 := by unfold carry low B64; omega
theorem hi2_eq {a b : Nat} (h : a + b < W128) : hi2 a b = hiw (a + b) := by
  unfold hi2 carry hiw low B64 at *; unfold W128 at h; omega
theorem full_no {a b : Nat} (h : a + b < W128) : full a b = 0 := by
  unfold full carry hiw low B64 at *; unfold W128 at h; omega
theorem full_yes {a b : Nat} (ha : a < W128) (hb : b < W128) (h : ¬ a + b < W128) : full a b = 1 := by
  unfold full carry hiw low B64 at *; unfold W128 at *; omega
/-- A sum of words, wrapped. -/
def sw (x y : Nat) : Nat := (x + y) % B64
theorem wrap_sw (x y : Nat) : IntKind.u64.wrap ((x : Int) + (y : Int)) = ((sw x y : Nat) : Int) := by
  rw [IntKind.wrap_u64]; unfold sw B64; omega
theorem sw_zero {x : Nat} (h : x < B64) : sw x 0 = x := by unfold sw; rw [Nat.add_zero]; exact Nat.mod_eq_of_lt h
theorem sw_sw (x y c : Nat) : sw (sw x y) c = (x + y + c) % B64 := by unfold sw B64; omega
theorem out_00 {x y c : Nat} (hx : x < B64) (hy : y < B64) (hc : c ≤ 1) (h1 : ¬ sw x y < x) (h2 : ¬ sw (sw x y) c < sw x y) : (x + y + c) / B64 = 0 := by
  unfold sw B64 at *; omega
theorem out_1 {x y c : Nat} (hx : x < B64) (hy : y < B64) (hc : c ≤ 1) (h1 : sw x y < x) : (x + y + c) / B64 = 1 := by
  unfold sw B64 at *; omega
theorem out_2 {x y c : Nat} (hx : x < B64) (hy : y < B64) (hc : c ≤ 1) (h2 : sw (sw x y) c < sw x y) : (x + y + c) / B64 = 1 := by
  unfold sw B64 at *; omega
/-- Which of two numbers is less. -/
def cmpI (a b : Int) : Int := if a < b then -1 else if b < a then 1 else 0
theorem cmp_lex (a b : Nat) : cmpI a b = if hiw a < hiw b then -1 else if hiw b < hiw a then 1 else if low a < low b then -1 else if low b < low a then 1 else 0 := by
  have h1 := hilow a; have h2 := hilow b; have h3 := low_lt a; have h4 := low_lt b
  unfold cmpI
  by_cases c1 : hiw a < hiw b
  · rw [if_pos c1, if_pos]; have : hiw a * B64 + B64 ≤ hiw b * B64 := by rw [← Nat.succ_mul]; exact Nat.mul_le_mul_right _ c1
    omega
  · rw [if_neg c1]
    by_cases c2 : hiw b < hiw a
    · have : hiw b * B64 + B64 ≤ hiw a * B64 := by rw [← Nat.succ_mul]; exact Nat.mul_le_mul_right _ c2
      rw [if_pos c2, if_neg (by omega), if_pos (by omega)]
    · rw [if_neg c2]
      have e : hiw a = hiw b := by omega
      rw [e] at h1
      by_cases c3 : low a < low b
      · rw [if_pos c3, if_pos (by omega)]
      · rw [if_neg c3, if_neg (by omega)]
        by_cases c4 : low b < low a
        · rw [if_pos c4, if_pos (by omega)]
        · rw [if_neg c4, if_neg (by omega)]
/-- A wide, at most the greatest int. -/
def clampI (a : Nat) : Int := if a ≤ 9223372036854775807 then a else 9223372036854775807
theorem clamp_lo {a : Nat} (h : hiw a = 0) : clampI a = if (low a : Int) ≤ 9223372036854775807 then (low a : Int) else 9223372036854775807 := by
  unfold clampI hiw low B64 at *
  by_cases c : a ≤ 9223372036854775807
  · rw [if_pos c, if_pos (by omega)]; omega
  · rw [if_neg c, if_neg (by omega)]
theorem clamp_hi {a : Nat} (h : ¬ hiw a = 0) : clampI a = 9223372036854775807 := by
  unfold clampI hiw B64 at *
  rw [if_neg (by omega)]
/-- A number of three words. -/
def num3 (x0 x1 x2 : Nat) : Nat := x0 + x1 * 18446744073709551616 + x2 * 340282366920938463463374607431768211456
def pow64 (i : Nat) : Nat := match i with | 0 => 1 | 1 => 18446744073709551616 | 2 => 340282366920938463463374607431768211456 | _ => 6277101735386680763835789423207666416102355444464034512896
def W192 : Nat := 6277101735386680763835789423207666416102355444464034512896
/-- A sum of two words, and its carry. -/
def adm (x c : Nat) : Nat := (x + c) % B64
def adc (x c : Nat) : Nat := (x + c) / B64
theorem step0 (x0 x1 x2 c : Nat) : num3 (adm x0 c) x1 x2 + adc x0 c * pow64 1 = num3 x0 x1 x2 + c * pow64 0 := by
  simp only [num3, pow64, adm, adc, B64]; omega
theorem step1 (x0 x1 x2 c : Nat) : num3 x0 (adm x1 c) x2 + adc x1 c * pow64 2 = num3 x0 x1 x2 + c * pow64 1 := by
  simp only [num3, pow64, adm, adc, B64]; omega
theorem step2 (x0 x1 x2 c : Nat) : num3 x0 x1 (adm x2 c) + adc x2 c * pow64 3 = num3 x0 x1 x2 + c * pow64 2 := by
  simp only [num3, pow64, adm, adc, B64]; omega
theorem adm_lt (x c : Nat) : adm x c < B64 := by unfold adm B64; omega
theorem num3_lt {x0 x1 x2 : Nat} (h0 : x0 < B64) (h1 : x1 < B64) (h2 : x2 < B64) : num3 x0 x1 x2 < W192 := by
  unfold num3 W192 B64 at *; omega
theorem num3_end {x0 x1 x2 c n : Nat} (h0 : x0 < B64) (h1 : x1 < B64) (h2 : x2 < B64) (h : num3 x0 x1 x2 + c * pow64 3 = n) : num3 x0 x1 x2 = n % W192 := by
  have := num3_lt h0 h1 h2
  simp only [pow64] at h
  unfold W192 at *; omega
/-- The words of a number of three words. -/
def wd0 (n : Nat) : Nat := n % 18446744073709551616
def wd1 (n : Nat) : Nat := n / 18446744073709551616 % 18446744073709551616
def wd2 (n : Nat) : Nat := n / 340282366920938463463374607431768211456
theorem wd0_num3 {x0 x1 x2 : Nat} (h0 : x0 < B64) : wd0 (num3 x0 x1 x2) = x0 := by unfold wd0 num3 B64 at *; omega
theorem wd1_num3 {x0 x1 x2 : Nat} (h0 : x0 < B64) (h1 : x1 < B64) : wd1 (num3 x0 x1 x2) = x1 := by unfold wd1 num3 B64 at *; omega
theorem wd2_num3 {x0 x1 x2 : Nat} (h0 : x0 < B64) (h1 : x1 < B64) : wd2 (num3 x0 x1 x2) = x2 := by unfold wd2 num3 B64 at *; omega
theorem wd0_lt (n : Nat) : wd0 n < B64 := by unfold wd0 B64; omega
theorem wd1_lt (n : Nat) : wd1 n < B64 := by unfold wd1 B64; omega
theorem wd2_lt {n : Nat} (h : n < W192) : wd2 n < B64 := by unfold wd2 B64; unfold W192 at h; omega
theorem num3_wd (n : Nat) : num3 (wd0 n) (wd1 n) (wd2 n) = n := by unfold num3 wd0 wd1 wd2; omega
theorem W192_eq : W192 = 6277101735386680763835789423207666416102355444464034512896 := rfl
theorem mul_word (x y : Nat) : x * y % B64 + x * y / B64 * B64 = x * y := by unfold B64; omega
theorem word_lt {x y : Nat} (hx : x < B64) (hy : y < B64) : x * y / B64 < B64 := by
  have h : x * y ≤ (B64 - 1) * (B64 - 1) := Nat.mul_le_mul (by omega) (by omega)
  unfold B64 at *; omega
theorem pow64_succ0 : pow64 1 = B64 * pow64 0 := rfl
theorem pow64_succ1 : pow64 2 = B64 * pow64 1 := by decide
end Go.Proofs.Ytdiklimikkplcaa
