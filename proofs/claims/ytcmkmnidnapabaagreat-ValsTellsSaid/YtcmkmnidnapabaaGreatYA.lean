/-
  Texts Ma, Ya, one behind the other.
-/
import Derived.WalkKit
import Derived.Test.YtcmkmnidnapabaaGreatQa
import Derived.WalkSpells
import Derived.WalkLawsBesides

/-! Ma: Plain arithmetic of numbers of 128 bits in two words: nothing of the program stands here. -/
namespace Go.Proofs.YtcmkmnidnapabaaGreat
/-- 2^64 and 2^128, behind names. -/
def B64 : Nat := 18446744073709551616
def W128 : Nat := 340282366920938463463374607431768211456
def hiw (x : Nat) : Nat := x / B64
def low (x : Nat) : Nat := x % B64
theorem B64_eq : B64 = 18446744073709551616 := rfl
theorem W128_eq : W128 = 340282366920938463463374607431768211456 := rfl
theorem hiw_lt {x : Nat} (h : x < W128) : hiw x < B64 := by unfold hiw B64; unfold W128 at h; omega
theorem low_lt (x : Nat) : low x < B64 := by unfold low B64; omega
theorem hilow (x : Nat) : hiw x * B64 + low x = x := by unfold hiw low B64; omega
theorem hiw_mk {h l : Nat} (hl : l < B64) : hiw (h * B64 + l) = h := by unfold hiw B64 at *; omega
theorem low_mk {h l : Nat} (hl : l < B64) : low (h * B64 + l) = l := by unfold low B64 at *; omega
theorem mk_lt {h l : Nat} (hh : h < B64) (hl : l < B64) : h * B64 + l < W128 := by unfold B64 W128 at *; omega
/-- The carry of the lower words; the upper word, and what is carried out of it. -/
def carry (a b : Nat) : Nat := (low a + low b) / B64
def hi2 (a b : Nat) : Nat := (hiw a + hiw b + carry a b) % B64
def full (a b : Nat) : Nat := (hiw a + hiw b + carry a b) / B64
theorem add_low (a b : Nat) : (low a + low b) % B64 = low (a + b) := by unfold low B64; omega
theorem carry_le (a b : Nat) : carry a b ≤ 1 := by unfold carry low B64; omega
theorem hi2_eq {a b : Nat} (h : a + b < W128) : hi2 a b = hiw (a + b) := by
  unfold hi2 carry hiw low B64 at *; unfold W128 at h; omega
theorem full_no {a b : Nat} (h : a + b < W128) : full a b = 0 := by
  unfold full carry hiw low B64 at *; unfold W128 at h; omega
theorem full_yes {a b : Nat} (ha : a < W128) (hb : b < W128) (h : ¬ a + b < W128) : full a b = 1 := by
  unfold full carry hiw low B64 at *; unfold W128 at *; omega
/-- A sum of words, wrapped. -/
def sw (x y : Nat) : Nat := (x + y) % B64
theorem wrap_sw (x y : Nat) : IntKind.u64.wrap ((x : Int) + (y : Int)) = ((sw x y : Nat) : Int) := by
  rw [IntKind.wrap_u64]; unfold sw B64; omega
theorem sw_zero {x : Nat} (h : x < B64) : sw x 0 = x := by unfold sw; rw [Nat.add_zero]; exact Nat.mod_eq_of_lt h
theorem sw_sw (x y c : Nat) : sw (sw x y) c = (x + y + c) % B64 := by unfold sw B64; omega
theorem out_00 {x y c : Nat} (hx : x < B64) (hy : y < B64) (hc : c ≤ 1) (h1 : ¬ sw x y < x) (h2 : ¬ sw (sw x y) c < sw x y) : (x + y + c) / B64 = 0 := by
  unfold sw B64 at *; omega
theorem out_1 {x y c : Nat} (hx : x < B64) (hy : y < B64) (hc : c ≤ 1) (h1 : sw x y < x) : (x + y + c) / B64 = 1 := by
  unfold sw B64 at *; omega
theorem out_2 {x y c : Nat} (hx : x < B64) (hy : y < B64) (hc : c ≤ 1) (h2 : sw (sw x y) c < sw x y) : (x + y + c) / B64 = 1 := by
  unfold sw B64 at *; omega
/-- Which of two numbers is less. -/
def cmpI (a b : Int) : Int := if a < b then -1 else if b < a then 1 else 0
theorem cmp_lex (a b : Nat) : cmpI a b = if hiw a < hiw b then -1 else if hiw b < hiw a then 1 else if low a < low b then -1 else if low b < low a then 1 else 0 := by
  have h1 := hilow a; have h2 := hilow b; have h3 := low_lt a; have h4 := low_lt b
  unfold cmpI
  by_cases c1 : hiw a < hiw b
  · rw [if_pos c1, if_pos]; have : hiw a * B64 + B64 ≤ hiw b * B64 := by rw [← Nat.succ_mul]; exact Nat.mul_le_mul_right _ c1
    omega
  · rw [if_neg c1]
    by_cases c2 : hiw b < hiw a
    · have : hiw b * B64 + B64 ≤ hiw a * B64 := by rw [← Nat.succ_mul]; exact Nat.mul_le_mul_right _ c2
      rw [if_pos c2, if_neg (by omega), if_pos (by omega)]
    · rw [if_neg c2]
      have e : hiw a = hiw b := by omega
      rw [e] at h1
      by_cases c3 : low a < low b
      · rw [if_pos c3, if_pos (by omega)]
      · rw [if_neg c3, if_neg (by omega)]
        by_cases c4 : low b < low a
        · rw [if_pos c4, if_pos (by omega)]
        · rw [if_neg c4, if_neg (by omega)]
/-- A wide, at most the greatest int. -/
def clampI (a : Nat) : Int := if a ≤ 9223372036854775807 then a else 9223372036854775807
theorem clamp_lo {a : Nat} (h : hiw a = 0) : clampI a = if (low a : Int) ≤ 9223372036854775807 then (low a : Int) else 9223372036854775807 := by
  unfold clampI hiw low B64 at *
  by_cases c : a ≤ 9223372036854775807
  · rw [if_pos c, if_pos (by omega)]; omega
  · rw [if_neg c, if_neg (by omega)]
theorem clamp_hi {a : Nat} (h : ¬ hiw a = 0) : clampI a = 9223372036854775807 := by
  unfold clampI hiw B64 at *
  rw [if_neg (by omega)]
/-- A number of three words. -/
def num3 (x0 x1 x2 : Nat) : Nat := x0 + x1 * 18446744073709551616 + x2 * 340282366920938463463374607431768211456
def pow64 (i : Nat) : Nat := match i with | 0 => 1 | 1 => 18446744073709551616 | 2 => 340282366920938463463374607431768211456 | _ => 6277101735386680763835789423207666416102355444464034512896
def W192 : Nat := 6277101735386680763835789423207666416102355444464034512896
/-- A sum of two words, and its carry. -/
def adm (x c : Nat) : Nat := (x + c) % B64
def adc (x c : Nat) : Nat := (x + c) / B64
theorem step0 (x0 x1 x2 c : Nat) : num3 (adm x0 c) x1 x2 + adc x0 c * pow64 1 = num3 x0 x1 x2 + c * pow64 0 := by
  simp only [num3, pow64, adm, adc, B64]; omega
theorem step1 (x0 x1 x2 c : Nat) : num3 x0 (adm x1 c) x2 + adc x1 c * pow64 2 = num3 x0 x1 x2 + c * pow64 1 := by
  simp only [num3, pow64, adm, adc, B64]; omega
theorem step2 (x0 x1 x2 c : Nat) : num3 x0 x1 (adm x2 c) + adc x2 c * pow64 3 = num3 x0 x1 x2 + c * pow64 2 := by
  simp only [num3, pow64, adm, adc, B64]; omega
theorem adm_lt (x c : Nat) : adm x c < B64 := by unfold adm B64; omega
theorem num3_lt {x0 x1 x2 : Nat} (h0 : x0 < B64) (h1 : x1 < B64) (h2 : x2 < B64) : num3 x0 x1 x2 < W192 := by
  unfold num3 W192 B64 at *; omega
theorem num3_end {x0 x1 x2 c n : Nat} (h0 : x0 < B64) (h1 : x1 < B64) (h2 : x2 < B64) (h : num3 x0 x1 x2 + c * pow64 3 = n) : num3 x0 x1 x2 = n % W192 := by
  have := num3_lt h0 h1 h2
  simp only [pow64] at h
  unfold W192 at *; omega
/-- The words of a number of three words. -/
def wd0 (n : Nat) : Nat := n % 18446744073709551616
def wd1 (n : Nat) : Nat := n / 18446744073709551616 % 18446744073709551616
def wd2 (n : Nat) : Nat := n / 340282366920938463463374607431768211456
theorem wd0_num3 {x0 x1 x2 : Nat} (h0 : x0 < B64) : wd0 (num3 x0 x1 x2) = x0 := by unfold wd0 num3 B64 at *; omega
theorem wd1_num3 {x0 x1 x2 : Nat} (h0 : x0 < B64) (h1 : x1 < B64) : wd1 (num3 x0 x1 x2) = x1 := by unfold wd1 num3 B64 at *; omega
theorem wd2_num3 {x0 x1 x2 : Nat} (h0 : x0 < B64) (h1 : x1 < B64) : wd2 (num3 x0 x1 x2) = x2 := by unfold wd2 num3 B64 at *; omega
theorem wd0_lt (n : Nat) : wd0 n < B64 := by unfold wd0 B64; omega
theorem wd1_lt (n : Nat) : wd1 n < B64 := by unfold wd1 B64; omega
theorem wd2_lt {n : Nat} (h : n < W192) : wd2 n < B64 := by unfold wd2 B64; unfold W192 at h; omega
theorem num3_wd (n : Nat) : num3 (wd0 n) (wd1 n) (wd2 n) = n := by unfold num3 wd0 wd1 wd2; omega
theorem W192_eq : W192 = 6277101735386680763835789423207666416102355444464034512896 := rfl
theorem mul_word (x y : Nat) : x * y % B64 + x * y / B64 * B64 = x * y := by unfold B64; omega
theorem word_lt {x y : Nat} (hx : x < B64) (hy : y < B64) : x * y / B64 < B64 := by
  have h : x * y ≤ (B64 - 1) * (B64 - 1) := Nat.mul_le_mul (by omega) (by omega)
  unfold B64 at *; omega
theorem pow64_succ0 : pow64 1 = B64 * pow64 0 := rfl
theorem pow64_succ1 : pow64 2 = B64 * pow64 1 := by decide
end Go.Proofs.YtcmkmnidnapabaaGreat

/-! Ya: Contracts of package wide: Of, Plus, Sum (as those of layer 1's texts). -/
namespace Go.Proofs.YtcmkmnidnapabaaGreat
open Go.RowKit

/-- A wide as a value: both of its words. -/
abbrev wv (x : Nat) : Value := .agg #[.int .u64 (hiw x), .int .u64 (low x)]
/-- The wide 0, as the walk writes it. -/
abbrev wz : Value := .agg #[.int .u64 0, .int .u64 0]
theorem Of_neg (n : Int) (w : World) (h : n < 0) :
    Calls Tryz.prog 144 #[.int .i64 n] w fun e w' => e = .returned (.tuple #[wz, .int .i64 3]) ∧ Below w.heap.size w w' := by
  go_enter Tryz.func144, Tryz.ntmps144
  go_wp2
  exact bodyPost_ret (v := .tuple #[wz, .int .i64 3]) (by simp [results, Tryz.results144, go_sem]) rfl ⟨rfl, (Below.refl _ _).alloc (Nat.le_refl _) _⟩
/-- bits.Add64, with 2^64 behind its name. -/
theorem Add64_law (x y c : Nat) (hc : c ≤ 1) (w : World) :
    (callFunc 206 #[.int .u64 x, .int .u64 y, .int .u64 c]).run Tryz.prog w =
      .ok (.value (.tuple #[.int .u64 (((x + y + c) % B64 : Nat) : Int), .int .u64 (((x + y + c) / B64 : Nat) : Int)])) w := by
  rw [run_callFunc_extern Tryz.func206 (by kernel_rfl) (by kernel_rfl) (by kernel_rfl) (e := add64Entry) (by kernel_rfl), run_add64 x y c (by omega) (by omega) (by omega) (by omega)]
  simp only [Result.andThen, B64]
  congr 5 <;> omega
theorem Add64_lo (a b : Nat) (w : World) :
    (callFunc 206 #[.int .u64 (low a), .int .u64 (low b), .int .u64 0]).run Tryz.prog w = .ok (.value (.tuple #[.int .u64 (low (a + b)), .int .u64 (carry a b)])) w := by
  have h := Add64_law (low a) (low b) 0 (by omega) w
  rw [Nat.add_zero, add_low] at h
  exact h
theorem Add64_hi (a b : Nat) (w : World) :
    (callFunc 206 #[.int .u64 (hiw a), .int .u64 (hiw b), .int .u64 (carry a b)]).run Tryz.prog w = .ok (.value (.tuple #[.int .u64 (hi2 a b), .int .u64 (full a b)])) w :=
  Add64_law (hiw a) (hiw b) (carry a b) (carry_le a b) w
set_option maxHeartbeats 400000 in
theorem Plus_ok (a b : Nat) (w : World) (h : a + b < W128) :
    Calls Tryz.prog 145 #[wv a, wv b] w fun e w' => e = .returned (.tuple #[wv (a + b), .int .i64 0]) ∧ Below w.heap.size w w' := by
  have k1 := Add64_lo a b
  have k2 := Add64_hi a b
  rw [hi2_eq h, full_no h] at k2
  go_enter Tryz.func145, Tryz.ntmps145
  go_wp2
  exact bodyPost_ret (v := .tuple #[wv (a + b), .int .i64 0]) (by simp [results, Tryz.results145, go_sem]) rfl ⟨rfl, by (repeat' (first | (with_reducible exact Below.refl _ _) | (with_reducible refine Below.alloc ?_ ?_ _) | (with_reducible refine Below.drew ?_) | (with_reducible refine Below.drewN ?_ _) | (with_reducible refine Below.setCell ?_ ?_ _) | go_size))⟩
set_option maxHeartbeats 400000 in
theorem Plus_full (a b : Nat) (w : World) (ha : a < W128) (hb : b < W128) (h : ¬ a + b < W128) :
    Calls Tryz.prog 145 #[wv a, wv b] w fun e w' => e = .returned (.tuple #[wz, .int .i64 7]) ∧ Below w.heap.size w w' := by
  have k1 := Add64_lo a b
  have k2 := Add64_hi a b
  rw [full_yes ha hb h] at k2
  go_enter Tryz.func145, Tryz.ntmps145
  go_wp2
  exact bodyPost_ret (v := .tuple #[wz, .int .i64 7]) (by simp [results, Tryz.results145, go_sem]) rfl ⟨rfl, by (repeat' (first | (with_reducible exact Below.refl _ _) | (with_reducible refine Below.alloc ?_ ?_ _) | (with_reducible refine Below.drew ?_) | (with_reducible refine Below.drewN ?_ _) | (with_reducible refine Below.setCell ?_ ?_ _) | go_size))⟩
theorem Of_ok (n : Int) (w : World) (h : 0 ≤ n) (hn : n ≤ 9223372036854775807) :
    Calls Tryz.prog 144 #[.int .i64 n] w fun e w' => e = .returned (.tuple #[.agg #[.int .u64 0, .int .u64 n], .int .i64 0]) ∧ Below w.heap.size w w' := by
  go_enter Tryz.func144, Tryz.ntmps144
  go_wp2
  exact bodyPost_ret (v := .tuple #[.agg #[.int .u64 0, .int .u64 n], .int .i64 0]) (by simp [results, Tryz.results144, go_sem]) rfl ⟨rfl, by (repeat' (first | (with_reducible exact Below.refl _ _) | (with_reducible refine Below.alloc ?_ ?_ _) | (with_reducible refine Below.drew ?_) | (with_reducible refine Below.drewN ?_ _) | (with_reducible refine Below.setCell ?_ ?_ _) | go_size))⟩
theorem wv_nat {n : Nat} (h : n ≤ 9223372036854775807) : wv n = .agg #[.int .u64 0, .int .u64 n] := by
  have h1 : hiw n = 0 := by unfold hiw B64; omega
  have h2 : low n = n := by unfold low B64; omega
  unfold wv; rw [h1, h2]; rfl
theorem Of_nat (n : Nat) (w : World) (hn : n ≤ 9223372036854775807) :
    Calls Tryz.prog 144 #[.int .i64 n] w fun e w' => e = .returned (.tuple #[wv n, .int .i64 0]) ∧ Below w.heap.size w w' := by
  rw [wv_nat hn]; exact Of_ok n w (by omega) (by omega)
set_option maxHeartbeats 400000 in
theorem step_neg (s : Nat) (z : Int) (w : World) (hz : z < 0) :
    Calls Tryz.prog 143 #[wv s, .int .i64 z] w fun e w' => e = .returned (.tuple #[wz, .int .i64 3]) ∧ Below w.heap.size w w' := by
  go_enter Tryz.func143, Tryz.ntmps143
  go_wp2_with fail
  refine (Of_neg z _ hz).mono ?_
  rintro e w1 ⟨rfl, hB⟩
  obtain ⟨hc, hf⟩ := bcell hB
  have HB := hidp hB; have hs := hB.size; clear hB
  simp only [World.size_alloc] at hs
  have hz : w.heap.size + 1 < w1.heap.size := by omega
  go_wp2
  exact bodyPost_ret (v := .tuple #[wz, .int .i64 3]) (by simp [results, Tryz.results143, go_sem, hc, hz]) rfl ⟨rfl, by (repeat' (first | (with_reducible exact Below.refl _ _) | (with_reducible refine Below.alloc ?_ ?_ _) | (with_reducible refine Below.drew ?_) | (with_reducible refine Below.drewN ?_ _) | (with_reducible refine Below.setCell ?_ ?_ _) | (with_reducible refine Below.trans ?_ (Below.mono HB.out ?_)) | go_size | (have i0_ := HB.out.size; (try simp at i0_); (try simp); omega)))⟩
set_option maxHeartbeats 400000 in
theorem step_ok (s n : Nat) (w : World) (hn : n ≤ 9223372036854775807) (h : s + n < W128) :
    Calls Tryz.prog 143 #[wv s, .int .i64 n] w fun e w' => e = .returned (.tuple #[wv (s + n), .int .i64 0]) ∧ Below w.heap.size w w' := by
  have H := hidp h; clear h
  go_enter Tryz.func143, Tryz.ntmps143
  go_wp2_with fail
  refine (Of_nat n _ hn).mono ?_
  rintro e w1 ⟨rfl, hB⟩
  obtain ⟨hc, hf⟩ := bcell hB
  have HB := hidp hB; have hs := hB.size; clear hB
  simp only [World.size_alloc] at hs
  have hz0 : w.heap.size < w1.heap.size := by omega
  have hz : w.heap.size + 1 < w1.heap.size := by omega
  go_wp2_with fail
  refine (Plus_ok s n _ H.out).mono ?_
  rintro e w2 ⟨rfl, hB2⟩
  obtain ⟨hc2, hf2⟩ := bcell hB2
  have HB2 := hidp hB2; have hs2 := hB2.size; clear hB2
  simp only [World.size_alloc] at hs2
  have hz2 : w.heap.size + 1 < w2.heap.size := by omega
  go_wp2
  exact bodyPost_ret (v := .tuple #[wv (s + n), .int .i64 0]) (by simp [results, Tryz.results143, go_sem, hc2, hc, hz0, hz]) rfl ⟨rfl, by (repeat' (first | (with_reducible exact Below.refl _ _) | (with_reducible refine Below.alloc ?_ ?_ _) | (with_reducible refine Below.drew ?_) | (with_reducible refine Below.drewN ?_ _) | (with_reducible refine Below.setCell ?_ ?_ _) | (with_reducible refine Below.trans ?_ (Below.mono HB.out ?_)) | (with_reducible refine Below.trans ?_ (Below.mono HB2.out ?_)) | go_size | (have i0_ := HB.out.size; (try simp at i0_); (try simp); omega) | (have i0_ := HB.out.size; (try simp at i0_); have i1_ := HB2.out.size; (try simp at i1_); (try simp); omega)))⟩
/-- The sum of numbers from 0 on. -/
def sumN (zs : List Int) : Nat := (zs.map Int.toNat).sum
theorem sumN_snoc (zs : List Int) (k : Nat) (h : k < zs.length) : sumN (zs.take (k + 1)) = sumN (zs.take k) + (zs[k]?.getD 0).toNat := by
  unfold sumN
  rw [List.take_succ_eq_append_getElem h, List.map_append, List.sum_append, List.getElem?_eq_getElem h]
  simp
theorem sumN_le (zs : List Int) (h : ∀ z ∈ zs, z ≤ 9223372036854775807) : sumN zs ≤ zs.length * 9223372036854775807 := by
  unfold sumN
  induction zs with
  | nil => simp
  | cons z r ih =>
    have h1 := h z (by simp)
    have h2 := ih fun y hy => h y (by simp [hy])
    simp only [List.map_cons, List.sum_cons, List.length_cons]
    omega
theorem sumN_lt (zs : List Int) (k : Nat) (hl : zs.length ≤ 1000) (h : ∀ z ∈ zs, z ≤ 9223372036854775807) : sumN (zs.take k) < W128 := by
  have h1 := sumN_le (zs.take k) fun z hz => h z (List.mem_of_mem_take hz)
  have h2 : (zs.take k).length ≤ 1000 := by rw [List.length_take]; omega
  have h3 : (zs.take k).length * 9223372036854775807 ≤ 1000 * 9223372036854775807 := Nat.mul_le_mul_right _ h2
  unfold W128; omega
/-- What Sum answers. -/
def sumV (zs : List Int) : Value := if ∀ z ∈ zs, 0 ≤ z then .tuple #[wv (sumN zs), .int .i64 0] else .tuple #[wz, .int .i64 3]
theorem sumV_neg {zs : List Int} {z : Int} (hin : z ∈ zs) (hz : z < 0) : sumV zs = .tuple #[wz, .int .i64 3] := by
  unfold sumV; rw [if_neg]; intro h; have := h z hin; omega
theorem sumV_ok {zs : List Int} (h : ∀ z ∈ zs, 0 ≤ z) : sumV zs = .tuple #[wv (sumN zs), .int .i64 0] := by
  unfold sumV; rw [if_pos h]
theorem take_snoc_ok {zs : List Int} {k : Nat} (h : k < zs.length) (h1 : ∀ z ∈ zs.take k, 0 ≤ z) (h2 : 0 ≤ zs[k]?.getD 0) : ∀ z ∈ zs.take (k + 1), 0 ≤ z := by
  intro z hz
  rw [List.take_succ_eq_append_getElem h, List.mem_append, List.mem_singleton] at hz
  rw [List.getElem?_eq_getElem h] at h2
  rcases hz with hz | rfl
  · exact h1 z hz
  · exact h2
/-- Whole numbers that lie behind a slice's address, one a cell. -/
def IntsAt (w : World) (a : Option Addr) (zs : List Int) : Prop := ∀ k, k < zs.length → ∃ b off, a = some ⟨b, off, none⟩ ∧ w.cell? ⟨b, off + k, none⟩ = some (.int .i64 (zs[k]?.getD 0))
theorem IntsAt.below {B : Nat} {w w' : World} {a : Option Addr} {zs : List Int} (h : IntsAt w a zs) (hB : Below B w w') (hs : w.heap.size ≤ B) : IntsAt w' a zs := by
  intro k hk
  obtain ⟨b, off, ha, hc⟩ := h k hk
  exact ⟨b, off, ha, (hB.cell (p := ⟨b, off + k, none⟩) (Nat.lt_of_lt_of_le (World.block_lt_of_cell? w _ hc) hs)).trans hc⟩
set_option maxHeartbeats 1000000 in
theorem fold_any (a : Option Addr) (n cap : Nat) (zs : List Int) (w : World) (hl : zs.length ≤ 1000) (hm : ∀ z ∈ zs, z ≤ 9223372036854775807) (hn : zs.length = n) (hc : IntsAt w a zs) :
    Calls Tryz.prog 142 #[.slice a n cap, .func (.func 143) #[] #[]] w fun e w' => e = .returned (sumV zs) ∧ Below w.heap.size w w' := by
  have HL := hidp hl; have HM := hidp hm; have HN := hidp hn; have HC := hidp hc
  have hn1 : n ≤ 1000 := by omega
  clear hl hm hn hc
  go_enter Tryz.func142, Tryz.ntmps142
  go_wp2
  go_loopw [14] (fun i wr => ∃ k : Nat, k ≤ n ∧ i = .int .i64 k ∧ Hid ((∀ z ∈ zs.take k, 0 ≤ z) ∧ Blk wr (w.heap.size + 1) [.int .u64 (hiw (sumN (zs.take k))), .int .u64 (low (sumN (zs.take k)))] 29 ∧ Blk wr (w.heap.size + 2) [.int .u64 0, .int .u64 0] 29 ∧ Blk wr w.heap.size [.int .u64 0, .int .u64 0] 29 ∧ Below w.heap.size w wr)) (fun i _ => n - (intOf i).toNat)
  case atStart =>
    refine ⟨0, by omega, rfl, ?_, ?_, ?_, ?_, by (repeat' (first | (with_reducible exact Below.refl _ _) | (with_reducible refine Below.alloc ?_ ?_ _) | (with_reducible refine Below.drew ?_) | (with_reducible refine Below.drewN ?_ _) | (with_reducible refine Below.setCell ?_ ?_ _) | go_size))⟩
    · intro z hz; rw [List.take_zero] at hz; cases hz
    · have e1 : ((hiw (sumN (zs.take 0)) : Nat) : Int) = 0 := by rw [List.take_zero]; rfl
      have e2 : ((low (sumN (zs.take 0)) : Nat) : Int) = 0 := by rw [List.take_zero]; rfl
      rw [e1, e2]
      exact (Blk.new' _ [.int .u64 0, .int .u64 0] _ _ (by simp)).alloc _
    · exact (Blk.new' _ [.int .u64 0, .int .u64 0] _ _ (by simp))
    · exact ((Blk.new' _ [.int .u64 0, .int .u64 0] _ _ (by simp)).alloc _).alloc _
  case round =>
    obtain ⟨k, hk, rfl, hr⟩ := hrel
    have bs := hr.out.2.1
    have s0 := bs.cell 0
    have s1 := bs.cell 1
    have g0 := bs.free 0
    have g1 := bs.free 1
    have br := hr.out.2.2.2.1
    have r0 := br.cell 0
    have r1 := br.cell 1
    have f0 := br.free 0
    have f1 := br.free 1
    simp only [List.getElem?_cons_zero, List.getElem?_cons_succ] at s0 s1 r0 r1
    have BS := hidp bs; have BR := hidp br; clear bs br
    by_cases hlt : k < n
    · obtain ⟨b, off, ha, hc0⟩ := HC.out k (by rw [HN.out]; exact hlt)
      subst ha
      have c := (hr.out.2.2.2.2.cell (p := ⟨b, off + k, none⟩) (World.block_lt_of_cell? w _ hc0)).trans hc0
      clear hc0
      have hin : zs[k]?.getD 0 ∈ zs := by rw [List.getElem?_eq_getElem (by rw [HN.out]; exact hlt)]; exact List.getElem_mem _
      have hz1 := HM.out _ hin
      by_cases hz : zs[k]?.getD 0 < 0
      · go_wp2_with fail
        refine (step_neg _ _ _ hz).mono ?_
        rintro e w1 ⟨rfl, hB1⟩
        have br := BR.out.below hB1 BR.out.lt
        have k0 := br.cell 0
        have k1 := br.cell 1
        have q0 := br.free 0
        have q1 := br.free 1
        have bz := hr.out.2.2.1.below hB1 hr.out.2.2.1.lt
        have z0 := bz.cell 0
        have z1 := bz.cell 1
        simp only [List.getElem?_cons_zero, List.getElem?_cons_succ] at k0 k1 z0 z1
        have HB1 := hidp hB1; have hs := hr.out.2.2.1.lt; have hs1 := hB1.size; clear hB1 br bz c
        have hlt1 : w.heap.size + 2 < w1.heap.size := by omega
        have hlt0 : w.heap.size < w1.heap.size := by omega
        go_wp2
        exact bodyPost_ret (v := .tuple #[wz, .int .i64 3]) (by simp [results, Tryz.results142, go_sem, k0, k1, hlt0]) rfl ⟨by rw [sumV_neg hin hz], (hr.out.2.2.2.2.trans (HB1.out.mono hr.out.2.2.2.2.size)).trans (by (repeat' (first | (with_reducible exact Below.refl _ _) | (with_reducible refine Below.alloc ?_ ?_ _) | (with_reducible refine Below.drew ?_) | (with_reducible refine Below.drewN ?_ _) | (with_reducible refine Below.setCell ?_ ?_ _) | go_size)))⟩
      · obtain ⟨z, hzz⟩ := Int.eq_ofNat_of_zero_le (show 0 ≤ zs[k]?.getD 0 by omega)
        have hkl : k < zs.length := by rw [HN.out]; exact hlt
        have hsn := sumN_snoc zs k hkl
        rw [hzz, Int.toNat_natCast] at hsn
        have hbd := sumN_lt zs (k + 1) HL.out HM.out
        rw [hsn] at hbd
        have HSN := hidp hsn; have HBD := hidp hbd; have HZZ := hidp hzz
        rw [hzz] at c hz1
        clear hsn hbd hzz hin hz
        go_wp2_with fail
        refine (step_ok _ z _ (by omega) HBD.out).mono ?_
        rintro e w1 ⟨rfl, hB1⟩
        have b1 := BS.out.below hB1 BS.out.lt
        have k0 := b1.cell 0
        have k1 := b1.cell 1
        have q0 := b1.free 0
        have q1 := b1.free 1
        simp only [List.getElem?_cons_zero, List.getElem?_cons_succ] at k0 k1
        have B1 := hidp b1
        have hs := hr.out.2.2.1.lt; have hs1 := hB1.size
        have hlt1 : w.heap.size + 1 < w1.heap.size := by omega
        have HB1 := hidp hB1
        clear b1 hB1 c
        go_wp2
        go_roundw
        case rel =>
          refine ⟨k + 1, by omega, by go_num, take_snoc_ok hkl hr.out.1 (by rw [HZZ.out]; omega), ?_, ?_, ?_, ?_⟩
          · rw [HSN.out]
            exact ((B1.out.set 0 _).set 1 _).alloc _
          · exact (((hr.out.2.2.1.below HB1.out hr.out.2.2.1.lt).other _ _ (by simp)).other _ _ (by simp)).alloc _
          · exact (((hr.out.2.2.2.1.below HB1.out hr.out.2.2.2.1.lt).other _ _ (by simp)).other _ _ (by simp)).alloc _
          · exact (hr.out.2.2.2.2.trans (HB1.out.mono hr.out.2.2.2.2.size)).trans (by (repeat' (first | (with_reducible exact Below.refl _ _) | (with_reducible refine Below.alloc ?_ ?_ _) | (with_reducible refine Below.drew ?_) | (with_reducible refine Below.drewN ?_ _) | (with_reducible refine Below.setCell ?_ ?_ _) | go_size)))
        case measure => simp [intOf]; omega
    · obtain rfl : k = n := by omega
      go_wp2
      exact bodyPost_ret (v := .tuple #[wv (sumN (zs.take k)), .int .i64 0]) (by simp [results, Tryz.results142, go_sem, r0, r1]) rfl ⟨by have hk2 : zs.take k = zs := List.take_of_length_le (by rw [HN.out]; omega); have h := hr.out.1; rw [hk2] at h ⊢; rw [sumV_ok h], hr.out.2.2.2.2.trans (by (repeat' (first | (with_reducible exact Below.refl _ _) | (with_reducible refine Below.alloc ?_ ?_ _) | (with_reducible refine Below.drew ?_) | (with_reducible refine Below.drewN ?_ _) | (with_reducible refine Below.setCell ?_ ?_ _) | go_size)))⟩
theorem Sum_any (a : Option Addr) (n cap : Nat) (zs : List Int) (w : World) (hl : zs.length ≤ 1000) (hm : ∀ z ∈ zs, z ≤ 9223372036854775807) (hn : zs.length = n) (hc : IntsAt w a zs) :
    Calls Tryz.prog 72 #[.slice a n cap] w fun e w' => e = .returned (sumV zs) ∧ Below w.heap.size w w' := by
  have HC := hidp (hc.below (w' := w.alloc (.cells #[.int .u64 0, .int .u64 0] 29)) (B := w.heap.size) (by (repeat' (first | (with_reducible exact Below.refl _ _) | (with_reducible refine Below.alloc ?_ ?_ _) | (with_reducible refine Below.drew ?_) | (with_reducible refine Below.drewN ?_ _) | (with_reducible refine Below.setCell ?_ ?_ _) | go_size))) (Nat.le_refl _))
  have HN := hidp hn; have HL := hidp hl; have HM := hidp hm
  have hv : (∃ v x, sumV zs = .tuple #[.agg #[.int .u64 (hiw v), .int .u64 (low v)], .int .i64 x]) := by
    unfold sumV; split
    · exact ⟨_, _, rfl⟩
    · exact ⟨0, 3, rfl⟩
  obtain ⟨v, x, hv⟩ := hv
  have hf := fold_any a n cap zs (w.alloc (.cells #[.int .u64 0, .int .u64 0] 29)) HL.out HM.out HN.out HC.out
  rw [hv] at hf ⊢
  have HF := hidp hf
  clear hf hv hc hn hl hm
  go_enter Tryz.func72, Tryz.ntmps72
  go_wp2_with fail
  refine HF.out.mono ?_
  rintro e w1 ⟨rfl, hB⟩
  obtain ⟨hc, hf⟩ := bcell hB
  have HB := hidp hB; have hs := hB.size; clear hB
  simp only [World.size_alloc] at hs
  have hz0 : w.heap.size < w1.heap.size := by omega
  go_wp2
  exact bodyPost_ret (v := .tuple #[.agg #[.int .u64 (hiw v), .int .u64 (low v)], .int .i64 x]) (by simp [results, Tryz.results72, go_sem, hc]) rfl ⟨rfl, by (repeat' (first | (with_reducible exact Below.refl _ _) | (with_reducible refine Below.alloc ?_ ?_ _) | (with_reducible refine Below.drew ?_) | (with_reducible refine Below.drewN ?_ _) | (with_reducible refine Below.setCell ?_ ?_ _) | (with_reducible refine Below.trans ?_ (Below.mono HB.out ?_)) | go_size | (have i0_ := HB.out.size; (try simp at i0_); (try simp); omega)))⟩
end Go.Proofs.YtcmkmnidnapabaaGreat
