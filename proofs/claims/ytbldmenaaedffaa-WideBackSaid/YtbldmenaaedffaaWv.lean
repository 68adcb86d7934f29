/-
  Contract: awake (what each statement of the stage meets).
-/
import Derived.Test.YtbldmenaaedffaaWu
namespace Go.Proofs.Ytbldmenaaedffaa
open Go.RowKit

/-- The digits, by fuel: to be reckoned. -/
def revDigF : Nat → Nat → List Nat
  | 0, a => [dgt a]
  | k + 1, a => if a < 10 then [dgt a] else dgt a :: revDigF k (d10 a)
theorem revDigF_eq (k : Nat) : ∀ a, a < 10 ^ (k + 1) → revDigF k a = revDig a := by
  induction k with
  | zero => intro a h; rw [revDig_lt (by simpa using h)]; rfl
  | succ k ih =>
    intro a h
    rw [revDigF]
    by_cases h1 : a < 10
    · rw [if_pos h1, revDig_lt h1]
    · rw [if_neg h1, revDig_ge h1, ih]
      unfold d10
      rw [Nat.div_lt_iff_lt_mul (by omega), ← Nat.pow_succ]; exact h
theorem text_most : textOf mostN = ⟨#[51, 52, 48, 50, 56, 50, 51, 54, 54, 57, 50, 48, 57, 51, 56, 52, 54, 51, 52, 54, 51, 51, 55, 52, 54, 48, 55, 52, 51, 49, 55, 54, 56, 50, 49, 49, 52, 53, 53]⟩ := by
  unfold textOf
  rw [← revDigF_eq 38 mostN (by decide)]
  decide +kernel
theorem text_zero : textOf 0 = ⟨#[48]⟩ := by
  unfold textOf
  rw [← revDigF_eq 38 0 (by decide)]
  decide +kernel

/-- The string of one nought is read as 0. -/
theorem read_zero (w : World) : Calls Try.prog 27 #[.string ⟨#[48]⟩] w fun e w' => e = .returned (.tuple #[wv 0, fv 0 0]) ∧ Below w.heap.size w w' := by
  have hg : ∀ j, ¬ badB ⟨#[48]⟩ j := by
    rintro j ⟨h, hb⟩
    have : j = 0 := by have h2 : j < 1 := h; omega
    subst this
    have hb2 : (48 : Nat) < 48 ∨ 57 < 48 := hb
    omega
  have h := Read_digits ⟨#[48]⟩ w (by decide) hg (fun w => mal_ok _ w (by decide) (by decide) (fun h => by revert h; decide) hg)
  have hn : numN (digs ⟨#[48]⟩) = 0 := by decide
  rw [hn, if_pos (by decide)] at h
  exact h

theorem Text_most (w : World) : Calls Try.prog 29 #[wv mostN] w fun e w' => e = .returned (.string ⟨#[51, 52, 48, 50, 56, 50, 51, 54, 54, 57, 50, 48, 57, 51, 56, 52, 54, 51, 52, 54, 51, 51, 55, 52, 54, 48, 55, 52, 51, 49, 55, 54, 56, 50, 49, 49, 52, 53, 53]⟩) ∧ Below w.heap.size w w' := by
  rw [← text_most]; exact Text_any mostN w mostN_lt
theorem Cmp_one (w : World) : Calls Try.prog 20 #[.agg #[.int .u64 1, .int .u64 0], .agg #[.int .u64 0, .int .u64 18446744073709551615]] w fun e w' => e = .returned (.int .i64 1) ∧ Below w.heap.size w w' :=
  Cmp_any 18446744073709551616 18446744073709551615 w
def twoN : Nat := 18446744073709551616
def fiveN : Nat := 92233720368547758080
set_option maxHeartbeats 1000000 in
set_option maxRecDepth 100000 in
theorem awake_any (w : World) :
    Calls Try.prog 10 #[] w fun e w' => e = .returned (.bool true) ∧ Below w.heap.size w w' := by
  go_enter Try.func10, Try.ntmps10
  go_wp2_with fail
  refine (most_any _).mono ?_
  rintro e w1 ⟨rfl, h1⟩
  have B1 := hidp h1; clear h1
  go_wp2_with fail
  refine (low_any 0 _).mono ?_
  rintro e w2 ⟨rfl, h2⟩
  have B2 := hidp (btrans B1.out h2); clear h2 B1
  go_wp2_with fail
  refine (most_any _).mono ?_
  rintro e w3 ⟨rfl, h3⟩
  have B3 := hidp (btrans B2.out h3); clear h3 B2
  go_wp2_with fail
  refine (lplus_true mostN 0 mostN 0 _ fun w => Plus_ok mostN 0 w (by decide)).mono ?_
  rintro e w4 ⟨rfl, h4⟩
  have B4 := hidp (btrans B3.out h4); clear h4 B3
  go_wp2_with fail
  refine (high_any 1 _).mono ?_
  rintro e w5 ⟨rfl, h5⟩
  have B5 := hidp (btrans B4.out h5); clear h5 B4
  go_wp2_with fail
  refine (high_any 5 _).mono ?_
  rintro e w6 ⟨rfl, h6⟩
  have B6 := hidp (btrans B5.out h6); clear h6 B5
  go_wp2_with fail
  refine (ltimes_true twoN fiveN 5 0 _ fun w => Times_ok twoN 5 w (by decide) (by decide) (by decide)).mono ?_
  rintro e w7 ⟨rfl, h7⟩
  have B7 := hidp (btrans B6.out h7); clear h7 B6
  go_wp2_with fail
  refine (most_any _).mono ?_
  rintro e w8 ⟨rfl, h8⟩
  have B8 := hidp (btrans B7.out h8); clear h8 B7
  go_wp2_with fail
  refine (most_any _).mono ?_
  rintro e w9 ⟨rfl, h9⟩
  have B9 := hidp (btrans B8.out h9); clear h9 B8
  go_wp2_with fail
  refine (lmore_true mostN mostN 3 2 true _ fun w => More_any mostN mostN 3 2 w (by decide) (by decide) (by decide) (by decide)).mono ?_
  rintro e w10 ⟨rfl, h10⟩
  have B10 := hidp (btrans B9.out h10); clear h10 B9
  go_wp2_with fail
  refine (most_any _).mono ?_
  rintro e w11 ⟨rfl, h11⟩
  have B11 := hidp (btrans B10.out h11); clear h11 B10
  go_wp2_with fail
  refine (Text_most _).mono ?_
  rintro e w12 ⟨rfl, h12⟩
  have B12 := hidp (btrans B11.out h12); clear h12 B11
  go_wp2_with fail
  refine (low_any 0 _).mono ?_
  rintro e w13 ⟨rfl, h13⟩
  have B13 := hidp (btrans B12.out h13); clear h13 B12
  go_wp2_with fail
  refine (lreads_true ⟨#[48]⟩ 0 0 0 _ read_zero).mono ?_
  rintro e w14 ⟨rfl, h14⟩
  have B14 := hidp (btrans B13.out h14); clear h14 B13
  go_wp2_with fail
  refine (high_any 1 _).mono ?_
  rintro e w15 ⟨rfl, h15⟩
  have B15 := hidp (btrans B14.out h15); clear h15 B14
  go_wp2_with fail
  refine (low_any 18446744073709551615 _).mono ?_
  rintro e w16 ⟨rfl, h16⟩
  have B16 := hidp (btrans B15.out h16); clear h16 B15
  go_wp2_with fail
  refine (Cmp_one _).mono ?_
  rintro e w17 ⟨rfl, h17⟩
  have B17 := hidp (btrans B16.out h17); clear h17 B16
  go_wp2
  go_ret
  exact ⟨rfl, B17.out⟩
end Go.Proofs.Ytbldmenaaedffaa
