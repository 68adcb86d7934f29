/-
  Plain laws: doubles by their bits: which are NaN, how two stand, and the order of paces.
-/
import Derived.Laws.FloatArith
namespace Go.Proofs.YtcmkmnidnapabaaGreat

/-- How two doubles stand, by their bits. -/
def fo (x y : Nat) : Option Ordering := FloatKind.f64.format.order x y
def nanB (x : Nat) : Bool := fo x x != some .eq
def eqB (x y : Nat) : Bool := fo x y == some .eq
def gtB (x y : Nat) : Bool := fo x y == some .gt
def ltB (x y : Nat) : Bool := fo x y == some .lt
def nanForm : Nat := 9221120237041090560
def top63 : Nat := 9223372036854775808
def formN (x : Nat) : Nat := if nanB x = true then nanForm else x
def posB (x : Nat) : Bool := decide (formN x / top63 = 0)
def ord3 (a b : Bool) : Int := match a, b with
  | true, false => 1
  | false, true => -1
  | _, _ => 0
def or3 (a b c : Int) : Int := if a = 0 then (if b = 0 then c else b) else a
def cmpN (x y : Nat) : Int := or3 (ord3 (nanB x) (nanB y)) (ord3 (gtB x y) (gtB y x)) (ord3 (posB x) (posB y))
def sgN (x : Nat) : Int := if x / top63 = 1 then 1 else 0

open Ieee

theorem order_swap (a b : Datum) : b.order a = (a.order b).map Ordering.swap := by
  cases a <;> cases b <;> simp [Datum.order]
  case number.number s m i t n j =>
    rw [Int.min_comm j i, ← Std.OrientedCmp.eq_swap (cmp := compare)]
  case infinity.infinity s t => rw [← Std.OrientedCmp.eq_swap (cmp := compare)]
  all_goals (split <;> rfl)
theorem fo_swap (x y : Nat) : fo y x = (fo x y).map Ordering.swap := order_swap _ _
theorem fo_none {x y : Nat} : fo x y = none ↔ (FloatKind.f64.format.read x).isNaN = true ∨ (FloatKind.f64.format.read y).isNaN = true := by
  unfold fo Format.order
  cases FloatKind.f64.format.read x <;> cases FloatKind.f64.format.read y <;> simp [Datum.order, Datum.isNaN]
theorem nanB_eq (x : Nat) : nanB x = (FloatKind.f64.format.read x).isNaN := by
  unfold nanB fo Format.order
  cases FloatKind.f64.format.read x <;> simp [Datum.order, Datum.isNaN]
theorem fo_nan {x y : Nat} : fo x y = none ↔ nanB x = true ∨ nanB y = true := by
  rw [nanB_eq, nanB_eq]; exact fo_none

/-- The answer by definition. -/
def refCmpN (x y : Nat) : Int :=
  if nanB x = true ∨ nanB y = true then (if nanB x = true then (if nanB y = true then 0 else 1) else -1)
  else if ltB x y = true then -1 else if gtB x y = true then 1 else sgN y - sgN x

theorem top_cases {x : Nat} (h : x < 18446744073709551616) : x / top63 = 0 ∨ x / top63 = 1 := by unfold top63; omega
theorem formN_no {x : Nat} (h : nanB x = false) : formN x = x := by unfold formN; simp [h]
theorem formN_yes {x : Nat} (h : nanB x = true) : formN x = nanForm := by unfold formN; simp [h]
theorem posB_no {x : Nat} (h : nanB x = false) : posB x = decide (x / top63 = 0) := by unfold posB; rw [formN_no h]
theorem posB_yes {x : Nat} (h : nanB x = true) : posB x = true := by unfold posB; rw [formN_yes h]; decide
theorem sg_pos {x : Nat} (h : nanB x = false) (hx : x < 18446744073709551616) : sgN x = if posB x = true then 0 else 1 := by
  unfold sgN
  rw [posB_no h]
  rcases top_cases hx with h1 | h1 <;> simp [h1]

theorem cmpN_ref (x y : Nat) (hx : x < 18446744073709551616) (hy : y < 18446744073709551616) : cmpN x y = refCmpN x y := by
  unfold cmpN refCmpN
  cases hnx : nanB x <;> cases hny : nanB y
  · have hs := fo_swap x y
    have hn : fo x y ≠ none := fun h => by rcases fo_nan.1 h with h | h <;> simp_all
    rw [sg_pos hnx hx, sg_pos hny hy]
    unfold gtB ltB
    rw [hs]
    cases hf : fo x y with
    | none => exact absurd hf hn
    | some o => cases o <;> cases posB x <;> cases posB y <;> simp [ord3, or3, Ordering.swap]
  · simp [ord3, or3]
  · simp [ord3, or3]
  · have hs := fo_swap x y
    have hn : fo x y = none := fo_nan.2 (.inl hnx)
    unfold gtB
    rw [hs, hn, posB_yes hnx, posB_yes hny]
    simp [ord3, or3]
end Go.Proofs.YtcmkmnidnapabaaGreat
