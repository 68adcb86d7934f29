/-
  Plain laws: doubles by their bits: which are NaN, how two stand, and the order of paces.
-/
import Derived.Laws.FloatArith
namespace Go.Proofs.YtcmkmnidnapabaaGreat

/-- How two doubles stand, by their bits. -/
def fo (x y : Nat) : Option Ordering := FloatKind.f64.format.order x y
def nanB (x : Nat) : Bool := fo x x != some .eq
def eqB (x y : Nat) : Bool := fo x y == some .eq
def gtB (x y : Nat) : Bool := fo x y == some .gt
def ltB (x y : Nat) : Bool := fo x y == some .lt
def nanForm : Nat := 9221120237041090560
def top63 : Nat := 9223372036854775808
def formN (x : Nat) : Nat := if nanB x = true then nanForm else x
def posB (x : Nat) : Bool := decide (formN x / top63 = 0)
def ord3 (a b : Bool) : Int := match a, b with
  | true, false => 1
  | false, true => -1
  | _, _ => 0
def or3 (a b c : Int) : Int := if a = 0 then (if b = 0 then c else b) else a
def cmpN (x y : Nat) : Int := or3 (ord3 (nanB x) (nanB y)) (ord3 (gtB x y) (gtB y x)) (ord3 (posB x) (posB y))
def sgN (x : Nat) : Int := if x / top63 = 1 then 1 else 0

open Ieee

/-- The answer by definition. -/
def refCmpN (x y : Nat) : Int :=
  if nanB x = true ∨ nanB y = true then (if nanB x = true then (if nanB y = true then 0 else 1) else -1)
  else if ltB x y = true then -1 else if gtB x y = true then 1 else sgN y - sgN x

end Go.Proofs.YtcmkmnidnapabaaGreat
