/-
  Plain laws: what a double's word stands for, in numerals; which results are a NaN; what Smooth comes to.
-/
import Derived.Test.YtajklipfdjaejaaEa
namespace Go.Proofs.Ytajklipfdjaejaa
open Ieee

def bin : Nat := 4503599627370496
def inf : Nat := 9218868437227405312
theorem read_eq (x : Nat) : FloatKind.f64.format.read x =
    if x % top63 < bin then .number (x / top63 % 2 == 1) (x % top63) (-1074)
    else if x % top63 < inf then .number (x / top63 % 2 == 1) (bin + x % top63 % bin) (-1074 + (x % top63 / bin - 1 : Nat))
    else if x % top63 = inf then .infinity (x / top63 % 2 == 1) else .nan (x / top63 % 2 == 1) (x % top63 - inf) := rfl
theorem nanB_iff (x : Nat) : nanB x = true ↔ inf < x % top63 := by
  rw [nanB_eq, read_eq]
  unfold bin inf top63
  split
  · simp [Datum.isNaN]; omega
  · split
    · simp [Datum.isNaN]; omega
    · split
      · simp [Datum.isNaN]; omega
      · simp [Datum.isNaN]; omega
theorem nan_read {x : Nat} (h : nanB x = true) : ∃ s t, FloatKind.f64.format.read x = .nan s t := by
  rw [nanB_eq] at h
  cases hr : FloatKind.f64.format.read x <;> rw [hr] at h <;> simp [Datum.isNaN] at h
  exact ⟨_, _, rfl⟩

def fsub (x y : Nat) : Option Nat := floatBits .sub .f64 x y
def fadd (x y : Nat) : Option Nat := floatBits .add .f64 x y
def c8 : Nat := 4620693217682128896
def fdiv8 (x : Nat) : Option Nat := floatBits .quo .f64 x c8
theorem fdiv8_nan {t : Nat} (h : nanB t = true) : fdiv8 t = none := by
  obtain ⟨s, u, hr⟩ := nan_read h
  unfold fdiv8 floatBits Format.div
  simp only [hr]
  rfl
theorem fadd_nan (x : Nat) {t : Nat} (h : nanB t = true) : fadd x t = none := by
  obtain ⟨s, u, hr⟩ := nan_read h
  unfold fadd floatBits Format.add
  simp only [hr]
  cases FloatKind.f64.format.read x <;> rfl

/-- What Smooth comes to: none where it is a NaN that nothing fixes. -/
def smO (x y : Nat) : Option Nat := if nanB x = true then some y else (fsub y x).bind fun d => (fdiv8 d).bind fun e => fadd x e
def IsR (o : Option Nat) (r : Nat) : Prop := match o with
  | some v => r = v
  | none => nanB r = true
theorem form_isR {o : Option Nat} {r s : Nat} (h : IsR o r) (k : IsR o s) : formN r = formN s := by
  cases o with
  | none => rw [formN_yes h, formN_yes k]
  | some v => rw [show r = v from h, show s = v from k]

/-- The NaN that the tape gives. -/
def nanT (x y : Nat) (w : World) : Nat := (Question.nanBits .f64 x y).cut (w.tape w.drawn (Question.nanBits .f64 x y))
theorem nanT_nan (x y : Nat) (w : World) : nanB (nanT x y w) = true := by
  rw [nanB_iff]
  unfold nanT inf top63
  simp only [Question.cut]
  generalize w.tape w.drawn (Question.nanBits .f64 x y) = T
  have h1 : T / 2 % (2 ^ 52 - 1) < 4503599627370495 := Nat.mod_lt _ (by decide)
  have h2 : T % 2 < 2 := Nat.mod_lt _ (by decide)
  generalize T / 2 % (2 ^ 52 - 1) = b at h1 ⊢
  generalize T % 2 = a at h2 ⊢
  rw [show a * 2 ^ 63 + 9218868437227405312 + 1 + b = 9223372036854775808 * a + (9218868437227405312 + 1 + b) by omega, Nat.mul_add_mod, Nat.mod_eq_of_lt (by omega)]
  omega
theorem run_float_nan {P : Program} (op : BinOp) (hop : op = .add ∨ op = .sub ∨ op = .quo) (t : TypeId) (x y : Nat) (w : World) (h : floatBits op .f64 x y = none) : (binOp op t (.float .f64 x) (.float .f64 y)).run P w = .ok (.float .f64 (nanT x y w)) w.drew := by
  rcases hop with rfl | rfl | rfl <;> (unfold floatBits at h; simp only at h; simp [binOp, Op.floatArith, h, nanT, Question.forced])
end Go.Proofs.Ytajklipfdjaejaa
