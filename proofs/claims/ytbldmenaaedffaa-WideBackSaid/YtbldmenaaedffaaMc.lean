/-
  Plain arithmetic, more: division by 10 as bits.Div64 does it.
-/
import Derived.Test.YtbldmenaaedffaaMa
namespace Go.Proofs.Ytbldmenaaedffaa
theorem wrapN (x : Nat) (h : x < B64) : IntKind.u64.wrap (x : Int) = (x : Int) := by
  rw [IntKind.wrap_u64]; unfold B64 at h; omega
theorem tdivN (x y : Nat) : (x : Int).tdiv (y : Int) = ((x / y : Nat) : Int) := by
  rw [Int.tdiv_eq_ediv_of_nonneg (Int.natCast_nonneg _)]; rfl
theorem wrap_subN (x y : Nat) (h : y ≤ x) (hx : x < B64) : IntKind.u64.wrap ((x : Int) - (y : Int)) = ((x - y : Nat) : Int) := by
  rw [← Int.natCast_sub h]; exact wrapN _ (by omega)
def yn : Nat := 2684354560
theorem yn_eq : yn = 2684354560 := rfl
theorem E1 (u : Nat) (hu : u < B64) : IntKind.u64.wrap ((u : Int).tdiv 2684354560) = ((u / yn : Nat) : Int) := by
  have h := tdivN u yn
  have e : ((yn : Nat) : Int) = 2684354560 := by unfold yn; rfl
  rw [e] at h
  rw [h]
  exact wrapN _ (Nat.lt_of_le_of_lt (Nat.div_le_self _ _) hu)
theorem E1' (u : Nat) (hu : u < B64) : IntKind.u64.wrap ((u : Int) / 2684354560) = ((u / yn : Nat) : Int) := by
  rw [← E1 u hu, Int.tdiv_eq_ediv_of_nonneg (Int.natCast_nonneg _)]
theorem E2 (u : Nat) (hu : u < B64) : IntKind.u64.wrap ((u : Int) - IntKind.u64.wrap (((u / yn : Nat) : Int) * 2684354560)) = ((u % yn : Nat) : Int) := by
  have e : (((u / yn : Nat) : Int)) * 2684354560 = ((u / yn * yn : Nat) : Int) := by
    rw [Int.natCast_mul]; unfold yn; rfl
  have hle : u / yn * yn ≤ u := Nat.div_mul_le_self _ _
  rw [e, wrapN _ (by omega), wrap_subN _ _ hle hu]
  congr 1
  have := Nat.div_add_mod u yn
  rw [Nat.mul_comm] at this
  omega
def top10 : Nat := 11529215046068469760
theorem top10_B64 : top10 < B64 := by decide
theorem q_lt {u : Nat} (hu : u < top10) : ((u / yn : Nat) : Int) < 4294967296 := by unfold yn; unfold top10 at hu; omega
/-- The word that stands for the upper half. -/
def u32 (h l : Nat) : Nat := h * 1152921504606846976 + l / 16
theorem u32_lt {h l : Nat} (hh : h < 10) (hl : l < B64) : u32 h l < top10 := by unfold u32 top10; unfold B64 at hl; omega
theorem or_word (h l : Nat) (hh : h < 10) (hl : l < B64) : bits .or .u64 ((h : Int) * 1152921504606846976) ((l : Int) / 16) = ((u32 h l : Nat) : Int) := by
  unfold B64 at hl
  have h1 := bits_or_u64_nat (h * 1152921504606846976) (l / 16) (by omega) (by omega)
  have h2 := Nat.shiftLeft_add_eq_or_of_lt (i := 60) (b := l / 16) (by omega) h
  rw [Nat.shiftLeft_eq] at h2
  have e1 : (((h * 1152921504606846976 : Nat) : Int)) = (h : Int) * 1152921504606846976 := by omega
  have e2 : (((l / 16 : Nat) : Int)) = (l : Int) / 16 := by omega
  rw [e1, e2] at h1
  rw [h1]
  exact congrArg _ h2.symm
theorem wrap_zero : IntKind.u64.wrap 0 = 0 := by rw [IntKind.wrap_u64]; omega
theorem A0 : bits .and .u64 11529215046068469760 4294967295 = 0 := by decide +kernel
def ln (l : Nat) : Nat := l % 16 * 1152921504606846976
def un1 (l : Nat) : Nat := l % 16 * 268435456
theorem A1 (l : Nat) : IntKind.u64.wrap ((l : Int) * 1152921504606846976) = ((ln l : Nat) : Int) := by
  rw [IntKind.wrap_u64]; unfold ln; omega
theorem A2 (l : Nat) : ((ln l : Nat) : Int) / 4294967296 = ((un1 l : Nat) : Int) := by unfold ln un1; omega
theorem ln_lt (l : Nat) : ln l < B64 := by unfold ln B64; omega
theorem A3 (l : Nat) : bits .and .u64 ((ln l : Nat) : Int) 4294967295 = 0 := by
  have h1 := bits_and_u64_nat (ln l) 4294967295 (by have := ln_lt l; unfold B64 at this; exact this) (by omega)
  have e : ln l &&& 4294967295 = ln l % 4294967296 := Nat.and_two_pow_sub_one_eq_mod (ln l) 32
  have e2 : ln l % 4294967296 = 0 := by unfold ln; omega
  rw [e, e2] at h1
  exact h1
def u21 (r l : Nat) : Nat := r * 4294967296 + un1 l
theorem u21_lt {r l : Nat} (hr : r < yn) : u21 r l < top10 := by unfold u21 un1 top10; unfold yn at hr; omega
theorem A4 (r l : Nat) (hr : r < yn) : IntKind.u64.wrap (IntKind.u64.wrap (4294967296 * (r : Int)) + ((un1 l : Nat) : Int)) = ((u21 r l : Nat) : Int) := by
  rw [IntKind.wrap_u64, IntKind.wrap_u64]; unfold u21 un1; unfold yn at hr; omega
theorem A5 (q r l : Nat) (hr : r < yn) : IntKind.u64.wrap (IntKind.u64.wrap (IntKind.u64.wrap (((q * yn + r : Nat) : Int) * 4294967296) + ((un1 l : Nat) : Int)) - IntKind.u64.wrap ((q : Int) * 11529215046068469760)) = ((u21 r l : Nat) : Int) := by
  rw [IntKind.wrap_u64, IntKind.wrap_u64, IntKind.wrap_u64, IntKind.wrap_u64]; unfold u21 un1 yn; unfold yn at hr; omega
def hi32 (r : Nat) : Nat := r * 4294967296
theorem A6 (r : Nat) (hr : r < yn) : IntKind.u64.wrap (4294967296 * (r : Int)) = ((hi32 r : Nat) : Int) := by
  rw [IntKind.wrap_u64]; unfold hi32; unfold yn at hr; omega
def quo (q q0 : Nat) : Nat := q * 4294967296 + q0
theorem A7 (q q0 : Nat) (hq : q < 4294967296) (hq0 : q0 < 4294967296) : IntKind.u64.wrap (IntKind.u64.wrap ((q : Int) * 4294967296) + (q0 : Int)) = ((quo q q0 : Nat) : Int) := by
  rw [IntKind.wrap_u64, IntKind.wrap_u64]; unfold quo; omega
theorem A8 (q0 r0 : Nat) (hr : r0 < yn) : IntKind.u64.wrap (IntKind.u64.wrap (((q0 * yn + r0 : Nat) : Int) * 4294967296) - IntKind.u64.wrap ((q0 : Int) * 11529215046068469760)) = ((hi32 r0 : Nat) : Int) := by
  rw [IntKind.wrap_u64, IntKind.wrap_u64, IntKind.wrap_u64]; unfold hi32 yn; unfold yn at hr; omega
def rem10 (r0 : Nat) : Nat := hi32 r0 / 1152921504606846976
theorem A9 (r0 : Nat) : ((hi32 r0 : Nat) : Int) / 1152921504606846976 = ((rem10 r0 : Nat) : Int) := by unfold rem10; omega
theorem div10 (h l : Nat) : quo (u32 h l / yn) (u21 (u32 h l % yn) l / yn) = (h * B64 + l) / 10 ∧ rem10 (u21 (u32 h l % yn) l % yn) = (h * B64 + l) % 10 := by
  unfold quo rem10 hi32 u21 un1 u32 yn B64; omega
theorem qdec {q : Nat} (h : q < 4294967296) : decide ((4294967296 : Int) ≤ (q : Int)) = false := by simp; omega
theorem q_lt' {u : Nat} (hu : u < top10) : u / yn < 4294967296 := by unfold yn; unfold top10 at hu; omega
theorem yn_pos : 0 < yn := by decide
theorem back (u : Nat) : u / yn * yn + u % yn = u := by rw [Nat.mul_comm]; exact Nat.div_add_mod u yn
/-- The two parts of a word at the divisor's upper half; 2^32, behind a name. -/
def q32 (u : Nat) : Nat := u / yn
def r32 (u : Nat) : Nat := u % yn
def T32 : Nat := 4294967296
theorem r32_lt (u : Nat) : r32 u < yn := Nat.mod_lt _ yn_pos
theorem R1 (u : Nat) (hu : u < B64) : IntKind.u64.wrap ((u : Int) / 2684354560) = ((q32 u : Nat) : Int) := E1' u hu
theorem R2 (u : Nat) (hu : u < B64) : IntKind.u64.wrap ((u : Int) - IntKind.u64.wrap (((q32 u : Nat) : Int) * 2684354560)) = ((r32 u : Nat) : Int) := E2 u hu
theorem R4 (u l : Nat) : IntKind.u64.wrap (IntKind.u64.wrap (4294967296 * ((r32 u : Nat) : Int)) + ((un1 l : Nat) : Int)) = ((u21 (r32 u) l : Nat) : Int) := A4 _ l (r32_lt u)
theorem R5 (u l : Nat) : IntKind.u64.wrap (IntKind.u64.wrap (IntKind.u64.wrap ((u : Int) * 4294967296) + ((un1 l : Nat) : Int)) - IntKind.u64.wrap (((q32 u : Nat) : Int) * 11529215046068469760)) = ((u21 (r32 u) l : Nat) : Int) := by
  have h := A5 (q32 u) (r32 u) l (r32_lt u)
  unfold q32 r32 at h
  rw [back] at h
  exact h
theorem R6 (u : Nat) : IntKind.u64.wrap (4294967296 * ((r32 u : Nat) : Int)) = ((hi32 (r32 u) : Nat) : Int) := A6 _ (r32_lt u)
theorem R7 (q q0 : Nat) (hq : q < T32) (hq0 : q0 < T32) : IntKind.u64.wrap (IntKind.u64.wrap ((q : Int) * 4294967296) + (q0 : Int)) = ((quo q q0 : Nat) : Int) := A7 q q0 hq hq0
theorem R8 (u : Nat) : IntKind.u64.wrap (IntKind.u64.wrap ((u : Int) * 4294967296) - IntKind.u64.wrap (((q32 u : Nat) : Int) * 11529215046068469760)) = ((hi32 (r32 u) : Nat) : Int) := by
  have h := A8 (q32 u) (r32 u) (r32_lt u)
  unfold q32 r32 at h
  rw [back] at h
  exact h
theorem qT {u : Nat} (hu : u < top10) : q32 u < T32 := q_lt' hu
theorem qD {u : Nat} (hu : u < top10) : decide ((4294967296 : Int) ≤ ((q32 u : Nat) : Int)) = false := qdec (q_lt' hu)
/-- 10 times 2^60, and its upper half, behind names. -/
def y10 : Int := 11529215046068469760
def yh : Int := 2684354560
theorem y10_eq : (11529215046068469760 : Int) = y10 := rfl
theorem yh_eq : (2684354560 : Int) = yh := rfl
theorem S1 (u : Nat) (hu : u < B64) : IntKind.u64.wrap ((u : Int).tdiv yh) = ((q32 u : Nat) : Int) := E1 u hu
theorem S1' (u : Nat) (hu : u < B64) : IntKind.u64.wrap ((u : Int) / yh) = ((q32 u : Nat) : Int) := E1' u hu
theorem S2 (u : Nat) (hu : u < B64) : IntKind.u64.wrap ((u : Int) - IntKind.u64.wrap (((q32 u : Nat) : Int) * yh)) = ((r32 u : Nat) : Int) := E2 u hu
theorem S5 (u l : Nat) : IntKind.u64.wrap (IntKind.u64.wrap (IntKind.u64.wrap ((u : Int) * 4294967296) + ((un1 l : Nat) : Int)) - IntKind.u64.wrap (((q32 u : Nat) : Int) * y10)) = ((u21 (r32 u) l : Nat) : Int) := R5 u l
theorem S8 (u : Nat) : IntKind.u64.wrap (IntKind.u64.wrap ((u : Int) * 4294967296) - IntKind.u64.wrap (((q32 u : Nat) : Int) * y10)) = ((hi32 (r32 u) : Nat) : Int) := R8 u
theorem yh_ne : ¬ yh = 0 := by decide
theorem or_word' (h l : Nat) (hh : h < 10) (hl : l < B64) : bits .or .u64 ((ln h : Nat) : Int) ((l : Int) / 16) = ((u32 h l : Nat) : Int) := by
  have e : ((ln h : Nat) : Int) = (h : Int) * 1152921504606846976 := by unfold ln; omega
  rw [e]; exact or_word h l hh hl
theorem R4' (u l : Nat) : IntKind.u64.wrap (((hi32 (r32 u) : Nat) : Int) + ((un1 l : Nat) : Int)) = ((u21 (r32 u) l : Nat) : Int) := by
  rw [← R6]; exact R4 u l
theorem neg_no (x : Nat) : decide ((x : Int) < 0) = false := decide_eq_false (by omega)
theorem hi32_lt {r : Nat} (hr : r < yn) : hi32 r < B64 := by unfold hi32 B64; unfold yn at hr; omega
theorem hi32_wrap (u : Nat) : IntKind.u64.wrap ((hi32 (r32 u) : Nat) : Int) = ((hi32 (r32 u) : Nat) : Int) := wrapN _ (hi32_lt (r32_lt u))
theorem div10' (h l : Nat) : quo (q32 (u32 h l)) (q32 (u21 (r32 (u32 h l)) l)) = (h * B64 + l) / 10 ∧ rem10 (r32 (u21 (r32 (u32 h l)) l)) = (h * B64 + l) % 10 := div10 h l
theorem wrap_wrap (x : Int) : IntKind.u64.wrap (IntKind.u64.wrap x) = IntKind.u64.wrap x := by
  rw [IntKind.wrap_u64, IntKind.wrap_u64]; omega
theorem split_hi (a : Nat) : hiw a / 10 = hiw (a / 10) := by unfold hiw B64; omega
theorem split_lo (a : Nat) : (hiw a % 10 * B64 + low a) / 10 = low (a / 10) := by unfold hiw low B64; omega
theorem split_rem (a : Nat) : (hiw a % 10 * B64 + low a) % 10 = a % 10 := by unfold hiw low B64; omega
theorem wrap_div {x : Nat} (h : x < B64) : IntKind.u64.wrap ((x : Int) / 10) = ((x / 10 : Nat) : Int) := by
  have e : (x : Int) / 10 = ((x / 10 : Nat) : Int) := by omega
  rw [e]; exact wrapN _ (Nat.lt_of_le_of_lt (Nat.div_le_self _ _) h)
theorem cast_mod (x : Nat) : (x : Int) % 10 = ((x % 10 : Nat) : Int) := by omega
def d10 (x : Nat) : Nat := x / 10
def m10 (x : Nat) : Nat := x % 10
theorem m10_lt (x : Nat) : m10 x < 10 := Nat.mod_lt _ (by omega)
theorem W10 {x : Nat} (h : x < B64) : IntKind.u64.wrap ((x : Int) / 10) = ((d10 x : Nat) : Int) := wrap_div h
theorem W10t {x : Nat} (h : x < B64) : IntKind.u64.wrap ((x : Int).tdiv 10) = ((d10 x : Nat) : Int) := by
  rw [Int.tdiv_eq_ediv_of_nonneg (Int.natCast_nonneg _)]; exact wrap_div h
theorem C10 (x : Nat) : (x : Int) % 10 = ((m10 x : Nat) : Int) := cast_mod x
theorem C10t (x : Nat) : (x : Int).tmod 10 = ((m10 x : Nat) : Int) := by
  rw [Int.tmod_eq_emod_of_nonneg (Int.natCast_nonneg _)]; exact cast_mod x
end Go.Proofs.Ytbldmenaaedffaa
