/-
  Calls that WideKnown makes, each at its numbers.
-/
import Derived.Test.YtbldmenaaedffaaWv
import Derived.Deep.RegionHeld3
import Derived.Deep.DeepCutAuto
namespace Go.Proofs.Ytbldmenaaedffaa
open Go.RowKit

/-- All below block B is as it was, and block b holds a wide. -/
def Sx (w : World) (b : Nat) (x y : Int) (w' : World) : Prop := Below w.heap.size w w' ∧ b < w'.heap.size ∧ w'.cell? ⟨b, 0, none⟩ = some (.int .u64 x) ∧ w'.cell? ⟨b, 1, none⟩ = some (.int .u64 y)
theorem stepS {w w1 w2 : World} {b : Nat} {x y : Int} (h : Hid (Sx w b x y w1)) (k : Below w1.heap.size w1 w2) : Hid (Sx w b x y w2) := by
  obtain ⟨h0, h1, h2, h3⟩ := h.out
  exact hidp ⟨btrans h0 k, Nat.lt_of_lt_of_le h1 k.size, (k.cell (p := ⟨b, 0, none⟩) h1).trans h2, (k.cell (p := ⟨b, 1, none⟩) h1).trans h3⟩
theorem drewS {w w1 : World} {b : Nat} {x y : Int} (h : Hid (Sx w b x y w1)) : Hid (Sx w b x y w1.drew) := by
  obtain ⟨h0, h1, h2, h3⟩ := h.out
  exact hidp ⟨h0.drew, h1, h2, h3⟩

theorem allocS {w w1 : World} {b : Nat} {x y : Int} {o : Obj} (h : Hid (Sx w b x y w1)) : Hid (Sx w b x y (w1.alloc o)) :=
  stepS h ((Below.refl _ _).alloc (Nat.le_refl _) _)

def powN : Nat := 170141183460469231731687303715884105728
theorem wv_pow : wv powN = .agg #[.int .u64 9223372036854775808, .int .u64 0] := by
  have h1 : hiw powN = 9223372036854775808 := by decide +kernel
  have h2 : low powN = 0 := by decide +kernel
  show Value.agg #[.int .u64 (hiw powN : Nat), .int .u64 (low powN : Nat)] = _
  rw [h1, h2]; rfl
theorem wv_0 : wv 0 = .agg #[.int .u64 0, .int .u64 0] := by
  have h1 : hiw 0 = 0 := by decide +kernel
  have h2 : low 0 = 0 := by decide +kernel
  show Value.agg #[.int .u64 (hiw 0 : Nat), .int .u64 (low 0 : Nat)] = _
  rw [h1, h2]; rfl
theorem wv_1 : wv 1 = .agg #[.int .u64 0, .int .u64 1] := by
  have h1 : hiw 1 = 0 := by decide +kernel
  have h2 : low 1 = 1 := by decide +kernel
  show Value.agg #[.int .u64 (hiw 1 : Nat), .int .u64 (low 1 : Nat)] = _
  rw [h1, h2]; rfl
theorem kp1 (w : World) : Calls Try.prog 32 #[wv mostN, .agg #[.int .u64 0, .int .u64 1], .agg #[.int .u64 0, .int .u64 0], .int .i64 7] w fun e w' => e = .returned (.bool true) ∧ Below w.heap.size w w' := by
  rw [← wv_0, ← wv_1]
  exact lplus_true mostN 1 0 7 w fun w => by rw [wv_0]; exact Plus_full mostN 1 w (by decide) (by decide) (by decide)
theorem kt1 (w : World) : Calls Try.prog 34 #[.agg #[.int .u64 9223372036854775808, .int .u64 0], .int .i64 2, .agg #[.int .u64 0, .int .u64 0], .int .i64 7] w fun e w' => e = .returned (.bool true) ∧ Below w.heap.size w w' := by
  rw [← wv_0, ← wv_pow]
  exact ltimes_true powN 0 2 7 w fun w => by rw [wv_0]; exact Times_full powN 2 w (by decide) (by decide) (by decide)
theorem kt2 (w : World) : Calls Try.prog 34 #[wv mostN, .int .i64 0, .agg #[.int .u64 0, .int .u64 0], .int .i64 0] w fun e w' => e = .returned (.bool true) ∧ Below w.heap.size w w' := by
  rw [← wv_0]
  exact ltimes_true mostN 0 0 0 w fun w => Times_ok mostN 0 w (by decide) (by decide) (by decide)
theorem kt3 (w : World) : Calls Try.prog 34 #[.agg #[.int .u64 0, .int .u64 1], .int .i64 (-1), .agg #[.int .u64 0, .int .u64 0], .int .i64 3] w fun e w' => e = .returned (.bool true) ∧ Below w.heap.size w w' := by
  rw [← wv_0, ← wv_1]
  exact ltimes_true 1 0 (-1) 3 w fun w => by rw [wv_0]; exact Times_neg 1 (-1) w (by decide)
end Go.Proofs.Ytbldmenaaedffaa
