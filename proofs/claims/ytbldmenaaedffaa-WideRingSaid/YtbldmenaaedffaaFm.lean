/-
  A number behind a mask: for WideFractions and WideRing. And what two products are, told once.
-/
import Derived.Test.YtbldmenaaedffaaLa
import Derived.Test.YtbldmenaaedffaaKb
import Derived.IntWalk
namespace Go.Proofs.Ytbldmenaaedffaa
open Go.RowKit

theorem and_mask (n : Int) (M : Nat) (hM : M < 9223372036854775808) : ∃ y : Nat, y ≤ M ∧ bits .and .i64 n (M : Int) = (y : Int) := by
  have h2 : (BitVec.ofInt 64 (M : Int)).toNat = M := by
    rw [BitVec.ofInt_natCast, BitVec.toNat_ofNat]; exact Nat.mod_eq_of_lt (by omega)
  have hle : (BitVec.ofInt 64 n).toNat &&& M ≤ M := Nat.and_le_right
  refine ⟨(BitVec.ofInt 64 n).toNat &&& M, hle, ?_⟩
  show IntKind.i64.wrap ((BitVec.ofInt 64 n &&& BitVec.ofInt 64 (M : Int)).toNat : Int) = _
  rw [BitVec.toNat_and, h2]
  exact IntWalk.i64_in _ (by omega)
theorem mask62 (n : Int) : ∃ x : Nat, 1 ≤ x ∧ x ≤ 4611686018427387904 ∧ wrap64 (bits .and .i64 n 4611686018427387903 + 1) = x := by
  obtain ⟨y, hy, e⟩ := and_mask n 4611686018427387903 (by omega)
  refine ⟨y + 1, by omega, by omega, ?_⟩
  have e2 : bits .and .i64 n 4611686018427387903 = (y : Int) := e
  rw [e2]
  rw [IntWalk.wrap64_in _ ⟨by omega, by omega⟩]; omega
theorem mask63 (n : Int) : ∃ x : Nat, x ≤ 9223372036854775807 ∧ bits .and .i64 n 9223372036854775807 = x := by
  obtain ⟨y, hy, e⟩ := and_mask n 9223372036854775807 (by omega)
  exact ⟨y, hy, e⟩
end Go.Proofs.Ytbldmenaaedffaa
