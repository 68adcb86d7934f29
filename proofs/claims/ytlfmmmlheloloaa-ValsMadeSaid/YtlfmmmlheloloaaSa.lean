/-
  Keys as strings: their order is that of their numbers.
-/
import Derived.Test.YtlfmmmlheloloaaRd
import Derived.Test.YtlfmmmlheloloaaQc
namespace Go.Proofs.Ytlfmmmlheloloaa
open Go.RowKit Go.Lib Go.Maps

theorem less8 {x y : Nat} (hx : x < 256) (hy : y < 256) : (UInt8.ofNat x < UInt8.ofNat y) ↔ x < y := by
  rw [UInt8.lt_iff_toNat_lt, UInt8.toNat_ofNat', UInt8.toNat_ofNat', Nat.mod_eq_of_lt hx, Nat.mod_eq_of_lt hy]
theorem eq8 {x y : Nat} (hx : x < 256) (hy : y < 256) : (UInt8.ofNat x == UInt8.ofNat y) = decide (x = y) := by
  rw [Bool.eq_iff_iff, beq_iff_eq, decide_eq_true_iff, ← UInt8.toNat_inj, UInt8.toNat_ofNat', UInt8.toNat_ofNat', Nat.mod_eq_of_lt hx, Nat.mod_eq_of_lt hy]
theorem strB_list (L : List Nat) : (strB L).toList = L.map UInt8.ofNat := by
  unfold strB
  rw [ByteArray.toList_eq]
theorem less_key (a b : Nat) (ha : a < 4294967296) (hb : b < 4294967296) : Op.bytesLess (strB (kb a)).toList (strB (kb b)).toList = decide (a < b) := by
  rw [strB_list, strB_list, ← lex4_lt a b ha hb]
  unfold kb lex4
  simp only [List.map_cons, List.map_nil, Op.bytesLess, eq8 (kd_lt _ _) (kd_lt _ _), less8 (kd_lt _ _) (kd_lt _ _)]
  by_cases h3 : kd a 3 = kd b 3 <;> by_cases h2 : kd a 2 = kd b 2 <;> by_cases h1 : kd a 1 = kd b 1 <;> by_cases h0 : kd a 0 = kd b 0 <;> simp [h3, h2, h1, h0]
theorem run_lss_key (a b : Nat) (ha : a < 4294967296) (hb : b < 4294967296) (w : World) : (binOp .lss 9 (.string (strB (kb a))) (.string (strB (kb b)))).run Try.prog w = .ok (.bool (decide (a < b))) w := by
  have q := less_key a b ha hb
  simp only [binOp]
  simp [Op.stringOp, q]
end Go.Proofs.Ytlfmmmlheloloaa
