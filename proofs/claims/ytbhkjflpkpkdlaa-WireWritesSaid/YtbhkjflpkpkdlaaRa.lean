/-
  The reference of layer 5: Less, by definition.
-/
import Derived.Test.YtbhkjflpkpkdlaaUa
import Derived.Deep.QuietTactic
namespace Go.Proofs.Ytbhkjflpkpkdlaa
open Go.RowKit Go.Lib Go.Maps

def lex4 (x0 x1 x2 x3 y0 y1 y2 y3 : Nat) : Bool := if x0 ≠ y0 then decide (x0 < y0) else if x1 ≠ y1 then decide (x1 < y1) else if x2 ≠ y2 then decide (x2 < y2) else if x3 ≠ y3 then decide (x3 < y3) else false
theorem lex4_lt (a b : Nat) (ha : a < 4294967296) (hb : b < 4294967296) : lex4 (kd a 3) (kd a 2) (kd a 1) (kd a 0) (kd b 3) (kd b 2) (kd b 1) (kd b 0) = decide (a < b) := by
  have ea := kd_sum a ha
  have eb := kd_sum b hb
  have a2 := kd_lt a 2
  have a1 := kd_lt a 1
  have a0 := kd_lt a 0
  have b2 := kd_lt b 2
  have b1 := kd_lt b 1
  have b0 := kd_lt b 0
  unfold lex4
  split
  · rw [decide_eq_decide]; omega
  · split
    · rw [decide_eq_decide]; omega
    · split
      · rw [decide_eq_decide]; omega
      · split
        · rw [decide_eq_decide]; omega
        · symm; rw [decide_eq_false_iff_not]; omega
structure LessI (w wr : World) (k : Nat) (x0 x1 x2 x3 y0 y1 y2 y3 : Nat) : Prop where
  bx : Blk wr w.heap.size [.int .u8 (x0 : Nat), .int .u8 (x1 : Nat), .int .u8 (x2 : Nat), .int .u8 (x3 : Nat)] 36
  by_ : Blk wr (w.heap.size + 1) [.int .u8 (y0 : Nat), .int .u8 (y1 : Nat), .int .u8 (y2 : Nat), .int .u8 (y3 : Nat)] 36
  bel : Below w.heap.size w wr
  e0 : 0 < k → x0 = y0
  e1 : 1 < k → x1 = y1
  e2 : 2 < k → x2 = y2
  e3 : 3 < k → x3 = y3
end Go.Proofs.Ytbhkjflpkpkdlaa
