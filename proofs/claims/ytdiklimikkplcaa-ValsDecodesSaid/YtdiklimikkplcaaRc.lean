/-
  The reference of layer 5: Find, by definition; the kit's CopyVals, OverVals.
-/
import Derived.Test.YtdiklimikkplcaaRb
namespace Go.Proofs.Ytdiklimikkplcaa
open Go.RowKit Go.Lib Go.Maps

structure RfI (w wr : World) (i : Nat) (l : List Vd) (k : Nat) : Prop where
  key : Blk wr w.heap.size [.int .u8 (kd k 3 : Nat), .int .u8 (kd k 2 : Nat), .int .u8 (kd k 1 : Nat), .int .u8 (kd k 0 : Nat)] 36
  bel : Below w.heap.size w wr
  lo : ∀ j u, j < i → l[j]? = some u → u.k ≠ k
end Go.Proofs.Ytdiklimikkplcaa
