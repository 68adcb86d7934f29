/-
  The shelf's contract of math/bits.Mul64 at this program's numbers.
-/
import Derived.Shelf.Bits.Mul64
import Derived.Test.YtbldmenaaedffaaProg
import Derived.Test.YtbldmenaaedffaaMa
namespace Go.Proofs.Ytbldmenaaedffaa
open Go.Shelf
def mulRen : Go.Shelf.Ren := ⟨fun | 264 => 54 | n => n, fun | 53 => 22 | 46 => 86 | n => n, fun | n => n⟩
theorem mulLays : Go.Proofs.Lays.n264 Try.prog mulRen := {
  mixed := by kernel_rfl
  f264 := Try.func54.trans (congrArg some (by kernel_rfl))
  t46 := Try.underlying86
  a46 := Try.isAgg86
  z46 := Try.sizeOf86
  v46 := Try.zeroValue86
  t53 := Try.underlying22
  a53 := Try.isAgg22
  z53 := Try.sizeOf22
  v53 := Try.zeroValue22 }
/-- The upper and the lower word of a product of two words. -/
def mulH (x y : Nat) : Nat := x * y / B64
def mulL (x y : Nat) : Nat := x * y % B64
open Go.RowKit Go.Lib in
theorem Mul64_any (x y : Nat) (hx : x < B64) (hy : y < B64) (w : World) :
    Calls Try.prog 54 #[.int .u64 x, .int .u64 y] w fun e w' => e = .returned (.tuple #[.int .u64 (mulH x y), .int .u64 (mulL x y)]) ∧ w = w' :=
  (Any.bits_Mul64 mulLays x y hx hy w).mono fun _ _ ⟨h, k⟩ => ⟨h, k.symm⟩
end Go.Proofs.Ytbldmenaaedffaa
