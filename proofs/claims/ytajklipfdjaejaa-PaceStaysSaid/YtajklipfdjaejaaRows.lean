/-
  No cell of these rows narrows 'for every input' (looked for: loops, veiled, ifaces, maps, wideKeys, modest, calm, conditions, laid).
  DERIVED. THE GIVEN ROWS OF THIS SEAT. 7 by the template 'for every input the law returns true; each argument reads behind the call as it read before'; 0 by the template 'total and deterministic' (their statements: YtajklipfdjaejaaTotals.lean).
  GIVEN WITH THE SEED: the statements are not yours to turn. If you find one false, say at which input.
  Laid BY PROGRAM, IN A SANDBOX (cutbox-rows.mjs): the forced cells as the released guide's own fill.sh prints them over the translation 261bef6e900bc81c… (all of the seat's roots in one cut). By AI agents, Wed Nov 11 2026. No macro, syntax, notation, axiom, sorry.
-/
import Derived.Test.YtajklipfdjaejaaChecked
import GoSem.Claim
import GoSem.ClaimJoined
import GoSem.ClaimMapViews
import Derived.JoinedTies
import Derived.KernelRfl
namespace Go.Proofs.Ytajklipfdjaejaa
/- THE CELL 'sum', in the pinned program and in every row, IS THE sha256 OF THE DUMP (.gsa) THAT YtajklipfdjaejaaProg.lean LOADS. Nothing in Lean hashes anything: it is a label: what it is worth is what the hold of that sum in a sandbox is worth. -/
noncomputable def Try.pinned : Pinned := { name := "ytajklipfdjaejaa", sum := "261bef6e900bc81c919e67bf2e9e9afa6588a121780840416239e668245679ce", checked := Try.checked }
namespace Rows
def none {H : Type} : Left H := { results := [], args := [] }

/-- 'landfalllaw02.PaceForms': WHATEVER THE INPUT: true; the input reads as it did. -/
def paceFormsSpec : ChangeSpec := { name := "paceForms", fn := fun _ => fun
  | [d1, d2] => { results := [.lit (.bool true)], args := [d1, d2] }
  | _ => none }
def paceFormsRow : OpenClaim := { program := "ytajklipfdjaejaa", sum := "261bef6e900bc81c919e67bf2e9e9afa6588a121780840416239e668245679ce", func := "landfall/landfalllaw02.PaceForms", spec := "paceForms", inPlace := ["math.Float64bits", "math.Float64frombits", "internal/bytealg.IndexByteString"], apart := false }
def PaceFormsSaid : Prop := paceFormsRow.holds Try.pinned (OpenSpec.ofChange paceFormsSpec)

/-- ITS FALSE NEIGHBOUR: 'it returns false'. Refute it at one input. -/
def paceFormsWrong : ChangeSpec := { name := "paceForms", fn := fun _ => fun
  | [d1, d2] => { results := [.lit (.bool false)], args := [d1, d2] }
  | _ => none }
def PaceFormsWrongFalsely : Prop := paceFormsRow.holds Try.pinned (OpenSpec.ofChange paceFormsWrong)

/-- 'landfalllaw02.PaceSmooths': WHATEVER THE INPUT: true; the input reads as it did. -/
def paceSmoothsSpec : ChangeSpec := { name := "paceSmooths", fn := fun _ => fun
  | [d1, d2] => { results := [.lit (.bool true)], args := [d1, d2] }
  | _ => none }
def paceSmoothsRow : OpenClaim := { program := "ytajklipfdjaejaa", sum := "261bef6e900bc81c919e67bf2e9e9afa6588a121780840416239e668245679ce", func := "landfall/landfalllaw02.PaceSmooths", spec := "paceSmooths", inPlace := ["math.Float64frombits", "math.Float64bits"], apart := false }
def PaceSmoothsSaid : Prop := paceSmoothsRow.holds Try.pinned (OpenSpec.ofChange paceSmoothsSpec)

/-- ITS FALSE NEIGHBOUR: 'it returns false'. Refute it at one input. -/
def paceSmoothsWrong : ChangeSpec := { name := "paceSmooths", fn := fun _ => fun
  | [d1, d2] => { results := [.lit (.bool false)], args := [d1, d2] }
  | _ => none }
def PaceSmoothsWrongFalsely : Prop := paceSmoothsRow.holds Try.pinned (OpenSpec.ofChange paceSmoothsWrong)

/-- 'landfalllaw02.PaceMeans': WHATEVER THE INPUT: true; the input reads as it did. -/
def paceMeansSpec : ChangeSpec := { name := "paceMeans", fn := fun _ => fun
  | [d] => { results := [.lit (.bool true)], args := [d] }
  | _ => none }
def paceMeansRow : OpenClaim := { program := "ytajklipfdjaejaa", sum := "261bef6e900bc81c919e67bf2e9e9afa6588a121780840416239e668245679ce", func := "landfall/landfalllaw02.PaceMeans", spec := "paceMeans", inPlace := ["math.Float64bits", "math.Float64frombits"], unfollowed := true, recurses := true, apart := false }
def PaceMeansSaid : Prop := paceMeansRow.holds Try.pinned (OpenSpec.ofChange paceMeansSpec)

/-- ITS FALSE NEIGHBOUR: 'it returns false'. Refute it at one input. -/
def paceMeansWrong : ChangeSpec := { name := "paceMeans", fn := fun _ => fun
  | [d] => { results := [.lit (.bool false)], args := [d] }
  | _ => none }
def PaceMeansWrongFalsely : Prop := paceMeansRow.holds Try.pinned (OpenSpec.ofChange paceMeansWrong)

/-- 'landfalllaw02.PaceKnown': WHATEVER THE INPUT: true; the input reads as it did. -/
def paceKnownSpec : ChangeSpec := { name := "paceKnown", fn := fun _ => fun
  | [] => { results := [.lit (.bool true)], args := [] }
  | _ => none }
def paceKnownRow : OpenClaim := { program := "ytajklipfdjaejaa", sum := "261bef6e900bc81c919e67bf2e9e9afa6588a121780840416239e668245679ce", func := "landfall/landfalllaw02.PaceKnown", spec := "paceKnown", inPlace := ["math.Float64bits", "math.Float64frombits", "internal/bytealg.IndexByteString"], unfollowed := true, recurses := true, apart := false }
def PaceKnownSaid : Prop := paceKnownRow.holds Try.pinned (OpenSpec.ofChange paceKnownSpec)

/-- ITS FALSE NEIGHBOUR: 'it returns false'. Refute it at one input. -/
def paceKnownWrong : ChangeSpec := { name := "paceKnown", fn := fun _ => fun
  | [] => { results := [.lit (.bool false)], args := [] }
  | _ => none }
def PaceKnownWrongFalsely : Prop := paceKnownRow.holds Try.pinned (OpenSpec.ofChange paceKnownWrong)

/-- 'landfalllaw02.PaceLine': WHATEVER THE INPUT: true; the input reads as it did. -/
def paceLineSpec : ChangeSpec := { name := "paceLine", fn := fun _ => fun
  | [d1, d2, d3] => { results := [.lit (.bool true)], args := [d1, d2, d3] }
  | _ => none }
def paceLineRow : OpenClaim := { program := "ytajklipfdjaejaa", sum := "261bef6e900bc81c919e67bf2e9e9afa6588a121780840416239e668245679ce", func := "landfall/landfalllaw02.PaceLine", spec := "paceLine", inPlace := ["math.Float64frombits", "math.Float64bits", "internal/bytealg.IndexByteString"], unfollowed := true, recurses := true, apart := false }
def PaceLineSaid : Prop := paceLineRow.holds Try.pinned (OpenSpec.ofChange paceLineSpec)

/-- ITS FALSE NEIGHBOUR: 'it returns false'. Refute it at one input. -/
def paceLineWrong : ChangeSpec := { name := "paceLine", fn := fun _ => fun
  | [d1, d2, d3] => { results := [.lit (.bool false)], args := [d1, d2, d3] }
  | _ => none }
def PaceLineWrongFalsely : Prop := paceLineRow.holds Try.pinned (OpenSpec.ofChange paceLineWrong)

/-- 'landfalllaw02.PaceBack': WHATEVER THE INPUT: true; the input reads as it did. -/
def paceBackSpec : ChangeSpec := { name := "paceBack", fn := fun _ => fun
  | [d1, d2] => { results := [.lit (.bool true)], args := [d1, d2] }
  | _ => none }
def paceBackRow : OpenClaim := { program := "ytajklipfdjaejaa", sum := "261bef6e900bc81c919e67bf2e9e9afa6588a121780840416239e668245679ce", func := "landfall/landfalllaw02.PaceBack", spec := "paceBack", inPlace := ["math.Float64bits", "math.Float64frombits", "internal/bytealg.IndexByteString"], unfollowed := true, recurses := true, apart := false }
def PaceBackSaid : Prop := paceBackRow.holds Try.pinned (OpenSpec.ofChange paceBackSpec)

/-- ITS FALSE NEIGHBOUR: 'it returns false'. Refute it at one input. -/
def paceBackWrong : ChangeSpec := { name := "paceBack", fn := fun _ => fun
  | [d1, d2] => { results := [.lit (.bool false)], args := [d1, d2] }
  | _ => none }
def PaceBackWrongFalsely : Prop := paceBackRow.holds Try.pinned (OpenSpec.ofChange paceBackWrong)

/-- 'landfalllaw02.PaceStays': WHATEVER THE INPUT: true; the input reads as it did. -/
def paceStaysSpec : ChangeSpec := { name := "paceStays", fn := fun _ => fun
  | [d1, d2] => { results := [.lit (.bool true)], args := [d1, d2] }
  | _ => none }
def paceStaysRow : OpenClaim := { program := "ytajklipfdjaejaa", sum := "261bef6e900bc81c919e67bf2e9e9afa6588a121780840416239e668245679ce", func := "landfall/landfalllaw02.PaceStays", spec := "paceStays", inPlace := ["math.Float64bits", "math.Float64frombits", "internal/bytealg.IndexByteString"], unfollowed := true, recurses := true, apart := false }
def PaceStaysSaid : Prop := paceStaysRow.holds Try.pinned (OpenSpec.ofChange paceStaysSpec)

/-- ITS FALSE NEIGHBOUR: 'it returns false'. Refute it at one input. -/
def paceStaysWrong : ChangeSpec := { name := "paceStays", fn := fun _ => fun
  | [d1, d2] => { results := [.lit (.bool false)], args := [d1, d2] }
  | _ => none }
def PaceStaysWrongFalsely : Prop := paceStaysRow.holds Try.pinned (OpenSpec.ofChange paceStaysWrong)

/- THE SECOND FORM. 'bulk': how many values and letters a reading holds, each counted each time it is reached (what is shared counts as often as it is met; a slice's spare places count too). A statement '..UptoSaid' is the law's where the arguments, and the package variables that the reading takes, are together of bulk at most 1048576: NARROWER than '..Said'. Prove '..Said' where nothing that the law and all that it calls make is longer than what came in: it says more and counts as full. Else prove '..UptoSaid'. A law counts once. -/
mutual
def uptoBulk {H : Type} : DataW H → Nat
  | .lit (.string bytes) => bytes.length + 1
  | .lit _ => 1
  | .nil => 1
  | .ptr d => uptoBulk d + 1
  | .slice elems spare => uptoBulkAll elems + uptoBulkAll spare + 1
  | .agg parts => uptoBulkAll parts + 1
  | .iface _ d => uptoBulk d + 1
  | .map entries => uptoBulkEntries entries + 1
  | .held _ => 1
def uptoBulkAll {H : Type} : List (DataW H) → Nat
  | [] => 0
  | d :: r => uptoBulk d + uptoBulkAll r
def uptoBulkEntries {H : Type} : List (Lit × DataW H) → Nat
  | [] => 0
  | x :: r => uptoBulkEntry x + uptoBulkEntries r
def uptoBulkEntry {H : Type} : Lit × DataW H → Nat
  | (.string bytes, d) => bytes.length + uptoBulk d + 1
  | (_, d) => uptoBulk d + 1
 end
def uptoSmall : (H : Type) → List (DataW H) → Bool := fun _ ds => decide (uptoBulkAll ds ≤ 1048576)
def OpenSpec.upto (s : _root_.Go.ChangeSpec) : _root_.Go.OpenSpec := { _root_.Go.OpenSpec.ofChange s with cond := some uptoSmall }

/-- 'landfalllaw02.PaceForms', WHERE WHAT IT READS IS OF BULK AT MOST 1048576: true; the input reads as it did. -/
def paceFormsUptoRow : OpenClaim := { program := "ytajklipfdjaejaa", sum := "261bef6e900bc81c919e67bf2e9e9afa6588a121780840416239e668245679ce", func := "landfall/landfalllaw02.PaceForms", spec := "paceForms", inPlace := ["math.Float64bits", "math.Float64frombits", "internal/bytealg.IndexByteString"], apart := false, narrowed := true }
def PaceFormsUptoSaid : Prop := paceFormsUptoRow.holds Try.pinned (OpenSpec.upto paceFormsSpec)

/-- 'landfalllaw02.PaceSmooths', WHERE WHAT IT READS IS OF BULK AT MOST 1048576: true; the input reads as it did. -/
def paceSmoothsUptoRow : OpenClaim := { program := "ytajklipfdjaejaa", sum := "261bef6e900bc81c919e67bf2e9e9afa6588a121780840416239e668245679ce", func := "landfall/landfalllaw02.PaceSmooths", spec := "paceSmooths", inPlace := ["math.Float64frombits", "math.Float64bits"], apart := false, narrowed := true }
def PaceSmoothsUptoSaid : Prop := paceSmoothsUptoRow.holds Try.pinned (OpenSpec.upto paceSmoothsSpec)

/-- 'landfalllaw02.PaceMeans', WHERE WHAT IT READS IS OF BULK AT MOST 1048576: true; the input reads as it did. -/
def paceMeansUptoRow : OpenClaim := { program := "ytajklipfdjaejaa", sum := "261bef6e900bc81c919e67bf2e9e9afa6588a121780840416239e668245679ce", func := "landfall/landfalllaw02.PaceMeans", spec := "paceMeans", inPlace := ["math.Float64bits", "math.Float64frombits"], unfollowed := true, recurses := true, apart := false, narrowed := true }
def PaceMeansUptoSaid : Prop := paceMeansUptoRow.holds Try.pinned (OpenSpec.upto paceMeansSpec)

/-- 'landfalllaw02.PaceKnown', WHERE WHAT IT READS IS OF BULK AT MOST 1048576: true; the input reads as it did. -/
def paceKnownUptoRow : OpenClaim := { program := "ytajklipfdjaejaa", sum := "261bef6e900bc81c919e67bf2e9e9afa6588a121780840416239e668245679ce", func := "landfall/landfalllaw02.PaceKnown", spec := "paceKnown", inPlace := ["math.Float64bits", "math.Float64frombits", "internal/bytealg.IndexByteString"], unfollowed := true, recurses := true, apart := false, narrowed := true }
def PaceKnownUptoSaid : Prop := paceKnownUptoRow.holds Try.pinned (OpenSpec.upto paceKnownSpec)

/-- 'landfalllaw02.PaceLine', WHERE WHAT IT READS IS OF BULK AT MOST 1048576: true; the input reads as it did. -/
def paceLineUptoRow : OpenClaim := { program := "ytajklipfdjaejaa", sum := "261bef6e900bc81c919e67bf2e9e9afa6588a121780840416239e668245679ce", func := "landfall/landfalllaw02.PaceLine", spec := "paceLine", inPlace := ["math.Float64frombits", "math.Float64bits", "internal/bytealg.IndexByteString"], unfollowed := true, recurses := true, apart := false, narrowed := true }
def PaceLineUptoSaid : Prop := paceLineUptoRow.holds Try.pinned (OpenSpec.upto paceLineSpec)

/-- 'landfalllaw02.PaceBack', WHERE WHAT IT READS IS OF BULK AT MOST 1048576: true; the input reads as it did. -/
def paceBackUptoRow : OpenClaim := { program := "ytajklipfdjaejaa", sum := "261bef6e900bc81c919e67bf2e9e9afa6588a121780840416239e668245679ce", func := "landfall/landfalllaw02.PaceBack", spec := "paceBack", inPlace := ["math.Float64bits", "math.Float64frombits", "internal/bytealg.IndexByteString"], unfollowed := true, recurses := true, apart := false, narrowed := true }
def PaceBackUptoSaid : Prop := paceBackUptoRow.holds Try.pinned (OpenSpec.upto paceBackSpec)

/-- 'landfalllaw02.PaceStays', WHERE WHAT IT READS IS OF BULK AT MOST 1048576: true; the input reads as it did. -/
def paceStaysUptoRow : OpenClaim := { program := "ytajklipfdjaejaa", sum := "261bef6e900bc81c919e67bf2e9e9afa6588a121780840416239e668245679ce", func := "landfall/landfalllaw02.PaceStays", spec := "paceStays", inPlace := ["math.Float64bits", "math.Float64frombits", "internal/bytealg.IndexByteString"], unfollowed := true, recurses := true, apart := false, narrowed := true }
def PaceStaysUptoSaid : Prop := paceStaysUptoRow.holds Try.pinned (OpenSpec.upto paceStaysSpec)

end Rows
end Go.Proofs.Ytajklipfdjaejaa
