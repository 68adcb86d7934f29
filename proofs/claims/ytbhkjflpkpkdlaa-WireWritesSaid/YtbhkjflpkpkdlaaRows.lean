/-
  No cell of these rows narrows 'for every input' (looked for: loops, veiled, ifaces, maps, wideKeys, modest, calm, conditions, laid).
  DERIVED. THE GIVEN ROWS OF THIS SEAT. 7 by the template 'for every input the law returns true; each argument reads behind the call as it read before'; 0 by the template 'total and deterministic' (their statements: YtbhkjflpkpkdlaaTotals.lean).
  GIVEN WITH THE SEED: the statements are not yours to turn. If you find one false, say at which input.
  Laid BY PROGRAM, IN A SANDBOX (cutbox-rows.mjs): the forced cells as the released guide's own fill.sh prints them over the translation 4b29de231442d333… (all of the seat's roots in one cut). By AI agents, Wed Nov 11 2026. No macro, syntax, notation, axiom, sorry.
-/
import Derived.Test.YtbhkjflpkpkdlaaChecked
import GoSem.Claim
import GoSem.ClaimJoined
import GoSem.ClaimMapViews
import Derived.JoinedTies
import Derived.KernelRfl
namespace Go.Proofs.Ytbhkjflpkpkdlaa
/- THE CELL 'sum', in the pinned program and in every row, IS THE sha256 OF THE DUMP (.gsa) THAT YtbhkjflpkpkdlaaProg.lean LOADS. Nothing in Lean hashes anything: it is a label: what it is worth is what the hold of that sum in a sandbox is worth. -/
noncomputable def Try.pinned : Pinned := { name := "ytbhkjflpkpkdlaa", sum := "4b29de231442d33368e8e7677c1c92caeaa822b8d3dfb33c85ab2515249dd035", checked := Try.checked }
namespace Rows
def none {H : Type} : Left H := { results := [], args := [] }

/-- 'landfalllaw04.WireWrites': WHATEVER THE INPUT: true; the input reads as it did. -/
def wireWritesSpec : ChangeSpec := { name := "wireWrites", fn := fun _ => fun
  | [d1, d2] => { results := [.lit (.bool true)], args := [d1, d2] }
  | _ => none }
def wireWritesRow : OpenClaim := { program := "ytbhkjflpkpkdlaa", sum := "4b29de231442d33368e8e7677c1c92caeaa822b8d3dfb33c85ab2515249dd035", func := "landfall/landfalllaw04.WireWrites", spec := "wireWrites", inPlace := ["math.Float64frombits", "math.Float64bits"], unfollowed := true, recurses := true, plainKeys := false, apart := false }
def WireWritesSaid : Prop := wireWritesRow.holds Try.pinned (OpenSpec.ofChange wireWritesSpec)

/-- ITS FALSE NEIGHBOUR: 'it returns false'. Refute it at one input. -/
def wireWritesWrong : ChangeSpec := { name := "wireWrites", fn := fun _ => fun
  | [d1, d2] => { results := [.lit (.bool false)], args := [d1, d2] }
  | _ => none }
def WireWritesWrongFalsely : Prop := wireWritesRow.holds Try.pinned (OpenSpec.ofChange wireWritesWrong)

/-- 'landfalllaw04.WireReads': WHATEVER THE INPUT: true; the input reads as it did. -/
def wireReadsSpec : ChangeSpec := { name := "wireReads", fn := fun _ => fun
  | [d1, d2] => { results := [.lit (.bool true)], args := [d1, d2] }
  | _ => none }
def wireReadsRow : OpenClaim := { program := "ytbhkjflpkpkdlaa", sum := "4b29de231442d33368e8e7677c1c92caeaa822b8d3dfb33c85ab2515249dd035", func := "landfall/landfalllaw04.WireReads", spec := "wireReads", inPlace := ["math.Float64frombits", "math.Float64bits"], unfollowed := true, recurses := true, plainKeys := false, apart := false }
def WireReadsSaid : Prop := wireReadsRow.holds Try.pinned (OpenSpec.ofChange wireReadsSpec)

/-- ITS FALSE NEIGHBOUR: 'it returns false'. Refute it at one input. -/
def wireReadsWrong : ChangeSpec := { name := "wireReads", fn := fun _ => fun
  | [d1, d2] => { results := [.lit (.bool false)], args := [d1, d2] }
  | _ => none }
def WireReadsWrongFalsely : Prop := wireReadsRow.holds Try.pinned (OpenSpec.ofChange wireReadsWrong)

/-- 'landfalllaw04.WireBack': WHATEVER THE INPUT: true; the input reads as it did. -/
def wireBackSpec : ChangeSpec := { name := "wireBack", fn := fun _ => fun
  | [d1, d2] => { results := [.lit (.bool true)], args := [d1, d2] }
  | _ => none }
def wireBackRow : OpenClaim := { program := "ytbhkjflpkpkdlaa", sum := "4b29de231442d33368e8e7677c1c92caeaa822b8d3dfb33c85ab2515249dd035", func := "landfall/landfalllaw04.WireBack", spec := "wireBack", inPlace := ["math.Float64frombits", "math.Float64bits"], unfollowed := true, recurses := true, plainKeys := false, apart := false }
def WireBackSaid : Prop := wireBackRow.holds Try.pinned (OpenSpec.ofChange wireBackSpec)

/-- ITS FALSE NEIGHBOUR: 'it returns false'. Refute it at one input. -/
def wireBackWrong : ChangeSpec := { name := "wireBack", fn := fun _ => fun
  | [d1, d2] => { results := [.lit (.bool false)], args := [d1, d2] }
  | _ => none }
def WireBackWrongFalsely : Prop := wireBackRow.holds Try.pinned (OpenSpec.ofChange wireBackWrong)

/-- 'landfalllaw07.CommitTells': WHATEVER THE INPUT: true; the input reads as it did. -/
def commitTellsSpec : ChangeSpec := { name := "commitTells", fn := fun _ => fun
  | [d1, d2, d3] => { results := [.lit (.bool true)], args := [d1, d2, d3] }
  | _ => none }
def commitTellsRow : OpenClaim := { program := "ytbhkjflpkpkdlaa", sum := "4b29de231442d33368e8e7677c1c92caeaa822b8d3dfb33c85ab2515249dd035", func := "landfall/landfalllaw07.CommitTells", spec := "commitTells", inPlace := ["slices.overlaps[landfall/api.Vote]"], unfollowed := true, recurses := true, plainKeys := false, apart := false }
def CommitTellsSaid : Prop := commitTellsRow.holds Try.pinned (OpenSpec.ofChange commitTellsSpec)

/-- ITS FALSE NEIGHBOUR: 'it returns false'. Refute it at one input. -/
def commitTellsWrong : ChangeSpec := { name := "commitTells", fn := fun _ => fun
  | [d1, d2, d3] => { results := [.lit (.bool false)], args := [d1, d2, d3] }
  | _ => none }
def CommitTellsWrongFalsely : Prop := commitTellsRow.holds Try.pinned (OpenSpec.ofChange commitTellsWrong)

/-- 'landfalllaw07.CommitGrows': WHATEVER THE INPUT: true; the input reads as it did. -/
def commitGrowsSpec : ChangeSpec := { name := "commitGrows", fn := fun _ => fun
  | [d1, d2, d3] => { results := [.lit (.bool true)], args := [d1, d2, d3] }
  | _ => none }
def commitGrowsRow : OpenClaim := { program := "ytbhkjflpkpkdlaa", sum := "4b29de231442d33368e8e7677c1c92caeaa822b8d3dfb33c85ab2515249dd035", func := "landfall/landfalllaw07.CommitGrows", spec := "commitGrows", inPlace := ["slices.overlaps[landfall/api.Vote]"], unfollowed := true, recurses := true, plainKeys := false, apart := false }
def CommitGrowsSaid : Prop := commitGrowsRow.holds Try.pinned (OpenSpec.ofChange commitGrowsSpec)

/-- ITS FALSE NEIGHBOUR: 'it returns false'. Refute it at one input. -/
def commitGrowsWrong : ChangeSpec := { name := "commitGrows", fn := fun _ => fun
  | [d1, d2, d3] => { results := [.lit (.bool false)], args := [d1, d2, d3] }
  | _ => none }
def CommitGrowsWrongFalsely : Prop := commitGrowsRow.holds Try.pinned (OpenSpec.ofChange commitGrowsWrong)

/-- 'landfalllaw08.SigsActs': WHATEVER THE INPUT: true; the input reads as it did. -/
def sigsActsSpec : ChangeSpec := { name := "sigsActs", fn := fun _ => fun
  | [d1, d2] => { results := [.lit (.bool true)], args := [d1, d2] }
  | _ => none }
def sigsActsRow : OpenClaim := { program := "ytbhkjflpkpkdlaa", sum := "4b29de231442d33368e8e7677c1c92caeaa822b8d3dfb33c85ab2515249dd035", func := "landfall/landfalllaw08.SigsActs", spec := "sigsActs", inPlace := ["internal/bytealg.Compare"], unfollowed := true, recurses := true, plainKeys := false, apart := false }
def SigsActsSaid : Prop := sigsActsRow.holds Try.pinned (OpenSpec.ofChange sigsActsSpec)

/-- ITS FALSE NEIGHBOUR: 'it returns false'. Refute it at one input. -/
def sigsActsWrong : ChangeSpec := { name := "sigsActs", fn := fun _ => fun
  | [d1, d2] => { results := [.lit (.bool false)], args := [d1, d2] }
  | _ => none }
def SigsActsWrongFalsely : Prop := sigsActsRow.holds Try.pinned (OpenSpec.ofChange sigsActsWrong)

/-- 'landfalllaw08.SigsNone': WHATEVER THE INPUT: true; the input reads as it did. -/
def sigsNoneSpec : ChangeSpec := { name := "sigsNone", fn := fun _ => fun
  | [d] => { results := [.lit (.bool true)], args := [d] }
  | _ => none }
def sigsNoneRow : OpenClaim := { program := "ytbhkjflpkpkdlaa", sum := "4b29de231442d33368e8e7677c1c92caeaa822b8d3dfb33c85ab2515249dd035", func := "landfall/landfalllaw08.SigsNone", spec := "sigsNone", inPlace := ["internal/bytealg.Compare"], unfollowed := true, recurses := true, plainKeys := false, apart := false }
def SigsNoneSaid : Prop := sigsNoneRow.holds Try.pinned (OpenSpec.ofChange sigsNoneSpec)

/-- ITS FALSE NEIGHBOUR: 'it returns false'. Refute it at one input. -/
def sigsNoneWrong : ChangeSpec := { name := "sigsNone", fn := fun _ => fun
  | [d] => { results := [.lit (.bool false)], args := [d] }
  | _ => none }
def SigsNoneWrongFalsely : Prop := sigsNoneRow.holds Try.pinned (OpenSpec.ofChange sigsNoneWrong)

/- THE SECOND FORM. 'bulk': how many values and letters a reading holds, each counted each time it is reached (what is shared counts as often as it is met; a slice's spare places count too). A statement '..UptoSaid' is the law's where the arguments, and the package variables that the reading takes, are together of bulk at most 1048576: NARROWER than '..Said'. Prove '..Said' where nothing that the law and all that it calls make is longer than what came in: it says more and counts as full. Else prove '..UptoSaid'. A law counts once. -/
mutual
def uptoBulk {H : Type} : DataW H → Nat
  | .lit (.string bytes) => bytes.length + 1
  | .lit _ => 1
  | .nil => 1
  | .ptr d => uptoBulk d + 1
  | .slice elems spare => uptoBulkAll elems + uptoBulkAll spare + 1
  | .agg parts => uptoBulkAll parts + 1
  | .iface _ d => uptoBulk d + 1
  | .map entries => uptoBulkEntries entries + 1
  | .held _ => 1
def uptoBulkAll {H : Type} : List (DataW H) → Nat
  | [] => 0
  | d :: r => uptoBulk d + uptoBulkAll r
def uptoBulkEntries {H : Type} : List (Lit × DataW H) → Nat
  | [] => 0
  | x :: r => uptoBulkEntry x + uptoBulkEntries r
def uptoBulkEntry {H : Type} : Lit × DataW H → Nat
  | (.string bytes, d) => bytes.length + uptoBulk d + 1
  | (_, d) => uptoBulk d + 1
 end
def uptoSmall : (H : Type) → List (DataW H) → Bool := fun _ ds => decide (uptoBulkAll ds ≤ 1048576)
def OpenSpec.upto (s : _root_.Go.ChangeSpec) : _root_.Go.OpenSpec := { _root_.Go.OpenSpec.ofChange s with cond := some uptoSmall }

/-- 'landfalllaw04.WireWrites', WHERE WHAT IT READS IS OF BULK AT MOST 1048576: true; the input reads as it did. -/
def wireWritesUptoRow : OpenClaim := { program := "ytbhkjflpkpkdlaa", sum := "4b29de231442d33368e8e7677c1c92caeaa822b8d3dfb33c85ab2515249dd035", func := "landfall/landfalllaw04.WireWrites", spec := "wireWrites", inPlace := ["math.Float64frombits", "math.Float64bits"], unfollowed := true, recurses := true, plainKeys := false, apart := false, narrowed := true }
def WireWritesUptoSaid : Prop := wireWritesUptoRow.holds Try.pinned (OpenSpec.upto wireWritesSpec)

/-- 'landfalllaw04.WireReads', WHERE WHAT IT READS IS OF BULK AT MOST 1048576: true; the input reads as it did. -/
def wireReadsUptoRow : OpenClaim := { program := "ytbhkjflpkpkdlaa", sum := "4b29de231442d33368e8e7677c1c92caeaa822b8d3dfb33c85ab2515249dd035", func := "landfall/landfalllaw04.WireReads", spec := "wireReads", inPlace := ["math.Float64frombits", "math.Float64bits"], unfollowed := true, recurses := true, plainKeys := false, apart := false, narrowed := true }
def WireReadsUptoSaid : Prop := wireReadsUptoRow.holds Try.pinned (OpenSpec.upto wireReadsSpec)

/-- 'landfalllaw04.WireBack', WHERE WHAT IT READS IS OF BULK AT MOST 1048576: true; the input reads as it did. -/
def wireBackUptoRow : OpenClaim := { program := "ytbhkjflpkpkdlaa", sum := "4b29de231442d33368e8e7677c1c92caeaa822b8d3dfb33c85ab2515249dd035", func := "landfall/landfalllaw04.WireBack", spec := "wireBack", inPlace := ["math.Float64frombits", "math.Float64bits"], unfollowed := true, recurses := true, plainKeys := false, apart := false, narrowed := true }
def WireBackUptoSaid : Prop := wireBackUptoRow.holds Try.pinned (OpenSpec.upto wireBackSpec)

/-- 'landfalllaw07.CommitTells', WHERE WHAT IT READS IS OF BULK AT MOST 1048576: true; the input reads as it did. -/
def commitTellsUptoRow : OpenClaim := { program := "ytbhkjflpkpkdlaa", sum := "4b29de231442d33368e8e7677c1c92caeaa822b8d3dfb33c85ab2515249dd035", func := "landfall/landfalllaw07.CommitTells", spec := "commitTells", inPlace := ["slices.overlaps[landfall/api.Vote]"], unfollowed := true, recurses := true, plainKeys := false, apart := false, narrowed := true }
def CommitTellsUptoSaid : Prop := commitTellsUptoRow.holds Try.pinned (OpenSpec.upto commitTellsSpec)

/-- 'landfalllaw07.CommitGrows', WHERE WHAT IT READS IS OF BULK AT MOST 1048576: true; the input reads as it did. -/
def commitGrowsUptoRow : OpenClaim := { program := "ytbhkjflpkpkdlaa", sum := "4b29de231442d33368e8e7677c1c92caeaa822b8d3dfb33c85ab2515249dd035", func := "landfall/landfalllaw07.CommitGrows", spec := "commitGrows", inPlace := ["slices.overlaps[landfall/api.Vote]"], unfollowed := true, recurses := true, plainKeys := false, apart := false, narrowed := true }
def CommitGrowsUptoSaid : Prop := commitGrowsUptoRow.holds Try.pinned (OpenSpec.upto commitGrowsSpec)

/-- 'landfalllaw08.SigsActs', WHERE WHAT IT READS IS OF BULK AT MOST 1048576: true; the input reads as it did. -/
def sigsActsUptoRow : OpenClaim := { program := "ytbhkjflpkpkdlaa", sum := "4b29de231442d33368e8e7677c1c92caeaa822b8d3dfb33c85ab2515249dd035", func := "landfall/landfalllaw08.SigsActs", spec := "sigsActs", inPlace := ["internal/bytealg.Compare"], unfollowed := true, recurses := true, plainKeys := false, apart := false, narrowed := true }
def SigsActsUptoSaid : Prop := sigsActsUptoRow.holds Try.pinned (OpenSpec.upto sigsActsSpec)

/-- 'landfalllaw08.SigsNone', WHERE WHAT IT READS IS OF BULK AT MOST 1048576: true; the input reads as it did. -/
def sigsNoneUptoRow : OpenClaim := { program := "ytbhkjflpkpkdlaa", sum := "4b29de231442d33368e8e7677c1c92caeaa822b8d3dfb33c85ab2515249dd035", func := "landfall/landfalllaw08.SigsNone", spec := "sigsNone", inPlace := ["internal/bytealg.Compare"], unfollowed := true, recurses := true, plainKeys := false, apart := false, narrowed := true }
def SigsNoneUptoSaid : Prop := sigsNoneUptoRow.holds Try.pinned (OpenSpec.upto sigsNoneSpec)

end Rows
end Go.Proofs.Ytbhkjflpkpkdlaa
