/-
  No cell of these rows narrows 'for every input' (looked for: loops, veiled, ifaces, maps, wideKeys, modest, calm, conditions, laid).
  DERIVED. THE GIVEN ROWS OF THIS SEAT. 11 by the template 'for every input the law returns true; each argument reads behind the call as it read before'; 0 by the template 'total and deterministic' (their statements: YtcmkmnidnapabaaGreatTotals.lean).
  GIVEN WITH THE SEED: the statements are not yours to turn. If you find one false, say at which input.
  Laid BY PROGRAM, IN A SANDBOX (cutbox-rows.mjs): the forced cells as the released guide's own fill.sh prints them over the translation dff5c8e225e7e03d… (all of the seat's roots in one cut). By AI agents, Wed Nov 11 2026. No macro, syntax, notation, axiom, sorry.
-/
import Derived.Test.YtcmkmnidnapabaaGreatChecked
import GoSem.Claim
import GoSem.ClaimJoined
import GoSem.ClaimMapViews
import Derived.JoinedTies
import Derived.KernelRfl
namespace Go.Proofs.YtcmkmnidnapabaaGreat
/- THE CELL 'sum', in the pinned program and in every row, IS THE sha256 OF THE DUMP (.gsa) THAT YtcmkmnidnapabaaGreatProg.lean LOADS. Nothing in Lean hashes anything: it is a label: what it is worth is what the hold of that sum in a sandbox is worth. -/
noncomputable def Tryz.pinned : Pinned := { name := "ytcmkmnidnapabaagreat", sum := "dff5c8e225e7e03d2a4a48eefc7441d46d6d5cf0f4b36eb98abc4d2356092ff7", checked := Tryz.checked }
namespace Rows
def none {H : Type} : Left H := { results := [], args := [] }

/-- 'landfalllaw05.ValsTells': WHATEVER THE INPUT: true; the input reads as it did. -/
def valsTellsSpec : ChangeSpec := { name := "valsTells", fn := fun _ => fun
  | [d1, d2] => { results := [.lit (.bool true)], args := [d1, d2] }
  | _ => none }
def valsTellsRow : OpenClaim := { program := "ytcmkmnidnapabaagreat", sum := "dff5c8e225e7e03d2a4a48eefc7441d46d6d5cf0f4b36eb98abc4d2356092ff7", func := "landfall/landfalllaw05.ValsTells", spec := "valsTells", inPlace := ["internal/bytealg.Compare", "math/bits.Add64"], unfollowed := true, recurses := true, plainKeys := false, apart := false }
def ValsTellsSaid : Prop := valsTellsRow.holds Tryz.pinned (OpenSpec.ofChange valsTellsSpec)

/-- ITS FALSE NEIGHBOUR: 'it returns false'. Refute it at one input. -/
def valsTellsWrong : ChangeSpec := { name := "valsTells", fn := fun _ => fun
  | [d1, d2] => { results := [.lit (.bool false)], args := [d1, d2] }
  | _ => none }
def ValsTellsWrongFalsely : Prop := valsTellsRow.holds Tryz.pinned (OpenSpec.ofChange valsTellsWrong)

/-- 'landfalllaw08.SigsDecodes': WHATEVER THE INPUT: true; the input reads as it did. -/
def sigsDecodesSpec : ChangeSpec := { name := "sigsDecodes", fn := fun _ => fun
  | [d1, d2] => { results := [.lit (.bool true)], args := [d1, d2] }
  | _ => none }
def sigsDecodesRow : OpenClaim := { program := "ytcmkmnidnapabaagreat", sum := "dff5c8e225e7e03d2a4a48eefc7441d46d6d5cf0f4b36eb98abc4d2356092ff7", func := "landfall/landfalllaw08.SigsDecodes", spec := "sigsDecodes", inPlace := ["internal/bytealg.Compare"], unfollowed := true, recurses := true, plainKeys := false, apart := false }
def SigsDecodesSaid : Prop := sigsDecodesRow.holds Tryz.pinned (OpenSpec.ofChange sigsDecodesSpec)

/-- ITS FALSE NEIGHBOUR: 'it returns false'. Refute it at one input. -/
def sigsDecodesWrong : ChangeSpec := { name := "sigsDecodes", fn := fun _ => fun
  | [d1, d2] => { results := [.lit (.bool false)], args := [d1, d2] }
  | _ => none }
def SigsDecodesWrongFalsely : Prop := sigsDecodesRow.holds Tryz.pinned (OpenSpec.ofChange sigsDecodesWrong)

/-- 'landfalllaw08.SigsKnown': WHATEVER THE INPUT: true; the input reads as it did. -/
def sigsKnownSpec : ChangeSpec := { name := "sigsKnown", fn := fun _ => fun
  | [] => { results := [.lit (.bool true)], args := [] }
  | _ => none }
def sigsKnownRow : OpenClaim := { program := "ytcmkmnidnapabaagreat", sum := "dff5c8e225e7e03d2a4a48eefc7441d46d6d5cf0f4b36eb98abc4d2356092ff7", func := "landfall/landfalllaw08.SigsKnown", spec := "sigsKnown", inPlace := ["internal/bytealg.Compare"], unfollowed := true, recurses := true, plainKeys := false, apart := false }
def SigsKnownSaid : Prop := sigsKnownRow.holds Tryz.pinned (OpenSpec.ofChange sigsKnownSpec)

/-- ITS FALSE NEIGHBOUR: 'it returns false'. Refute it at one input. -/
def sigsKnownWrong : ChangeSpec := { name := "sigsKnown", fn := fun _ => fun
  | [] => { results := [.lit (.bool false)], args := [] }
  | _ => none }
def SigsKnownWrongFalsely : Prop := sigsKnownRow.holds Tryz.pinned (OpenSpec.ofChange sigsKnownWrong)

/-- 'landfalllaw08.SigsOrder': WHATEVER THE INPUT: true; the input reads as it did. -/
def sigsOrderSpec : ChangeSpec := { name := "sigsOrder", fn := fun _ => fun
  | [d1, d2] => { results := [.lit (.bool true)], args := [d1, d2] }
  | _ => none }
def sigsOrderRow : OpenClaim := { program := "ytcmkmnidnapabaagreat", sum := "dff5c8e225e7e03d2a4a48eefc7441d46d6d5cf0f4b36eb98abc4d2356092ff7", func := "landfall/landfalllaw08.SigsOrder", spec := "sigsOrder", inPlace := ["internal/bytealg.Compare"], unfollowed := true, recurses := true, plainKeys := false, apart := false }
def SigsOrderSaid : Prop := sigsOrderRow.holds Tryz.pinned (OpenSpec.ofChange sigsOrderSpec)

/-- ITS FALSE NEIGHBOUR: 'it returns false'. Refute it at one input. -/
def sigsOrderWrong : ChangeSpec := { name := "sigsOrder", fn := fun _ => fun
  | [d1, d2] => { results := [.lit (.bool false)], args := [d1, d2] }
  | _ => none }
def SigsOrderWrongFalsely : Prop := sigsOrderRow.holds Tryz.pinned (OpenSpec.ofChange sigsOrderWrong)

/-- 'landfalllaw08.SigsBack': WHATEVER THE INPUT: true; the input reads as it did. -/
def sigsBackSpec : ChangeSpec := { name := "sigsBack", fn := fun _ => fun
  | [d1, d2] => { results := [.lit (.bool true)], args := [d1, d2] }
  | _ => none }
def sigsBackRow : OpenClaim := { program := "ytcmkmnidnapabaagreat", sum := "dff5c8e225e7e03d2a4a48eefc7441d46d6d5cf0f4b36eb98abc4d2356092ff7", func := "landfall/landfalllaw08.SigsBack", spec := "sigsBack", inPlace := ["internal/bytealg.Compare"], unfollowed := true, recurses := true, plainKeys := false, apart := false }
def SigsBackSaid : Prop := sigsBackRow.holds Tryz.pinned (OpenSpec.ofChange sigsBackSpec)

/-- ITS FALSE NEIGHBOUR: 'it returns false'. Refute it at one input. -/
def sigsBackWrong : ChangeSpec := { name := "sigsBack", fn := fun _ => fun
  | [d1, d2] => { results := [.lit (.bool false)], args := [d1, d2] }
  | _ => none }
def SigsBackWrongFalsely : Prop := sigsBackRow.holds Tryz.pinned (OpenSpec.ofChange sigsBackWrong)

/-- 'landfalllaw09.BlockLinks': WHATEVER THE INPUT: true; the input reads as it did. -/
def blockLinksSpec : ChangeSpec := { name := "blockLinks", fn := fun _ => fun
  | [d1, d2] => { results := [.lit (.bool true)], args := [d1, d2] }
  | _ => none }
def blockLinksRow : OpenClaim := { program := "ytcmkmnidnapabaagreat", sum := "dff5c8e225e7e03d2a4a48eefc7441d46d6d5cf0f4b36eb98abc4d2356092ff7", func := "landfall/landfalllaw09.BlockLinks", spec := "blockLinks", inPlace := ["internal/bytealg.Compare"], unfollowed := true, recurses := true, plainKeys := false, apart := false }
def BlockLinksSaid : Prop := blockLinksRow.holds Tryz.pinned (OpenSpec.ofChange blockLinksSpec)

/-- ITS FALSE NEIGHBOUR: 'it returns false'. Refute it at one input. -/
def blockLinksWrong : ChangeSpec := { name := "blockLinks", fn := fun _ => fun
  | [d1, d2] => { results := [.lit (.bool false)], args := [d1, d2] }
  | _ => none }
def BlockLinksWrongFalsely : Prop := blockLinksRow.holds Tryz.pinned (OpenSpec.ofChange blockLinksWrong)

/-- 'landfalllaw09.BlockMakes': WHATEVER THE INPUT: true; the input reads as it did. -/
def blockMakesSpec : ChangeSpec := { name := "blockMakes", fn := fun _ => fun
  | [d1, d2] => { results := [.lit (.bool true)], args := [d1, d2] }
  | _ => none }
def blockMakesRow : OpenClaim := { program := "ytcmkmnidnapabaagreat", sum := "dff5c8e225e7e03d2a4a48eefc7441d46d6d5cf0f4b36eb98abc4d2356092ff7", func := "landfall/landfalllaw09.BlockMakes", spec := "blockMakes", inPlace := ["internal/bytealg.Compare"], unfollowed := true, recurses := true, plainKeys := false, apart := false }
def BlockMakesSaid : Prop := blockMakesRow.holds Tryz.pinned (OpenSpec.ofChange blockMakesSpec)

/-- ITS FALSE NEIGHBOUR: 'it returns false'. Refute it at one input. -/
def blockMakesWrong : ChangeSpec := { name := "blockMakes", fn := fun _ => fun
  | [d1, d2] => { results := [.lit (.bool false)], args := [d1, d2] }
  | _ => none }
def BlockMakesWrongFalsely : Prop := blockMakesRow.holds Tryz.pinned (OpenSpec.ofChange blockMakesWrong)

/-- 'landfalllaw09.BlockDecodes': WHATEVER THE INPUT: true; the input reads as it did. -/
def blockDecodesSpec : ChangeSpec := { name := "blockDecodes", fn := fun _ => fun
  | [d] => { results := [.lit (.bool true)], args := [d] }
  | _ => none }
def blockDecodesRow : OpenClaim := { program := "ytcmkmnidnapabaagreat", sum := "dff5c8e225e7e03d2a4a48eefc7441d46d6d5cf0f4b36eb98abc4d2356092ff7", func := "landfall/landfalllaw09.BlockDecodes", spec := "blockDecodes", inPlace := ["internal/bytealg.Compare"], unfollowed := true, recurses := true, plainKeys := false, apart := false }
def BlockDecodesSaid : Prop := blockDecodesRow.holds Tryz.pinned (OpenSpec.ofChange blockDecodesSpec)

/-- ITS FALSE NEIGHBOUR: 'it returns false'. Refute it at one input. -/
def blockDecodesWrong : ChangeSpec := { name := "blockDecodes", fn := fun _ => fun
  | [d] => { results := [.lit (.bool false)], args := [d] }
  | _ => none }
def BlockDecodesWrongFalsely : Prop := blockDecodesRow.holds Tryz.pinned (OpenSpec.ofChange blockDecodesWrong)

/-- 'landfalllaw09.BlockKnown': WHATEVER THE INPUT: true; the input reads as it did. -/
def blockKnownSpec : ChangeSpec := { name := "blockKnown", fn := fun _ => fun
  | [] => { results := [.lit (.bool true)], args := [] }
  | _ => none }
def blockKnownRow : OpenClaim := { program := "ytcmkmnidnapabaagreat", sum := "dff5c8e225e7e03d2a4a48eefc7441d46d6d5cf0f4b36eb98abc4d2356092ff7", func := "landfall/landfalllaw09.BlockKnown", spec := "blockKnown", inPlace := ["internal/bytealg.Compare"], unfollowed := true, recurses := true, plainKeys := false, apart := false }
def BlockKnownSaid : Prop := blockKnownRow.holds Tryz.pinned (OpenSpec.ofChange blockKnownSpec)

/-- ITS FALSE NEIGHBOUR: 'it returns false'. Refute it at one input. -/
def blockKnownWrong : ChangeSpec := { name := "blockKnown", fn := fun _ => fun
  | [] => { results := [.lit (.bool false)], args := [] }
  | _ => none }
def BlockKnownWrongFalsely : Prop := blockKnownRow.holds Tryz.pinned (OpenSpec.ofChange blockKnownWrong)

/-- 'landfalllaw09.BlockBack': WHATEVER THE INPUT: true; the input reads as it did. -/
def blockBackSpec : ChangeSpec := { name := "blockBack", fn := fun _ => fun
  | [d1, d2, d3] => { results := [.lit (.bool true)], args := [d1, d2, d3] }
  | _ => none }
def blockBackRow : OpenClaim := { program := "ytcmkmnidnapabaagreat", sum := "dff5c8e225e7e03d2a4a48eefc7441d46d6d5cf0f4b36eb98abc4d2356092ff7", func := "landfall/landfalllaw09.BlockBack", spec := "blockBack", inPlace := ["internal/bytealg.Compare"], unfollowed := true, recurses := true, plainKeys := false, apart := false }
def BlockBackSaid : Prop := blockBackRow.holds Tryz.pinned (OpenSpec.ofChange blockBackSpec)

/-- ITS FALSE NEIGHBOUR: 'it returns false'. Refute it at one input. -/
def blockBackWrong : ChangeSpec := { name := "blockBack", fn := fun _ => fun
  | [d1, d2, d3] => { results := [.lit (.bool false)], args := [d1, d2, d3] }
  | _ => none }
def BlockBackWrongFalsely : Prop := blockBackRow.holds Tryz.pinned (OpenSpec.ofChange blockBackWrong)

/-- 'landfalllaw09.BlockMade': WHATEVER THE INPUT: true; the input reads as it did. -/
def blockMadeSpec : ChangeSpec := { name := "blockMade", fn := fun _ => fun
  | [d1, d2, d3, d4, d5] => { results := [.lit (.bool true)], args := [d1, d2, d3, d4, d5] }
  | _ => none }
def blockMadeRow : OpenClaim := { program := "ytcmkmnidnapabaagreat", sum := "dff5c8e225e7e03d2a4a48eefc7441d46d6d5cf0f4b36eb98abc4d2356092ff7", func := "landfall/landfalllaw09.BlockMade", spec := "blockMade", inPlace := ["internal/bytealg.Compare"], unfollowed := true, recurses := true, plainKeys := false, apart := false }
def BlockMadeSaid : Prop := blockMadeRow.holds Tryz.pinned (OpenSpec.ofChange blockMadeSpec)

/-- ITS FALSE NEIGHBOUR: 'it returns false'. Refute it at one input. -/
def blockMadeWrong : ChangeSpec := { name := "blockMade", fn := fun _ => fun
  | [d1, d2, d3, d4, d5] => { results := [.lit (.bool false)], args := [d1, d2, d3, d4, d5] }
  | _ => none }
def BlockMadeWrongFalsely : Prop := blockMadeRow.holds Tryz.pinned (OpenSpec.ofChange blockMadeWrong)

/- THE SECOND FORM. 'bulk': how many values and letters a reading holds, each counted each time it is reached (what is shared counts as often as it is met; a slice's spare places count too). A statement '..UptoSaid' is the law's where the arguments, and the package variables that the reading takes, are together of bulk at most 1048576: NARROWER than '..Said'. Prove '..Said' where nothing that the law and all that it calls make is longer than what came in: it says more and counts as full. Else prove '..UptoSaid'. A law counts once. -/
mutual
def uptoBulk {H : Type} : DataW H → Nat
  | .lit (.string bytes) => bytes.length + 1
  | .lit _ => 1
  | .nil => 1
  | .ptr d => uptoBulk d + 1
  | .slice elems spare => uptoBulkAll elems + uptoBulkAll spare + 1
  | .agg parts => uptoBulkAll parts + 1
  | .iface _ d => uptoBulk d + 1
  | .map entries => uptoBulkEntries entries + 1
  | .held _ => 1
def uptoBulkAll {H : Type} : List (DataW H) → Nat
  | [] => 0
  | d :: r => uptoBulk d + uptoBulkAll r
def uptoBulkEntries {H : Type} : List (Lit × DataW H) → Nat
  | [] => 0
  | x :: r => uptoBulkEntry x + uptoBulkEntries r
def uptoBulkEntry {H : Type} : Lit × DataW H → Nat
  | (.string bytes, d) => bytes.length + uptoBulk d + 1
  | (_, d) => uptoBulk d + 1
 end
def uptoSmall : (H : Type) → List (DataW H) → Bool := fun _ ds => decide (uptoBulkAll ds ≤ 1048576)
def OpenSpec.upto (s : _root_.Go.ChangeSpec) : _root_.Go.OpenSpec := { _root_.Go.OpenSpec.ofChange s with cond := some uptoSmall }

/-- 'landfalllaw05.ValsTells', WHERE WHAT IT READS IS OF BULK AT MOST 1048576: true; the input reads as it did. -/
def valsTellsUptoRow : OpenClaim := { program := "ytcmkmnidnapabaagreat", sum := "dff5c8e225e7e03d2a4a48eefc7441d46d6d5cf0f4b36eb98abc4d2356092ff7", func := "landfall/landfalllaw05.ValsTells", spec := "valsTells", inPlace := ["internal/bytealg.Compare", "math/bits.Add64"], unfollowed := true, recurses := true, plainKeys := false, apart := false, narrowed := true }
def ValsTellsUptoSaid : Prop := valsTellsUptoRow.holds Tryz.pinned (OpenSpec.upto valsTellsSpec)

/-- 'landfalllaw08.SigsDecodes', WHERE WHAT IT READS IS OF BULK AT MOST 1048576: true; the input reads as it did. -/
def sigsDecodesUptoRow : OpenClaim := { program := "ytcmkmnidnapabaagreat", sum := "dff5c8e225e7e03d2a4a48eefc7441d46d6d5cf0f4b36eb98abc4d2356092ff7", func := "landfall/landfalllaw08.SigsDecodes", spec := "sigsDecodes", inPlace := ["internal/bytealg.Compare"], unfollowed := true, recurses := true, plainKeys := false, apart := false, narrowed := true }
def SigsDecodesUptoSaid : Prop := sigsDecodesUptoRow.holds Tryz.pinned (OpenSpec.upto sigsDecodesSpec)

/-- 'landfalllaw08.SigsKnown', WHERE WHAT IT READS IS OF BULK AT MOST 1048576: true; the input reads as it did. -/
def sigsKnownUptoRow : OpenClaim := { program := "ytcmkmnidnapabaagreat", sum := "dff5c8e225e7e03d2a4a48eefc7441d46d6d5cf0f4b36eb98abc4d2356092ff7", func := "landfall/landfalllaw08.SigsKnown", spec := "sigsKnown", inPlace := ["internal/bytealg.Compare"], unfollowed := true, recurses := true, plainKeys := false, apart := false, narrowed := true }
def SigsKnownUptoSaid : Prop := sigsKnownUptoRow.holds Tryz.pinned (OpenSpec.upto sigsKnownSpec)

/-- 'landfalllaw08.SigsOrder', WHERE WHAT IT READS IS OF BULK AT MOST 1048576: true; the input reads as it did. -/
def sigsOrderUptoRow : OpenClaim := { program := "ytcmkmnidnapabaagreat", sum := "dff5c8e225e7e03d2a4a48eefc7441d46d6d5cf0f4b36eb98abc4d2356092ff7", func := "landfall/landfalllaw08.SigsOrder", spec := "sigsOrder", inPlace := ["internal/bytealg.Compare"], unfollowed := true, recurses := true, plainKeys := false, apart := false, narrowed := true }
def SigsOrderUptoSaid : Prop := sigsOrderUptoRow.holds Tryz.pinned (OpenSpec.upto sigsOrderSpec)

/-- 'landfalllaw08.SigsBack', WHERE WHAT IT READS IS OF BULK AT MOST 1048576: true; the input reads as it did. -/
def sigsBackUptoRow : OpenClaim := { program := "ytcmkmnidnapabaagreat", sum := "dff5c8e225e7e03d2a4a48eefc7441d46d6d5cf0f4b36eb98abc4d2356092ff7", func := "landfall/landfalllaw08.SigsBack", spec := "sigsBack", inPlace := ["internal/bytealg.Compare"], unfollowed := true, recurses := true, plainKeys := false, apart := false, narrowed := true }
def SigsBackUptoSaid : Prop := sigsBackUptoRow.holds Tryz.pinned (OpenSpec.upto sigsBackSpec)

/-- 'landfalllaw09.BlockLinks', WHERE WHAT IT READS IS OF BULK AT MOST 1048576: true; the input reads as it did. -/
def blockLinksUptoRow : OpenClaim := { program := "ytcmkmnidnapabaagreat", sum := "dff5c8e225e7e03d2a4a48eefc7441d46d6d5cf0f4b36eb98abc4d2356092ff7", func := "landfall/landfalllaw09.BlockLinks", spec := "blockLinks", inPlace := ["internal/bytealg.Compare"], unfollowed := true, recurses := true, plainKeys := false, apart := false, narrowed := true }
def BlockLinksUptoSaid : Prop := blockLinksUptoRow.holds Tryz.pinned (OpenSpec.upto blockLinksSpec)

/-- 'landfalllaw09.BlockMakes', WHERE WHAT IT READS IS OF BULK AT MOST 1048576: true; the input reads as it did. -/
def blockMakesUptoRow : OpenClaim := { program := "ytcmkmnidnapabaagreat", sum := "dff5c8e225e7e03d2a4a48eefc7441d46d6d5cf0f4b36eb98abc4d2356092ff7", func := "landfall/landfalllaw09.BlockMakes", spec := "blockMakes", inPlace := ["internal/bytealg.Compare"], unfollowed := true, recurses := true, plainKeys := false, apart := false, narrowed := true }
def BlockMakesUptoSaid : Prop := blockMakesUptoRow.holds Tryz.pinned (OpenSpec.upto blockMakesSpec)

/-- 'landfalllaw09.BlockDecodes', WHERE WHAT IT READS IS OF BULK AT MOST 1048576: true; the input reads as it did. -/
def blockDecodesUptoRow : OpenClaim := { program := "ytcmkmnidnapabaagreat", sum := "dff5c8e225e7e03d2a4a48eefc7441d46d6d5cf0f4b36eb98abc4d2356092ff7", func := "landfall/landfalllaw09.BlockDecodes", spec := "blockDecodes", inPlace := ["internal/bytealg.Compare"], unfollowed := true, recurses := true, plainKeys := false, apart := false, narrowed := true }
def BlockDecodesUptoSaid : Prop := blockDecodesUptoRow.holds Tryz.pinned (OpenSpec.upto blockDecodesSpec)

/-- 'landfalllaw09.BlockKnown', WHERE WHAT IT READS IS OF BULK AT MOST 1048576: true; the input reads as it did. -/
def blockKnownUptoRow : OpenClaim := { program := "ytcmkmnidnapabaagreat", sum := "dff5c8e225e7e03d2a4a48eefc7441d46d6d5cf0f4b36eb98abc4d2356092ff7", func := "landfall/landfalllaw09.BlockKnown", spec := "blockKnown", inPlace := ["internal/bytealg.Compare"], unfollowed := true, recurses := true, plainKeys := false, apart := false, narrowed := true }
def BlockKnownUptoSaid : Prop := blockKnownUptoRow.holds Tryz.pinned (OpenSpec.upto blockKnownSpec)

/-- 'landfalllaw09.BlockBack', WHERE WHAT IT READS IS OF BULK AT MOST 1048576: true; the input reads as it did. -/
def blockBackUptoRow : OpenClaim := { program := "ytcmkmnidnapabaagreat", sum := "dff5c8e225e7e03d2a4a48eefc7441d46d6d5cf0f4b36eb98abc4d2356092ff7", func := "landfall/landfalllaw09.BlockBack", spec := "blockBack", inPlace := ["internal/bytealg.Compare"], unfollowed := true, recurses := true, plainKeys := false, apart := false, narrowed := true }
def BlockBackUptoSaid : Prop := blockBackUptoRow.holds Tryz.pinned (OpenSpec.upto blockBackSpec)

/-- 'landfalllaw09.BlockMade', WHERE WHAT IT READS IS OF BULK AT MOST 1048576: true; the input reads as it did. -/
def blockMadeUptoRow : OpenClaim := { program := "ytcmkmnidnapabaagreat", sum := "dff5c8e225e7e03d2a4a48eefc7441d46d6d5cf0f4b36eb98abc4d2356092ff7", func := "landfall/landfalllaw09.BlockMade", spec := "blockMade", inPlace := ["internal/bytealg.Compare"], unfollowed := true, recurses := true, plainKeys := false, apart := false, narrowed := true }
def BlockMadeUptoSaid : Prop := blockMadeUptoRow.holds Tryz.pinned (OpenSpec.upto blockMadeSpec)

end Rows
end Go.Proofs.YtcmkmnidnapabaaGreat
