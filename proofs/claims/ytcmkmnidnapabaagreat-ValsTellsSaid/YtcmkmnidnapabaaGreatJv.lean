/-
  The walk of landfalllaw04's WireNone.
-/
import Derived.Test.YtcmkmnidnapabaaGreatQf
import Derived.Deep.CutRange
namespace Go.Proofs.YtcmkmnidnapabaaGreat
open Go.RowKit Go.Lib Go.Maps

def zW : List Value := [.pointer none, .int .i64 0, .slice none 0 0, .int .i64 0]
def zR : List Value := [.pointer none, .int .i64 0, .slice none 0 0, .int .i64 0, .int .i64 0]
def zH : List Value := bvs (List.replicate 32 0)
def zK : List Value := bvs (List.replicate 4 0)
theorem mHash_bad2 {w : World} {x : Value} (h : BadR w x) : Calls Tryz.prog 164 #[x] w fun e w' => e = .returned (.agg zH.toArray) ∧ Below w.heap.size w w' := mHash_bad h
theorem mKey_bad2 {w : World} {x : Value} (h : BadR w x) : Calls Tryz.prog 140 #[x] w fun e w' => e = .returned (.agg zK.toArray) ∧ Below w.heap.size w w' := mKey_bad h
theorem ne_hash (w : World) : (binOp .neq 39 (.agg zH.toArray) (.agg zH.toArray)).run Tryz.prog w = .ok (.bool false) w := by kernel_rfl
theorem ne_key (w : World) : (binOp .neq 24 (.agg zK.toArray) (.agg zK.toArray)).run Tryz.prog w = .ok (.bool false) w := by kernel_rfl
theorem ne_fault (w : World) : (binOp .neq 52 (.agg #[.int .i64 1, .int .i64 0]) (.agg #[.int .i64 1, .int .i64 0])).run Tryz.prog w = .ok (.bool false) w := by kernel_rfl
theorem wpList_load_blkG {P : Program} {ops : Array Oper} {rest : List Oper} {o : Oper} {a : Act} {w : World} {Q : Exit → Act → World → Prop} (hw : Region.wanted o (yielded ops a.tmps) = true) (ty : TypeId) (x : Operand) (ho : o.op = .load ty x)
    (b : Nat) (cs : List Value) (T : TypeId) (hx : a.eval x = .pointer (some ⟨b, 0, none⟩)) (hb : Blk w b cs T) (d : TypeDesc)
    (hu : P.underlying ty = some d) (hd : (match d with | .struct _ | .array _ _ => true | _ => false) = true) (hi : (P.info? ty).map (·.size) = some cs.length)
    (h : wpList P ops Q rest (a.put o.dst (.agg cs.toArray)) w) : wpList P ops Q (o :: rest) a w :=
  wpList_step fun _ hK => by
    rw [if_pos hw]
    exact wp_load_row ty x ho b hx T cs.toArray (0, 0) d hb hu hd (by simpa using hi) (hK _ _ h)
theorem wpList_buildG {P : Program} {ops : Array Oper} {rest : List Oper} {o : Oper} {a : Act} {w : World} {Q : Exit → Act → World → Prop} (hw : Region.wanted o (yielded ops a.tmps) = true) (t : TypeId) (parts : Array (Nat × Operand)) (ho : o.op = .build t parts)
    (cells : Array Value) (hf : P.built t (parts.map fun (i, x) => (i, a.eval x)).toList = some cells)
    (h : wpList P ops Q rest (a.put o.dst (.agg cells)) w) : wpList P ops Q (o :: rest) a w :=
  wpList_step fun _ hK => by
    rw [if_pos hw]
    exact wp_build t parts ho (by rw [hf]; rfl) (by rw [hf]; exact hK _ _ h)
end Go.Proofs.YtcmkmnidnapabaaGreat
