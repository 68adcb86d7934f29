/-
  The walk of landfalllaw04's WireNone.
-/
import Derived.Test.YtbhkjflpkpkdlaaQf
import Derived.Deep.CutRange
namespace Go.Proofs.Ytbhkjflpkpkdlaa
open Go.RowKit Go.Lib Go.Maps

def zW : List Value := [.pointer none, .int .i64 0, .slice none 0 0, .int .i64 0]
def zR : List Value := [.pointer none, .int .i64 0, .slice none 0 0, .int .i64 0, .int .i64 0]
/-- What the law knows between its statements. -/
structure NoS (w wr : World) (kind n : Int) (p : Option Addr) (b o cap : Nat) (L h k : List Nat) (x : Nat) (is : Bool) : Prop where
  th : Th wr w.heap.size kind n p L.length cap h k x is
  bw : Blk wr (w.heap.size + 1) zW 115
  ws : Blk wr (w.heap.size + 1 + 1) [.pointer none, .pointer (some ⟨w.heap.size + 1, 0, none⟩)] 25
  br : Blk wr (w.heap.size + 1 + 1 + 1) zR 128
  rs : Blk wr (w.heap.size + 1 + 1 + 1 + 1) [.pointer none, .pointer (some ⟨w.heap.size + 1 + 1 + 1, 0, none⟩)] 48
  bel : Below w.heap.size w wr
  bs : Bs wr p b o L cap
theorem NoS.below {w wr w' : World} {kind n : Int} {p : Option Addr} {b o cap : Nat} {L h k : List Nat} {x : Nat} {is : Bool} (H : NoS w wr kind n p b o cap L h k x is) (hB : Below wr.heap.size wr w') : NoS w w' kind n p b o cap L h k x is :=
  ⟨⟨H.th.blk.below hB H.th.blk.lt, H.th.hh, H.th.hk⟩, H.bw.below hB H.bw.lt, H.ws.below hB H.ws.lt, H.br.below hB H.br.lt, H.rs.below hB H.rs.lt, btrans H.bel hB, H.bs.below hB⟩
theorem NoS.drewN {w wr : World} {kind n : Int} {p : Option Addr} {b o cap : Nat} {L h k : List Nat} {x : Nat} {is : Bool} (H : NoS w wr kind n p b o cap L h k x is) (j : Nat) : NoS w (wr.drewN j) kind n p b o cap L h k x is :=
  ⟨⟨H.th.blk.drewN j, H.th.hh, H.th.hk⟩, H.bw.drewN j, H.ws.drewN j, H.br.drewN j, H.rs.drewN j, H.bel.drewN j, H.bs.drewN j⟩
theorem NoS.w1 {w wr : World} {kind n : Int} {p : Option Addr} {b o cap : Nat} {L h k : List Nat} {x : Nat} {is : Bool} (H : NoS w wr kind n p b o cap L h k x is) : BadW wr (.pointer (some ⟨w.heap.size + 1, 0, none⟩)) := .inr ⟨_, rfl, H.bw.cell 0⟩
theorem NoS.r1 {w wr : World} {kind n : Int} {p : Option Addr} {b o cap : Nat} {L h k : List Nat} {x : Nat} {is : Bool} (H : NoS w wr kind n p b o cap L h k x is) : BadR wr (.pointer (some ⟨w.heap.size + 1 + 1 + 1, 0, none⟩)) := .inr ⟨_, rfl, H.br.cell 0⟩
theorem NoS.w0 {w wr : World} {kind n : Int} {p : Option Addr} {b o cap : Nat} {L h k : List Nat} {x : Nat} {is : Bool} (_H : NoS w wr kind n p b o cap L h k x is) : BadW wr (.pointer none) := .inl rfl
theorem NoS.r0 {w wr : World} {kind n : Int} {p : Option Addr} {b o cap : Nat} {L h k : List Nat} {x : Nat} {is : Bool} (_H : NoS w wr kind n p b o cap L h k x is) : BadR wr (.pointer none) := .inl rfl

theorem NoS.start {w : World} {kind n : Int} {p : Option Addr} {b o cap : Nat} {L h k : List Nat} {x : Nat} {is : Bool} (hL : Bs w p b o L cap) (hh : Bytes 32 h) (hk : Bytes 4 k) :
    NoS w (((((w.alloc (.cells (thL kind n p L.length cap h k x is).toArray 39)).alloc (.cells zW.toArray 115)).alloc (.cells #[.pointer none, .pointer (some ⟨w.heap.size + 1, 0, none⟩)] 25)).alloc (.cells zR.toArray 128)).alloc (.cells #[.pointer none, .pointer (some ⟨w.heap.size + 1 + 1 + 1, 0, none⟩)] 48)) kind n p b o cap L h k x is := by
  have hB : Below w.heap.size w (((((w.alloc (.cells (thL kind n p L.length cap h k x is).toArray 39)).alloc (.cells zW.toArray 115)).alloc (.cells #[.pointer none, .pointer (some ⟨w.heap.size + 1, 0, none⟩)] 25)).alloc (.cells zR.toArray 128)).alloc (.cells #[.pointer none, .pointer (some ⟨w.heap.size + 1 + 1 + 1, 0, none⟩)] 48)) := by (repeat' (first | (with_reducible exact Below.refl _ _) | (with_reducible refine Below.alloc ?_ ?_ _) | (with_reducible refine Below.drew ?_) | (with_reducible refine Below.drewN ?_ _) | (with_reducible refine Below.setCell ?_ ?_ _) | go_size))
  exact ⟨⟨((((Blk.new w _ _).alloc _).alloc _).alloc _).alloc _, hh, hk⟩, (((Blk.new' _ zW _ _ (by simp)).alloc _).alloc _).alloc _, ((Blk.new' _ [.pointer none, .pointer (some ⟨w.heap.size + 1, 0, none⟩)] _ _ (by simp)).alloc _).alloc _, (Blk.new' _ zR _ _ (by simp)).alloc _, Blk.new' _ [.pointer none, .pointer (some ⟨w.heap.size + 1 + 1 + 1, 0, none⟩)] _ _ (by simp), hB, hL.below hB⟩
def zH : List Value := bvs (List.replicate 32 0)
def zK : List Value := bvs (List.replicate 4 0)
theorem mHash_bad2 {w : World} {x : Value} (h : BadR w x) : Calls Try.prog 90 #[x] w fun e w' => e = .returned (.agg zH.toArray) ∧ Below w.heap.size w w' := mHash_bad h
theorem mKey_bad2 {w : World} {x : Value} (h : BadR w x) : Calls Try.prog 92 #[x] w fun e w' => e = .returned (.agg zK.toArray) ∧ Below w.heap.size w w' := mKey_bad h
theorem ne_hash (w : World) : (binOp .neq 34 (.agg zH.toArray) (.agg zH.toArray)).run Try.prog w = .ok (.bool false) w := by kernel_rfl
theorem ne_key (w : World) : (binOp .neq 36 (.agg zK.toArray) (.agg zK.toArray)).run Try.prog w = .ok (.bool false) w := by kernel_rfl
theorem ne_fault (w : World) : (binOp .neq 55 (.agg #[.int .i64 1, .int .i64 0]) (.agg #[.int .i64 1, .int .i64 0])).run Try.prog w = .ok (.bool false) w := by kernel_rfl
theorem wpList_load_blkG {P : Program} {ops : Array Oper} {rest : List Oper} {o : Oper} {a : Act} {w : World} {Q : Exit → Act → World → Prop} (hw : Region.wanted o (yielded ops a.tmps) = true) (ty : TypeId) (x : Operand) (ho : o.op = .load ty x)
    (b : Nat) (cs : List Value) (T : TypeId) (hx : a.eval x = .pointer (some ⟨b, 0, none⟩)) (hb : Blk w b cs T) (d : TypeDesc)
    (hu : P.underlying ty = some d) (hd : (match d with | .struct _ | .array _ _ => true | _ => false) = true) (hi : (P.info? ty).map (·.size) = some cs.length)
    (h : wpList P ops Q rest (a.put o.dst (.agg cs.toArray)) w) : wpList P ops Q (o :: rest) a w :=
  wpList_step fun _ hK => by
    rw [if_pos hw]
    exact wp_load_row ty x ho b hx T cs.toArray (0, 0) d hb hu hd (by simpa using hi) (hK _ _ h)
theorem wpList_buildG {P : Program} {ops : Array Oper} {rest : List Oper} {o : Oper} {a : Act} {w : World} {Q : Exit → Act → World → Prop} (hw : Region.wanted o (yielded ops a.tmps) = true) (t : TypeId) (parts : Array (Nat × Operand)) (ho : o.op = .build t parts)
    (cells : Array Value) (hf : P.built t (parts.map fun (i, x) => (i, a.eval x)).toList = some cells)
    (h : wpList P ops Q rest (a.put o.dst (.agg cells)) w) : wpList P ops Q (o :: rest) a w :=
  wpList_step fun _ hK => by
    rw [if_pos hw]
    exact wp_build t parts ho (by rw [hf]; rfl) (by rw [hf]; exact hK _ _ h)
end Go.Proofs.Ytbhkjflpkpkdlaa
