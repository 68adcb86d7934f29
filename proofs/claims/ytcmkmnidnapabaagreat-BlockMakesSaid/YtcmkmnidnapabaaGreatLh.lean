/-
  Small laws for drawn regions by hand.
-/
import Derived.Test.YtcmkmnidnapabaaGreatQh
import Derived.Test.YtcmkmnidnapabaaGreatUa
import Derived.Deep.WholeRow
import Derived.Deep.RegionHeld
import Derived.Deep.MidRow
namespace Go.Proofs.YtcmkmnidnapabaaGreat
open Go.RowKit Go.Lib
set_option linter.unusedSimpArgs false

theorem results_rows2 {P : Program} {fn : Func} {p q : Tmp} {ty tq : TypeId} (h : fn.results = #[.cell p ty, .cell q tq]) (tmps : Array Value) (w : World) (g : Nat) (t : TypeId) (cs : List Value) (d : TypeDesc) (g2 : Nat) (t2 : TypeId) (cs2 : List Value) (d2 : TypeDesc)
    (hp : tmps.getD p undef = .pointer (some ⟨g, 0, none⟩)) (hb : Blk w g cs t) (hu : P.underlying ty = some d) (hd : (match d with | .struct _ | .array _ _ => true | _ => false) = true) (hi : (P.info? ty).map (·.size) = some cs.length)
    (hp2 : tmps.getD q undef = .pointer (some ⟨g2, 0, none⟩)) (hb2 : Blk w g2 cs2 t2) (hu2 : P.underlying tq = some d2) (hd2 : (match d2 with | .struct _ | .array _ _ => true | _ => false) = true) (hi2 : (P.info? tq).map (·.size) = some cs2.length) :
    (results fn tmps).run P w = .ok (.tuple #[.agg cs.toArray, .agg cs2.toArray]) w := by
  have hr := run_loadVar_row (P := P) w g t ty cs.toArray (0, 0) d hb hu hd (by simpa using hi)
  have hr2 := run_loadVar_row (P := P) w g2 t2 tq cs2.toArray (0, 0) d2 hb2 hu2 hd2 (by simpa using hi2)
  have hp' : tmps[p]?.getD undef = .pointer (some ⟨g, 0, none⟩) := by simpa using hp
  have hq' : tmps[q]?.getD undef = .pointer (some ⟨g2, 0, none⟩) := by simpa using hp2
  simp only [results, h]
  simp [hp', hq', asAddr, hr, hr2, Sem.run_bind, Result.andThen]
theorem wpAnyH_takeTo2 {P : Program} {md : Region.Mode} {ops : Array Oper} {Q : Exit → Act → World → Prop} {S : World → Prop} {i : Nat} {oi : Oper} {v : Value} {fuel : Nat} {listed : Array Bool} {a : Act} {w : World} (d : Option Tmp) (hd : oi.dst = d) (hi : ops[i]? = some oi)
    (hs : Region.noSelect ops = true) (hf : Region.free md ops listed i = true) (hr : (Region.ready md ops listed).contains i = true)
    (hQ : ∀ c a w, Q (.panic c) (a.put d v) w → Q (.panic c) a w) (hy : YieldsIf P ops S oi v a) (hS : S w)
    (h : wpAnyH P md ops Q S fuel (listed.setIfInBounds i true) (a.put d v) w) : wpAnyH P md ops Q S (fuel + 1) listed a w := by
  subst hd
  exact wpAnyH_take hi hs hf hr hQ hy hS h
theorem if_intro {c : Prop} [Decidable c] {p q : Prop} (h : c) (hp : p) : if c then p else q := by rw [if_pos h]; exact hp
theorem yieldsIf_build {P : Program} {ops : Array Oper} {S : World → Prop} {op : Oper} {a : Act} (hw : Region.wanted op (yielded ops a.tmps) = true) (t : TypeId) (parts : Array (Nat × Operand)) (ho : op.op = .build t parts)
    (cells : Array Value) (hf : P.built t (parts.map fun (i, x) => (i, a.eval x)).toList = some cells) : YieldsIf P ops S op (.agg cells) a :=
  .inl ⟨hw, fun w _ => by
    unfold execOp
    simp only [ho, Sem.run_bind, run_build w t _ cells hf, Result.andThen_ok]
    rfl⟩
theorem run_neq_hash (a b : List Nat) (ha : a.length = 32) (hb : b.length = 32) (w : World) : (binOp .neq 39 (.agg (bvs a).toArray) (.agg (bvs b).toArray)).run Tryz.prog w = .ok (.bool (!decide (a = b))) w := by
  rw [run_neq_struct, run_equalIn_arr Tryz.underlying39 9998 a b ha hb]; rfl
theorem wpList_load_midD {P : Program} {ops : Array Oper} {rest : List Oper} {o : Oper} {a : Act} {w : World} {Q : Exit → Act → World → Prop} (d0 : Nat) (_ : o.dst = some d0) (hw : Region.wanted o (yielded ops a.tmps) = true) (ty : TypeId) (x : Operand) (ho : o.op = .load ty x)
    (b f : Nat) (hx : a.eval x = .pointer (some ⟨b, f, none⟩)) (cs : List Value) (d : TypeDesc) (hc : w.rangeAt b f cs)
    (hu : P.underlying ty = some d) (hd : d.isRow = true) (hi : (P.info? ty).map (·.size) = some cs.length)
    (h : wpList P ops Q rest (a.put o.dst (.agg cs.toArray)) w) : wpList P ops Q (o :: rest) a w :=
  wpList_step fun _ hK => by
    rw [if_pos hw]
    exact wp_load_mid ty x ho b f hx cs d hc hu hd hi (hK _ _ h)
theorem fold_sets : ∀ (vs : List Value) (k off : Nat) (cs : List Value), (vs.zipIdx k).foldl (fun (cs : Array Value) (x : Value × Nat) => cs.setIfInBounds (off + x.2) x.1) cs.toArray = (setsL cs (off + k) vs).toArray
  | [], _, _, _ => rfl
  | v :: vs, k, off, cs => by
    simp only [List.zipIdx_cons, List.foldl_cons, List.setIfInBounds_toArray, setsL]
    rw [fold_sets vs (k + 1) off, Nat.add_assoc]
theorem fill_agg {place : Nat → Option (Nat × Nat)} {cs vs : List Value} {i off : Nat} {rest : List (Nat × Value)} (hp : place i = some (off, vs.length)) (h : off + vs.length ≤ cs.length) : Instr.fill place cs.toArray ((i, .agg vs.toArray) :: rest) = Instr.fill place (setsL cs off vs).toArray rest := by
  have q := fold_sets vs 0 off cs
  rw [Nat.add_zero] at q
  rw [Instr.fill, hp]
  have hn : ((Value.agg vs.toArray).cells.size ≠ vs.length || off + (Value.agg vs.toArray).cells.size > cs.toArray.size) = false := by
    simp [Value.cells]; omega
  show (if _ then none else _) = _
  rw [if_neg (by rw [hn]; decide), ← q]
  congr 1
  show Array.foldl _ _ vs.toArray.zipIdx = _
  rw [← Array.foldl_toList]
  simp
theorem fill_val {place : Nat → Option (Nat × Nat)} {cs : List Value} {v : Value} {i off : Nat} {rest : List (Nat × Value)} (hv : v.cells = #[v]) (hp : place i = some (off, 1)) (h : off + 1 ≤ cs.length) : Instr.fill place cs.toArray ((i, v) :: rest) = Instr.fill place (cs.set off v).toArray rest := by
  rw [Instr.fill, hp]
  have hn : (v.cells.size ≠ 1 || off + v.cells.size > cs.toArray.size) = false := by
    simp [hv]; omega
  show (if _ then none else _) = _
  rw [if_neg (by rw [hn]; decide), hv]
  simp
end Go.Proofs.YtcmkmnidnapabaaGreat
