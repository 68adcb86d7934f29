/-
  Contracts: a reader's valid, settle; what ends an element.
-/
import Derived.Test.YtlfmmmlheloloaaJd
import Derived.Defers
import Derived.Recover
namespace Go.Proofs.Ytlfmmmlheloloaa
open Go.RowKit Go.Lib Go.Maps

/-- A reader lies in block g: its place, what is left, its fault. -/
structure Rd (w : World) (g t : Nat) (p : Option Addr) (b o cap : Nat) (R : List Nat) (e f : Nat) : Prop where
  blk : Blk w g [.pointer (some ⟨g, 0, none⟩), .int .i64 (t : Nat), .slice p R.length cap, .int .i64 (e : Nat), .int .i64 (f : Nat)] 64
  bs : Bs w p b o R cap
  ne : 0 < cap → g ≠ b
  lim : t + R.length ≤ 1000000000
def RdX (w : World) (g t b : Nat) (R : List Nat) (e f : Nat) : Prop := ∃ p o cap, Rd w g t p b o cap R e f
theorem Rd.c0 {w : World} {g t : Nat} {p : Option Addr} {b o cap : Nat} {R : List Nat} {e f : Nat} (H : Rd w g t p b o cap R e f) : w.cell? ⟨g, 0, none⟩ = some (.pointer (some ⟨g, 0, none⟩)) := H.blk.cell 0
theorem Rd.c1 {w : World} {g t : Nat} {p : Option Addr} {b o cap : Nat} {R : List Nat} {e f : Nat} (H : Rd w g t p b o cap R e f) : w.cell? ⟨g, 1, none⟩ = some (.int .i64 (t : Nat)) := H.blk.cell 1
theorem Rd.c2 {w : World} {g t : Nat} {p : Option Addr} {b o cap : Nat} {R : List Nat} {e f : Nat} (H : Rd w g t p b o cap R e f) : w.cell? ⟨g, 2, none⟩ = some (.slice p R.length cap) := H.blk.cell 2
theorem Rd.c3 {w : World} {g t : Nat} {p : Option Addr} {b o cap : Nat} {R : List Nat} {e f : Nat} (H : Rd w g t p b o cap R e f) : w.cell? ⟨g, 3, none⟩ = some (.int .i64 (e : Nat)) := H.blk.cell 3
theorem Rd.c4 {w : World} {g t : Nat} {p : Option Addr} {b o cap : Nat} {R : List Nat} {e f : Nat} (H : Rd w g t p b o cap R e f) : w.cell? ⟨g, 4, none⟩ = some (.int .i64 (f : Nat)) := H.blk.cell 4
theorem Rd.below {w w' : World} {g t : Nat} {p : Option Addr} {b o cap : Nat} {R : List Nat} {e f : Nat} (H : Rd w g t p b o cap R e f) (hB : Below w.heap.size w w') : Rd w' g t p b o cap R e f :=
  ⟨H.blk.below hB H.blk.lt, H.bs.below hB, H.ne, H.lim⟩

theorem run_eq_same (g : Nat) (w : World) : (binOp .eql 48 (.pointer (some ⟨g, 0, none⟩)) (.pointer (some ⟨g, 0, none⟩))).run Try.prog w = .ok (.bool true) w := by
  obtain ⟨j, hj⟩ : ∃ j, Try.prog.info? 64 = some j := Option.isSome_iff_exists.1 (by kernel_rfl)
  exact run_eql_ptr_same w _ Try.underlying48 hj
theorem run_eq_nil (a : Addr) (w : World) : (binOp .eql 48 (.pointer none) (.pointer (some a))).run Try.prog w = .ok (.bool false) w := by
  have h : ∀ d : Nat, (Op.equalIn (d + 1) 48 (.pointer none) (.pointer (some a))).run Try.prog w = .ok false w := fun d => by
    simp [Op.equalIn, run_underlying Try.underlying48]
  simp only [binOp]
  simp [Op.equal, Op.maxDepth, h 9999]
theorem run_ne_nil (a : Addr) (w : World) : (binOp .neq 48 (.pointer (some a)) (.pointer none)).run Try.prog w = .ok (.bool true) w := by
  have h : ∀ d : Nat, (Op.equalIn (d + 1) 48 (.pointer (some a)) (.pointer none)).run Try.prog w = .ok false w := fun d => by
    simp [Op.equalIn, run_underlying Try.underlying48]
  simp only [binOp]
  simp [Op.equal, Op.maxDepth, h 9999]
theorem run_nil_ne (w : World) : (binOp .neq 48 (.pointer none) (.pointer none)).run Try.prog w = .ok (.bool false) w := by kernel_rfl
set_option maxRecDepth 20000 in
theorem valid_yes {w : World} {g t : Nat} {p : Option Addr} {b o cap : Nat} {R : List Nat} {e f : Nat} (H : Rd w g t p b o cap R e f) :
    Calls Try.prog 94 #[.pointer (some ⟨g, 0, none⟩)] w fun e w' => e = .returned (.bool true) ∧ w = w' := by
  have h0 := H.c0
  have q1 := run_eq_same g w
  have q2 := run_ne_nil ⟨g, 0, none⟩ w
  clear H
  go_enter Try.func94, Try.ntmps94
  go_wp2
  go_ret
  exact ⟨rfl, rfl⟩
set_option maxRecDepth 20000 in
theorem valid_nil (w : World) : Calls Try.prog 94 #[.pointer none] w fun e w' => e = .returned (.bool false) ∧ w = w' := by
  have q1 := run_nil_ne w
  go_enter Try.func94, Try.ntmps94
  go_wp2
  go_ret
  exact ⟨rfl, rfl⟩
set_option maxRecDepth 20000 in
theorem valid_no {w : World} {g : Nat} (h0 : w.cell? ⟨g, 0, none⟩ = some (.pointer none)) :
    Calls Try.prog 94 #[.pointer (some ⟨g, 0, none⟩)] w fun e w' => e = .returned (.bool false) ∧ w = w' := by
  have q1 := run_eq_nil ⟨g, 0, none⟩ w
  have q2 := run_ne_nil ⟨g, 0, none⟩ w
  go_enter Try.func94, Try.ntmps94
  go_wp2
  go_ret
  exact ⟨rfl, rfl⟩

theorem run_ta_nil (w : World) : (Instr.typeAssert .nilIface 20 182 true).run Try.prog w = .ok (.tuple #[.int .i64 0, .bool false]) w := by kernel_rfl
theorem run_ta_brk (x : Int) (w : World) : (Instr.typeAssert (.iface 182 (.int .i64 x)) 20 182 true).run Try.prog w = .ok (.tuple #[.int .i64 x, .bool true]) w := by kernel_rfl
set_option maxRecDepth 20000 in
theorem settle_none (g : Nat) (w : World) :
    Calls Try.prog 150 #[.pointer (some ⟨g, 0, none⟩), .nilIface] w fun e w' => e = .returned (.tuple #[]) ∧ w = w' := by
  have q := run_ta_nil w
  go_enter Try.func150, Try.ntmps150
  go_wp2
  go_end0
  exact ⟨rfl, rfl⟩
set_option maxRecDepth 20000 in
theorem settle_brk {w : World} {g t : Nat} {p : Option Addr} {b o cap : Nat} {R : List Nat} {e f : Nat} (H : Rd w g t p b o cap R e f) (x : Nat) :
    Calls Try.prog 150 #[.pointer (some ⟨g, 0, none⟩), .iface 182 (.int .i64 (x : Nat))] w fun e w' => e = .returned (.tuple #[]) ∧ RdX w' g t b [] x t ∧ Bex g w w' := by
  have h1 := H.c1
  have h2 := H.c2
  have h3 := H.c3
  have h4 := H.c4
  have f2 := H.blk.free 2
  have f3 := H.blk.free 3
  have f4 := H.blk.free 4
  have HH := hidp H
  have q := run_ta_brk x w
  clear H
  go_enter Try.func150, Try.ntmps150
  go_wp2
  go_end0
  refine ⟨rfl, ⟨none, 0, 0, ?_, ⟨by simp, by simp, fun h => absurd h (by simp), fun i hi => absurd hi (by simp)⟩, fun h => absurd h (by simp), by have := HH.out.lim; simp; omega⟩, (((Bex.refl g w).setCell _ _).setCell _ _).setCell _ _⟩
  exact (((HH.out.blk.set 3 _).set 4 _).set 2 _)

/-! A deferred closure's region that draws its order. -/
theorem wpS_region_draw {P : Program} {Q : Exit → Act → List Frame → World → Prop} {a : Act} {cs : List Frame} {w : World} {id : Nat} {ops : Array Oper}
    (h : ∀ t, wpOpsS P ops Q (Region.schedule (P.follows .mixedOrders) ops t) a cs w.drew) : (Code.region id ops true).wpS P Q a cs w :=
  fun b k hb hr => let ⟨e, a', cs', w', q, r⟩ := wp_opsS _ a cs _ (h _) b k hb hr; ⟨e, a', cs', w', q, .of_steps (.one step_region_draw) r⟩
theorem go_one {ops : Array Oper} {rs : List Nat} (fuel t : Nat) (listed : Array Bool) (acc : List Nat) (h : Region.ready .any ops listed = rs) :
    Region.linearise.go .any ops (fuel + 1) t listed acc = match rs[t % rs.length]? with | some i => Region.linearise.go .any ops fuel (t / rs.length) (listed.setIfInBounds i true) (i :: acc) | none => acc.reverse := by subst h; rfl
theorem sched3 (ops : Array Oper) (hs : ops.size = 3) (h0 : Region.ready .any ops #[false, false, false] = [0, 1]) (h1 : Region.ready .any ops #[true, false, false] = [1]) (h2 : Region.ready .any ops #[false, true, false] = [0])
    (h3 : Region.ready .any ops #[true, true, false] = [2]) (t : Nat) : Region.schedule true ops t = [0, 1, 2] ∨ Region.schedule true ops t = [1, 0, 2] := by
  have e : Region.schedule true ops t = Region.linearise.go .any ops 3 t #[false, false, false] [] := by
    unfold Region.schedule Region.linearise
    rw [hs]; rfl
  have one : ∀ (x : Nat) (k : Nat), [x][k % [x].length]? = some x := fun x k => by
    show [x][k % 1]? = some x
    rw [Nat.mod_one]; rfl
  have end3 : ∀ (k : Nat) (acc : List Nat), Region.linearise.go .any ops 1 k #[true, true, false] acc = (2 :: acc).reverse := fun k acc => by
    rw [go_one 0 k _ acc h3, one]; rfl
  rw [e, go_one 2 t _ [] h0]
  rcases Nat.mod_two_eq_zero_or_one t with h | h
  · left
    have e2 : ([0, 1] : List Nat)[t % ([0, 1] : List Nat).length]? = some 0 := by show [0, 1][t % 2]? = some 0; rw [h]; rfl
    rw [e2]
    show Region.linearise.go .any ops 2 _ #[true, false, false] [0] = _
    rw [go_one 1 _ _ _ h1, one]
    exact end3 _ _
  · right
    have e2 : ([0, 1] : List Nat)[t % ([0, 1] : List Nat).length]? = some 1 := by show [0, 1][t % 2]? = some 1; rw [h]; rfl
    rw [e2]
    show Region.linearise.go .any ops 2 _ #[false, true, false] [1] = _
    rw [go_one 1 _ _ _ h2, one]
    exact end3 _ _

theorem wpS_draw3 {P : Program} {Q : Exit → Act → List Frame → World → Prop} {a : Act} {cs : List Frame} {w : World} {id : Nat} {ops : Array Oper} (hm : P.follows .mixedOrders = true) (hs : ops.size = 3) (h0 : Region.ready .any ops #[false, false, false] = [0, 1]) (h1 : Region.ready .any ops #[true, false, false] = [1]) (h2 : Region.ready .any ops #[false, true, false] = [0])
    (h3 : Region.ready .any ops #[true, true, false] = [2]) (ha : wpOpsS P ops Q [0, 1, 2] a cs w.drew) (hb : wpOpsS P ops Q [1, 0, 2] a cs w.drew) : (Code.region id ops true).wpS P Q a cs w := by
  refine wpS_region_draw fun t => ?_
  rw [hm]
  rcases sched3 ops hs h0 h1 h2 h3 t with h | h
  · rw [h]; exact ha
  · rw [h]; exact hb
end Go.Proofs.Ytlfmmmlheloloaa
