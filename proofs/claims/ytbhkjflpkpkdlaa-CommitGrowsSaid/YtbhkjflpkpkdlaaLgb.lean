/-
  CommitGrows: its boxes, bools among the arguments.
-/
import Derived.Test.YtbhkjflpkpkdlaaLga
import Derived.Test.YtbhkjflpkpkdlaaL7u
import Derived.Test.YtbhkjflpkpkdlaaL7y
import Derived.Test.YtbhkjflpkpkdlaaLja
namespace Go.Proofs.Ytbhkjflpkpkdlaa
open Go.RowKit Go.Lib Go.WideShapes Go.Joins Go.ChangeAt Go.ChangeShapes Go.Deep

/-- A slice of bools. -/
structure Bo (w : World) (a : Option Addr) (b o cap : Nat) (l : List Bool) : Prop where
  le : l.length ≤ cap
  ptr : 0 < cap → a = some ⟨b, o, none⟩ ∧ b < w.heap.size
  cell : ∀ i v, l[i]? = some v → w.cell? ⟨b, o + i, none⟩ = some (.bool v)
theorem Bo.below {w w' : World} {a : Option Addr} {b o cap : Nat} {l : List Bool} (h : Bo w a b o cap l) (hB : Below w.heap.size w w') : Bo w' a b o cap l :=
  ⟨h.le, fun h0 => ⟨(h.ptr h0).1, Nat.lt_of_lt_of_le (h.ptr h0).2 hB.size⟩, fun i v hi => (hB.cell (cell_lt (h.cell i v hi))).trans (h.cell i v hi)⟩
theorem Bo.at {w : World} {a : Option Addr} {b o cap : Nat} {l : List Bool} (h : Bo w a b o cap l) {i : Nat} (hi : i < l.length) : ∃ v, l[i]? = some v ∧ a = some ⟨b, o, none⟩ ∧ w.cell? ⟨b, o + i, none⟩ = some (.bool v) := by
  have hv := List.getElem?_eq_getElem hi
  have h0 : 0 < cap := by have := h.le; omega
  exact ⟨l[i], hv, (h.ptr h0).1, h.cell i _ hv⟩
section
variable {H : Type} {enc : TypeId × Value → H}
set_option maxRecDepth 100000 in
theorem bools_of_trod {W : World} {base fuel : Nat} {held : Bool} {cs1 : List Value} {x : DataW H × List MemPlace}
    (hf : DataW.trod enc Try.prog W base (fun _ => true) held fuel 81 cs1 = some x) : ∃ (a : Option Addr) (b o cap : Nat) (l : List Bool), cs1 = [.slice a l.length cap] ∧ Bo W a b o cap l := by
  have hC : Try.prog.cellsOf 4 = 1 := by kernel_rfl
  rcases open_slice Try.underlying81 hf with ⟨hcs, _⟩ | ⟨x, len, cap, m, n, D, Pl, hcs, hb, hl, hm, hmm, _, hx⟩
  · exact ⟨none, 0, 0, 0, [], hcs, by simp, fun h => absurd h (by omega), fun i v hi => by simp at hi⟩
  · simp only [if_true] at hmm
    subst hmm
    obtain ⟨f, hfv⟩ := choose_lt (α := Bool) (p := fun i v => W.cells? base (x.add (i * 1)) 1 = some [.bool v]) (fun i hi => by
      obtain ⟨cs, h1, h2⟩ := hx i hi
      obtain ⟨v, hv, _⟩ := DataW.trod_bool Try.underlying4 h2
      subst hv
      have hC' : Try.prog.cellsOf (Try.prog.elem 81) = 1 := by kernel_rfl
      first
      | (rw [hC] at h1; exact ⟨v, h1⟩)
      | (rw [hC'] at h1; exact ⟨v, h1⟩))
    have hcell : ∀ i, i < m → W.cell? (x.add i) = some (.bool (f i)) := fun i hi => by
      have h1 := (World.cells?_some (hfv i hi)).2.2 0 (by decide)
      rw [Nat.mul_one] at h1
      have e0 : (x.add i).add 0 = x.add i := by
        obtain ⟨bb, bo, sp⟩ := x
        cases sp <;> simp [Addr.add]
      rw [e0] at h1
      exact h1
    by_cases h0 : 0 < m
    · have c0 := hcell 0 h0
      have hsp : x.spot = .none := by
        have h1 := World.cell?_spot c0
        simpa [Addr.add] using h1
      have hlt : x.block < W.heap.size := by
        have h1 := cell_lt c0
        simpa [Addr.add] using h1
      obtain ⟨bb, bo, sp⟩ := x
      simp only at hsp hlt
      subst hsp
      refine ⟨some ⟨bb, bo, none⟩, bb, bo, m, (List.range len).map f, by simpa using hcs, by simpa using hl, fun _ => ⟨rfl, hlt⟩, fun i v hi => ?_⟩
      obtain ⟨hi1, rfl⟩ := List.getElem?_eq_some_iff.1 hi
      simp only [List.length_map, List.length_range] at hi1
      simp only [List.getElem_map, List.getElem_range]
      have q := hcell i (by omega)
      rw [Addr.add_mid] at q
      exact q
    · obtain rfl : m = 0 := by omega
      obtain rfl : len = 0 := by omega
      exact ⟨some x, 0, 0, 0, [], by simpa using hcs, by simp, fun h => absurd h (by omega), fun i v hi => by simp at hi⟩
set_option maxRecDepth 100000 in
theorem open_bools {W : World} {r : Reach} {b0 base : Nat} {held : Bool} {v : Value} {d : DataW H} {p : List MemPlace} (hv : Value.okWide Try.prog W r b0 81 v) (h : DataW.Trod enc Try.prog W base (fun _ => true) held 81 v d p) :
    ∃ (a : Option Addr) (b o cap : Nat) (l : List Bool), v = .slice a l.length cap ∧ Bo W a b o cap l := by
  obtain ⟨a, n, c, rfl⟩ := okWide_slice Try.underlying81 hv
  obtain ⟨fuel, hf⟩ := h
  obtain ⟨a', b, o, cap, l, e, hb⟩ := bools_of_trod hf
  have e2 : Value.slice a n c = .slice a' l.length cap := List.head_eq_of_cons_eq e
  rw [e2]
  exact ⟨_, b, o, _, l, rfl, hb⟩
end
theorem run_votes_of (h : Int) (p : List Nat) (sl : Value) (hp : p.length = 32) (w : World) : (Instr.field 63 (.agg (cC h p sl).toArray) 2).run Try.prog w = .ok sl w := by
  have h33 := cC_33 (h := h) (sl := sl) hp
  have e : (cC h p sl).toArray[33]? = some sl := by rw [List.getElem?_toArray]; exact h33
  have hagg : (isAgg 61).run Try.prog w = .ok false w := by kernel_rfl
  unfold Instr.field
  rw [Sem.run_bind, run_underlying Try.underlying63 w]
  simp [Result.andThen, asAgg, part, Sem.run_bind, hagg, e]
/-- The boxes of CommitGrows: what it is handed; all; the one part; the other. -/
structure GrB (w W : World) (X : List Value) (s i10 i11 i12 : Nat) (h : Int) (p : List Nat) (s10 s11 s12 : Value) (all a b : List Vt) : Prop where
  k3 : Blk W w.heap.size X 63
  bel : Below w.heap.size w W
  hs : w.heap.size < s
  r10 : s ≤ i10 ∧ i10 < s + 3
  r11 : s ≤ i11 ∧ i11 < s + 3
  r12 : s ≤ i12 ∧ i12 < s + 3
  ne : i10 ≠ i11 ∧ i10 ≠ i12 ∧ i11 ≠ i12
  sz : s + 3 ≤ W.heap.size
  k10 : Blk W i10 (cC h p s10) 63
  k11 : Blk W i11 (cC h p s11) 63
  k12 : Blk W i12 (cC h p s12) 63
  o10 : OwnT W (s + 3) s10 all
  o11 : OwnT W (s + 3) s11 a
  o12 : OwnT W (s + 3) s12 b
/-- What is left to add, in a row of its own. -/
structure Lef (W : World) (s : Nat) (sv : Value) (left : List Vt) : Prop where
  own : OwnT W 0 sv left
  hne : ∀ k, sv.ownBlock = some k → k < s ∨ s + 3 ≤ k
section
variable {w W W' : World} {X : List Value} {s i10 i11 i12 : Nat} {h : Int} {p : List Nat} {s10 s11 s12 sv : Value} {all a b l left : List Vt}
theorem GrB.below (H : GrB w W X s i10 i11 i12 h p s10 s11 s12 all a b) (hb : Below W.heap.size W W') : GrB w W' X s i10 i11 i12 h p s10 s11 s12 all a b :=
  ⟨hb.blk' H.k3, H.bel.trans (hb.mono H.bel.size), H.hs, H.r10, H.r11, H.r12, H.ne, Nat.le_trans H.sz hb.size, hb.blk' H.k10, hb.blk' H.k11, hb.blk' H.k12, H.o10.below hb, H.o11.below hb, H.o12.below hb⟩
theorem Lef.below (H : Lef W s sv left) (hb : Below W.heap.size W W') : Lef W' s sv left := ⟨H.own.below hb, H.hne⟩
theorem GrB.set10 (H : GrB w W X s i10 i11 i12 h p s10 s11 s12 all a b) (ho : OwnT W (s + 3) sv l) : GrB w (W.setRow i10 (cC h p sv).toArray) X s i10 i11 i12 h p sv s11 s12 l a b := by
  have hb := (But.refl i10 W).setRow (cC h p sv).toArray
  have hx := Bex.of_but hb
  have h1 := H.r10
  have h2 := H.ne
  have h3 := H.hs
  exact ⟨hb.blk H.k3 (by omega), H.bel.trans (hb.below (by omega)), H.hs, H.r10, H.r11, H.r12, H.ne, by rw [hb.size]; exact H.sz, H.k10.row, hb.blk H.k11 (by omega), hb.blk H.k12 (by omega), ho.bex hx (by omega), H.o11.bex hx (by omega), H.o12.bex hx (by omega)⟩
theorem GrB.set11 (H : GrB w W X s i10 i11 i12 h p s10 s11 s12 all a b) (ho : OwnT W (s + 3) sv l) : GrB w (W.setRow i11 (cC h p sv).toArray) X s i10 i11 i12 h p s10 sv s12 all l b := by
  have hb := (But.refl i11 W).setRow (cC h p sv).toArray
  have hx := Bex.of_but hb
  have h1 := H.r11
  have h2 := H.ne
  have h3 := H.hs
  exact ⟨hb.blk H.k3 (by omega), H.bel.trans (hb.below (by omega)), H.hs, H.r10, H.r11, H.r12, H.ne, by rw [hb.size]; exact H.sz, hb.blk H.k10 (by omega), H.k11.row, hb.blk H.k12 (by omega), H.o10.bex hx (by omega), ho.bex hx (by omega), H.o12.bex hx (by omega)⟩
theorem GrB.set12 (H : GrB w W X s i10 i11 i12 h p s10 s11 s12 all a b) (ho : OwnT W (s + 3) sv l) : GrB w (W.setRow i12 (cC h p sv).toArray) X s i10 i11 i12 h p s10 s11 sv all a l := by
  have hb := (But.refl i12 W).setRow (cC h p sv).toArray
  have hx := Bex.of_but hb
  have h1 := H.r12
  have h2 := H.ne
  have h3 := H.hs
  exact ⟨hb.blk H.k3 (by omega), H.bel.trans (hb.below (by omega)), H.hs, H.r10, H.r11, H.r12, H.ne, by rw [hb.size]; exact H.sz, hb.blk H.k10 (by omega), hb.blk H.k11 (by omega), H.k12.row, H.o10.bex hx (by omega), H.o11.bex hx (by omega), ho.bex hx (by omega)⟩
theorem Lef.set (H : Lef W s sv left) {i : Nat} (hi : s ≤ i ∧ i < s + 3) (cs : Array Value) : Lef (W.setRow i cs) s sv left :=
  ⟨H.own.bexJ (Bex.of_but ((But.refl i W).setRow cs)) (fun k hk => by have := H.hne k hk; omega), H.hne⟩
end
end Go.Proofs.Ytbhkjflpkpkdlaa
