/-
  Contracts: again: a thing, read, is written.
-/
import Derived.Test.YtbhkjflpkpkdlaaQg
import Derived.Test.YtbhkjflpkpkdlaaJv
namespace Go.Proofs.Ytbhkjflpkpkdlaa
open Go.RowKit Go.Lib Go.Maps
attribute [local go_sem] run_bits run_frombits

/-- A Thing of a kind, of zeros otherwise. -/
def zT (kind : Int) : List Value := thL kind 0 none 0 0 (List.replicate 32 0) (List.replicate 4 0) 0 false
theorem RdX.lower {B : Nat} {w w' : World} {g t b : Nat} {R : List Nat} {e f : Nat} (H : RdX w g t b R e f) (hB : Below B w w') (hg : g < B) (hb : b < B) : RdX w' g t b R e f := by
  obtain ⟨p, o, c, h⟩ := H
  exact ⟨p, o, c, ⟨h.blk.below hB hg, ⟨h.bs.byte, h.bs.le, fun h0 => ⟨(h.bs.ptr h0).1, Nat.lt_of_lt_of_le (h.bs.ptr h0).2 hB.size⟩, fun i hi => (hB.cell (p := ⟨b, o + i, none⟩) hb).trans (h.bs.here i hi)⟩, h.ne, h.lim⟩⟩
theorem mEndX {w : World} {g t b : Nat} {R : List Nat} {e0 f0 : Nat} (H : RdX w g t b R e0 f0) (n m : Nat) (hE : endE e0 t f0 R = (n, m)) :
    Calls Try.prog 27 #[.pointer (some ⟨g, 0, none⟩)] w fun e w' => e = .returned (.agg #[.int .i64 (n : Nat), .int .i64 (m : Nat)]) ∧ Below w.heap.size w w' := by
  obtain ⟨p, o, c, h⟩ := H
  have q := mEnd_any g t p b o c R e0 f0 w h
  rw [hE] at q
  exact q
theorem mRestX {w : World} {g t b : Nat} {R : List Nat} {e0 f0 : Nat} (H : RdX w g t b R e0 f0) :
    Calls Try.prog 25 #[.pointer (some ⟨g, 0, none⟩)] w fun e w' => e = .returned (.int .i64 (R.length : Nat)) ∧ w = w' := by
  obtain ⟨p, o, c, h⟩ := H
  exact mRest_any g t p b o c R e0 f0 w h
theorem endE_cases (t f : Nat) (R : List Nat) : ∃ x y : Nat, endE 0 t f R = (x, y) ∧ ((x = 0 ∧ y = 0) ∨ (x = 4 ∧ 0 < R.length)) := by
  by_cases h0 : 0 < R.length
  · exact ⟨4, t, by unfold endE; rw [if_neg (by omega), if_pos h0], .inr ⟨rfl, h0⟩⟩
  · exact ⟨0, 0, by unfold endE; rw [if_neg (by omega), if_neg h0], .inl ⟨rfl, rfl⟩⟩
/-- A reader, a writer made later, and a Thing in a box of later still. -/
structure Ag (w0 w : World) (gr t b : Nat) (R : List Nat) (e f : Nat) (gw lim : Nat) (v : Value) (X : List Nat) (T : List Value) : Prop where
  rd : RdX w gr t b R e f
  wr : Wr w gw lim v X 0
  bel : Below gr w0 w
  box : Blk w w0.heap.size T 39
  hgr : gr < gw
  hb : b < gw
  hgw : gw < w0.heap.size
  own : ∀ k, v.ownBlock = some k → k < w0.heap.size
theorem Ag.start {w0 w1 : World} {gr t b : Nat} {R : List Nat} {gw lim : Nat} {v : Value} {X : List Nat} {T : List Value} (hr : RdX w0 gr t b R 0 0) (hw : Wr w0 gw lim v X 0) (hgr : gr < gw) (hb : b < gw) {A : Array Value}
    (h1 : w1 = (w0.alloc (.cells A 39)).setRow w0.heap.size T.toArray) : Ag w0 w1 gr t b R 0 0 gw lim v X T := by
  have hB : Below w0.heap.size w0 w1 := by rw [h1]; exact below_setRow ((Below.refl _ w0).alloc (Nat.le_refl _) _) (Nat.le_refl _) _
  have hlt := hw.blk.lt
  exact ⟨hr.lower hB (by omega) (by omega), hw.below hB, ⟨hB.os, hB.tape, hB.output, hB.size, fun k hk => hB.block k (by omega)⟩, by rw [h1]; exact (Blk.new w0 A.toList _).row, hgr, hb, hlt, fun k hk => (hw.ownGe hk).2⟩
theorem Ag.below {w0 w w' : World} {gr t b : Nat} {R : List Nat} {e f : Nat} {gw lim : Nat} {v : Value} {X : List Nat} {T : List Value} (H : Ag w0 w gr t b R e f gw lim v X T) (hB : Below w.heap.size w w') : Ag w0 w' gr t b R e f gw lim v X T := by
  have hl := H.wr.blk.lt
  have h1 := H.hgr
  have h2 := H.hb
  exact ⟨H.rd.lower hB (by omega) (by omega), H.wr.below hB, ⟨hB.os.trans H.bel.os, hB.tape.trans H.bel.tape, hB.output.trans H.bel.output, Nat.le_trans H.bel.size hB.size, fun k hk => (hB.block k (by omega)).trans (H.bel.block k hk)⟩, H.box.below hB H.box.lt, h1, h2, H.hgw, H.own⟩
theorem Ag.read {w0 w w' : World} {gr t b : Nat} {R : List Nat} {e f : Nat} {gw lim : Nat} {v : Value} {X : List Nat} {T : List Value} (H : Ag w0 w gr t b R e f gw lim v X T) {t' e' f' : Nat} {R' : List Nat} (hr : RdX w' gr t' b R' e' f') (hx : Bex gr w w') : Ag w0 w' gr t' b R' e' f' gw lim v X T := by
  have hl := H.wr.blk.lt
  have h1 := H.hgr
  have h3 := H.hgw
  exact ⟨hr, H.wr.bex hx (by omega) (fun h => by have := H.wr.ownGe h; omega), ⟨hx.os.trans H.bel.os, hx.tape.trans H.bel.tape, hx.output.trans H.bel.output, Nat.le_trans H.bel.size hx.size, fun k hk => (hx.block k (by omega) (by omega)).trans (H.bel.block k hk)⟩, hx.blk H.box (by omega), h1, H.hb, H.hgw, H.own⟩
theorem Ag.at {w0 w w' : World} {gr t b : Nat} {R : List Nat} {e f : Nat} {gw lim : Nat} {v : Value} {X : List Nat} {T T' : List Value} (H : Ag w0 w gr t b R e f gw lim v X T) (hx : Bex w0.heap.size w w') (hk : Blk w' w0.heap.size T' 39) : Ag w0 w' gr t b R e f gw lim v X T' := by
  have hl := H.hgw
  have h1 := H.hgr
  have h2 := H.hb
  exact ⟨H.rd.bexA hx (by omega) (by omega), H.wr.bex hx (by omega) (fun h => by have := H.own _ h; omega), ⟨hx.os.trans H.bel.os, hx.tape.trans H.bel.tape, hx.output.trans H.bel.output, Nat.le_trans H.bel.size hx.size, fun k hk => (hx.block k (by have := H.wr.blk.lt; omega) (by omega)).trans (H.bel.block k hk)⟩, hk, h1, h2, hl, H.own⟩
theorem Ag.set {w0 w : World} {gr t b : Nat} {R : List Nat} {e f : Nat} {gw lim : Nat} {v : Value} {X : List Nat} {T : List Value} (H : Ag w0 w gr t b R e f gw lim v X T) (i : Nat) (u : Value) : Ag w0 (w.setCell ⟨w0.heap.size, i, none⟩ u) gr t b R e f gw lim v X (T.set i u) :=
  H.at ((Bex.refl _ w).setCell i u) (H.box.set i u)
theorem Ag.tell {w0 w : World} {gr t b : Nat} {R : List Nat} {e f : Nat} {gw lim : Nat} {v : Value} {X : List Nat} {T T' : List Value} (h : T = T') (H : Ag w0 w gr t b R e f gw lim v X T) : Ag w0 w gr t b R e f gw lim v X T' := h ▸ H
/-- What again leaves behind a fault. -/
def AgE (w0 : World) (gr t b x : Nat) (e : Ending) (w' : World) : Prop := e = .returned (.bool false) ∧ RdX w' gr t b [] x t ∧ Below gr w0 w'
/-- What again leaves, all being well. -/
def AgP (w0 : World) (gr t b : Nat) (R : List Nat) (gw lim : Nat) (X : List Nat) (e : Ending) (w' : World) : Prop := e = .returned (.bool true) ∧ ∃ v', RdX w' gr t b R 0 0 ∧ Wr w' gw lim v' X 0 ∧ Below gr w0 w' ∧ w0.heap.size ≤ w'.heap.size
theorem Ag.wrote {w0 w w' : World} {gr t b : Nat} {R : List Nat} {gw lim : Nat} {v : Value} {X : List Nat} {T : List Value} (H : Ag w0 w gr t b R 0 0 gw lim v X T) {e : Ending} {Y : List Nat} (h : PutP w gw lim v Y e w') : e = .returned (.int .i64 0) ∧ AgP w0 gr t b R gw lim Y (.returned (.bool true)) w' := by
  obtain ⟨rfl, v', h1, h2⟩ := h
  have hB := h2.toBelow H.wr
  have h3 := H.hgr
  exact ⟨rfl, rfl, v', H.rd.lower hB h3 H.hb, h1, ⟨hB.os.trans H.bel.os, hB.tape.trans H.bel.tape, hB.output.trans H.bel.output, Nat.le_trans H.bel.size hB.size, fun k hk => (hB.block k (by omega)).trans (H.bel.block k hk)⟩, Nat.le_trans H.bel.size hB.size⟩

end Go.Proofs.Ytbhkjflpkpkdlaa
