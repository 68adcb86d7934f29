/-
  Contracts: again: a thing, read, is written.
-/
import Derived.Test.YtcmkmnidnapabaaGreatQg
import Derived.Test.YtcmkmnidnapabaaGreatJv
namespace Go.Proofs.YtcmkmnidnapabaaGreat
open Go.RowKit Go.Lib Go.Maps
/-- A Thing of a kind, of zeros otherwise. -/
def zT (kind : Int) : List Value := thL kind 0 none 0 0 (List.replicate 32 0) (List.replicate 4 0) 0 false
theorem RdX.lower {B : Nat} {w w' : World} {g t b : Nat} {R : List Nat} {e f : Nat} (H : RdX w g t b R e f) (hB : Below B w w') (hg : g < B) (hb : b < B) : RdX w' g t b R e f := by
  obtain ⟨p, o, c, h⟩ := H
  exact ⟨p, o, c, ⟨h.blk.below hB hg, ⟨h.bs.byte, h.bs.le, fun h0 => ⟨(h.bs.ptr h0).1, Nat.lt_of_lt_of_le (h.bs.ptr h0).2 hB.size⟩, fun i hi => (hB.cell (p := ⟨b, o + i, none⟩) hb).trans (h.bs.here i hi)⟩, h.ne, h.lim⟩⟩
theorem mEndX {w : World} {g t b : Nat} {R : List Nat} {e0 f0 : Nat} (H : RdX w g t b R e0 f0) (n m : Nat) (hE : endE e0 t f0 R = (n, m)) :
    Calls Tryz.prog 92 #[.pointer (some ⟨g, 0, none⟩)] w fun e w' => e = .returned (.agg #[.int .i64 (n : Nat), .int .i64 (m : Nat)]) ∧ Below w.heap.size w w' := by
  obtain ⟨p, o, c, h⟩ := H
  have q := mEnd_any g t p b o c R e0 f0 w h
  rw [hE] at q
  exact q
theorem mRestX {w : World} {g t b : Nat} {R : List Nat} {e0 f0 : Nat} (H : RdX w g t b R e0 f0) :
    Calls Tryz.prog 90 #[.pointer (some ⟨g, 0, none⟩)] w fun e w' => e = .returned (.int .i64 (R.length : Nat)) ∧ w = w' := by
  obtain ⟨p, o, c, h⟩ := H
  exact mRest_any g t p b o c R e0 f0 w h
theorem endE_cases (t f : Nat) (R : List Nat) : ∃ x y : Nat, endE 0 t f R = (x, y) ∧ ((x = 0 ∧ y = 0) ∨ (x = 4 ∧ 0 < R.length)) := by
  by_cases h0 : 0 < R.length
  · exact ⟨4, t, by unfold endE; rw [if_neg (by omega), if_pos h0], .inr ⟨rfl, h0⟩⟩
  · exact ⟨0, 0, by unfold endE; rw [if_neg (by omega), if_neg h0], .inl ⟨rfl, rfl⟩⟩
/-- What again leaves behind a fault. -/
def AgE (w0 : World) (gr t b x : Nat) (e : Ending) (w' : World) : Prop := e = .returned (.bool false) ∧ RdX w' gr t b [] x t ∧ Below gr w0 w'
/-- What again leaves, all being well. -/
def AgP (w0 : World) (gr t b : Nat) (R : List Nat) (gw lim : Nat) (X : List Nat) (e : Ending) (w' : World) : Prop := e = .returned (.bool true) ∧ ∃ v', RdX w' gr t b R 0 0 ∧ Wr w' gw lim v' X 0 ∧ Below gr w0 w' ∧ w0.heap.size ≤ w'.heap.size
end Go.Proofs.YtcmkmnidnapabaaGreat
