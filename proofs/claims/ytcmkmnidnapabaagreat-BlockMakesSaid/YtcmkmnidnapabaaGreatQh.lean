/-
  Two texts, one behind the other.
-/
import Derived.Test.YtcmkmnidnapabaaGreatQf
import Derived.Deep.CutRange
import Derived.Test.YtcmkmnidnapabaaGreatQg
import Derived.Lib.ConvBytes

namespace Go.Proofs.YtcmkmnidnapabaaGreat
open Go.RowKit Go.Lib Go.Maps

def zW : List Value := [.pointer none, .int .i64 0, .slice none 0 0, .int .i64 0]
def zR : List Value := [.pointer none, .int .i64 0, .slice none 0 0, .int .i64 0, .int .i64 0]
def zH : List Value := bvs (List.replicate 32 0)
def zK : List Value := bvs (List.replicate 4 0)
theorem wpList_load_blkG {P : Program} {ops : Array Oper} {rest : List Oper} {o : Oper} {a : Act} {w : World} {Q : Exit → Act → World → Prop} (hw : Region.wanted o (yielded ops a.tmps) = true) (ty : TypeId) (x : Operand) (ho : o.op = .load ty x)
    (b : Nat) (cs : List Value) (T : TypeId) (hx : a.eval x = .pointer (some ⟨b, 0, none⟩)) (hb : Blk w b cs T) (d : TypeDesc)
    (hu : P.underlying ty = some d) (hd : (match d with | .struct _ | .array _ _ => true | _ => false) = true) (hi : (P.info? ty).map (·.size) = some cs.length)
    (h : wpList P ops Q rest (a.put o.dst (.agg cs.toArray)) w) : wpList P ops Q (o :: rest) a w :=
  wpList_step fun _ hK => by
    rw [if_pos hw]
    exact wp_load_row ty x ho b hx T cs.toArray (0, 0) d hb hu hd (by simpa using hi) (hK _ _ h)
theorem wpList_buildG {P : Program} {ops : Array Oper} {rest : List Oper} {o : Oper} {a : Act} {w : World} {Q : Exit → Act → World → Prop} (hw : Region.wanted o (yielded ops a.tmps) = true) (t : TypeId) (parts : Array (Nat × Operand)) (ho : o.op = .build t parts)
    (cells : Array Value) (hf : P.built t (parts.map fun (i, x) => (i, a.eval x)).toList = some cells)
    (h : wpList P ops Q rest (a.put o.dst (.agg cells)) w) : wpList P ops Q (o :: rest) a w :=
  wpList_step fun _ hK => by
    rw [if_pos hw]
    exact wp_build t parts ho (by rw [hf]; rfl) (by rw [hf]; exact hK _ _ h)
end Go.Proofs.YtcmkmnidnapabaaGreat

namespace Go.Proofs.YtcmkmnidnapabaaGreat
open Go.RowKit Go.Lib Go.Maps
/-- A Thing of a kind, of zeros otherwise. -/
def zT (kind : Int) : List Value := thL kind 0 none 0 0 (List.replicate 32 0) (List.replicate 4 0) 0 false
theorem RdX.lower {B : Nat} {w w' : World} {g t b : Nat} {R : List Nat} {e f : Nat} (H : RdX w g t b R e f) (hB : Below B w w') (hg : g < B) (hb : b < B) : RdX w' g t b R e f := by
  obtain ⟨p, o, c, h⟩ := H
  exact ⟨p, o, c, ⟨h.blk.below hB hg, ⟨h.bs.byte, h.bs.le, fun h0 => ⟨(h.bs.ptr h0).1, Nat.lt_of_lt_of_le (h.bs.ptr h0).2 hB.size⟩, fun i hi => (hB.cell (p := ⟨b, o + i, none⟩) hb).trans (h.bs.here i hi)⟩, h.ne, h.lim⟩⟩
/-- What again leaves behind a fault. -/
def AgE (w0 : World) (gr t b x : Nat) (e : Ending) (w' : World) : Prop := e = .returned (.bool false) ∧ RdX w' gr t b [] x t ∧ Below gr w0 w'
/-- What again leaves, all being well. -/
def AgP (w0 : World) (gr t b : Nat) (R : List Nat) (gw lim : Nat) (X : List Nat) (e : Ending) (w' : World) : Prop := e = .returned (.bool true) ∧ ∃ v', RdX w' gr t b R 0 0 ∧ Wr w' gw lim v' X 0 ∧ Below gr w0 w' ∧ w0.heap.size ≤ w'.heap.size
end Go.Proofs.YtcmkmnidnapabaaGreat

namespace Go.Proofs.YtcmkmnidnapabaaGreat
open Go.RowKit Go.Lib Go.Maps
end Go.Proofs.YtcmkmnidnapabaaGreat

/-! Ke: Contracts: again, of hashes and keys. -/
namespace Go.Proofs.YtcmkmnidnapabaaGreat
open Go.RowKit Go.Lib Go.Maps
/-- Cells laid from a place on. -/
def setsL : List Value → Nat → List Value → List Value
  | cs, _, [] => cs
  | cs, o, v :: r => setsL (cs.set o v) (o + 1) r
theorem Blk.sets {b : Nat} {T : TypeId} : ∀ (vs : List Value) (o : Nat) (w : World) (cs : List Value), Blk w b cs T → Blk (w.setCells b o vs) b (setsL cs o vs) T
  | [], _, _, _, h => h
  | v :: r, o, _, _, h => Blk.sets r (o + 1) _ _ (h.set o v)
theorem Bex.sets (b : Nat) : ∀ (vs : List Value) (o : Nat) (w : World), Bex b w (w.setCells b o vs)
  | [], _, w => Bex.refl b w
  | v :: r, o, w => ((Bex.refl b w).setCell o v).trans (Bex.sets b r (o + 1) _)
theorem setsL_mid : ∀ (V A B C : List Value), B.length = V.length → setsL (A ++ (B ++ C)) A.length V = A ++ (V ++ C)
  | [], A, B, C, h => by
    have : B = [] := List.eq_nil_of_length_eq_zero h
    subst this
    rfl
  | v :: r, A, [], C, h => by simp at h
  | v :: r, A, x :: B, C, h => by
    have q := setsL_mid r (A ++ [v]) B C (by simpa using h)
    simp only [List.append_assoc, List.length_append, List.length_cons, List.length_nil, List.cons_append, List.nil_append] at q
    simp only [setsL, List.cons_append]
    rw [List.set_append_right _ _ (Nat.le_refl _), Nat.sub_self, List.set_cons_zero]
    exact q
theorem Blk.there {w : World} {b : Nat} {cs : List Value} {T : TypeId} (h : Blk w b cs T) (o n : Nat) (hn : o + n ≤ cs.length) : w.there b o n := fun j hj =>
  ⟨by rw [h.cell (o + j), List.getElem?_eq_getElem (by omega)]; rfl, h.free (o + j)⟩
end Go.Proofs.YtcmkmnidnapabaaGreat

/-! Kf: Contracts: again, of texts. -/
namespace Go.Proofs.YtcmkmnidnapabaaGreat
open Go.RowKit Go.Lib Go.Maps
end Go.Proofs.YtcmkmnidnapabaaGreat

/-! Kg: Contracts: Pick, a reader of any bytes, again of any kind. -/
namespace Go.Proofs.YtcmkmnidnapabaaGreat
open Go.RowKit Go.Lib Go.Maps

theorem pNum_ne {R : List Nat} {x : Nat} (h : pNum R = .er x) : x ≠ 0 := by
  cases R with
  | nil => cases h; decide
  | cons k R =>
    rw [pNum_cons] at h
    split at h
    · cases h; decide
    split at h
    · cases h; decide
    split at h
    · cases h; decide
    · cases h
theorem pText_ne {R : List Nat} {most : Int} {x : Nat} (h : pText R most = .er x) : x ≠ 0 := by
  unfold pText pLen at h
  cases hn : pNum R with
  | er y => rw [hn] at h; cases h; exact pNum_ne hn
  | ok v n =>
    rw [hn] at h
    simp only at h
    split at h
    · rename_i hq
      cases h
      split at hq
      · cases hq; decide
      · cases hq
    · split at h
      · cases h; decide
      · cases h
theorem pWord_ne {R : List Nat} {x : Nat} (h : pWord R = .er x) : x ≠ 0 := by
  unfold pWord at h
  split at h
  · cases h; decide
  · cases h
theorem newReader_any (p : Option Addr) (b o cap : Nat) (L : List Nat) (w : World) (h : Bs w p b o L cap) (hn : L.length ≤ 4000000) :
    Calls Tryz.prog 88 #[.slice p L.length cap] w fun e w' => ∃ g b', e = .returned (.pointer (some ⟨g, 0, none⟩)) ∧ w.heap.size ≤ g ∧ b' < w'.heap.size ∧ RdX w' g 0 b' L 0 0 ∧ Below w.heap.size w w' := by
  have HC := hidp (clone_any p b o cap L w h hn)
  have HN := hidp hn
  clear h hn
  go_enter Tryz.func88, Tryz.ntmps88
  go_wp2_with (go_at_call 152; refine HC.out.mono ?_; rintro e w1 ⟨⟨v, rfl, p, b, cap', rfl, hb, hp, hs⟩, hB⟩; have hX := hidp (And.intro hb (And.intro hp (And.intro hs hB))); clear hb hp hs hB)
  go_ret
  have hB2 : Below w1.heap.size w1 (w1.alloc (.cells #[.pointer (some ⟨w1.heap.size, 0, none⟩), .int .i64 (0 : Nat), .slice p L.length cap', .int .i64 (0 : Nat), .int .i64 (0 : Nat)] 215)) := (Below.refl _ w1).alloc (Nat.le_refl _) _
  have hs2 := hX.out.2.2.1.below hB2
  by_cases h0 : 0 < cap'
  · exact ⟨w1.heap.size, b, rfl, hX.out.2.2.2.size, by have := (hX.out.2.2.1.ptr h0).2; simp; omega, ⟨p, 0, cap', Blk.new w1 [.pointer (some ⟨w1.heap.size, 0, none⟩), .int .i64 (0 : Nat), .slice p L.length cap', .int .i64 (0 : Nat), .int .i64 (0 : Nat)] _, hs2, fun h0 => by have := (hX.out.2.2.1.ptr h0).2; omega, by have := HN.out; omega⟩, btrans hX.out.2.2.2 hB2⟩
  · exact ⟨w1.heap.size, w1.heap.size, rfl, hX.out.2.2.2.size, by simp, ⟨p, 0, cap', Blk.new w1 [.pointer (some ⟨w1.heap.size, 0, none⟩), .int .i64 (0 : Nat), .slice p L.length cap', .int .i64 (0 : Nat), .int .i64 (0 : Nat)] _, ⟨hs2.byte, hs2.le, fun h => absurd h h0, fun i hi => absurd hi (by have := hs2.le; omega)⟩, fun h => absurd h h0, by have := HN.out; omega⟩, btrans hX.out.2.2.2 hB2⟩
end Go.Proofs.YtcmkmnidnapabaaGreat
