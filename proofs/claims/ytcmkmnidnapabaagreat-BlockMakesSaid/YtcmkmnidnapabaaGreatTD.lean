/-
  Texts L7l, L7m, L7n, one behind the other.
-/
import Derived.Test.YtcmkmnidnapabaaGreatTC

/-! L7l: Commit: the laws' commits by places and signatures in turns. -/
namespace Go.Proofs.YtcmkmnidnapabaaGreat
open Go.RowKit Go.Lib
set_option linter.unusedSimpArgs false

def ph1 : List Nat := 1 :: List.replicate 31 0
theorem ph1_len : ph1.length = 32 := rfl
theorem results_row0 {P : Program} {fn : Func} {p : Tmp} {ty : TypeId} (h : fn.results = #[.cell p ty]) (tmps : Array Value) (w : World) (g : Nat) (t : TypeId) (cs : List Value) (d : TypeDesc)
    (hp : tmps.getD p undef = .pointer (some ⟨g, 0, none⟩)) (hb : Blk w g cs t) (hu : P.underlying ty = some d) (hd : (match d with | .struct _ | .array _ _ => true | _ => false) = true) (hi : (P.info? ty).map (·.size) = some cs.length) :
    (results fn tmps).run P w = .ok (.agg cs.toArray) w := by
  have hr := run_loadVar_row (P := P) w g t ty cs.toArray (0, 0) d hb hu hd (by simpa using hi)
  have hp' : tmps[p]?.getD undef = .pointer (some ⟨g, 0, none⟩) := by simpa using hp
  simp only [results, h]
  simp [hp', asAddr, hr, Sem.run_bind, Result.andThen]
/-- A commit under way, its box and the row of its votes. -/
structure OfIT (w W : World) (hgt : Int) (sb so : Value) (lo : List Vt) : Prop where
  res : Blk W w.heap.size (cC 0 zh32 (.slice none 0 0)) 82
  blk : Blk W (w.heap.size + 1) (cC hgt ph1 sb) 82
  own : OwnT W (w.heap.size + 2) so lo
  bel : Below w.heap.size w W
theorem OfIT.big {w W : World} {hgt : Int} {sb so : Value} {lo : List Vt} (H : OfIT w W hgt sb so lo) : w.heap.size + 2 ≤ W.heap.size := H.blk.lt
theorem OfIT.drew {w W : World} {hgt : Int} {sb so : Value} {lo : List Vt} (H : OfIT w W hgt sb so lo) : OfIT w W.drew hgt sb so lo := ⟨H.res.drew, H.blk.drew, H.own.below (Below.refl _ _).drew, H.bel.drew⟩
theorem OfIT.below {w W W' : World} {hgt : Int} {sb so : Value} {lo : List Vt} (H : OfIT w W hgt sb so lo) (hb : Below W.heap.size W W') : OfIT w W' hgt sb so lo := ⟨hb.blk' H.res, hb.blk' H.blk, H.own.below hb, H.bel.trans (hb.mono H.bel.size)⟩
theorem OfIT.app {w W W' : World} {hgt : Int} {sb so so' : Value} {lo : List Vt} {v : Vt} (H : OfIT w W hgt sb so lo) (hg : W.grownBy W' so.ownBlock) (ho : W'.ownsRow (w.heap.size + 2) 169 2 so' (lo.length + 1) (lo.flatMap tL ++ tL v)) : OfIT w W' hgt sb so' (lo ++ [v]) := by
  have hne : ∀ x, x < w.heap.size + 2 → so.ownBlock ≠ some x := fun x hx e => by have := (H.own.lt e).1; omega
  have b1 : Below (w.heap.size + 2) W W' := (Below.refl _ W).grown hg H.big (fun k hk => (H.own.lt hk).1)
  exact ⟨H.res.below b1 (by omega), H.blk.below b1 (by omega), OwnT.snoc ho, H.bel.trans (b1.mono (by omega))⟩
theorem OfIT.set {w W : World} {hgt : Int} {sb so : Value} {lo : List Vt} (H : OfIT w W hgt sb so lo) : OfIT w (W.setCell ⟨w.heap.size + 1, 33, none⟩ so) hgt so so lo :=
  ⟨H.res.other _ _ (by simp), cC_set (s2 := so) ph1_len ▸ H.blk.set 33 so, H.own.bex (g := w.heap.size + 1) ((Bex.refl _ W).setCell 33 so) (by omega), H.bel.setCell (p := ⟨w.heap.size + 1, 33, none⟩) (by simp) so⟩
end Go.Proofs.YtcmkmnidnapabaaGreat

/-! L7m: Commit: the laws' examples. -/
namespace Go.Proofs.YtcmkmnidnapabaaGreat
open Go.RowKit Go.Lib
set_option linter.unusedSimpArgs false

def Tz (W : World) (p : Option Addr) (b c : Nat) (l : List Vt) : Prop := Ts W p b 0 c l ∧ (p = none → c = 0)
theorem Tz.below {W W' : World} {p : Option Addr} {b c : Nat} {l : List Vt} (h : Tz W p b c l) (hB : Below W.heap.size W W') : Tz W' p b c l := ⟨h.1.below hB, h.2⟩
def OfP (w : World) (hgt : Int) (l : List Vt) (n : Nat) (e : Ending) (w' : World) : Prop := ∃ p b c, e = .returned (.agg (cC hgt ph1 (.slice p n c)).toArray) ∧ Tz w' p b c l ∧ Below w.heap.size w w'
def iL (v : Vt) : List Value := [.int .i64 v.a, .int .i64 (v.s : Nat)]
def okL (l : List Vt) : Bool := l.all (fun v => decide (-1000 ≤ v.a) && decide (v.a ≤ 1000) && decide (v.s ≤ 1000))
end Go.Proofs.YtcmkmnidnapabaaGreat

/-! L7n: The walk of CommitKnown. -/
namespace Go.Proofs.YtcmkmnidnapabaaGreat
open Go.RowKit Go.Lib
set_option linter.unusedSimpArgs false

def vs3 : List Vd := [⟨1627389952, 1⟩, ⟨1644167168, 1⟩, ⟨1660944384, 1⟩]
end Go.Proofs.YtcmkmnidnapabaaGreat
