/-
  Two texts, one behind the other.
-/
import Derived.Test.YtcmkmnidnapabaaGreatQh
import Derived.Laws.AppendOwnNone
import Derived.Deep.RegionHeld3
import Derived.Deep.MidRow
import Derived.Lib.SlBytesConst
import Derived.Laws.IdiomStrings
import Derived.Maps.AppendAt
import Derived.Test.YtcmkmnidnapabaaGreatH3
import Derived.Test.YtcmkmnidnapabaaGreatIr
import Derived.DataReads
import Derived.DataElems

namespace Go.Proofs.YtcmkmnidnapabaaGreat
section
open Go.RowKit Go.Lib Go.Maps

def lentT : List Nat := [201, 202, 203, 204]
/-- Bytes lent: behind them lie four others, in a row of its own. -/
def Lent (B : Nat) (w : World) (g c : Nat) (L : List Nat) : Prop := L.length + 4 ≤ c ∧ B ≤ g ∧ ∃ rest : List Value, Blk w g (bvs (L ++ lentT) ++ rest) 5 ∧ c = L.length + 4 + rest.length
theorem Lent.of {B : Nat} {w : World} {v : Value} {L : List Nat} (h : w.ownsRow B 5 1 v (0 + L.length + 4) (([] ++ bvs L) ++ bvs lentT)) : ∃ g c, v = .slice (some ⟨g, 0, none⟩) (L.length + 4) c ∧ Lent B w g c L := by
  rw [Nat.zero_add, List.nil_append] at h
  rcases h.2 with ⟨h1, h2⟩ | ⟨g, cap, cur, h1, h2, h3, h4, _, h6, h7⟩
  · omega
  · refine ⟨g, cap, h1, h4, h2, cur.toList.drop (L.length + 4), ?_, ?_⟩
    · rw [Nat.mul_one] at h7
      unfold Blk
      rw [h3, show bvs (L ++ lentT) = bvs L ++ bvs lentT by unfold bvs; rw [List.map_append], ← h7, List.take_append_drop]
    · have e : cur.toList.length = cap := by rw [Array.length_toList, h6, Nat.mul_one]
      simp only [List.length_drop]
      omega

end
section
open Go.RowKit Go.Lib

theorem Lent.cell {B : Nat} {w : World} {g c : Nat} {L : List Nat} (h : Lent B w g c L) {j : Nat} (hj : j < L.length + 4) : w.cell? ⟨g, j, none⟩ = some (.int .u8 ((L ++ lentT).getD j 0 : Nat)) := by
  obtain ⟨_, _, rest, hb, _⟩ := h
  have hl : (L ++ lentT).length = L.length + 4 := by rw [List.length_append]; rfl
  rw [hb.cell j, List.getElem?_append_left (by rw [bvs_len, hl]; exact hj)]
  exact bvs_get (by rw [hl]; exact hj)
/-- What KeptBytes knows. -/
def KpB (w w' : World) (g c : Nat) (L : List Nat) (a : Option Addr) (cap : Nat) : Prop := Below w.heap.size w w' ∧ Lent 0 w' g c L ∧ ByS w' a cap L
theorem Lent.below {B : Nat} {w w' : World} {g c : Nat} {L : List Nat} (h : Lent B w g c L) (hB : Below w.heap.size w w') : Lent B w' g c L := by
  obtain ⟨h1, h2, rest, hb, h3⟩ := h
  exact ⟨h1, h2, rest, hb.below hB hb.lt, h3⟩
theorem KpB.step {w w1 w2 : World} {g c : Nat} {L : List Nat} {a : Option Addr} {cap : Nat} (h : KpB w w1 g c L a cap) (k : Below w1.heap.size w1 w2) : KpB w w2 g c L a cap :=
  ⟨h.1.trans (k.mono h.1.size), h.2.1.below k, h.2.2.below k⟩

set_option linter.unusedSimpArgs false
end
end Go.Proofs.YtcmkmnidnapabaaGreat

namespace Go.Proofs.YtcmkmnidnapabaaGreat
open Go.RowKit Go.Lib Go.Maps

theorem OwnB.bsl {B : Nat} {w : World} {p : Option Addr} {bs : List Nat} {cap : Nat} (h : OwnB B w p bs cap) (hb : ∀ x ∈ bs, x < 256) : ∃ bb, Bsl w p bb 0 bs cap ∧ (0 < bs.length → B ≤ bb) := by
  by_cases h0 : 0 < bs.length
  · obtain ⟨g, rest, h1, h2, h3⟩ := h.2 h0
    refine ⟨g, ⟨hb, h.1, fun _ => ⟨h1, h3.lt⟩, fun i hi => ?_⟩, fun _ => h2⟩
    rw [Nat.zero_add, h3.cell i, List.getElem?_append_left (by rw [bvs_len]; exact hi)]
    exact bvs_get hi
  · exact ⟨0, ⟨hb, h.1, fun h1 => absurd h1 h0, fun i hi => absurd hi (by omega)⟩, fun h1 => absurd h1 h0⟩

/-! The part is written over. -/
def ivB (v : List Int) : List Value := v.map (Value.int .u8 ·)
end Go.Proofs.YtcmkmnidnapabaaGreat

/-! Ic: Contracts of package landfallkit: Pick, CopyBytes, OverBytes. -/
namespace Go.Proofs.YtcmkmnidnapabaaGreat
open Go.RowKit Go.Lib Go.Maps

end Go.Proofs.YtcmkmnidnapabaaGreat

/-! Id: Bytes that came in as a slice, and parts of them. -/
namespace Go.Proofs.YtcmkmnidnapabaaGreat
open Go.RowKit Go.Lib

theorem OwnB.bex {B g : Nat} {w w' : World} {p : Option Addr} {bs : List Nat} {cap : Nat} (h : OwnB B w p bs cap) (hx : Bex g w w') (hg : g < B) : OwnB B w' p bs cap :=
  ⟨h.1, fun h0 => by obtain ⟨c, rest, h1, h2, h3⟩ := h.2 h0; exact ⟨c, rest, h1, h2, hx.blk h3 (by omega)⟩⟩
end Go.Proofs.YtcmkmnidnapabaaGreat
