/-
  Bytes that came in as a slice, and parts of them.
-/
import Derived.Test.YtdiklimikkplcaaIc
import Derived.Test.YtdiklimikkplcaaIr
import Derived.DataReads
import Derived.DataElems
namespace Go.Proofs.Ytdiklimikkplcaa
open Go.RowKit Go.Lib

/-- A part is copied. -/
theorem copy_part {w : World} {a : Option Addr} {cap : Nat} {L : List Nat} (h : ByS w a cap L) (k n : Nat) (hk : k + n ≤ L.length) (hl : L.length ≤ 1000) :
    Calls Try.prog 54 #[.slice (partA a cap k) n (cap - k)] w fun e w' => (∃ p cap', e = .returned (.slice p n cap') ∧ OwnB w.heap.size w' p ((L.drop k).take n) cap') ∧ Below w.heap.size w w' := by
  have hn : ((L.drop k).take n).length = n := by rw [List.length_take, List.length_drop]; omega
  unfold partA
  cases ha : a with
  | none =>
    have h1 := h.none ha
    have h2 := h.le
    obtain rfl : n = 0 := by omega
    have e : (if cap = k then (none : Option Addr) else (none : Option Addr).map (·.add k)) = none := by split <;> rfl
    rw [e, h1, Nat.zero_sub, List.take_zero]
    exact copy_none w
  | some x =>
    obtain ⟨y, hy, hc⟩ : ∃ y, (if cap = k then some x else (some x).map (·.add k)) = some y ∧ (0 < n → y = x.add k) := by
      split
      · exact ⟨x, rfl, fun h0 => by have := h.le; omega⟩
      · exact ⟨x.add k, rfl, fun _ => rfl⟩
    rw [hy]
    have q := copy_any ((L.drop k).take n) y (cap - k) w (fun j v hj => ?_) (by omega)
    · rw [hn] at q; exact q
    · have hj1 : j < n := by
        rcases Nat.lt_or_ge j n with h1 | h1
        · exact h1
        · rw [List.getElem?_eq_none (by rw [bvs_len]; omega)] at hj; cases hj
      rw [hc (by omega), Addr.add_add, h.cell x ha (k + j) (by omega), ← hj, bvs_get (by omega), getD_take hj1]
      rw [show (L.drop k).getD j 0 = L.getD (k + j) 0 by rw [List.getD_eq_getElem?_getD, List.getD_eq_getElem?_getD, List.getElem?_drop]]
theorem sum_part {w : World} {a : Option Addr} {cap : Nat} {L : List Nat} (h : ByS w a cap L) (k : Nat) (hk : k ≤ L.length) (hl : L.length ≤ 1000) :
    Calls Try.prog 55 #[.slice a k cap] w fun e w' => e = .returned (.agg (bvs (hashL (L.take k))).toArray) ∧ Below w.heap.size w w' := by
  obtain ⟨bb, bo, hb⟩ := h.bsl k hk
  have hn : (L.take k).length = k := by rw [List.length_take]; omega
  have q := sum_any (L.take k) a bb bo cap w hb (by omega)
  rw [hn] at q
  exact q
theorem take_part (L : List Nat) (k n : Nat) : L.take k ++ (L.drop k).take n = L.take (k + n) := (List.take_add).symm
theorem OwnB.bsl' {B : Nat} {w : World} {p : Option Addr} {bs : List Nat} {cap g : Nat} (h : OwnB B w p bs cap) (hb : ∀ x ∈ bs, x < 256) (hg : g < B) : ∃ bb, Bsl w p bb 0 bs cap ∧ bb ≠ g := by
  obtain ⟨bb, h1, h2⟩ := h.bsl hb
  by_cases h0 : 0 < bs.length
  · exact ⟨bb, h1, by have := h2 h0; omega⟩
  · exact ⟨g + 1, ⟨h1.byte, h1.le, fun h3 => absurd h3 h0, fun i hi => absurd hi (by omega)⟩, by omega⟩
theorem OwnB.bex {B g : Nat} {w w' : World} {p : Option Addr} {bs : List Nat} {cap : Nat} (h : OwnB B w p bs cap) (hx : Bex g w w') (hg : g < B) : OwnB B w' p bs cap :=
  ⟨h.1, fun h0 => by obtain ⟨c, rest, h1, h2, h3⟩ := h.2 h0; exact ⟨c, rest, h1, h2, hx.blk h3 (by omega)⟩⟩
end Go.Proofs.Ytdiklimikkplcaa
