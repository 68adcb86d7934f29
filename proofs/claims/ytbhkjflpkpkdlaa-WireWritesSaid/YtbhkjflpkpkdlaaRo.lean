/-
  The code's writer: results that may be written over.
-/
import Derived.Test.YtbhkjflpkpkdlaaQh
namespace Go.Proofs.Ytbhkjflpkpkdlaa
set_option linter.unusedSimpArgs false
open Go.RowKit Go.Lib

theorem OwnB.below {B : Nat} {w w' : World} {p : Option Addr} {bs : List Nat} {cap : Nat} (h : OwnB B w p bs cap) (k : Below w.heap.size w w') : OwnB B w' p bs cap :=
  ⟨h.1, fun h0 => by obtain ⟨g, rest, h1, h2, h3⟩ := h.2 h0; exact ⟨g, rest, h1, h2, k.blk' h3⟩⟩
theorem OwnB.lower {B C : Nat} {w : World} {p : Option Addr} {bs : List Nat} {cap : Nat} (h : OwnB B w p bs cap) (k : C ≤ B) : OwnB C w p bs cap :=
  ⟨h.1, fun h0 => by obtain ⟨g, rest, h1, h2, h3⟩ := h.2 h0; exact ⟨g, rest, h1, Nat.le_trans k h2, h3⟩⟩
theorem OwnB.nil (B : Nat) (w : World) (p : Option Addr) : OwnB B w p [] 0 := ⟨Nat.le_refl _, fun h => absurd h (by decide)⟩
theorem Bs.nil (w : World) (p : Option Addr) (b : Nat) : Bs w p b 0 [] 0 := ⟨by simp, by simp, fun h => absurd h (by omega), fun i hi => absurd hi (by simp)⟩
def DoneO (w : World) (L : List Nat) (e : Ending) (w' : World) : Prop := (∃ p b cap, e = .returned (.tuple #[.slice p L.length cap, .int .i64 0]) ∧ w.heap.size ≤ b ∧ (p = none → cap = 0) ∧ Bs w' p b 0 L cap ∧ OwnB w.heap.size w' p L cap) ∧ Below w.heap.size w w'
set_option maxRecDepth 20000 in
set_option maxHeartbeats 2000000 in
theorem clone_own (y : Addr) (cap : Nat) (L : List Nat) (w : World) (h : ByS w (some y) cap L) (hn : L.length ≤ 4000000) :
    Calls Try.prog 85 #[.slice (some y) L.length cap] w fun e w' => (∃ p b cap', e = .returned (.slice p L.length cap') ∧ w.heap.size ≤ b ∧ (p = none → cap' = 0) ∧ Bs w' p b 0 L cap' ∧ OwnB w.heap.size w' p L cap') ∧ Below w.heap.size w w' := by
  have hB : Hid (Below w.heap.size w (w.alloc (.cells #[] 5))) := hidp ((Below.refl _ w).alloc (Nat.le_refl _) _)
  have HS := hidp (h.below hB.out)
  have hown := hidp (own_nothing w)
  have HN := hidp hn
  have hby := hidp h.byte
  have q := fun w => run_sl_nil y L.length cap w
  clear h hn
  go_enter Try.func85, Try.ntmps85
  go_wp2_with (at_builtin; refine wpList_append_byS rfl _ _ rfl w.heap.size 0 [] _ rfl hown.out (some y) cap L rfl HS.out (by have := HN.out; omega) (by simp) ?_; intro v' w1 hown' hgrow; have hO := hidp hown'; have hB1 := hidp (hB.out.grown hgrow (by simp) (fun j hj => (hown.out.lt j hj).1)); clear hown' hgrow)
  have hO2 := hO.out
  rw [Nat.zero_add, List.nil_append] at hO2
  obtain ⟨p, b, c, rfl, hb, hp, hs⟩ := Bs.of_own hO2 hby.out
  have hO3 : OwnB w.heap.size w1 p L c := by
    obtain ⟨p2, c2, e2, h⟩ := OwnB.of hO.out
    cases e2
    exact h
  go_ret
  exact ⟨⟨p, b, c, rfl, hb, hp, hs, hO3⟩, hB1.out⟩
set_option maxRecDepth 20000 in
theorem wDone_own {w : World} {g lim : Nat} {v : Value} {L : List Nat} (H : Wr w g lim v L 0) :
    Calls Try.prog 19 #[.pointer (some ⟨g, 0, none⟩)] w (DoneO w L) := by
  have HR := hidp (refusal_any H)
  have h2 : w.cell? ⟨g, 2, none⟩ = some v := H.blk.cell 2
  have hlm := H.lim
  have hle := H.le
  rcases H.own.2 with ⟨rfl, hn⟩ | ⟨gr, c, cur, rfl, _⟩
  · obtain rfl : L = [] := List.eq_nil_of_length_eq_zero hn
    clear H hn
    go_enter Try.func19, Try.ntmps19
    go_wp2_with (go_at_call 84; refine HR.out.mono ?_; rintro e wx ⟨rfl, rfl⟩)
    refine (clone_none _).mono ?_
    rintro e wx ⟨rfl, rfl⟩
    go_wp2
    go_ret2
    exact ⟨⟨none, w.heap.size, 0, rfl, Nat.le_refl _, fun _ => rfl, ⟨by simp, by simp, fun h0 => absurd h0 (by omega), fun i hi => absurd hi (by simp)⟩, OwnB.nil _ _ _⟩, Below.refl _ _⟩
  · have HC := hidp (clone_own ⟨gr, 0, none⟩ c L w (own_byS H.own H.byte))
    have HL := hidp (show L.length ≤ 4000000 by omega)
    clear H hlm hle
    go_enter Try.func19, Try.ntmps19
    go_wp2_with (first | (go_at_call 84; refine HR.out.mono ?_; rintro e wx ⟨rfl, rfl⟩) | (go_at_call 85; refine (HC.out HL.out).mono ?_; rintro e wx ⟨⟨p, b, cap', rfl, hb, hp, hs⟩, hB⟩; have hX := hidp (And.intro hb (And.intro hp (And.intro hs hB))); clear hb hp hs hB))
    go_ret2
    exact ⟨⟨p, b, cap', rfl, hX.out.1, hX.out.2.1, hX.out.2.2.1⟩, hX.out.2.2.2⟩
end Go.Proofs.Ytbhkjflpkpkdlaa
