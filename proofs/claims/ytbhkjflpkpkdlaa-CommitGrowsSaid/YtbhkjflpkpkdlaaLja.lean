/-
  Commit: the answer's Join.
-/
import Derived.Test.YtbhkjflpkpkdlaaL7z
import Derived.Test.YtbhkjflpkpkdlaaL7h
namespace Go.Proofs.Ytbhkjflpkpkdlaa
open Go.RowKit Go.Lib
set_option linter.unusedSimpArgs false

theorem OwnT.bexJ {w w' : World} {base g : Nat} {v : Value} {l : List Vt} (h : OwnT w base v l) (hB : Bex g w w') (hne : ∀ k, v.ownBlock = some k → k ≠ g) : OwnT w' base v l := by
  refine ⟨h.1, ?_⟩
  rcases h.2 with h2 | ⟨k, cap, cur, h1, h2, h3, r⟩
  · exact .inl h2
  · exact .inr ⟨k, cap, cur, h1, h2, (hB.block k (Array.getElem?_eq_some_iff.1 h3).1 (hne k (by rw [h1]; rfl))).trans h3, r⟩
theorem JoB.bex {w W W' : World} {B : Nat} {X Y : List Value} (H : JoB w W X Y) (hx : Bex B W W') (hB : w.heap.size + 3 ≤ B) : JoB w W' X Y :=
  ⟨hx.blk H.k1 (by omega), hx.blk H.k2 (by omega), hx.blk H.kr (by omega), H.bel.trans (hx.below (by omega) H.bel.size)⟩
theorem range2 {W : World} {b o : Nat} {x y : Value} (h0 : W.cell? ⟨b, o, none⟩ = some x) (h1 : W.cell? ⟨b, o + 1, none⟩ = some y) : W.rangeAt b o [x, y] := fun j v hj => by
  match j, hj with
  | 0, hj => cases hj; exact h0
  | 1, hj => cases hj; exact h1
/-- Join under way: what it is handed, the commit that it makes in its box B. -/
structure JnI (w W : World) (B : Nat) (X Y : List Value) (h1 : Int) (p1 : List Nat) (sv : Value) (all : List Vt) : Prop where
  jb : JoB w W X Y
  kc : Blk W B (cC h1 p1 sv) 63
  own : OwnT W (w.heap.size + 3) sv all
  hne : ∀ k, sv.ownBlock = some k → k ≠ B
  hB : w.heap.size + 3 ≤ B
section
variable {w W W' : World} {B : Nat} {X Y : List Value} {h1 : Int} {p1 : List Nat} {sv sv' : Value} {all all' : List Vt}
theorem JnI.below (H : JnI w W B X Y h1 p1 sv all) (h : Below W.heap.size W W') : JnI w W' B X Y h1 p1 sv all := ⟨H.jb.below h, h.blk' H.kc, H.own.below h, H.hne, H.hB⟩
theorem JnI.set (H : JnI w W B X Y h1 p1 sv all) (hp : p1.length = 32) {K : Nat} (ho : OwnT W K sv' all') (hK : B < K) : JnI w (W.setCell ⟨B, 33, none⟩ sv') B X Y h1 p1 sv' all' := by
  have hx : Bex B W (W.setCell ⟨B, 33, none⟩ sv') := (Bex.refl B W).setCell 33 sv'
  exact ⟨H.jb.bex hx H.hB, cC_set (s2 := sv') hp ▸ H.kc.set 33 sv', (ho.bex hx hK).base (by have := H.hB; omega), fun k hk => by have := (ho.lt hk).1; omega, H.hB⟩
end
end Go.Proofs.Ytbhkjflpkpkdlaa
