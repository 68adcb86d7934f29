/-
  Texts L7p, L7q, one behind the other.
-/
import Derived.Test.YtcmkmnidnapabaaGreatTC

/-! L7p: Commit: the answer's Check, Of, laid. -/
namespace Go.Proofs.YtcmkmnidnapabaaGreat
open Go.RowKit Go.Lib
set_option linter.unusedSimpArgs false

theorem dec_nat {n i : Nat} (h : i < n) : n - ((i + 1 : Nat) : Int).toNat < n - ((i : Nat) : Int).toNat := by omega
/-- Between two rounds of the answer's Check. -/
structure RkI (w wr : World) (i : Nat) (l : List Vt) (q : Int) : Prop where
  bel : Below w.heap.size w wr
  e : chkV (-1) l = chkV q (l.drop i)
  q0 : i = 0 → q = -1
  q1 : ∀ j u, i = j + 1 → l[j]? = some u → q = u.a
theorem RkI.next {w wr w' : World} {i : Nat} {l : List Vt} {q : Int} {v : Vt} (H : RkI w wr i l q) (hv : l[i]? = some v) (h0 : nextV q v = 0) (hb : Below w.heap.size w w') : RkI w w' (i + 1) l v.a := by
  refine ⟨hb, ?_, fun h => absurd h (by omega), fun j u hj hu => ?_⟩
  · rw [H.e]
    obtain ⟨hlt, rfl⟩ := List.getElem?_eq_some_iff.1 hv
    rw [List.drop_eq_getElem_cons hlt]
    simp only [chkV, h0, if_true]
  · obtain rfl : j = i := by omega
    rw [hv] at hu; cases hu; rfl
theorem RkI.fail {w wr : World} {i : Nat} {l : List Vt} {q : Int} {v : Vt} (H : RkI w wr i l q) (hv : l[i]? = some v) (h0 : nextV q v ≠ 0) : chkV (-1) l = nextV q v := by
  rw [H.e]
  obtain ⟨hlt, rfl⟩ := List.getElem?_eq_some_iff.1 hv
  rw [List.drop_eq_getElem_cons hlt]
  simp only [chkV]
  rw [if_neg h0]
end Go.Proofs.YtcmkmnidnapabaaGreat

/-! L7q: Commit: the answer's Of, laid. -/
namespace Go.Proofs.YtcmkmnidnapabaaGreat
open Go.RowKit Go.Lib
set_option linter.unusedSimpArgs false

/-- Laid ahead of the first that is greater. -/
def laidL (l : List Vt) (v : Vt) : List Vt := l.takeWhile (fun u => !decide (v.a < u.a)) ++ v :: l.dropWhile (fun u => !decide (v.a < u.a))
/-- What is laid when so many have been gone through. -/
def lay (l : List Vt) (v : Vt) : List Vt := if l.any (fun u => decide (v.a < u.a)) = true then laidL l v else l
structure LaI (w W : World) (b3 : Nat) (v : Vt) (l : List Vt) (sv : Value) (lo : List Vt) : Prop where
  own : OwnT W (b3 + 1) sv lo
  blk : Blk W b3 (tL v) 169
  bel : Below w.heap.size w W
  hb : w.heap.size ≤ b3
theorem LaI.drewN {w W : World} {b3 : Nat} {v : Vt} {l : List Vt} {sv : Value} {lo : List Vt} (H : LaI w W b3 v l sv lo) (n : Nat) : LaI w (W.drewN n) b3 v l sv lo := ⟨H.own.below ((Below.refl _ _).drewN n), H.blk.drewN n, H.bel.drewN n, H.hb⟩
theorem OwnT.sl {w : World} {B : Nat} {v : Value} {l : List Vt} (h : OwnT w B v l) : ∃ p n c, v = .slice p n c := by
  obtain ⟨p, c, h1, _⟩ := h.slice
  exact ⟨p, _, c, h1⟩
/-- One vote, in a block of its own, is hung on. -/
theorem wpList_append_v1 {ops : Array Oper} {rest : List Oper} {o : Oper} {a : Act} {w : World} {Q : Exit → Act → World → Prop} (hgd : o.guard = none) (s x : Operand)
    (ho : o.op = .call { callee := .builtin .append, args := #[s, x], argTypes := #[80, 80] }) (B : Nat) (l : List Vt) (sv : Value) (hs : a.eval s = sv) (own : OwnT w B sv l)
    (g : Nat) (u : Vt) (hx : a.eval x = .slice (some ⟨g, 0, none⟩) 1 1) (hk : Blk w g (tL u) 169) (hn : l.length + 1 ≤ 2000) (hB : B ≤ w.heap.size)
    (h : ∀ sv' w', OwnT w' B sv' (l ++ [u]) → w.grownBy w' sv.ownBlock → wpList Tryz.prog ops Q rest (a.put o.dst sv') w') : wpList Tryz.prog ops Q (o :: rest) a w := by
  obtain ⟨i0, hi0, hz0, hz1, hz2⟩ := info_parts info_vote
  exact wpList_append_own _ hgd s x 80 ho B 169 i0 _ 2 16 Tryz.underlying80 hi0 hz0 hz1 hz2 rfl (by decide) sv l.length (l.flatMap tL) hs own ⟨g, 0, none⟩ 1 1 (tL u) hx rfl (fun j c hj => by rw [Addr.add_mid, Nat.zero_add]; exact (hk.cell j).trans hj) (tL_one u) (by unfold maxLen; omega) (by omega) hB (fun v' w' h1 h2 _ => h v' w' (OwnT.snoc h1) h2)
end Go.Proofs.YtcmkmnidnapabaaGreat
