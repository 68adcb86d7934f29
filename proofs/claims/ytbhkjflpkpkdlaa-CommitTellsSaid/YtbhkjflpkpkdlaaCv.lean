/-
  Sets copied, and written over.
-/
import Derived.Test.YtbhkjflpkpkdlaaUb
import Derived.OwnWalk
namespace Go.Proofs.Ytbhkjflpkpkdlaa
open Go.RowKit Go.Lib Go.Maps

theorem flat_one (l : List Vd) : ∀ u ∈ l.flatMap vL, u.oneCell' = true := by
  intro u hu
  obtain ⟨v, _, h⟩ := List.mem_flatMap.1 hu
  exact vL_one v u h
theorem flat_get {l : List Vd} {j : Nat} {u : Value} (h : (l.flatMap vL)[j]? = some u) : ∃ v, l[j / 5]? = some v ∧ (vL v)[j % 5]? = some u := by
  have hj := (List.getElem?_eq_some_iff.1 h).1
  rw [flat5] at hj
  have hlt : j / 5 < l.length := by omega
  refine ⟨l[j / 5], List.getElem?_eq_getElem hlt, ?_⟩
  have hm : j % 5 < (vL l[j / 5]).length := by rw [vL_len]; omega
  have q := flat_at l (j / 5) _ (List.getElem?_eq_getElem hlt) (j % 5) _ (List.getElem?_eq_getElem hm)
  rw [show j / 5 * 5 + j % 5 = j by omega, h] at q
  rw [List.getElem?_eq_getElem hm, ← q]
/-- A set that came in is hung onto a row of one's own. -/
theorem wpList_append_vs {ops : Array Oper} {rest : List Oper} {o : Oper} {a : Act} {w : World} {Q : Exit → Act → World → Prop} (hgd : o.guard = none) (s x : Operand)
    (ho : o.op = .call { callee := .builtin .append, args := #[s, x], argTypes := #[64, 64] }) (base n : Nat) (xs : List Value) (v : Value) (hs : a.eval s = v)
    (hown : w.ownsRow base 142 5 v n xs) (p : Option Addr) (b oo cap : Nat) (l : List Vd) (hx : a.eval x = .slice p l.length cap) (hb : Vs w p b oo cap l) (hn : n + l.length ≤ 100000) (hbase : base ≤ w.heap.size)
    (h : ∀ v' w', w'.ownsRow base 142 5 v' (n + l.length) (xs ++ l.flatMap vL) → w.grownBy w' v.ownBlock → wpList Try.prog ops Q rest (a.put o.dst v') w') : wpList Try.prog ops Q (o :: rest) a w := by
  obtain ⟨i0, hi, hz0, hz1, hz2⟩ := info_parts info_val
  cases hp : p with
  | none =>
    have h1 : cap = 0 := by
      rcases Nat.eq_zero_or_pos cap with h0 | h0
      · exact h0
      · have := (hb.ptr h0).1; rw [hp] at this; cases this
    have h2 := hb.le
    have hL : l = [] := List.eq_nil_of_length_eq_zero (by omega)
    subst hL
    refine wpList_append_own_none hgd s x 64 ho base 142 i0 5 Try.underlying64 hi v n xs hs hown (by rw [hx, hp, h1]; rfl) ?_
    exact h v w (by simpa using hown) ⟨rfl, rfl, rfl, Nat.le_refl _, fun _ _ _ => rfl⟩
  | some y =>
    exact wpList_append_own _ hgd s x 64 ho base 142 i0 _ 5 16 Try.underlying64 hi hz0 hz1 hz2 rfl (by decide) v n xs hs hown y l.length cap (l.flatMap vL) (by rw [hx, hp]) (flat5 l)
      (fun j u hj => by
        obtain ⟨v, h1, h2⟩ := flat_get hj
        have hlt := (List.getElem?_eq_some_iff.1 h1).1
        have hy := (hb.ptr (by have := hb.le; omega)).1
        rw [hp] at hy
        cases hy
        have q := hb.cell _ _ h1 _ _ h2
        rw [Addr.add_mid, show oo + j = oo + j / 5 * 5 + j % 5 by omega]
        exact q) (flat_one l) (by unfold maxLen; omega) (by omega) hbase (fun v' w' h1 h2 _ => h v' w' h1 h2)
theorem own_nothingV (w : World) : (w.alloc (.cells #[] 142)).ownsRow w.heap.size 142 5 (.slice (some ⟨w.heap.size, 0, none⟩) 0 0) 0 [] :=
  ⟨rfl, .inr ⟨w.heap.size, 0, #[], rfl, Nat.le_refl _, heap_alloc_new w _, by decide, by decide, rfl, rfl⟩⟩
set_option maxRecDepth 20000 in
set_option maxHeartbeats 2000000 in
theorem copyVals_any (p : Option Addr) (b o cap : Nat) (l : List Vd) (w : World) (h : Vs w p b o cap l) (hn : l.length ≤ 1000) :
    Calls Try.prog 35 #[.slice p l.length cap] w fun e w' => ∃ v, e = .returned v ∧ OwnV w' w.heap.size v l ∧ Below w.heap.size w w' := by
  have hB : Hid (Below w.heap.size w (w.alloc (.cells #[] 142))) := hidp ((Below.refl _ w).alloc (Nat.le_refl _) _)
  have HS := hidp (h.below hB.out)
  have hown := hidp (own_nothingV w)
  have HN := hidp hn
  clear h hn
  go_enter Try.func35, Try.ntmps35
  go_wp2_with (at_builtin; refine wpList_append_vs rfl _ _ rfl w.heap.size 0 [] _ rfl hown.out p b o cap l rfl HS.out (by have := HN.out; omega) (by simp) ?_; intro v' w1 hown' hgrow; have hO := hidp hown'; have hB1 := hidp (hB.out.grown hgrow (by simp) (fun j hj => (hown.out.lt j hj).1)); clear hown' hgrow)
  have hO2 := hO.out
  rw [Nat.zero_add, List.nil_append] at hO2
  go_ret
  exact ⟨_, rfl, hO2, hB1.out⟩
end Go.Proofs.Ytbhkjflpkpkdlaa
