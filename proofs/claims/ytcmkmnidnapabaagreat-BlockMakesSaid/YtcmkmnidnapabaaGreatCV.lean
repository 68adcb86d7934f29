/-
  Texts Cv, Sv, one behind the other.
-/
import Derived.Test.YtcmkmnidnapabaaGreatUb
import Derived.OwnWalk
import Derived.Deep.RegionHeld3
import Derived.Deep.AppendLies

/-! Cv: Sets copied, and written over. -/
namespace Go.Proofs.YtcmkmnidnapabaaGreat
open Go.RowKit Go.Lib Go.Maps

theorem flat_one (l : List Vd) : ∀ u ∈ l.flatMap vL, u.oneCell' = true := by
  intro u hu
  obtain ⟨v, _, h⟩ := List.mem_flatMap.1 hu
  exact vL_one v u h
theorem flat_get {l : List Vd} {j : Nat} {u : Value} (h : (l.flatMap vL)[j]? = some u) : ∃ v, l[j / 5]? = some v ∧ (vL v)[j % 5]? = some u := by
  have hj := (List.getElem?_eq_some_iff.1 h).1
  rw [flat5] at hj
  have hlt : j / 5 < l.length := by omega
  refine ⟨l[j / 5], List.getElem?_eq_getElem hlt, ?_⟩
  have hm : j % 5 < (vL l[j / 5]).length := by rw [vL_len]; omega
  have q := flat_at l (j / 5) _ (List.getElem?_eq_getElem hlt) (j % 5) _ (List.getElem?_eq_getElem hm)
  rw [show j / 5 * 5 + j % 5 = j by omega, h] at q
  rw [List.getElem?_eq_getElem hm, ← q]
/-- A set that came in is hung onto a row of one's own. -/
theorem wpList_append_vs {ops : Array Oper} {rest : List Oper} {o : Oper} {a : Act} {w : World} {Q : Exit → Act → World → Prop} (hgd : o.guard = none) (s x : Operand)
    (ho : o.op = .call { callee := .builtin .append, args := #[s, x], argTypes := #[22, 22] }) (base n : Nat) (xs : List Value) (v : Value) (hs : a.eval s = v)
    (hown : w.ownsRow base 111 5 v n xs) (p : Option Addr) (b oo cap : Nat) (l : List Vd) (hx : a.eval x = .slice p l.length cap) (hb : Vs w p b oo cap l) (hn : n + l.length ≤ 100000) (hbase : base ≤ w.heap.size)
    (h : ∀ v' w', w'.ownsRow base 111 5 v' (n + l.length) (xs ++ l.flatMap vL) → w.grownBy w' v.ownBlock → wpList Tryz.prog ops Q rest (a.put o.dst v') w') : wpList Tryz.prog ops Q (o :: rest) a w := by
  obtain ⟨i0, hi, hz0, hz1, hz2⟩ := info_parts info_val
  cases hp : p with
  | none =>
    have h1 : cap = 0 := by
      rcases Nat.eq_zero_or_pos cap with h0 | h0
      · exact h0
      · have := (hb.ptr h0).1; rw [hp] at this; cases this
    have h2 := hb.le
    have hL : l = [] := List.eq_nil_of_length_eq_zero (by omega)
    subst hL
    refine wpList_append_own_none hgd s x 22 ho base 111 i0 5 Tryz.underlying22 hi v n xs hs hown (by rw [hx, hp, h1]; rfl) ?_
    exact h v w (by simpa using hown) ⟨rfl, rfl, rfl, Nat.le_refl _, fun _ _ _ => rfl⟩
  | some y =>
    exact wpList_append_own _ hgd s x 22 ho base 111 i0 _ 5 16 Tryz.underlying22 hi hz0 hz1 hz2 rfl (by decide) v n xs hs hown y l.length cap (l.flatMap vL) (by rw [hx, hp]) (flat5 l)
      (fun j u hj => by
        obtain ⟨v, h1, h2⟩ := flat_get hj
        have hlt := (List.getElem?_eq_some_iff.1 h1).1
        have hy := (hb.ptr (by have := hb.le; omega)).1
        rw [hp] at hy
        cases hy
        have q := hb.cell _ _ h1 _ _ h2
        rw [Addr.add_mid, show oo + j = oo + j / 5 * 5 + j % 5 by omega]
        exact q) (flat_one l) (by unfold maxLen; omega) (by omega) hbase (fun v' w' h1 h2 _ => h v' w' h1 h2)
theorem own_nothingV (w : World) : (w.alloc (.cells #[] 111)).ownsRow w.heap.size 111 5 (.slice (some ⟨w.heap.size, 0, none⟩) 0 0) 0 [] :=
  ⟨rfl, .inr ⟨w.heap.size, 0, #[], rfl, Nat.le_refl _, heap_alloc_new w _, by decide, by decide, rfl, rfl⟩⟩
set_option maxRecDepth 20000 in
set_option maxHeartbeats 2000000 in
theorem copyVals_any (p : Option Addr) (b o cap : Nat) (l : List Vd) (w : World) (h : Vs w p b o cap l) (hn : l.length ≤ 1000) :
    Calls Tryz.prog 15 #[.slice p l.length cap] w fun e w' => ∃ v, e = .returned v ∧ OwnV w' w.heap.size v l ∧ Below w.heap.size w w' := by
  have hB : Hid (Below w.heap.size w (w.alloc (.cells #[] 111))) := hidp ((Below.refl _ w).alloc (Nat.le_refl _) _)
  have HS := hidp (h.below hB.out)
  have hown := hidp (own_nothingV w)
  have HN := hidp hn
  clear h hn
  go_enter Tryz.func15, Tryz.ntmps15
  go_wp2_with (at_builtin; refine wpList_append_vs rfl _ _ rfl w.heap.size 0 [] _ rfl hown.out p b o cap l rfl HS.out (by have := HN.out; omega) (by simp) ?_; intro v' w1 hown' hgrow; have hO := hidp hown'; have hB1 := hidp (hB.out.grown hgrow (by simp) (fun j hj => (hown.out.lt j hj).1)); clear hown' hgrow)
  have hO2 := hO.out
  rw [Nat.zero_add, List.nil_append] at hO2
  go_ret
  exact ⟨_, rfl, hO2, hB1.out⟩
end Go.Proofs.YtcmkmnidnapabaaGreat

/-! Sv: Text Vn. -/
namespace Go.Proofs.YtcmkmnidnapabaaGreat
open Go.RowKit Go.Lib Go.Maps

structure SvI (w wr : World) (i : Nat) (b : Bool) (l1 l2 : List Vd) : Prop where
  bel : Below w.heap.size w wr
  yes : b = true → l1.length = l2.length ∧ l1.take i = l2.take i
  no : b = false → l1 ≠ l2
theorem SvI.next {w wr W : World} {i : Nat} {l1 l2 : List Vd} {u v : Vd} (H : SvI w wr i true l1 l2) (hu : l1[i]? = some u) (hv : l2[i]? = some v) (hB : Below wr.heap.size wr W) : SvI w W (i + 1) (decide (u = v)) l1 l2 := by
  obtain ⟨h1, h2⟩ := H.yes rfl
  obtain ⟨hlt, rfl⟩ := List.getElem?_eq_some_iff.1 hu
  obtain ⟨hlt2, rfl⟩ := List.getElem?_eq_some_iff.1 hv
  refine ⟨H.bel.trans (hB.mono H.bel.size), fun h => ⟨h1, ?_⟩, fun h e => ?_⟩
  · rw [List.take_succ_eq_append_getElem hlt, List.take_succ_eq_append_getElem hlt2, h2, of_decide_eq_true h]
  · subst e
    exact of_decide_eq_false h rfl
theorem SvI.last {w wr : World} {i : Nat} {b : Bool} {l1 l2 : List Vd} (H : SvI w wr i b l1 l2) (h : b = false ∨ l1.length ≤ i) : b = decide (l1 = l2) := by
  cases b with
  | false => rw [decide_eq_false (H.no rfl)]
  | true =>
    obtain ⟨h1, h2⟩ := H.yes rfl
    have h3 : l1.length ≤ i := h.resolve_left (by simp)
    rw [List.take_of_length_le h3, List.take_of_length_le (by omega)] at h2
    rw [decide_eq_true h2]
set_option maxRecDepth 100000 in
set_option maxHeartbeats 2000000 in
theorem sameVals_any (a1 : Option Addr) (b1 o1 cap1 : Nat) (l1 : List Vd) (a2 : Option Addr) (b2 o2 cap2 : Nat) (l2 : List Vd) (w : World) (h1 : Vs w a1 b1 o1 cap1 l1) (h2 : Vs w a2 b2 o2 cap2 l2) (hl : l1.length ≤ 1000000) :
    Calls Tryz.prog 28 #[.slice a1 l1.length cap1, .slice a2 l2.length cap2] w fun e w' => e = .returned (.bool (decide (l1 = l2))) ∧ Below w.heap.size w w' := by
  have H1 := hidp h1
  have H2 := hidp h2
  have HL := hidp hl
  have hgv := guard_val
  have H0 : Hid (SvI w w 0 (((l1.length : Nat) : Int) == ((l2.length : Nat) : Int)) l1 l2) := hidp ⟨Below.refl _ _, fun h => ⟨by have := eq_of_beq h; omega, rfl⟩, fun h e => by subst e; simp at h⟩
  clear h1 h2 hl
  go_enter Tryz.func28, Tryz.ntmps28
  go_wp2_with fail
  go_loopw [5, 6] (fun x y wr => ∃ (i : Nat) (b : Bool), i ≤ l1.length ∧ x = .bool b ∧ y = .int .i64 ((i : Nat) : Int) ∧ Hid (SvI w wr i b l1 l2)) (fun _ y _ => l1.length - (Go.RowKit.intOf y).toNat)
  case atStart => exact ⟨0, _, by omega, rfl, rfl, H0⟩
  case round =>
    obtain ⟨i, b, hi, rfl, rfl, hr⟩ := hrel
    clear H0
    by_cases hlt : b = true ∧ i < l1.length
    · obtain ⟨rfl, hlt⟩ := hlt
      have hll := (hr.out.yes rfl).1
      obtain ⟨u, hu, huk, rfl, hbl1, c0, c1, c2, c3, c4⟩ := (H1.out.below hr.out.bel).at hlt
      obtain ⟨v, hv, hvk, rfl, hbl2, d0, d1, d2, d3, d4⟩ := (H2.out.below hr.out.bel).at (show i < l2.length by omega)
      have he := run_eq_val u v huk.k hvk.k
      have HU := hidp (And.intro hu hv)
      have HI := hidp (And.intro hlt HL.out)
      have hlt2 : i < l2.length := by omega
      clear hu hv huk hvk
      go_wp2_with fail
      go_quiet (fail)
      have H3 := hidp (hr.out.next HU.out.1 HU.out.2 ((Below.refl _ wr).drewN nq))
      clear hr c0 c1 c2 c3 c4 d0 d1 d2 d3 d4
      go_wp2_with fail
      have hi3 := HI.out
      rw [w64_nat (n := i) (by omega)]
      exact ⟨⟨i + 1, _, by omega, rfl, rfl, H3⟩, by show l1.length - ((i + 1 : Nat) : Int).toNat < l1.length - ((i : Nat) : Int).toNat; omega⟩
    · have hb := hidp (And.intro (hr.out.last (by cases b <;> simp_all)) hr.out.bel)
      clear hr
      cases b with
      | false =>
        go_wp2_with fail
        go_ret
        exact ⟨by rw [← hb.out.1]; rfl, hb.out.2⟩
      | true =>
        have hil : i = l1.length := by simp at hlt; omega
        subst hil
        clear hlt
        go_wp2_with fail
        go_ret
        exact ⟨by rw [← hb.out.1]; rfl, hb.out.2⟩
end Go.Proofs.YtcmkmnidnapabaaGreat
