/-
  Text Vn.
-/
import Derived.Test.YtbhkjflpkpkdlaaUb
import Derived.Deep.RegionHeld3
import Derived.Deep.AppendLies

/-! Vn: Lists of validators side by side; so many of them; changes. -/
namespace Go.Proofs.Ytbhkjflpkpkdlaa
open Go.RowKit Go.Lib Go.Maps

structure SvI (w wr : World) (i : Nat) (b : Bool) (l1 l2 : List Vd) : Prop where
  bel : Below w.heap.size w wr
  yes : b = true → l1.length = l2.length ∧ l1.take i = l2.take i
  no : b = false → l1 ≠ l2
theorem SvI.next {w wr W : World} {i : Nat} {l1 l2 : List Vd} {u v : Vd} (H : SvI w wr i true l1 l2) (hu : l1[i]? = some u) (hv : l2[i]? = some v) (hB : Below wr.heap.size wr W) : SvI w W (i + 1) (decide (u = v)) l1 l2 := by
  obtain ⟨h1, h2⟩ := H.yes rfl
  obtain ⟨hlt, rfl⟩ := List.getElem?_eq_some_iff.1 hu
  obtain ⟨hlt2, rfl⟩ := List.getElem?_eq_some_iff.1 hv
  refine ⟨H.bel.trans (hB.mono H.bel.size), fun h => ⟨h1, ?_⟩, fun h e => ?_⟩
  · rw [List.take_succ_eq_append_getElem hlt, List.take_succ_eq_append_getElem hlt2, h2, of_decide_eq_true h]
  · subst e
    exact of_decide_eq_false h rfl
theorem SvI.last {w wr : World} {i : Nat} {b : Bool} {l1 l2 : List Vd} (H : SvI w wr i b l1 l2) (h : b = false ∨ l1.length ≤ i) : b = decide (l1 = l2) := by
  cases b with
  | false => rw [decide_eq_false (H.no rfl)]
  | true =>
    obtain ⟨h1, h2⟩ := H.yes rfl
    have h3 : l1.length ≤ i := h.resolve_left (by simp)
    rw [List.take_of_length_le h3, List.take_of_length_le (by omega)] at h2
    rw [decide_eq_true h2]
set_option maxRecDepth 100000 in
set_option maxHeartbeats 2000000 in
theorem sameVals_any (a1 : Option Addr) (b1 o1 cap1 : Nat) (l1 : List Vd) (a2 : Option Addr) (b2 o2 cap2 : Nat) (l2 : List Vd) (w : World) (h1 : Vs w a1 b1 o1 cap1 l1) (h2 : Vs w a2 b2 o2 cap2 l2) (hl : l1.length ≤ 1000000) :
    Calls Try.prog 47 #[.slice a1 l1.length cap1, .slice a2 l2.length cap2] w fun e w' => e = .returned (.bool (decide (l1 = l2))) ∧ Below w.heap.size w w' := by
  have H1 := hidp h1
  have H2 := hidp h2
  have HL := hidp hl
  have hgv := guard_val
  have H0 : Hid (SvI w w 0 (((l1.length : Nat) : Int) == ((l2.length : Nat) : Int)) l1 l2) := hidp ⟨Below.refl _ _, fun h => ⟨by have := eq_of_beq h; omega, rfl⟩, fun h e => by subst e; simp at h⟩
  clear h1 h2 hl
  go_enter Try.func47, Try.ntmps47
  go_wp2_with fail
  go_loopw [5, 6] (fun x y wr => ∃ (i : Nat) (b : Bool), i ≤ l1.length ∧ x = .bool b ∧ y = .int .i64 ((i : Nat) : Int) ∧ Hid (SvI w wr i b l1 l2)) (fun _ y _ => l1.length - (Go.RowKit.intOf y).toNat)
  case atStart => exact ⟨0, _, by omega, rfl, rfl, H0⟩
  case round =>
    obtain ⟨i, b, hi, rfl, rfl, hr⟩ := hrel
    clear H0
    by_cases hlt : b = true ∧ i < l1.length
    · obtain ⟨rfl, hlt⟩ := hlt
      have hll := (hr.out.yes rfl).1
      obtain ⟨u, hu, huk, rfl, hbl1, c0, c1, c2, c3, c4⟩ := (H1.out.below hr.out.bel).at hlt
      obtain ⟨v, hv, hvk, rfl, hbl2, d0, d1, d2, d3, d4⟩ := (H2.out.below hr.out.bel).at (show i < l2.length by omega)
      have he := run_eq_val u v huk.k hvk.k
      have HU := hidp (And.intro hu hv)
      have HI := hidp (And.intro hlt HL.out)
      have hlt2 : i < l2.length := by omega
      clear hu hv huk hvk
      go_wp2_with fail
      go_quiet (fail)
      have H3 := hidp (hr.out.next HU.out.1 HU.out.2 ((Below.refl _ wr).drewN nq))
      clear hr c0 c1 c2 c3 c4 d0 d1 d2 d3 d4
      go_wp2_with fail
      have hi3 := HI.out
      rw [w64_nat (n := i) (by omega)]
      exact ⟨⟨i + 1, _, by omega, rfl, rfl, H3⟩, by show l1.length - ((i + 1 : Nat) : Int).toNat < l1.length - ((i : Nat) : Int).toNat; omega⟩
    · have hb := hidp (And.intro (hr.out.last (by cases b <;> simp_all)) hr.out.bel)
      clear hr
      cases b with
      | false =>
        go_wp2_with fail
        go_ret
        exact ⟨by rw [← hb.out.1]; rfl, hb.out.2⟩
      | true =>
        have hil : i = l1.length := by simp at hlt; omega
        subst hil
        clear hlt
        go_wp2_with fail
        go_ret
        exact ⟨by rw [← hb.out.1]; rfl, hb.out.2⟩
end Go.Proofs.Ytbhkjflpkpkdlaa

