/-
  Contracts: CopyInts, SameInts; the answer's Sum.
-/
import Derived.Test.YtbldmenaaedffaaWm
import Derived.Test.YtbldmenaaedffaaWv
import Derived.Test.YtbldmenaaedffaaIr
import Derived.Maps.AppendAt
import Derived.Laws.AppendOwnNone
namespace Go.Proofs.Ytbldmenaaedffaa
open Go.RowKit

theorem info_int : (Try.prog.info? 3).map (fun i => (i.zero, i.size, i.bytes)) = some (some (.int .i64 0), 1, 8) := by kernel_rfl
/-- Whole numbers that can be read behind an address, one a cell. -/
def RowAt (w : World) (a : Option Addr) (ys : List Int) : Prop := ∀ k, k < ys.length → ∃ x, a = some x ∧ w.cell? (x.add k) = some (.int .i64 (ys[k]?.getD 0))
theorem RowAt.below {w w' : World} {a : Option Addr} {ys : List Int} (h : RowAt w a ys) (hB : Below w.heap.size w w') : RowAt w' a ys := by
  intro k hk
  obtain ⟨x, ha, hc⟩ := h k hk
  exact ⟨x, ha, (hB.cell (cell_lt hc)).trans hc⟩
theorem rowAt_of {w : World} {a : Option Addr} {len cap : Nat} {zs : List Int} (h : IsRow .i64 w a len cap zs) : RowAt w a (zs.take len) := by
  intro k hk
  rw [List.length_take] at hk
  rcases h with ⟨_, rfl, _, _⟩ | ⟨x, rfl, _, _, _, h5, _⟩
  · omega
  · refine ⟨x, rfl, ?_⟩
    have h := h5 k (by omega)
    rw [h, List.getElem?_take_of_lt (by omega), List.getD_eq_getElem?_getD]
def CopyP (w : World) (ys : List Int) (e : Ending) (w' : World) : Prop := ∃ g cap, e = .returned (.slice (some ⟨g, 0, none⟩) ys.length cap) ∧ Hid (RowAt w' (some ⟨g, 0, none⟩) ys) ∧ Below w.heap.size w w'
theorem empty_row (w : World) : (w.alloc (.cells #[] 3)).ownsRow w.heap.size 3 1 (.slice (some ⟨w.heap.size, 0, none⟩) 0 0) 0 [] :=
  ⟨rfl, .inr ⟨w.heap.size, 0, #[], rfl, Nat.le_refl _, heap_alloc_new w _, by decide, by decide, rfl, rfl⟩⟩
theorem rowAt_own {w : World} {base : Nat} {g cap : Nat} {ys : List Int} (h : w.ownsRow base 3 1 (.slice (some ⟨g, 0, none⟩) ys.length cap) ys.length (ys.map (Value.int .i64))) : RowAt w (some ⟨g, 0, none⟩) ys := by
  intro k hk
  refine ⟨_, rfl, ?_⟩
  exact h.cells (g := g) rfl k _ (by rw [List.getElem?_map, List.getElem?_eq_getElem hk]; rfl)

set_option maxHeartbeats 1000000 in
theorem CopyInts_any (a : Option Addr) (cap : Nat) (ys : List Int) (w : World) (hl : ys.length ≤ 1000) (hr : RowAt w a ys) (hn : a = none → ys = [] ∧ cap = 0) : Calls Try.prog 11 #[.slice a ys.length cap] w (CopyP w ys) := by
  obtain ⟨i0, hi, hz0, hz1, hz2⟩ := info_parts info_int
  rcases a with _ | x
  · obtain ⟨rfl, rfl⟩ := hn rfl
    go_enter Try.func11, Try.ntmps11
    go_wp2_with (at_builtin; refine wpList_append_own_none rfl _ _ 25 rfl w.heap.size 3 i0 1 Try.underlying25 hi _ 0 [] rfl (empty_row w) rfl ?_)
    go_ret
    exact ⟨_, _, rfl, fun k hk => by simp at hk, by (repeat' (first | (with_reducible exact Below.refl _ _) | (with_reducible refine Below.alloc ?_ ?_ _) | (with_reducible refine Below.drew ?_) | (with_reducible refine Below.drewN ?_ _) | (with_reducible refine Below.setCell ?_ ?_ _) | go_size))⟩
  · have HR := hidp hr; clear hr hn
    have hcells : ∀ j u, (ys.map (Value.int .i64))[j]? = some u → (w.alloc (.cells #[] 3)).cell? (x.add j) = some u := by
      intro j u hu
      have hj : j < ys.length := by
        rcases Nat.lt_or_ge j ys.length with h | h
        · exact h
        · rw [List.getElem?_eq_none (by simpa using h)] at hu; cases hu
      obtain ⟨x', hx, hc⟩ := HR.out j hj
      cases hx
      rw [World.cell?_alloc_lt w _ _ (cell_lt hc), hc, ← hu, List.getElem?_map, List.getElem?_eq_getElem hj]
      rfl
    have HC := hidp hcells; clear hcells
    go_enter Try.func11, Try.ntmps11
    go_wp2_with (at_builtin; refine wpList_append_own _ rfl _ _ 25 rfl w.heap.size 3 i0 (.int .i64 0) 1 8 Try.underlying25 hi hz0 hz1 hz2 rfl (by decide) _ _ _ rfl (empty_row w) x ys.length cap (ys.map (Value.int .i64)) rfl (by simp) HC.out (by intro u hu; obtain ⟨z, _, rfl⟩ := List.mem_map.1 hu; rfl) (by unfold maxLen; omega) (by omega) (by simp) ?_; intro v' w1 hown' hgrow hnil)
    have hv : ∃ g cap1, v' = .slice (some ⟨g, 0, none⟩) (0 + ys.length) cap1 := by
      rcases hown'.2 with ⟨h1, _⟩ | ⟨g, cap1, _, h1, _⟩
      · exact absurd (hnil.1 h1).1 (by intro h; injection h with h; cases h)
      · exact ⟨g, cap1, h1⟩
    obtain ⟨g, cap1, rfl⟩ := hv
    rw [Nat.zero_add] at hown' ⊢
    have hgrow2 : (w.alloc (.cells #[] 3)).grownBy w1 (some w.heap.size) := hgrow
    have hB := ((Below.refl w.heap.size w).alloc (Nat.le_refl _) (.cells #[] 3)).grown hgrow2 (by simp) (fun j hj => by cases hj; exact Nat.le_refl _)
    go_ret
    exact ⟨g, cap1, rfl, rowAt_own hown', hB⟩

theorem row_at {w : World} {a : Option Addr} {ys : List Int} (h : RowAt w a ys) {k : Nat} (hk : k < ys.length) : ∃ x, a = some x ∧ w.cell? (x.add k) = some (.int .i64 (ys[k]?.getD 0)) := h k hk

set_option maxHeartbeats 1000000 in
theorem SameInts_any (a b : Option Addr) (cap cbp : Nat) (ys : List Int) (w : World) (hl : ys.length ≤ 1000) (ha : RowAt w a ys) (hb : RowAt w b ys) : Calls Try.prog 24 #[.slice a ys.length cap, .slice b ys.length cbp] w fun e w' => e = .returned (.bool true) ∧ Below w.heap.size w w' := by
  have HA := hidp ha; have HB := hidp hb; clear ha hb
  go_enter Try.func24, Try.ntmps24
  go_wp2
  go_loopw [5, 6] (fun f i wr => ∃ k : Nat, k ≤ ys.length ∧ i = .int .i64 k ∧ f = .bool true ∧ Below w.heap.size w wr) (fun _ i _ => ys.length - (intOf i).toNat)
  case atStart => exact ⟨0, by omega, rfl, by simp, Below.refl _ _⟩
  case round =>
    obtain ⟨k, hk, rfl, rfl, hB⟩ := hrel
    have HV := hidp hB
    by_cases hlt : k < ys.length
    · obtain ⟨x, rfl, h1⟩ := row_at (HA.out.below hB) hlt
      obtain ⟨y, rfl, h2⟩ := row_at (HB.out.below hB) hlt
      clear hB
      generalize ys[k]?.getD 0 = z at h1 h2
      go_wp2
      go_quiet (fail)
      go_wp2
      exact ⟨⟨k + 1, by omega, by go_num, rfl, HV.out.drewN _⟩, by simp [intOf]; omega⟩
    · clear hB
      go_wp2
      go_ret
      exact ⟨rfl, HV.out⟩
end Go.Proofs.Ytbldmenaaedffaa
