/-
  Sets written over.
-/
import Derived.Test.YtdiklimikkplcaaRe
namespace Go.Proofs.Ytdiklimikkplcaa
open Go.RowKit Go.Lib Go.Maps

structure OvI (w wr : World) (g i : Nat) (m : Nat) : Prop where
  blk : ∃ cs, Blk wr g cs 122 ∧ cs.length = m
  bex : Bex g w wr
theorem five_in {w : World} {g m i : Nat} {cs : List Value} (h : Blk w g cs 122) (hl : cs.length = m) (hi : i * 5 + 4 < m) : ∃ u0 u1 u2 u3 u4, w.cell? ⟨g, i * 5, none⟩ = some u0 ∧ w.cell? ⟨g, i * 5 + 1, none⟩ = some u1 ∧ w.cell? ⟨g, i * 5 + 2, none⟩ = some u2 ∧ w.cell? ⟨g, i * 5 + 3, none⟩ = some u3 ∧ w.cell? ⟨g, i * 5 + 4, none⟩ = some u4 :=
  ⟨cs[i * 5], cs[i * 5 + 1], cs[i * 5 + 2], cs[i * 5 + 3], cs[i * 5 + 4], (h.cell _).trans (List.getElem?_eq_getElem (by omega)), (h.cell _).trans (List.getElem?_eq_getElem (by omega)), (h.cell _).trans (List.getElem?_eq_getElem (by omega)), (h.cell _).trans (List.getElem?_eq_getElem (by omega)), (h.cell _).trans (List.getElem?_eq_getElem (by omega))⟩
set_option maxRecDepth 100000 in
set_option maxHeartbeats 4000000 in
theorem overVals_some (g n cap m : Nat) (cs : List Value) (w : World) (h : Blk w g cs 122) (hm : cs.length = m) (hn : n * 5 ≤ m) (hn2 : n ≤ 1000) :
    Calls Try.prog 39 #[.slice (some ⟨g, 0, none⟩) n cap] w fun e w' => e = .returned (.tuple #[]) ∧ Bex g w w' := by
  have H0 : Hid (OvI w w g 0 m) := hidp ⟨⟨cs, h, hm⟩, Bex.refl _ _⟩
  have HN := hidp (And.intro hn hn2)
  clear h hm hn hn2
  go_enter Try.func39, Try.ntmps39
  go_wp2_with fail
  go_loopw [2] (fun x wr => ∃ i : Nat, i ≤ n ∧ x = .int .i64 ((i : Nat) : Int) ∧ Hid (OvI w wr g i m)) (fun x _ => n - (Go.RowKit.intOf x).toNat)
  case atStart => exact ⟨0, by omega, rfl, H0⟩
  case round =>
    obtain ⟨i, hi, rfl, hr⟩ := hrel
    clear H0
    by_cases hlt : i < n
    · obtain ⟨cs', hb, hl⟩ := hr.out.blk
      obtain ⟨u0, u1, u2, u3, u4, c0, c1, c2, c3, c4⟩ := five_in hb hl (i := i) (by have := HN.out; omega)
      have f0 := hb.free (i * 5)
      have f1 := hb.free (i * 5 + 1)
      have f2 := hb.free (i * 5 + 2)
      have f3 := hb.free (i * 5 + 3)
      have f4 := hb.free (i * 5 + 4)
      have hgl := hb.lt
      have HB := hidp (And.intro hb hl)
      have HX := hidp (And.intro hr.out.bex hlt)
      have hadd := w64_nat (n := i) (by have := HN.out; omega)
      clear hb hl hr
      go_wp2_with fail
      have hb5 := ((((HB.out.1.set (i * 5) (.int .u8 0)).set (i * 5 + 1) (.int .u8 0)).set (i * 5 + 2) (.int .u8 0)).set (i * 5 + 3) (.int .u8 0)).set (i * 5 + 4) (.int .i64 (-7))
      have hx5 := ((((HX.out.1.setCell (i * 5) (.int .u8 0)).setCell (i * 5 + 1) (.int .u8 0)).setCell (i * 5 + 2) (.int .u8 0)).setCell (i * 5 + 3) (.int .u8 0)).setCell (i * 5 + 4) (.int .i64 (-7))
      rw [hadd]
      exact ⟨⟨i + 1, by have := HX.out.2; omega, rfl, hidp ⟨⟨_, hb5, by simp only [List.length_set]; exact HB.out.2⟩, hx5⟩⟩, by have h1 := HX.out.2; show n - ((i + 1 : Nat) : Int).toNat < n - ((i : Nat) : Int).toNat; omega⟩
    · have hx := hidp hr.out.bex
      obtain rfl : i = n := by omega
      clear hr hlt
      go_wp2_with fail
      refine bodyPost_end (results_none rfl _ _ _) rfl ?_
      exact ⟨rfl, hx.out⟩
theorem overVals_none (w : World) : Calls Try.prog 39 #[.slice none 0 0] w fun e w' => e = .returned (.tuple #[]) ∧ w' = w := by
  go_enter Try.func39, Try.ntmps39
  go_wp2_with fail
  go_loopw [2] (fun x wr => x = .int .i64 0 ∧ wr = w) (fun _ _ => 0)
  case atStart => exact ⟨rfl, rfl⟩
  case round =>
    obtain ⟨rfl, rfl⟩ := hrel
    go_wp2_with fail
    refine bodyPost_end (results_none rfl _ _ _) rfl ?_
    exact ⟨rfl, rfl⟩
end Go.Proofs.Ytdiklimikkplcaa
