/-
  Three cells of an array behind stores, and the order of two products.
-/
import Derived.Test.YtbldmenaaedffaaWj
import Derived.Deep.DeepCutAuto
namespace Go.Proofs.Ytbldmenaaedffaa
open Go.RowKit

/-- The three cells of an array at a block. -/
def three (w : World) (b : Nat) (x y z : Value) : Prop := w.cell? ⟨b, 0, none⟩ = some x ∧ w.cell? ⟨b, 1, none⟩ = some y ∧ w.cell? ⟨b, 2, none⟩ = some z
theorem three_new {w : World} {b : Nat} {x y z : Value} {T : TypeId} (h : b = w.heap.size) : three (w.alloc (.cells #[x, y, z] T)) b x y z := by
  subst h
  exact ⟨by simp, by simp, by simp⟩
theorem cell_alloc {w : World} {b i : Nat} {x : Value} {o : Obj} (h : w.cell? ⟨b, i, none⟩ = some x) : (w.alloc o).cell? ⟨b, i, none⟩ = some x := by
  rw [World.cell?_alloc_some w _ o (by rw [h]; rfl), h]
theorem three_old {w : World} {b : Nat} {x y z : Value} {o : Obj} (h : three w b x y z) : three (w.alloc o) b x y z :=
  ⟨cell_alloc h.1, cell_alloc h.2.1, cell_alloc h.2.2⟩
theorem cell_far {w : World} {b c i : Nat} {x p q r : Value} (hc : c ≠ b) (h : w.cell? ⟨b, i, none⟩ = some x) : (((w.setCell ⟨c, 0, none⟩ p).setCell ⟨c, 1, none⟩ q).setCell ⟨c, 2, none⟩ r).cell? ⟨b, i, none⟩ = some x := by
  rw [World.cell?_setCell_far _ ⟨c, 2, none⟩ _ _ hc, World.cell?_setCell_far _ ⟨c, 1, none⟩ _ _ hc, World.cell?_setCell_far _ ⟨c, 0, none⟩ _ _ hc, h]
theorem three_far {w : World} {b c : Nat} {x y z p q r : Value} (hc : c ≠ b) (h : three w b x y z) : three (((w.setCell ⟨c, 0, none⟩ p).setCell ⟨c, 1, none⟩ q).setCell ⟨c, 2, none⟩ r) b x y z :=
  ⟨cell_far hc h.1, cell_far hc h.2.1, cell_far hc h.2.2⟩
theorem three_set {w : World} {b : Nat} {x y z u v t : Value} (h0 : w.cell? ⟨b, 0, none⟩ = some u) (h1 : w.cell? ⟨b, 1, none⟩ = some v) (h2 : w.cell? ⟨b, 2, none⟩ = some t) : three (((w.setCell ⟨b, 0, none⟩ x).setCell ⟨b, 1, none⟩ y).setCell ⟨b, 2, none⟩ z) b x y z := by
  have e01 : (⟨b, 0, none⟩ : Addr) ≠ ⟨b, 1, none⟩ := by simp
  have e02 : (⟨b, 0, none⟩ : Addr) ≠ ⟨b, 2, none⟩ := by simp
  have e12 : (⟨b, 1, none⟩ : Addr) ≠ ⟨b, 2, none⟩ := by simp
  have a0 := World.cell?_setCell_same w _ x h0
  have a1 := World.cell?_setCell_same (w.setCell ⟨b, 0, none⟩ x) ⟨b, 1, none⟩ y (by rw [World.cell?_setCell_other (h := e01)]; exact h1)
  have a2 := World.cell?_setCell_same ((w.setCell ⟨b, 0, none⟩ x).setCell ⟨b, 1, none⟩ y) ⟨b, 2, none⟩ z (by rw [World.cell?_setCell_other (h := e12), World.cell?_setCell_other (h := e02)]; exact h2)
  refine ⟨?_, ?_, a2⟩
  · rw [World.cell?_setCell_other (h := e02.symm), World.cell?_setCell_other (h := e01.symm), a0]
  · rw [World.cell?_setCell_other (h := e12.symm), a1]

theorem more_cmp (P Q : Nat) : moreB P Q = decide (cmpI P Q = 1) := by
  unfold moreB cmpI
  by_cases h : Q < P
  · rw [if_neg (by omega), if_pos (by omega)]; simp [h]
  · by_cases h2 : P < Q
    · rw [if_pos (by omega)]; simp [h]
    · rw [if_neg (by omega), if_neg (by omega)]; simp [h]
theorem more_2 {P Q : Nat} (h : ¬ wd2 P = wd2 Q) : moreB P Q = decide (wd2 Q < wd2 P) := by
  rw [more_cmp, cmp_lex3]
  by_cases h1 : wd2 P < wd2 Q
  · rw [if_pos h1]; simp; omega
  · rw [if_neg h1, if_pos (by omega)]; simp; omega
theorem more_1 {P Q : Nat} (h2 : wd2 P = wd2 Q) (h : ¬ wd1 P = wd1 Q) : moreB P Q = decide (wd1 Q < wd1 P) := by
  rw [more_cmp, cmp_lex3, if_neg (by omega), if_neg (by omega)]
  by_cases h1 : wd1 P < wd1 Q
  · rw [if_pos h1]; simp; omega
  · rw [if_neg h1, if_pos (by omega)]; simp; omega
theorem more_0 {P Q : Nat} (h2 : wd2 P = wd2 Q) (h1 : wd1 P = wd1 Q) (h : ¬ wd0 P = wd0 Q) : moreB P Q = decide (wd0 Q < wd0 P) := by
  rw [more_cmp, cmp_lex3, if_neg (by omega), if_neg (by omega), if_neg (by omega), if_neg (by omega)]
  by_cases h1 : wd0 P < wd0 Q
  · rw [if_pos h1]; simp; omega
  · rw [if_neg h1, if_pos (by omega)]; simp; omega
theorem more_eq {P Q : Nat} (h2 : wd2 P = wd2 Q) (h1 : wd1 P = wd1 Q) (h : wd0 P = wd0 Q) : moreB P Q = false := by
  rw [more_cmp, cmp_lex3, if_neg (by omega), if_neg (by omega), if_neg (by omega), if_neg (by omega), if_neg (by omega), if_neg (by omega)]; rfl

theorem refMore_neg (a b : Nat) (n m : Int) (w : World) (h : n < 0 ∨ m < 0) :
    Calls Try.prog 26 #[wv a, .int .i64 n, wv b, .int .i64 m] w fun e w' => e = .returned (.tuple #[.bool false, .int .i64 3]) ∧ Below w.heap.size w w' := by
  by_cases hn : n < 0
  · go_enter Try.func26, Try.ntmps26
    go_wp2
    go_ret2
    exact ⟨rfl, by (repeat' (first | (with_reducible exact Below.refl _ _) | (with_reducible refine Below.alloc ?_ ?_ _) | (with_reducible refine Below.drew ?_) | (with_reducible refine Below.drewN ?_ _) | (with_reducible refine Below.setCell ?_ ?_ _) | go_size))⟩
  · have hm : m < 0 := by omega
    go_enter Try.func26, Try.ntmps26
    go_wp2
    go_ret2
    exact ⟨rfl, by (repeat' (first | (with_reducible exact Below.refl _ _) | (with_reducible refine Below.alloc ?_ ?_ _) | (with_reducible refine Below.drew ?_) | (with_reducible refine Below.drewN ?_ _) | (with_reducible refine Below.setCell ?_ ?_ _) | go_size))⟩
end Go.Proofs.Ytbldmenaaedffaa
