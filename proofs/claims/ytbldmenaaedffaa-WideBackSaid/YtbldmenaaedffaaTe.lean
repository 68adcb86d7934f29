/-
  The walk of landfalllaw01's WideTexts.
-/
import Derived.Test.YtbldmenaaedffaaTd
import Derived.Test.YtbldmenaaedffaaPa
namespace Go.Proofs.Ytbldmenaaedffaa
open Go.RowKit

/-- All below is as it was, and five boxes hold what they hold. -/
def Q5 (w : World) (b1 b2 b3 b4 b5 : Nat) (x1 y1 x2 y2 x3 y3 x4 y4 x5 y5 : Value) (w' : World) : Prop := Below w.heap.size w w' ∧ b1 < w'.heap.size ∧ b2 < w'.heap.size ∧ b3 < w'.heap.size ∧ b4 < w'.heap.size ∧ b5 < w'.heap.size ∧ w'.cell? ⟨b1, 0, none⟩ = some (x1) ∧ w'.cell? ⟨b1, 1, none⟩ = some (y1) ∧ w'.cell? ⟨b2, 0, none⟩ = some (x2) ∧ w'.cell? ⟨b2, 1, none⟩ = some (y2) ∧ w'.cell? ⟨b3, 0, none⟩ = some (x3) ∧ w'.cell? ⟨b3, 1, none⟩ = some (y3) ∧ w'.cell? ⟨b4, 0, none⟩ = some (x4) ∧ w'.cell? ⟨b4, 1, none⟩ = some (y4) ∧ w'.cell? ⟨b5, 0, none⟩ = some (x5) ∧ w'.cell? ⟨b5, 1, none⟩ = some (y5)
theorem step5 {w w1 w2 : World} {b1 b2 b3 b4 b5 : Nat} {x1 y1 x2 y2 x3 y3 x4 y4 x5 y5 : Value} (h : Hid (Q5 w b1 b2 b3 b4 b5 x1 y1 x2 y2 x3 y3 x4 y4 x5 y5 w1)) (k : Below w1.heap.size w1 w2) : Hid (Q5 w b1 b2 b3 b4 b5 x1 y1 x2 y2 x3 y3 x4 y4 x5 y5 w2) := by
  obtain ⟨h0, l1, l2, l3, l4, l5, c1, d1, c2, d2, c3, d3, c4, d4, c5, d5⟩ := h.out
  exact hidp ⟨btrans h0 k, Nat.lt_of_lt_of_le l1 k.size, Nat.lt_of_lt_of_le l2 k.size, Nat.lt_of_lt_of_le l3 k.size, Nat.lt_of_lt_of_le l4 k.size, Nat.lt_of_lt_of_le l5 k.size, (k.cell (p := ⟨b1, 0, none⟩) l1).trans c1, (k.cell (p := ⟨b1, 1, none⟩) l1).trans d1, (k.cell (p := ⟨b2, 0, none⟩) l2).trans c2, (k.cell (p := ⟨b2, 1, none⟩) l2).trans d2, (k.cell (p := ⟨b3, 0, none⟩) l3).trans c3, (k.cell (p := ⟨b3, 1, none⟩) l3).trans d3, (k.cell (p := ⟨b4, 0, none⟩) l4).trans c4, (k.cell (p := ⟨b4, 1, none⟩) l4).trans d4, (k.cell (p := ⟨b5, 0, none⟩) l5).trans c5, (k.cell (p := ⟨b5, 1, none⟩) l5).trans d5⟩
theorem drew5 {w w1 : World} {b1 b2 b3 b4 b5 : Nat} {x1 y1 x2 y2 x3 y3 x4 y4 x5 y5 : Value} (h : Hid (Q5 w b1 b2 b3 b4 b5 x1 y1 x2 y2 x3 y3 x4 y4 x5 y5 w1)) : Hid (Q5 w b1 b2 b3 b4 b5 x1 y1 x2 y2 x3 y3 x4 y4 x5 y5 w1.drew) := by
  obtain ⟨h0, l1, l2, l3, l4, l5, c1, d1, c2, d2, c3, d3, c4, d4, c5, d5⟩ := h.out
  exact hidp ⟨h0.drew, l1, l2, l3, l4, l5, c1, d1, c2, d2, c3, d3, c4, d4, c5, d5⟩

theorem lawTexts_long (a : Nat) (s : ByteArray) (w : World) (h : 100 < s.size) :
    Calls Try.prog 5 #[wv a, .string s] w fun e w' => e = .returned (.bool true) ∧ Below w.heap.size w w' := by
  go_enter Try.func5, Try.ntmps5
  go_wp2_with (go_at_call 10; refine (awake_any _).mono ?_; rintro e w6 ⟨rfl, hN⟩)
  go_ret
  exact ⟨rfl, by (repeat' (first | (with_reducible exact Below.refl _ _) | (with_reducible refine Below.alloc ?_ ?_ _) | (with_reducible refine Below.drew ?_) | (with_reducible refine Below.drewN ?_ _) | (with_reducible refine Below.setCell ?_ ?_ _) | (with_reducible refine Below.trans ?_ (Below.mono hN ?_)) | go_size | (have i0_ := hN.size; (try simp at i0_); (try simp); omega)))⟩

set_option maxRecDepth 100000 in
set_option maxHeartbeats 8000000 in
theorem lawTexts_walk (a : Nat) (s : ByteArray) (w : World) (ha : a < W128) (hs : s.size ≤ 100) (r : Nat) (e i : Int)
    (hR : ∀ w, Calls Try.prog 27 #[.string s] w fun x w' => x = .returned (.tuple #[wv r, fv e i]) ∧ Below w.heap.size w w')
    (hR2 : ∀ w, Calls Try.prog 28 #[.string s] w fun x w' => x = .returned (.tuple #[wv r, fv e i]) ∧ Below w.heap.size w w') :
    Calls Try.prog 5 #[wv a, .string s] w fun e w' => e = .returned (.bool true) ∧ Below w.heap.size w w' := by
  have HR := hidp hR; have HR2 := hidp hR2; have HA := hidp ha; clear hR hR2 ha
  go_enter Try.func5, Try.ntmps5
  go_wp2_with fail
  refine (HR.out _).mono ?_
  rintro x w1 ⟨rfl, hN⟩
  have bA := (Blk.new w [.int .u64 (hiw a), .int .u64 (low a)] 24).below hN (by simp)
  have V1 := hidp (((Below.refl w.heap.size w).alloc (Nat.le_refl _) (.cells #[.int .u64 (hiw a), .int .u64 (low a)] 24)).trans (hN.mono (by simp)))
  have BA := hidp bA; clear bA hN
  go_wp2_with fail
  refine (HR2.out _).mono ?_
  rintro x w2 ⟨rfl, hN⟩
  have bA2 := ((BA.out.alloc (.cells #[.int .u64 (hiw r), .int .u64 (low r)] 24)).alloc (.cells #[.int .i64 e, .int .i64 i] 42)).below hN (by have := BA.out.lt; simp; omega)
  have bX := ((Blk.new w1 [.int .u64 (hiw r), .int .u64 (low r)] 24).alloc (.cells #[.int .i64 e, .int .i64 i] 42)).below hN (by simp; omega)
  have bF := (Blk.new' (w1.alloc (.cells #[.int .u64 (hiw r), .int .u64 (low r)] 24)) [.int .i64 e, .int .i64 i] 42 (w1.heap.size + 1) (by simp)).below hN (by simp)
  have V2 := hidp (((V1.out.alloc V1.out.size (.cells #[.int .u64 (hiw r), .int .u64 (low r)] 24)).alloc (by have := V1.out.size; simp; omega) (.cells #[.int .i64 e, .int .i64 i] 42)).trans (hN.mono (by have := V1.out.size; simp; omega)))
  have hT : Hid (Q5 w (w.heap.size) (w1.heap.size) (w1.heap.size + 1) (w2.heap.size) (w2.heap.size + 1) (.int .u64 (hiw a)) (.int .u64 (low a)) (.int .u64 (hiw r)) (.int .u64 (low r)) (.int .i64 e) (.int .i64 i) (.int .u64 (hiw r)) (.int .u64 (low r)) (.int .i64 e) (.int .i64 i) ((w2.alloc (.cells #[.int .u64 (hiw r), .int .u64 (low r)] 24)).alloc (.cells #[.int .i64 e, .int .i64 i] 42))) := by
    have c1 := (bA2.alloc (.cells #[.int .u64 (hiw r), .int .u64 (low r)] 24)).alloc (.cells #[.int .i64 e, .int .i64 i] 42)
    have c2 := (bX.alloc (.cells #[.int .u64 (hiw r), .int .u64 (low r)] 24)).alloc (.cells #[.int .i64 e, .int .i64 i] 42)
    have c3 := (bF.alloc (.cells #[.int .u64 (hiw r), .int .u64 (low r)] 24)).alloc (.cells #[.int .i64 e, .int .i64 i] 42)
    have c4 := (Blk.new w2 [.int .u64 (hiw r), .int .u64 (low r)] 24).alloc (.cells #[.int .i64 e, .int .i64 i] 42)
    have c5 := Blk.new' (w2.alloc (.cells #[.int .u64 (hiw r), .int .u64 (low r)] 24)) [.int .i64 e, .int .i64 i] 42 (w2.heap.size + 1) (by simp)
    exact hidp ⟨(V2.out.alloc V2.out.size _).alloc (by have := V2.out.size; simp; omega) _, c1.lt, c2.lt, c3.lt, c4.lt, c5.lt, c1.cell 0, c1.cell 1, c2.cell 0, c2.cell 1, c3.cell 0, c3.cell 1, c4.cell 0, c4.cell 1, c5.cell 0, c5.cell 1⟩
  clear bA2 bX bF V1 V2 BA hN
  go_wp2_with fail
  go_region_held3 (fun w' => Below w.heap.size w w' ∧ (w.heap.size) < w'.heap.size ∧ (w1.heap.size) < w'.heap.size ∧ (w1.heap.size + 1) < w'.heap.size ∧ (w2.heap.size) < w'.heap.size ∧ (w2.heap.size + 1) < w'.heap.size ∧ w'.cell? ⟨(w.heap.size), 0, none⟩ = some (.int .u64 (hiw a)) ∧ w'.cell? ⟨(w.heap.size), 1, none⟩ = some (.int .u64 (low a)) ∧ w'.cell? ⟨(w1.heap.size), 0, none⟩ = some (.int .u64 (hiw r)) ∧ w'.cell? ⟨(w1.heap.size), 1, none⟩ = some (.int .u64 (low r)) ∧ w'.cell? ⟨(w1.heap.size + 1), 0, none⟩ = some (.int .i64 e) ∧ w'.cell? ⟨(w1.heap.size + 1), 1, none⟩ = some (.int .i64 i) ∧ w'.cell? ⟨(w2.heap.size), 0, none⟩ = some (.int .u64 (hiw r)) ∧ w'.cell? ⟨(w2.heap.size), 1, none⟩ = some (.int .u64 (low r)) ∧ w'.cell? ⟨(w2.heap.size + 1), 0, none⟩ = some (.int .i64 e) ∧ w'.cell? ⟨(w2.heap.size + 1), 1, none⟩ = some (.int .i64 i))
    (first | (with_reducible exact Hid.out (p := Q5 w (w.heap.size) (w1.heap.size) (w1.heap.size + 1) (w2.heap.size) (w2.heap.size + 1) (.int .u64 (hiw a)) (.int .u64 (low a)) (.int .u64 (hiw r)) (.int .u64 (low r)) (.int .i64 e) (.int .i64 i) (.int .u64 (hiw r)) (.int .u64 (low r)) (.int .i64 e) (.int .i64 i) _) (by with_reducible assumption)) | exact Hid.out (p := Q5 w (w.heap.size) (w1.heap.size) (w1.heap.size + 1) (w2.heap.size) (w2.heap.size + 1) (.int .u64 (hiw a)) (.int .u64 (low a)) (.int .u64 (hiw r)) (.int .u64 (low r)) (.int .i64 e) (.int .i64 i) (.int .u64 (hiw r)) (.int .u64 (low r)) (.int .i64 e) (.int .i64 i) _) (by with_reducible assumption) | exact Hid.out (p := Q5 w (w.heap.size) (w1.heap.size) (w1.heap.size + 1) (w2.heap.size) (w2.heap.size + 1) (.int .u64 (hiw a)) (.int .u64 (low a)) (.int .u64 (hiw r)) (.int .u64 (low r)) (.int .i64 e) (.int .i64 i) (.int .u64 (hiw r)) (.int .u64 (low r)) (.int .i64 e) (.int .i64 i) _) (drew5 (by with_reducible assumption)))
    (first
     | (go_at_call 29; refine (Text_any a _ HA.out).mono ?_; rintro e wN ⟨rfl, hN⟩; have hT := step5 (by first | with_reducible assumption | exact drew5 (by with_reducible assumption)) hN; clear hN)
     | (go_at_call 30; refine (refText_any a _ HA.out).mono ?_; rintro e wN ⟨rfl, hN⟩; have hT := step5 (by first | with_reducible assumption | exact drew5 (by with_reducible assumption)) hN; clear hN)
     | (go_at_call 10; refine (awake_any _).mono ?_; rintro e wN ⟨rfl, hN⟩; have hT := step5 (by first | with_reducible assumption | exact drew5 (by with_reducible assumption)) hN; clear hN))
  all_goals go_wp2
  all_goals go_ret
  all_goals exact ⟨rfl, by first | exact hT.out.1 | exact hT.out.1.drew⟩
end Go.Proofs.Ytbldmenaaedffaa
