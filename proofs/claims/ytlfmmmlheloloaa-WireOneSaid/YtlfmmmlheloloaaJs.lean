/-
  Contracts: writers that nobody made.
-/
import Derived.Test.YtlfmmmlheloloaaJq
namespace Go.Proofs.Ytlfmmmlheloloaa
open Go.RowKit Go.Lib Go.Maps

theorem w_eq_nil (w : World) : (binOp .eql 25 (.pointer none) (.pointer none)).run Try.prog w = .ok (.bool true) w := by kernel_rfl
theorem w_nil_ne (a : Addr) (w : World) : (binOp .neq 25 (.pointer none) (.pointer (some a))).run Try.prog w = .ok (.bool true) w := by
  have h : ∀ d : Nat, (Op.equalIn (d + 1) 25 (.pointer none) (.pointer (some a))).run Try.prog w = .ok false w := fun d => by
    simp [Op.equalIn, run_underlying Try.underlying25]
  simp only [binOp]
  simp [Op.equal, Op.maxDepth, h 9999]
set_option maxRecDepth 20000 in
theorem refusal_nil (w : World) : Calls Try.prog 83 #[.pointer none] w fun e w' => e = .returned (.int .i64 1) ∧ w = w' := by
  have q := w_eq_nil w
  go_enter Try.func83, Try.ntmps83
  go_wp2
  go_ret
  exact ⟨rfl, rfl⟩
set_option maxRecDepth 20000 in
theorem refusal_zero {w : World} {g : Nat} (h0 : w.cell? ⟨g, 0, none⟩ = some (.pointer none)) : Calls Try.prog 83 #[.pointer (some ⟨g, 0, none⟩)] w fun e w' => e = .returned (.int .i64 1) ∧ w = w' := by
  have q1 := w_ne_nil ⟨g, 0, none⟩ w
  have q2 := w_nil_ne ⟨g, 0, none⟩ w
  go_enter Try.func83, Try.ntmps83
  go_wp2
  go_ret
  exact ⟨rfl, rfl⟩
/-- A writer that nobody made. -/
def BadW (w : World) (x : Value) : Prop := x = .pointer none ∨ ∃ g, x = .pointer (some ⟨g, 0, none⟩) ∧ w.cell? ⟨g, 0, none⟩ = some (.pointer none)
theorem BadW.below {w w' : World} {x : Value} (h : BadW w x) (hB : Below w.heap.size w w') : BadW w' x := by
  rcases h with h | ⟨g, h, hc⟩
  · exact .inl h
  · exact .inr ⟨g, h, (hB.cell (cell_lt hc)).trans hc⟩
theorem refusal_bad {w : World} {x : Value} (h : BadW w x) : Calls Try.prog 83 #[x] w fun e w' => e = .returned (.int .i64 1) ∧ w = w' := by
  rcases h with rfl | ⟨g, rfl, hc⟩
  · exact refusal_nil w
  · exact refusal_zero hc
set_option maxRecDepth 20000 in
theorem wNum_bad {w : World} {x : Value} (h : BadW w x) (n : Int) : Calls Try.prog 41 #[x, .int .i64 n] w fun e w' => e = .returned (.int .i64 1) ∧ w = w' := by
  have HR := hidp (refusal_bad h)
  clear h
  go_enter Try.func41, Try.ntmps41
  go_wp2_with (go_at_call 83; refine HR.out.mono ?_; rintro e wx ⟨rfl, rfl⟩)
  go_ret
  exact ⟨rfl, rfl⟩
set_option maxRecDepth 20000 in
theorem put_bad {w : World} {x : Value} (h : BadW w x) (s : Value) : Calls Try.prog 126 #[x, s] w fun e w' => e = .returned (.int .i64 1) ∧ w = w' := by
  have HR := hidp (refusal_bad h)
  clear h
  go_enter Try.func126, Try.ntmps126
  go_wp2_with (go_at_call 83; refine HR.out.mono ?_; rintro e wx ⟨rfl, rfl⟩)
  go_ret
  exact ⟨rfl, rfl⟩
set_option maxRecDepth 20000 in
theorem wDone_bad {w : World} {x : Value} (h : BadW w x) : Calls Try.prog 23 #[x] w fun e w' => e = .returned (.tuple #[.slice none 0 0, .int .i64 1]) ∧ w = w' := by
  have HR := hidp (refusal_bad h)
  clear h
  go_enter Try.func23, Try.ntmps23
  go_wp2_with (go_at_call 83; refine HR.out.mono ?_; rintro e wx ⟨rfl, rfl⟩)
  go_ret2
  exact ⟨rfl, rfl⟩
/-- What a method of a writer that nobody made tells. -/
def BadP (w : World) (e : Ending) (w' : World) : Prop := e = .returned (.int .i64 1) ∧ Below w.heap.size w w'
set_option maxRecDepth 20000 in
theorem wBool_bad {w : World} {x : Value} (h : BadW w x) (is : Bool) : Calls Try.prog 68 #[x, .bool is] w (BadP w) := by
  have HR := hidp (fun (w' : World) (hB : Below w.heap.size w w') (s : Value) => put_bad (h.below hB) s)
  clear h
  cases is
  · go_enter Try.func68, Try.ntmps68
    go_wp2_with fail
    refine (HR.out _ (((Below.refl _ w).alloc (Nat.le_refl _) _).alloc (by simp) _) _).mono ?_
    rintro e w2 ⟨rfl, rfl⟩
    go_wp2
    go_ret
    exact ⟨rfl, by (repeat' (first | (with_reducible exact Below.refl _ _) | (with_reducible refine Below.alloc ?_ ?_ _) | (with_reducible refine Below.drew ?_) | (with_reducible refine Below.drewN ?_ _) | (with_reducible refine Below.setCell ?_ ?_ _) | go_size))⟩
  · go_enter Try.func68, Try.ntmps68
    go_wp2_with fail
    refine (HR.out _ (((Below.refl _ w).alloc (Nat.le_refl _) _).alloc (by simp) _) _).mono ?_
    rintro e w2 ⟨rfl, rfl⟩
    go_wp2
    go_ret
    exact ⟨rfl, by (repeat' (first | (with_reducible exact Below.refl _ _) | (with_reducible refine Below.alloc ?_ ?_ _) | (with_reducible refine Below.drew ?_) | (with_reducible refine Below.drewN ?_ _) | (with_reducible refine Below.setCell ?_ ?_ _) | go_size))⟩
set_option maxRecDepth 20000 in
theorem wBytes_bad {w : World} {x : Value} (h : BadW w x) (p : Option Addr) (n cap k : Nat) (hn : n ≤ 1000000) (hd : Digs n k) : Calls Try.prog 70 #[x, .slice p n cap] w (BadP w) := by
  have HR := hidp (fun (w' : World) (hB : Below w.heap.size w w') (s : Value) => put_bad (h.below hB) s)
  have HN := hidp (numForm_any n k w (by omega) hd)
  clear h hd
  go_enter Try.func70, Try.ntmps70
  go_wp2_with (first | (go_at_call 127; refine HN.out.mono ?_; rintro e w1 ⟨rfl, hb1, hB1⟩; clear hb1; have hB1 := hidp hB1) | fail)
  have hB2 := hB1.out.alloc hB1.out.size (.cells #[.slice (some ⟨w.heap.size, 8 - k, none⟩) (k + 1) (k + 1), .slice p n cap] 32)
  refine (HR.out _ hB2 _).mono ?_
  rintro e w2 ⟨rfl, rfl⟩
  replace hB2 := hidp hB2
  go_wp2
  go_ret
  exact ⟨rfl, hB2.out⟩
set_option maxRecDepth 20000 in
theorem wText_bad {w : World} {x : Value} (h : BadW w x) (s : ByteArray) (k : Nat) (hn : s.size ≤ 1000000) (hd : Digs s.size k) : Calls Try.prog 66 #[x, .string s] w (BadP w) := by
  have kc := fun W : World => _root_.Go.Lib.run_convert_string_bytes (P := Try.prog) W 9 32 5 s Try.underlying9 Try.underlying32 Try.underlying5
  have HB := hidp (wBytes_bad (h.below (bytesW_below w s)) (some ⟨w.heap.size, 0, none⟩) s.size (grownCap w s.size 0 5) k hn hd)
  clear h hn hd
  go_enter Try.func66, Try.ntmps66
  go_wp2_with fail
  refine HB.out.mono ?_
  rintro e w2 ⟨rfl, hB⟩
  have hB := hidp (btrans (bytesW_below w s) hB)
  go_wp2
  go_ret
  exact ⟨rfl, hB.out⟩
end Go.Proofs.Ytlfmmmlheloloaa
