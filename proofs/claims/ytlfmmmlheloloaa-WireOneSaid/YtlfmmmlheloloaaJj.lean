/-
  Contracts: the reader's methods Num, Word, Pace, Bool, Text, Rest, End.
-/
import Derived.Test.YtlfmmmlheloloaaJg
import Derived.Test.YtlfmmmlheloloaaJi
namespace Go.Proofs.Ytlfmmmlheloloaa
open Go.RowKit Go.Lib Go.Maps

theorem Bex.toBelow {g B : Nat} {w w' : World} (h : Bex g w w') (hg : B ≤ g) (hB : B ≤ w.heap.size) : Below B w w' := h.below hg hB

theorem mNum_ok (g t : Nat) (p : Option Addr) (b o cap : Nat) (R : List Nat) (v : Nat) (n : Nat) (w : World) (H : Rd w g t p b o cap R 0 0) (hp : pNum R = .ok v n) :
    Calls Try.prog 33 #[.pointer (some ⟨g, 0, none⟩)] w fun e w' => e = .returned (.int .i64 (v : Nat)) ∧ RdX w' g (t + n) b (R.drop n) 0 0 ∧ Bex g w w' := by
  have HE := hidp (elemNum_ok g t p b o cap R (.int .i64 (v : Nat)) n w H (fun w1 c _ _ hc => number_ok c t p b o cap R v n w1 hc hp))
  clear H hp
  go_enter Try.func33, Try.ntmps33
  go_wp2_with fail
  refine HE.out.mono ?_
  rintro e w1 ⟨rfl, h1, h2⟩
  have HX := hidp (And.intro h1 h2)
  clear h1 h2
  go_wp2
  go_ret
  exact ⟨rfl, HX.out⟩
theorem mNum_er (g t : Nat) (p : Option Addr) (b o cap : Nat) (R : List Nat) (x : Nat) (w : World) (H : Rd w g t p b o cap R 0 0) (hp : pNum R = .er x) :
    Calls Try.prog 33 #[.pointer (some ⟨g, 0, none⟩)] w fun e w' => e = .returned (.int .i64 0) ∧ RdX w' g t b [] x t ∧ Bex g w w' := by
  have HE := hidp (elemNum_er g t p b o cap R x w H (fun w1 c _ _ hc => number_er c t p b o cap R x w1 hc hp))
  clear H hp
  go_enter Try.func33, Try.ntmps33
  go_wp2_with fail
  refine HE.out.mono ?_
  rintro e w1 ⟨rfl, h1, h2⟩
  have HX := hidp (And.intro h1 h2)
  clear h1 h2
  go_wp2
  go_ret
  exact ⟨rfl, HX.out⟩
theorem mNum_dead (g t : Nat) (p : Option Addr) (b o cap : Nat) (R : List Nat) (x f : Nat) (w : World) (H : Rd w g t p b o cap R x f) (hx : x ≠ 0) :
    Calls Try.prog 33 #[.pointer (some ⟨g, 0, none⟩)] w fun e w' => e = .returned (.int .i64 0) ∧ Below w.heap.size w w' := by
  have HE := hidp (elemNum_dead g t p b o cap R x f w H hx)
  clear H hx
  go_enter Try.func33, Try.ntmps33
  go_wp2_with fail
  refine HE.out.mono ?_
  rintro e w1 ⟨rfl, h1⟩
  have HX := hidp h1
  clear h1
  go_wp2
  go_ret
  exact ⟨rfl, HX.out⟩

theorem mWord_ok (g t : Nat) (p : Option Addr) (b o cap : Nat) (R : List Nat) (v : Nat) (n : Nat) (w : World) (H : Rd w g t p b o cap R 0 0) (hp : pWord R = .ok v n) :
    Calls Try.prog 38 #[.pointer (some ⟨g, 0, none⟩)] w fun e w' => e = .returned (.int .u64 (v : Nat)) ∧ RdX w' g (t + n) b (R.drop n) 0 0 ∧ Bex g w w' := by
  have HE := hidp (elemWord_ok g t p b o cap R (.int .u64 (v : Nat)) n w H (fun w1 c _ _ hc => readWord_ok c t p b o cap R v n w1 hc hp))
  clear H hp
  go_enter Try.func38, Try.ntmps38
  go_wp2_with fail
  refine HE.out.mono ?_
  rintro e w1 ⟨rfl, h1, h2⟩
  have HX := hidp (And.intro h1 h2)
  clear h1 h2
  go_wp2
  go_ret
  exact ⟨rfl, HX.out⟩
theorem mWord_er (g t : Nat) (p : Option Addr) (b o cap : Nat) (R : List Nat) (x : Nat) (w : World) (H : Rd w g t p b o cap R 0 0) (hp : pWord R = .er x) :
    Calls Try.prog 38 #[.pointer (some ⟨g, 0, none⟩)] w fun e w' => e = .returned (.int .u64 0) ∧ RdX w' g t b [] x t ∧ Bex g w w' := by
  have HE := hidp (elemWord_er g t p b o cap R x w H (fun w1 c _ _ hc => readWord_er c t p b o cap R x w1 hc hp))
  clear H hp
  go_enter Try.func38, Try.ntmps38
  go_wp2_with fail
  refine HE.out.mono ?_
  rintro e w1 ⟨rfl, h1, h2⟩
  have HX := hidp (And.intro h1 h2)
  clear h1 h2
  go_wp2
  go_ret
  exact ⟨rfl, HX.out⟩
theorem mWord_dead (g t : Nat) (p : Option Addr) (b o cap : Nat) (R : List Nat) (x f : Nat) (w : World) (H : Rd w g t p b o cap R x f) (hx : x ≠ 0) :
    Calls Try.prog 38 #[.pointer (some ⟨g, 0, none⟩)] w fun e w' => e = .returned (.int .u64 0) ∧ Below w.heap.size w w' := by
  have HE := hidp (elemWord_dead g t p b o cap R x f w H hx)
  clear H hx
  go_enter Try.func38, Try.ntmps38
  go_wp2_with fail
  refine HE.out.mono ?_
  rintro e w1 ⟨rfl, h1⟩
  have HX := hidp h1
  clear h1
  go_wp2
  go_ret
  exact ⟨rfl, HX.out⟩

theorem mPace_ok (g t : Nat) (p : Option Addr) (b o cap : Nat) (R : List Nat) (v : Nat) (n : Nat) (w : World) (H : Rd w g t p b o cap R 0 0) (hp : pPace R = .ok v n) :
    Calls Try.prog 39 #[.pointer (some ⟨g, 0, none⟩)] w fun e w' => e = .returned (.float .f64 v) ∧ RdX w' g (t + n) b (R.drop n) 0 0 ∧ Bex g w w' := by
  have HE := hidp (elemPace_ok g t p b o cap R (.float .f64 v) n w H (fun w1 c _ _ hc => readPace_ok c t p b o cap R v n w1 hc hp))
  clear H hp
  go_enter Try.func39, Try.ntmps39
  go_wp2_with fail
  refine HE.out.mono ?_
  rintro e w1 ⟨rfl, h1, h2⟩
  have HX := hidp (And.intro h1 h2)
  clear h1 h2
  go_wp2
  go_ret
  exact ⟨rfl, HX.out⟩
theorem mPace_er (g t : Nat) (p : Option Addr) (b o cap : Nat) (R : List Nat) (x : Nat) (w : World) (H : Rd w g t p b o cap R 0 0) (hp : pPace R = .er x) :
    Calls Try.prog 39 #[.pointer (some ⟨g, 0, none⟩)] w fun e w' => e = .returned (.float .f64 0) ∧ RdX w' g t b [] x t ∧ Bex g w w' := by
  have HE := hidp (elemPace_er g t p b o cap R x w H (fun w1 c _ _ hc => readPace_er c t p b o cap R x w1 hc hp))
  clear H hp
  go_enter Try.func39, Try.ntmps39
  go_wp2_with fail
  refine HE.out.mono ?_
  rintro e w1 ⟨rfl, h1, h2⟩
  have HX := hidp (And.intro h1 h2)
  clear h1 h2
  go_wp2
  go_ret
  exact ⟨rfl, HX.out⟩
theorem mPace_dead (g t : Nat) (p : Option Addr) (b o cap : Nat) (R : List Nat) (x f : Nat) (w : World) (H : Rd w g t p b o cap R x f) (hx : x ≠ 0) :
    Calls Try.prog 39 #[.pointer (some ⟨g, 0, none⟩)] w fun e w' => e = .returned (.float .f64 0) ∧ Below w.heap.size w w' := by
  have HE := hidp (elemPace_dead g t p b o cap R x f w H hx)
  clear H hx
  go_enter Try.func39, Try.ntmps39
  go_wp2_with fail
  refine HE.out.mono ?_
  rintro e w1 ⟨rfl, h1⟩
  have HX := hidp h1
  clear h1
  go_wp2
  go_ret
  exact ⟨rfl, HX.out⟩

theorem mBool_ok (g t : Nat) (p : Option Addr) (b o cap : Nat) (R : List Nat) (v : Bool) (n : Nat) (w : World) (H : Rd w g t p b o cap R 0 0) (hp : pBool R = .ok v n) :
    Calls Try.prog 40 #[.pointer (some ⟨g, 0, none⟩)] w fun e w' => e = .returned (.bool v) ∧ RdX w' g (t + n) b (R.drop n) 0 0 ∧ Bex g w w' := by
  have HE := hidp (elemBool_ok g t p b o cap R (.bool v) n w H (fun w1 c _ _ hc => readBool_ok c t p b o cap R v n w1 hc hp))
  clear H hp
  go_enter Try.func40, Try.ntmps40
  go_wp2_with fail
  refine HE.out.mono ?_
  rintro e w1 ⟨rfl, h1, h2⟩
  have HX := hidp (And.intro h1 h2)
  clear h1 h2
  go_wp2
  go_ret
  exact ⟨rfl, HX.out⟩
theorem mBool_er (g t : Nat) (p : Option Addr) (b o cap : Nat) (R : List Nat) (x : Nat) (w : World) (H : Rd w g t p b o cap R 0 0) (hp : pBool R = .er x) :
    Calls Try.prog 40 #[.pointer (some ⟨g, 0, none⟩)] w fun e w' => e = .returned (.bool false) ∧ RdX w' g t b [] x t ∧ Bex g w w' := by
  have HE := hidp (elemBool_er g t p b o cap R x w H (fun w1 c _ _ hc => readBool_er c t p b o cap R x w1 hc hp))
  clear H hp
  go_enter Try.func40, Try.ntmps40
  go_wp2_with fail
  refine HE.out.mono ?_
  rintro e w1 ⟨rfl, h1, h2⟩
  have HX := hidp (And.intro h1 h2)
  clear h1 h2
  go_wp2
  go_ret
  exact ⟨rfl, HX.out⟩
theorem mBool_dead (g t : Nat) (p : Option Addr) (b o cap : Nat) (R : List Nat) (x f : Nat) (w : World) (H : Rd w g t p b o cap R x f) (hx : x ≠ 0) :
    Calls Try.prog 40 #[.pointer (some ⟨g, 0, none⟩)] w fun e w' => e = .returned (.bool false) ∧ Below w.heap.size w w' := by
  have HE := hidp (elemBool_dead g t p b o cap R x f w H hx)
  clear H hx
  go_enter Try.func40, Try.ntmps40
  go_wp2_with fail
  refine HE.out.mono ?_
  rintro e w1 ⟨rfl, h1⟩
  have HX := hidp h1
  clear h1
  go_wp2
  go_ret
  exact ⟨rfl, HX.out⟩


/-! A text: how many bytes it may have lies in a box. -/
theorem box_cell {w w1 : World} {z : Int} (hB : Below (w.alloc (.cells #[.int .i64 z] 3)).heap.size (w.alloc (.cells #[.int .i64 z] 3)) w1) : w1.cell? ⟨w.heap.size, 0, none⟩ = some (.int .i64 z) :=
  ((Blk.new w [.int .i64 z] 3).below hB (by simp)).cell 0
theorem mText_ok (g t : Nat) (p : Option Addr) (b o cap : Nat) (R : List Nat) (most : Int) (T : List Nat) (n : Nat) (w : World) (H : Rd w g t p b o cap R 0 0) (hp : pText R most = .ok T n) :
    Calls Try.prog 34 #[.pointer (some ⟨g, 0, none⟩), .int .i64 most] w fun e w' => e = .returned (.string (strB T)) ∧ RdX w' g (t + n) b (R.drop n) 0 0 ∧ Bex g w w' := by
  have hmf : ∀ (fn : Fn) (first cap : Array Value) (w : World), (Instr.makeFunc fn first cap).run Try.prog w = .ok (.func fn first cap) w := fun _ _ _ _ => rfl
  have HB : Hid (Below w.heap.size w (w.alloc (.cells #[.int .i64 most] 3))) := hidp ((Below.refl _ w).alloc (Nat.le_refl _) _)
  have HE := hidp (elemText_ok w.heap.size g t p b o cap R (.string (strB T)) n _ (H.below HB.out) (fun w1 c hb _ hc => readText_ok w.heap.size c t p b o cap R most T n w1 hc (box_cell hb) hp))
  clear H hp
  go_enter Try.func34, Try.ntmps34
  go_wp2_with fail
  refine HE.out.mono ?_
  rintro e w1 ⟨rfl, h1, h2⟩
  have HX := hidp (And.intro h1 ((((Bex.refl g w).alloc _).bex h2)))
  clear h1 h2 HE HB
  go_wp2
  go_ret
  exact ⟨rfl, HX.out⟩
theorem mText_er (g t : Nat) (p : Option Addr) (b o cap : Nat) (R : List Nat) (most : Int) (x : Nat) (w : World) (H : Rd w g t p b o cap R 0 0) (hp : pText R most = .er x) :
    Calls Try.prog 34 #[.pointer (some ⟨g, 0, none⟩), .int .i64 most] w fun e w' => e = .returned (.string ⟨#[]⟩) ∧ RdX w' g t b [] x t ∧ Bex g w w' := by
  have hmf : ∀ (fn : Fn) (first cap : Array Value) (w : World), (Instr.makeFunc fn first cap).run Try.prog w = .ok (.func fn first cap) w := fun _ _ _ _ => rfl
  have HB : Hid (Below w.heap.size w (w.alloc (.cells #[.int .i64 most] 3))) := hidp ((Below.refl _ w).alloc (Nat.le_refl _) _)
  have HE := hidp (elemText_er w.heap.size g t p b o cap R x _ (H.below HB.out) (fun w1 c hb _ hc => readText_er w.heap.size c t p b o cap R most x w1 hc (box_cell hb) hp))
  clear H hp
  go_enter Try.func34, Try.ntmps34
  go_wp2_with fail
  refine HE.out.mono ?_
  rintro e w1 ⟨rfl, h1, h2⟩
  have HX := hidp (And.intro h1 ((((Bex.refl g w).alloc _).bex h2)))
  clear h1 h2 HE HB
  go_wp2
  go_ret
  exact ⟨rfl, HX.out⟩
theorem mText_dead (g t : Nat) (p : Option Addr) (b o cap : Nat) (R : List Nat) (most : Int) (x f : Nat) (w : World) (H : Rd w g t p b o cap R x f) (hx : x ≠ 0) :
    Calls Try.prog 34 #[.pointer (some ⟨g, 0, none⟩), .int .i64 most] w fun e w' => e = .returned (.string ⟨#[]⟩) ∧ Below w.heap.size w w' := by
  have hmf : ∀ (fn : Fn) (first cap : Array Value) (w : World), (Instr.makeFunc fn first cap).run Try.prog w = .ok (.func fn first cap) w := fun _ _ _ _ => rfl
  have HB : Hid (Below w.heap.size w (w.alloc (.cells #[.int .i64 most] 3))) := hidp ((Below.refl _ w).alloc (Nat.le_refl _) _)
  have HE := hidp (elemText_dead w.heap.size g t p b o cap R x f _ (H.below HB.out) hx)
  clear H hx
  go_enter Try.func34, Try.ntmps34
  go_wp2_with fail
  refine HE.out.mono ?_
  rintro e w1 ⟨rfl, h1⟩
  have HX := hidp (btrans HB.out h1)
  clear h1 HE HB
  go_wp2
  go_ret
  exact ⟨rfl, HX.out⟩

/-! What is left, and the end. -/
theorem mRest_any (g t : Nat) (p : Option Addr) (b o cap : Nat) (R : List Nat) (e0 f0 : Nat) (w : World) (H : Rd w g t p b o cap R e0 f0) :
    Calls Try.prog 29 #[.pointer (some ⟨g, 0, none⟩)] w fun e w' => e = .returned (.int .i64 (R.length : Nat)) ∧ w = w' := by
  have HV := hidp (valid_yes H)
  have h2 := H.c2
  clear H
  go_enter Try.func29, Try.ntmps29
  go_wp2_with (go_at_call 94; refine HV.out.mono ?_; rintro e wx ⟨rfl, rfl⟩)
  go_ret
  exact ⟨rfl, rfl⟩
/-- What End tells. -/
def endE (e t f : Nat) (R : List Nat) : Nat × Nat := if e ≠ 0 then (e, f) else if 0 < R.length then (4, t) else (0, 0)
set_option maxRecDepth 20000 in
theorem mEnd_any (g t : Nat) (p : Option Addr) (b o cap : Nat) (R : List Nat) (e0 f0 : Nat) (w : World) (H : Rd w g t p b o cap R e0 f0) :
    Calls Try.prog 31 #[.pointer (some ⟨g, 0, none⟩)] w fun e w' => e = .returned (.agg #[.int .i64 ((endE e0 t f0 R).1 : Nat), .int .i64 ((endE e0 t f0 R).2 : Nat)]) ∧ Below w.heap.size w w' := by
  have HV := hidp (fun (w' : World) (hB : Below w.heap.size w w') => valid_yes (H.below hB))
  have h1 := H.c1
  have h2 := H.c2
  have h3 := H.c3
  have h4 := H.c4
  have hlt := H.blk.lt
  unfold endE
  by_cases he : e0 = 0
  · subst he
    simp only [ne_eq, not_true_eq_false, if_false]
    by_cases hr : 0 < R.length
    · simp only [hr, if_true]
      have hl : decide (0 < R.length) = true := decide_eq_true hr
      clear H
      go_enter Try.func31, Try.ntmps31
      go_wp2_with (go_at_call 94; refine (HV.out _ (by (repeat' (first | (with_reducible exact Below.refl _ _) | (with_reducible refine Below.alloc ?_ ?_ _) | (with_reducible refine Below.drew ?_) | (with_reducible refine Below.drewN ?_ _) | (with_reducible refine Below.setCell ?_ ?_ _) | go_size)))).mono ?_; rintro e wx ⟨rfl, rfl⟩)
      exact bodyPost_ret (v := .agg #[.int .i64 4, .int .i64 (t : Nat)]) (by simp [results, Try.results31, go_sem]) rfl ⟨rfl, by (repeat' (first | (with_reducible exact Below.refl _ _) | (with_reducible refine Below.alloc ?_ ?_ _) | (with_reducible refine Below.drew ?_) | (with_reducible refine Below.drewN ?_ _) | (with_reducible refine Below.setCell ?_ ?_ _) | go_size))⟩
    · simp only [hr, if_false]
      have hl : decide (0 < R.length) = false := decide_eq_false hr
      clear H
      go_enter Try.func31, Try.ntmps31
      go_wp2_with (go_at_call 94; refine (HV.out _ (by (repeat' (first | (with_reducible exact Below.refl _ _) | (with_reducible refine Below.alloc ?_ ?_ _) | (with_reducible refine Below.drew ?_) | (with_reducible refine Below.drewN ?_ _) | (with_reducible refine Below.setCell ?_ ?_ _) | go_size)))).mono ?_; rintro e wx ⟨rfl, rfl⟩)
      exact bodyPost_ret (v := .agg #[.int .i64 0, .int .i64 0]) (by simp [results, Try.results31, go_sem]) rfl ⟨rfl, by (repeat' (first | (with_reducible exact Below.refl _ _) | (with_reducible refine Below.alloc ?_ ?_ _) | (with_reducible refine Below.drew ?_) | (with_reducible refine Below.drewN ?_ _) | (with_reducible refine Below.setCell ?_ ?_ _) | go_size))⟩
  · simp only [ne_eq, he, not_false_eq_true, if_true]
    have hz : ((e0 : Int) == 0) = false := by rw [beq_eq_false_iff_ne]; omega
    have hz2 : ((e0 : Int) != 0) = true := by rw [bne_iff_ne]; omega
    clear H he
    go_enter Try.func31, Try.ntmps31
    go_wp2_with (go_at_call 94; refine (HV.out _ (by (repeat' (first | (with_reducible exact Below.refl _ _) | (with_reducible refine Below.alloc ?_ ?_ _) | (with_reducible refine Below.drew ?_) | (with_reducible refine Below.drewN ?_ _) | (with_reducible refine Below.setCell ?_ ?_ _) | go_size)))).mono ?_; rintro e wx ⟨rfl, rfl⟩)
    exact bodyPost_ret (v := .agg #[.int .i64 (e0 : Nat), .int .i64 (f0 : Nat)]) (by simp [results, Try.results31, go_sem]) rfl ⟨rfl, by (repeat' (first | (with_reducible exact Below.refl _ _) | (with_reducible refine Below.alloc ?_ ?_ _) | (with_reducible refine Below.drew ?_) | (with_reducible refine Below.drewN ?_ _) | (with_reducible refine Below.setCell ?_ ?_ _) | go_size))⟩

/-! A new reader. -/
theorem Bs.of_own {w : World} {base : Nat} {v : Value} {L : List Nat} (h : w.ownsRow base 5 1 v L.length (bvs L)) (hb : ∀ x ∈ L, x < 256) : ∃ p b cap, v = .slice p L.length cap ∧ base ≤ b ∧ (p = none → cap = 0) ∧ Bs w p b 0 L cap := by
  rcases h.2 with ⟨h1, h2⟩ | ⟨g, cap, cur, h1, h2, h3, h4, _, h6, h7⟩
  · exact ⟨none, base, 0, by rw [h1, h2], Nat.le_refl _, fun _ => rfl, hb, by omega, fun h0 => absurd h0 (by omega), fun i hi => absurd hi (by omega)⟩
  · rw [Nat.mul_one] at h7
    have hk : Blk w g (bvs L ++ cur.toList.drop L.length) 5 := by unfold Blk; rw [h3, ← h7, List.take_append_drop]
    refine ⟨some ⟨g, 0, none⟩, g, cap, h1, h2, fun h => (by cases h), hb, h4, fun _ => ⟨rfl, hk.lt⟩, fun i hi => ?_⟩
    rw [Nat.zero_add, hk.cell i, List.getElem?_append_left (by rw [bvs_len]; exact hi)]
    exact bvs_get hi
theorem ByS.of_bs {w : World} {p : Option Addr} {b o cap : Nat} {L : List Nat} (h : Bs w p b o L cap) (hp : p = Option.none → cap = 0) : ByS w p cap L := by
  refine ⟨h.byte, h.le, hp, fun x hx i hi => ?_⟩
  obtain ⟨h1, _⟩ := h.ptr (by have := h.le; omega)
  rw [hx] at h1
  cases h1
  rw [Addr.add_mid]
  exact h.here i hi
theorem run_sl_nil (a : Addr) (n c : Nat) (w : World) : (binOp .eql 32 (.slice (some a) n c) (.slice none 0 0)).run Try.prog w = .ok (.bool false) w := by
  have h : ∀ d : Nat, (Op.equalIn (d + 1) 32 (.slice (some a) n c) (.slice none 0 0)).run Try.prog w = .ok false w := fun d => by
    simp [Op.equalIn, run_underlying Try.underlying32]
  simp only [binOp]
  simp [Op.equal, Op.maxDepth, h 9999]
theorem run_nil_nil (w : World) : (binOp .eql 32 (.slice none 0 0) (.slice none 0 0)).run Try.prog w = .ok (.bool true) w := by kernel_rfl
set_option maxRecDepth 20000 in
set_option maxHeartbeats 2000000 in
theorem clone_some (y : Addr) (cap : Nat) (L : List Nat) (w : World) (h : ByS w (some y) cap L) (hn : L.length ≤ 4000000) :
    Calls Try.prog 84 #[.slice (some y) L.length cap] w fun e w' => (∃ p b cap', e = .returned (.slice p L.length cap') ∧ w.heap.size ≤ b ∧ (p = none → cap' = 0) ∧ Bs w' p b 0 L cap') ∧ Below w.heap.size w w' := by
  have hB : Hid (Below w.heap.size w (w.alloc (.cells #[] 5))) := hidp ((Below.refl _ w).alloc (Nat.le_refl _) _)
  have HS := hidp (h.below hB.out)
  have hown := hidp (own_nothing w)
  have HN := hidp hn
  have hby := hidp h.byte
  have q := fun w => run_sl_nil y L.length cap w
  clear h hn
  go_enter Try.func84, Try.ntmps84
  go_wp2_with (at_builtin; refine wpList_append_byS rfl _ _ rfl w.heap.size 0 [] _ rfl hown.out (some y) cap L rfl HS.out (by have := HN.out; omega) (by simp) ?_; intro v' w1 hown' hgrow; have hO := hidp hown'; have hB1 := hidp (hB.out.grown hgrow (by simp) (fun j hj => (hown.out.lt j hj).1)); clear hown' hgrow)
  have hO2 := hO.out
  rw [Nat.zero_add, List.nil_append] at hO2
  obtain ⟨p, b, c, rfl, hb, hp, hs⟩ := Bs.of_own hO2 hby.out
  go_ret
  exact ⟨⟨p, b, c, rfl, hb, hp, hs⟩, hB1.out⟩
set_option maxRecDepth 20000 in
theorem clone_none (w : World) : Calls Try.prog 84 #[.slice none 0 0] w fun e w' => e = .returned (.slice none 0 0) ∧ w = w' := by
  have q := run_nil_nil w
  go_enter Try.func84, Try.ntmps84
  go_wp2
  go_ret
  exact ⟨rfl, rfl⟩
end Go.Proofs.Ytlfmmmlheloloaa
