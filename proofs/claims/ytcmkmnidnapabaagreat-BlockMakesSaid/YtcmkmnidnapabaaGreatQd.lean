/-
  Texts Jj, Jx, Jk, Jl, one behind the other.
-/
import Derived.Test.YtcmkmnidnapabaaGreatQc
import Derived.Test.YtcmkmnidnapabaaGreatQa
import Derived.Lib.Strings
import Derived.Lib.Slices
import Derived.Lib.Small
import Derived.Lib.Walk
import Derived.Lib.BitFns
import Derived.Test.YtcmkmnidnapabaaGreatQb

/-! Jj: Contracts: the reader's methods Num, Word, Pace, Bool, Text, Rest, End. -/
namespace Go.Proofs.YtcmkmnidnapabaaGreat
open Go.RowKit Go.Lib Go.Maps

theorem Bex.toBelow {g B : Nat} {w w' : World} (h : Bex g w w') (hg : B ≤ g) (hB : B ≤ w.heap.size) : Below B w w' := h.below hg hB

theorem mNum_ok (g t : Nat) (p : Option Addr) (b o cap : Nat) (R : List Nat) (v : Nat) (n : Nat) (w : World) (H : Rd w g t p b o cap R 0 0) (hp : pNum R = .ok v n) :
    Calls Tryz.prog 89 #[.pointer (some ⟨g, 0, none⟩)] w fun e w' => e = .returned (.int .i64 (v : Nat)) ∧ RdX w' g (t + n) b (R.drop n) 0 0 ∧ Bex g w w' := by
  have HE := hidp (elemNum_ok g t p b o cap R (.int .i64 (v : Nat)) n w H (fun w1 c _ _ hc => number_ok c t p b o cap R v n w1 hc hp))
  clear H hp
  go_enter Tryz.func89, Tryz.ntmps89
  go_wp2_with fail
  refine HE.out.mono ?_
  rintro e w1 ⟨rfl, h1, h2⟩
  have HX := hidp (And.intro h1 h2)
  clear h1 h2
  go_wp2
  go_ret
  exact ⟨rfl, HX.out⟩
theorem mNum_er (g t : Nat) (p : Option Addr) (b o cap : Nat) (R : List Nat) (x : Nat) (w : World) (H : Rd w g t p b o cap R 0 0) (hp : pNum R = .er x) :
    Calls Tryz.prog 89 #[.pointer (some ⟨g, 0, none⟩)] w fun e w' => e = .returned (.int .i64 0) ∧ RdX w' g t b [] x t ∧ Bex g w w' := by
  have HE := hidp (elemNum_er g t p b o cap R x w H (fun w1 c _ _ hc => number_er c t p b o cap R x w1 hc hp))
  clear H hp
  go_enter Tryz.func89, Tryz.ntmps89
  go_wp2_with fail
  refine HE.out.mono ?_
  rintro e w1 ⟨rfl, h1, h2⟩
  have HX := hidp (And.intro h1 h2)
  clear h1 h2
  go_wp2
  go_ret
  exact ⟨rfl, HX.out⟩
theorem mNum_dead (g t : Nat) (p : Option Addr) (b o cap : Nat) (R : List Nat) (x f : Nat) (w : World) (H : Rd w g t p b o cap R x f) (hx : x ≠ 0) :
    Calls Tryz.prog 89 #[.pointer (some ⟨g, 0, none⟩)] w fun e w' => e = .returned (.int .i64 0) ∧ Below w.heap.size w w' := by
  have HE := hidp (elemNum_dead g t p b o cap R x f w H hx)
  clear H hx
  go_enter Tryz.func89, Tryz.ntmps89
  go_wp2_with fail
  refine HE.out.mono ?_
  rintro e w1 ⟨rfl, h1⟩
  have HX := hidp h1
  clear h1
  go_wp2
  go_ret
  exact ⟨rfl, HX.out⟩

theorem mWord_ok (g t : Nat) (p : Option Addr) (b o cap : Nat) (R : List Nat) (v : Nat) (n : Nat) (w : World) (H : Rd w g t p b o cap R 0 0) (hp : pWord R = .ok v n) :
    Calls Tryz.prog 165 #[.pointer (some ⟨g, 0, none⟩)] w fun e w' => e = .returned (.int .u64 (v : Nat)) ∧ RdX w' g (t + n) b (R.drop n) 0 0 ∧ Bex g w w' := by
  have HE := hidp (elemWord_ok g t p b o cap R (.int .u64 (v : Nat)) n w H (fun w1 c _ _ hc => readWord_ok c t p b o cap R v n w1 hc hp))
  clear H hp
  go_enter Tryz.func165, Tryz.ntmps165
  go_wp2_with fail
  refine HE.out.mono ?_
  rintro e w1 ⟨rfl, h1, h2⟩
  have HX := hidp (And.intro h1 h2)
  clear h1 h2
  go_wp2
  go_ret
  exact ⟨rfl, HX.out⟩
theorem mWord_er (g t : Nat) (p : Option Addr) (b o cap : Nat) (R : List Nat) (x : Nat) (w : World) (H : Rd w g t p b o cap R 0 0) (hp : pWord R = .er x) :
    Calls Tryz.prog 165 #[.pointer (some ⟨g, 0, none⟩)] w fun e w' => e = .returned (.int .u64 0) ∧ RdX w' g t b [] x t ∧ Bex g w w' := by
  have HE := hidp (elemWord_er g t p b o cap R x w H (fun w1 c _ _ hc => readWord_er c t p b o cap R x w1 hc hp))
  clear H hp
  go_enter Tryz.func165, Tryz.ntmps165
  go_wp2_with fail
  refine HE.out.mono ?_
  rintro e w1 ⟨rfl, h1, h2⟩
  have HX := hidp (And.intro h1 h2)
  clear h1 h2
  go_wp2
  go_ret
  exact ⟨rfl, HX.out⟩
theorem mWord_dead (g t : Nat) (p : Option Addr) (b o cap : Nat) (R : List Nat) (x f : Nat) (w : World) (H : Rd w g t p b o cap R x f) (hx : x ≠ 0) :
    Calls Tryz.prog 165 #[.pointer (some ⟨g, 0, none⟩)] w fun e w' => e = .returned (.int .u64 0) ∧ Below w.heap.size w w' := by
  have HE := hidp (elemWord_dead g t p b o cap R x f w H hx)
  clear H hx
  go_enter Tryz.func165, Tryz.ntmps165
  go_wp2_with fail
  refine HE.out.mono ?_
  rintro e w1 ⟨rfl, h1⟩
  have HX := hidp h1
  clear h1
  go_wp2
  go_ret
  exact ⟨rfl, HX.out⟩

/-! A text: how many bytes it may have lies in a box. -/
theorem box_cell {w w1 : World} {z : Int} (hB : Below (w.alloc (.cells #[.int .i64 z] 3)).heap.size (w.alloc (.cells #[.int .i64 z] 3)) w1) : w1.cell? ⟨w.heap.size, 0, none⟩ = some (.int .i64 z) :=
  ((Blk.new w [.int .i64 z] 3).below hB (by simp)).cell 0
theorem mText_ok (g t : Nat) (p : Option Addr) (b o cap : Nat) (R : List Nat) (most : Int) (T : List Nat) (n : Nat) (w : World) (H : Rd w g t p b o cap R 0 0) (hp : pText R most = .ok T n) :
    Calls Tryz.prog 197 #[.pointer (some ⟨g, 0, none⟩), .int .i64 most] w fun e w' => e = .returned (.string (strB T)) ∧ RdX w' g (t + n) b (R.drop n) 0 0 ∧ Bex g w w' := by
  have hmf : ∀ (fn : Fn) (first cap : Array Value) (w : World), (Instr.makeFunc fn first cap).run Tryz.prog w = .ok (.func fn first cap) w := fun _ _ _ _ => rfl
  have HB : Hid (Below w.heap.size w (w.alloc (.cells #[.int .i64 most] 3))) := hidp ((Below.refl _ w).alloc (Nat.le_refl _) _)
  have HE := hidp (elemText_ok w.heap.size g t p b o cap R (.string (strB T)) n _ (H.below HB.out) (fun w1 c hb _ hc => readText_ok w.heap.size c t p b o cap R most T n w1 hc (box_cell hb) hp))
  clear H hp
  go_enter Tryz.func197, Tryz.ntmps197
  go_wp2_with fail
  refine HE.out.mono ?_
  rintro e w1 ⟨rfl, h1, h2⟩
  have HX := hidp (And.intro h1 ((((Bex.refl g w).alloc _).bex h2)))
  clear h1 h2 HE HB
  go_wp2
  go_ret
  exact ⟨rfl, HX.out⟩
theorem mText_er (g t : Nat) (p : Option Addr) (b o cap : Nat) (R : List Nat) (most : Int) (x : Nat) (w : World) (H : Rd w g t p b o cap R 0 0) (hp : pText R most = .er x) :
    Calls Tryz.prog 197 #[.pointer (some ⟨g, 0, none⟩), .int .i64 most] w fun e w' => e = .returned (.string ⟨#[]⟩) ∧ RdX w' g t b [] x t ∧ Bex g w w' := by
  have hmf : ∀ (fn : Fn) (first cap : Array Value) (w : World), (Instr.makeFunc fn first cap).run Tryz.prog w = .ok (.func fn first cap) w := fun _ _ _ _ => rfl
  have HB : Hid (Below w.heap.size w (w.alloc (.cells #[.int .i64 most] 3))) := hidp ((Below.refl _ w).alloc (Nat.le_refl _) _)
  have HE := hidp (elemText_er w.heap.size g t p b o cap R x _ (H.below HB.out) (fun w1 c hb _ hc => readText_er w.heap.size c t p b o cap R most x w1 hc (box_cell hb) hp))
  clear H hp
  go_enter Tryz.func197, Tryz.ntmps197
  go_wp2_with fail
  refine HE.out.mono ?_
  rintro e w1 ⟨rfl, h1, h2⟩
  have HX := hidp (And.intro h1 ((((Bex.refl g w).alloc _).bex h2)))
  clear h1 h2 HE HB
  go_wp2
  go_ret
  exact ⟨rfl, HX.out⟩
theorem mText_dead (g t : Nat) (p : Option Addr) (b o cap : Nat) (R : List Nat) (most : Int) (x f : Nat) (w : World) (H : Rd w g t p b o cap R x f) (hx : x ≠ 0) :
    Calls Tryz.prog 197 #[.pointer (some ⟨g, 0, none⟩), .int .i64 most] w fun e w' => e = .returned (.string ⟨#[]⟩) ∧ Below w.heap.size w w' := by
  have hmf : ∀ (fn : Fn) (first cap : Array Value) (w : World), (Instr.makeFunc fn first cap).run Tryz.prog w = .ok (.func fn first cap) w := fun _ _ _ _ => rfl
  have HB : Hid (Below w.heap.size w (w.alloc (.cells #[.int .i64 most] 3))) := hidp ((Below.refl _ w).alloc (Nat.le_refl _) _)
  have HE := hidp (elemText_dead w.heap.size g t p b o cap R x f _ (H.below HB.out) hx)
  clear H hx
  go_enter Tryz.func197, Tryz.ntmps197
  go_wp2_with fail
  refine HE.out.mono ?_
  rintro e w1 ⟨rfl, h1⟩
  have HX := hidp (btrans HB.out h1)
  clear h1 HE HB
  go_wp2
  go_ret
  exact ⟨rfl, HX.out⟩

/-! What is left, and the end. -/
theorem mRest_any (g t : Nat) (p : Option Addr) (b o cap : Nat) (R : List Nat) (e0 f0 : Nat) (w : World) (H : Rd w g t p b o cap R e0 f0) :
    Calls Tryz.prog 90 #[.pointer (some ⟨g, 0, none⟩)] w fun e w' => e = .returned (.int .i64 (R.length : Nat)) ∧ w = w' := by
  have HV := hidp (valid_yes H)
  have h2 := H.c2
  clear H
  go_enter Tryz.func90, Tryz.ntmps90
  go_wp2_with (go_at_call 163; refine HV.out.mono ?_; rintro e wx ⟨rfl, rfl⟩)
  go_ret
  exact ⟨rfl, rfl⟩
/-- What End tells. -/
def endE (e t f : Nat) (R : List Nat) : Nat × Nat := if e ≠ 0 then (e, f) else if 0 < R.length then (4, t) else (0, 0)
set_option maxRecDepth 20000 in
theorem mEnd_any (g t : Nat) (p : Option Addr) (b o cap : Nat) (R : List Nat) (e0 f0 : Nat) (w : World) (H : Rd w g t p b o cap R e0 f0) :
    Calls Tryz.prog 92 #[.pointer (some ⟨g, 0, none⟩)] w fun e w' => e = .returned (.agg #[.int .i64 ((endE e0 t f0 R).1 : Nat), .int .i64 ((endE e0 t f0 R).2 : Nat)]) ∧ Below w.heap.size w w' := by
  have HV := hidp (fun (w' : World) (hB : Below w.heap.size w w') => valid_yes (H.below hB))
  have h1 := H.c1
  have h2 := H.c2
  have h3 := H.c3
  have h4 := H.c4
  have hlt := H.blk.lt
  unfold endE
  by_cases he : e0 = 0
  · subst he
    simp only [ne_eq, not_true_eq_false, if_false]
    by_cases hr : 0 < R.length
    · simp only [hr, if_true]
      have hl : decide (0 < R.length) = true := decide_eq_true hr
      clear H
      go_enter Tryz.func92, Tryz.ntmps92
      go_wp2_with (go_at_call 163; refine (HV.out _ (by (repeat' (first | (with_reducible exact Below.refl _ _) | (with_reducible refine Below.alloc ?_ ?_ _) | (with_reducible refine Below.drew ?_) | (with_reducible refine Below.drewN ?_ _) | (with_reducible refine Below.setCell ?_ ?_ _) | go_size)))).mono ?_; rintro e wx ⟨rfl, rfl⟩)
      exact bodyPost_ret (v := .agg #[.int .i64 4, .int .i64 (t : Nat)]) (by simp [results, Tryz.results92, go_sem]) rfl ⟨rfl, by (repeat' (first | (with_reducible exact Below.refl _ _) | (with_reducible refine Below.alloc ?_ ?_ _) | (with_reducible refine Below.drew ?_) | (with_reducible refine Below.drewN ?_ _) | (with_reducible refine Below.setCell ?_ ?_ _) | go_size))⟩
    · simp only [hr, if_false]
      have hl : decide (0 < R.length) = false := decide_eq_false hr
      clear H
      go_enter Tryz.func92, Tryz.ntmps92
      go_wp2_with (go_at_call 163; refine (HV.out _ (by (repeat' (first | (with_reducible exact Below.refl _ _) | (with_reducible refine Below.alloc ?_ ?_ _) | (with_reducible refine Below.drew ?_) | (with_reducible refine Below.drewN ?_ _) | (with_reducible refine Below.setCell ?_ ?_ _) | go_size)))).mono ?_; rintro e wx ⟨rfl, rfl⟩)
      exact bodyPost_ret (v := .agg #[.int .i64 0, .int .i64 0]) (by simp [results, Tryz.results92, go_sem]) rfl ⟨rfl, by (repeat' (first | (with_reducible exact Below.refl _ _) | (with_reducible refine Below.alloc ?_ ?_ _) | (with_reducible refine Below.drew ?_) | (with_reducible refine Below.drewN ?_ _) | (with_reducible refine Below.setCell ?_ ?_ _) | go_size))⟩
  · simp only [ne_eq, he, not_false_eq_true, if_true]
    have hz : ((e0 : Int) == 0) = false := by rw [beq_eq_false_iff_ne]; omega
    have hz2 : ((e0 : Int) != 0) = true := by rw [bne_iff_ne]; omega
    clear H he
    go_enter Tryz.func92, Tryz.ntmps92
    go_wp2_with (go_at_call 163; refine (HV.out _ (by (repeat' (first | (with_reducible exact Below.refl _ _) | (with_reducible refine Below.alloc ?_ ?_ _) | (with_reducible refine Below.drew ?_) | (with_reducible refine Below.drewN ?_ _) | (with_reducible refine Below.setCell ?_ ?_ _) | go_size)))).mono ?_; rintro e wx ⟨rfl, rfl⟩)
    exact bodyPost_ret (v := .agg #[.int .i64 (e0 : Nat), .int .i64 (f0 : Nat)]) (by simp [results, Tryz.results92, go_sem]) rfl ⟨rfl, by (repeat' (first | (with_reducible exact Below.refl _ _) | (with_reducible refine Below.alloc ?_ ?_ _) | (with_reducible refine Below.drew ?_) | (with_reducible refine Below.drewN ?_ _) | (with_reducible refine Below.setCell ?_ ?_ _) | go_size))⟩

/-! A new reader. -/
theorem Bs.of_own {w : World} {base : Nat} {v : Value} {L : List Nat} (h : w.ownsRow base 5 1 v L.length (bvs L)) (hb : ∀ x ∈ L, x < 256) : ∃ p b cap, v = .slice p L.length cap ∧ base ≤ b ∧ (p = none → cap = 0) ∧ Bs w p b 0 L cap := by
  rcases h.2 with ⟨h1, h2⟩ | ⟨g, cap, cur, h1, h2, h3, h4, _, h6, h7⟩
  · exact ⟨none, base, 0, by rw [h1, h2], Nat.le_refl _, fun _ => rfl, hb, by omega, fun h0 => absurd h0 (by omega), fun i hi => absurd hi (by omega)⟩
  · rw [Nat.mul_one] at h7
    have hk : Blk w g (bvs L ++ cur.toList.drop L.length) 5 := by unfold Blk; rw [h3, ← h7, List.take_append_drop]
    refine ⟨some ⟨g, 0, none⟩, g, cap, h1, h2, fun h => (by cases h), hb, h4, fun _ => ⟨rfl, hk.lt⟩, fun i hi => ?_⟩
    rw [Nat.zero_add, hk.cell i, List.getElem?_append_left (by rw [bvs_len]; exact hi)]
    exact bvs_get hi
theorem ByS.of_bs {w : World} {p : Option Addr} {b o cap : Nat} {L : List Nat} (h : Bs w p b o L cap) (hp : p = Option.none → cap = 0) : ByS w p cap L := by
  refine ⟨h.byte, h.le, hp, fun x hx i hi => ?_⟩
  obtain ⟨h1, _⟩ := h.ptr (by have := h.le; omega)
  rw [hx] at h1
  cases h1
  rw [Addr.add_mid]
  exact h.here i hi
theorem run_sl_nil (a : Addr) (n c : Nat) (w : World) : (binOp .eql 35 (.slice (some a) n c) (.slice none 0 0)).run Tryz.prog w = .ok (.bool false) w := by
  have h : ∀ d : Nat, (Op.equalIn (d + 1) 35 (.slice (some a) n c) (.slice none 0 0)).run Tryz.prog w = .ok false w := fun d => by
    simp [Op.equalIn, run_underlying Tryz.underlying35]
  simp only [binOp]
  simp [Op.equal, Op.maxDepth, h 9999]
theorem run_nil_nil (w : World) : (binOp .eql 35 (.slice none 0 0) (.slice none 0 0)).run Tryz.prog w = .ok (.bool true) w := by kernel_rfl
set_option maxRecDepth 20000 in
set_option maxHeartbeats 2000000 in
theorem clone_some (y : Addr) (cap : Nat) (L : List Nat) (w : World) (h : ByS w (some y) cap L) (hn : L.length ≤ 4000000) :
    Calls Tryz.prog 152 #[.slice (some y) L.length cap] w fun e w' => (∃ p b cap', e = .returned (.slice p L.length cap') ∧ w.heap.size ≤ b ∧ (p = none → cap' = 0) ∧ Bs w' p b 0 L cap') ∧ Below w.heap.size w w' := by
  have hB : Hid (Below w.heap.size w (w.alloc (.cells #[] 5))) := hidp ((Below.refl _ w).alloc (Nat.le_refl _) _)
  have HS := hidp (h.below hB.out)
  have hown := hidp (own_nothing w)
  have HN := hidp hn
  have hby := hidp h.byte
  have q := fun w => run_sl_nil y L.length cap w
  clear h hn
  go_enter Tryz.func152, Tryz.ntmps152
  go_wp2_with (at_builtin; refine wpList_append_byS rfl _ _ rfl w.heap.size 0 [] _ rfl hown.out (some y) cap L rfl HS.out (by have := HN.out; omega) (by simp) ?_; intro v' w1 hown' hgrow; have hO := hidp hown'; have hB1 := hidp (hB.out.grown hgrow (by simp) (fun j hj => (hown.out.lt j hj).1)); clear hown' hgrow)
  have hO2 := hO.out
  rw [Nat.zero_add, List.nil_append] at hO2
  obtain ⟨p, b, c, rfl, hb, hp, hs⟩ := Bs.of_own hO2 hby.out
  go_ret
  exact ⟨⟨p, b, c, rfl, hb, hp, hs⟩, hB1.out⟩
set_option maxRecDepth 20000 in
theorem clone_none (w : World) : Calls Tryz.prog 152 #[.slice none 0 0] w fun e w' => e = .returned (.slice none 0 0) ∧ w = w' := by
  have q := run_nil_nil w
  go_enter Tryz.func152, Tryz.ntmps152
  go_wp2
  go_ret
  exact ⟨rfl, rfl⟩
end Go.Proofs.YtcmkmnidnapabaaGreat

/-! Jx: Contracts: a reader's Bytes. -/
namespace Go.Proofs.YtcmkmnidnapabaaGreat
open Go.RowKit Go.Lib Go.Maps

/-- Bytes of one's own, in a row from base on. -/
def FB (base : Nat) (T : List Nat) (v : Value) (w : World) : Prop := ∃ p b cap, v = .slice p T.length cap ∧ base ≤ b ∧ (p = none → cap = 0) ∧ Bs w p b 0 T cap
theorem FB.bex {base g : Nat} {T : List Nat} {v : Value} {w w' : World} (h : FB base T v w) (hb : Bex g w w') (hg : g < base) : FB base T v w' := by
  obtain ⟨p, b, cap, h1, h2, h3, h4⟩ := h
  exact ⟨p, b, cap, h1, h2, h3, h4.bex hb (fun _ => by omega)⟩
theorem FB.below {base : Nat} {T : List Nat} {v : Value} {w w' : World} (h : FB base T v w) (hb : Below w.heap.size w w') : FB base T v w' := by
  obtain ⟨p, b, cap, h1, h2, h3, h4⟩ := h
  exact ⟨p, b, cap, h1, h2, h3, h4.below hb⟩
theorem FB.mono {base base' : Nat} {T : List Nat} {v : Value} {w : World} (h : FB base T v w) (hb : base' ≤ base) : FB base' T v w := by
  obtain ⟨p, b, cap, h1, h2, h3, h4⟩ := h
  exact ⟨p, b, cap, h1, Nat.le_trans hb h2, h3, h4⟩
theorem Bs.none_cap {w : World} {p : Option Addr} {b o cap : Nat} {L : List Nat} (h : Bs w p b o L cap) : p = none → cap = 0 := fun hp => by
  rcases Nat.eq_zero_or_pos cap with h0 | h0
  · exact h0
  · exact absurd ((h.ptr h0).1.symm.trans hp) (by simp)
theorem clone_any (p : Option Addr) (b o cap : Nat) (L : List Nat) (w : World) (h : Bs w p b o L cap) (hn : L.length ≤ 4000000) :
    Calls Tryz.prog 152 #[.slice p L.length cap] w fun e w' => (∃ v, e = .returned v ∧ FB w.heap.size L v w') ∧ Below w.heap.size w w' := by
  cases hp : p with
  | some y =>
    rw [hp] at h
    refine (clone_some y cap L w (ByS.of_bs h h.none_cap) hn).mono ?_
    rintro e w' ⟨⟨p', b', c', rfl, h1, h2, h3⟩, h4⟩
    exact ⟨⟨_, rfl, p', b', c', rfl, h1, h2, h3⟩, h4⟩
  | none =>
    have h0 : cap = 0 := h.none_cap hp
    have hL : L = [] := List.eq_nil_of_length_eq_zero (by have := h.le; omega)
    subst h0 hL
    refine (clone_none w).mono ?_
    rintro e w' ⟨rfl, rfl⟩
    exact ⟨⟨_, rfl, none, w.heap.size, 0, rfl, Nat.le_refl _, fun _ => rfl, ⟨by simp, by simp, fun h0 => absurd h0 (by omega), fun i hi => absurd hi (by simp)⟩⟩, Below.refl _ w⟩
theorem Cu.below' {w w' : World} {c t : Nat} {p : Option Addr} {b o cap : Nat} {R : List Nat} (H : Cu w c t p b o cap R) (hB : Below w.heap.size w w') : Cu w' c t p b o cap R := ⟨H.blk.below hB H.blk.lt, H.bs.below hB, H.ne, H.lim⟩
theorem readBytes_ok (mb c t : Nat) (p : Option Addr) (b o cap : Nat) (R : List Nat) (most : Int) (T : List Nat) (n : Nat) (w : World) (H : Cu w c t p b o cap R) (h4 : R.length ≤ 4000000) (hm : w.cell? ⟨mb, 0, none⟩ = some (.int .i64 most)) (hp : pText R most = .ok T n) :
    Calls Tryz.prog 245 #[.pointer (some ⟨c, 0, none⟩), .pointer (some ⟨mb, 0, none⟩)] w fun e w' => (∃ v, e = .returned v ∧ FB w.heap.size T v w') ∧ CuX w' c (t + n) b (R.drop n) cap ∧ Bex c w w' := by
  unfold pText at hp
  cases hn : pLen R most with
  | er x => rw [hn] at hp; cases hp
  | ok v n' =>
    rw [hn] at hp
    by_cases hl : R.length - n' < v
    · simp only [hl, if_true] at hp; cases hp
    · simp only [hl, if_false] at hp
      cases hp
      have HN := hidp (length_ok c t p b o cap R most v n' w H hn)
      have HL := hidp hl
      have H4 := hidp h4
      clear H hn hl h4
      go_enter Tryz.func245, Tryz.ntmps245
      go_wp2_with fail
      refine HN.out.mono ?_
      rintro e w1 ⟨rfl, ⟨p1, o1, cap1, hc1, hx⟩, hb⟩
      have HX := hidp hx
      have HB := hidp (And.intro hb hc1)
      clear hx hb hc1
      go_wp2_with fail
      refine takeBytes_ok c (t + n') p1 b o1 cap1 (R.drop n') v w1 HX.out (by have := HL.out; rw [List.length_drop]; omega) _ (fun w2 a1 a2 a3 => ?_)
      have hlen : ((R.drop n').take v).length = v := by have := HL.out; rw [List.length_take, List.length_drop]; omega
      have q := clone_any p1 b o1 cap1 _ w2 a2 (by rw [hlen]; have := HL.out; have := H4.out; omega)
      rw [hlen] at q
      refine q.mono ?_
      rintro e w3 ⟨⟨y, rfl, hy⟩, hb3⟩
      refine .inl ⟨_, rfl, ?_⟩
      have B1 := hidp (a1.below' hb3)
      have B3 := hidp ((HB.out.1.trans a3).trans (Bex.of_below hb3))
      have HY := hidp (hy.mono (Nat.le_trans HB.out.1.size a3.size))
      clear a1 a2 a3 q hlen hy hb3
      go_wp2
      go_ret
      have hcu : Cu w3 c (t + (n' + v)) (partA p1 cap1 v) b (o1 + v) (cap1 - v) (R.drop (n' + v)) := by
        have := B1.out
        rw [List.drop_drop, Nat.add_assoc] at this
        exact this
      exact ⟨⟨_, rfl, HY.out⟩, ⟨_, _, _, Nat.le_trans (Nat.sub_le _ _) HB.out.2, hcu⟩, B3.out⟩
theorem readBytes_er (mb c t : Nat) (p : Option Addr) (b o cap : Nat) (R : List Nat) (most : Int) (x : Nat) (w : World) (H : Cu w c t p b o cap R) (hm : w.cell? ⟨mb, 0, none⟩ = some (.int .i64 most)) (hp : pText R most = .er x) :
    Calls Tryz.prog 245 #[.pointer (some ⟨c, 0, none⟩), .pointer (some ⟨mb, 0, none⟩)] w fun e w' => e = .panicked (brk x) ∧ Bex c w w' := by
  unfold pText at hp
  cases hn : pLen R most with
  | er x' =>
    rw [hn] at hp; cases hp
    have HN := hidp (length_er c t p b o cap R most x w H hn)
    clear H hn
    go_enter Tryz.func245, Tryz.ntmps245
    go_wp2_with fail
    refine HN.out.mono ?_
    rintro e w1 ⟨rfl, hb⟩
    exact ⟨rfl, rfl, hb⟩
  | ok v n' =>
    rw [hn] at hp
    by_cases hl : R.length - n' < v
    · simp only [hl, if_true] at hp
      cases hp
      have HN := hidp (length_ok c t p b o cap R most v n' w H hn)
      have HL := hidp hl
      clear H hn hl
      go_enter Tryz.func245, Tryz.ntmps245
      go_wp2_with fail
      refine HN.out.mono ?_
      rintro e w1 ⟨rfl, ⟨p1, o1, cap1, hc1, hx⟩, hb⟩
      have HX := hidp hx
      have HB := hidp hb
      clear hx hb hc1
      go_wp2_with fail
      refine (takeBytes_short c (t + n') p1 b o1 cap1 (R.drop n') v w1 HX.out (by have := HL.out; rw [List.length_drop]; omega)).mono ?_
      rintro e w2 ⟨rfl, hB⟩
      exact ⟨rfl, rfl, HB.out.trans (Bex.of_below hB)⟩
    · simp only [hl, if_false] at hp; cases hp

set_option maxRecDepth 20000 in
theorem elemBytes_ok (mb : Nat) (g t : Nat) (p : Option Addr) (b o cap : Nat) (R : List Nat) (VP : Value → World → Prop) (hVP : ∀ v w1 w2, VP v w1 → Bex g w1 w2 → VP v w2) (n : Nat) (w : World) (H : Rd w g t p b o cap R 0 0)
    (hread : ∀ w1 c, Below w.heap.size w w1 → w.heap.size ≤ c → Cu w1 c t p b o cap R → Calls Tryz.prog 245 #[.pointer (some ⟨c, 0, none⟩), .pointer (some ⟨mb, 0, none⟩)] w1 fun e w' => (∃ v, e = .returned v ∧ VP v w') ∧ CuX w' c (t + n) b (R.drop n) cap ∧ Bex c w1 w') :
    Calls Tryz.prog 244 #[.pointer (some ⟨g, 0, none⟩), .func (.func 245) #[] #[.pointer (some ⟨mb, 0, none⟩)]] w fun e w' => (∃ v, e = .returned v ∧ VP v w') ∧ RdX w' g (t + n) b (R.drop n) 0 0 ∧ Bex g w w' := by
  have hmf : ∀ (fn : Fn) (first cap : Array Value) (w : World), (Instr.makeFunc fn first cap).run Tryz.prog w = .ok (.func fn first cap) w := fun _ _ _ _ => rfl
  have h1 := H.c1
  have h2 := H.c2
  have h3 := H.c3
  have HV := hidp (fun (w' : World) (hB : Below w.heap.size w w') => valid_yes (H.below hB))
  have HH := hidp H
  have hlt := H.blk.lt
  have hread := hidp hread
  clear H
  go_enter_defers Tryz.func244, Tryz.ntmps244
  go_wp2_with (go_at_call 163; refine (HV.out _ (by (repeat' (first | (with_reducible exact Below.refl _ _) | (with_reducible refine Below.alloc ?_ ?_ _) | (with_reducible refine Below.drew ?_) | (with_reducible refine Below.drewN ?_ _) | (with_reducible refine Below.setCell ?_ ?_ _) | go_size)))).mono ?_; rintro e wx ⟨rfl, rfl⟩)
  refine (hread.out _ _ (elW_cu HH.out).2.1 (by omega) (elW_cu HH.out).1).mono ?_
  rintro e w1 ⟨⟨v, rfl, hvp⟩, hx, hbx⟩
  obtain ⟨p', o', cap', hE⟩ := ElB.of HH.out hx hbx
  have HE := hidp hE
  obtain ⟨pq, oq, capq, hrd⟩ := hE.rd
  have d0 := hE.cu.c0
  have d1 := hE.cu.c1
  have hbox := hE.box
  have g1 := hrd.c1
  have g2 := hrd.c2
  have f1 := hrd.blk.free 1
  have f2 := hrd.blk.free 2
  have HR := hidp hrd
  have hvp := hidp hvp
  clear hE hx hbx hrd HV HH hread h1 h2 h3
  go_wp2
  have e1 : (t : Int) + (n : Int) = ((t + n : Nat) : Int) := by omega
  have e2 : R.length - n = (R.drop n).length := by rw [List.length_drop]
  rw [e1, e2]
  have hput := HR.out.put HE.out.cu.bs HE.out.ne HE.out.cu.lim
  have hbe : Bex g w1 ((w1.setCell ⟨g, 1, none⟩ (.int .i64 (t + n : Nat))).setCell ⟨g, 2, none⟩ (.slice p' (R.drop n).length cap')) := ((Bex.refl g w1).setCell _ _).setCell _ _
  refine leaves_cons (f := 280) (args := #[.pointer (some ⟨w.heap.size, 0, none⟩)]) (by simp) (by simp [go_sem]) ?_
  refine (endBytes_none w.heap.size g _ ?_).mono ?_
  · have hlt : w.heap.size < w1.heap.size := by have := cell_lt HE.out.box; exact this
    exact (World.cell?_of_block (a := ⟨w.heap.size, 0, none⟩) (hbe.block w.heap.size hlt (by have := HE.out.hg; omega))).trans HE.out.box
  rintro e u' w'' ⟨rfl, rfl, rfl⟩
  have qv := hVP v _ _ hvp.out (hbe.drew)
  exact ⟨_, results_tmp rfl _ _ _, ⟨v, rfl, qv⟩, ⟨_, _, _, hput.drew⟩, (HE.out.bex.bex hbe).drew⟩
set_option maxRecDepth 20000 in
theorem elemBytes_er (mb : Nat) (g t : Nat) (p : Option Addr) (b o cap : Nat) (R : List Nat) (x : Nat) (w : World) (H : Rd w g t p b o cap R 0 0)
    (hread : ∀ w1 c, Below w.heap.size w w1 → w.heap.size ≤ c → Cu w1 c t p b o cap R → Calls Tryz.prog 245 #[.pointer (some ⟨c, 0, none⟩), .pointer (some ⟨mb, 0, none⟩)] w1 fun e w' => e = .panicked (brk x) ∧ Bex c w1 w') :
    Calls Tryz.prog 244 #[.pointer (some ⟨g, 0, none⟩), .func (.func 245) #[] #[.pointer (some ⟨mb, 0, none⟩)]] w fun e w' => e = .returned (.slice none 0 0) ∧ RdX w' g t b [] x t ∧ Bex g w w' := by
  have hmf : ∀ (fn : Fn) (first cap : Array Value) (w : World), (Instr.makeFunc fn first cap).run Tryz.prog w = .ok (.func fn first cap) w := fun _ _ _ _ => rfl
  have h1 := H.c1
  have h2 := H.c2
  have h3 := H.c3
  have HV := hidp (fun (w' : World) (hB : Below w.heap.size w w') => valid_yes (H.below hB))
  have HH := hidp H
  have hlt := H.blk.lt
  have hread := hidp hread
  clear H
  go_enter_defers Tryz.func244, Tryz.ntmps244
  go_wp2_with (go_at_call 163; refine (HV.out _ (by (repeat' (first | (with_reducible exact Below.refl _ _) | (with_reducible refine Below.alloc ?_ ?_ _) | (with_reducible refine Below.drew ?_) | (with_reducible refine Below.drewN ?_ _) | (with_reducible refine Below.setCell ?_ ?_ _) | go_size)))).mono ?_; rintro e wx ⟨rfl, rfl⟩)
  refine (hread.out _ _ (elW_cu HH.out).2.1 (by omega) (elW_cu HH.out).1).mono ?_
  rintro e w1 ⟨rfl, hbx⟩
  obtain ⟨a1, a2, a3, a4⟩ := elW_cu HH.out
  have hs : (elW w g t p R.length cap).heap.size = w.heap.size + 2 := by unfold elW; simp
  have hrd : Rd w1 g t p b o cap R 0 0 := a4.bex hbx (by omega) (fun h0 => by have := (HH.out.bs.ptr h0).2; omega)
  have hbox : w1.cell? ⟨w.heap.size, 0, none⟩ = some (.pointer (some ⟨g, 0, none⟩)) := (hbx.blk a3 (by omega)).cell 0
  have hb2 : Bex g w w1 := ⟨hbx.os.trans a2.os, hbx.tape.trans a2.tape, hbx.output.trans a2.output, Nat.le_trans a2.size hbx.size, fun k hk _ => (hbx.block k (by omega) (by omega)).trans (a2.block k hk)⟩
  refine leaves_cons (f := 280) (args := #[.pointer (some ⟨w.heap.size, 0, none⟩)]) (by simp) (by simp [go_sem]) ?_
  refine (endBytes_brk w.heap.size g t p b o cap R 0 0 x _ hrd hbox).mono ?_
  rintro e u' w'' ⟨rfl, rfl, h5, h6⟩
  exact ⟨_, results_tmp rfl _ _ _, rfl, h5, hb2.bex h6⟩
theorem mBytes_ok (g t : Nat) (p : Option Addr) (b o cap : Nat) (R : List Nat) (most : Int) (T : List Nat) (n : Nat) (w : World) (H : Rd w g t p b o cap R 0 0) (h4 : R.length ≤ 4000000) (hp : pText R most = .ok T n) :
    Calls Tryz.prog 195 #[.pointer (some ⟨g, 0, none⟩), .int .i64 most] w fun e w' => (∃ v, e = .returned v ∧ FB w.heap.size T v w') ∧ RdX w' g (t + n) b (R.drop n) 0 0 ∧ Bex g w w' := by
  have hmf : ∀ (fn : Fn) (first cap : Array Value) (w : World), (Instr.makeFunc fn first cap).run Tryz.prog w = .ok (.func fn first cap) w := fun _ _ _ _ => rfl
  have HB : Hid (Below w.heap.size w (w.alloc (.cells #[.int .i64 most] 3))) := hidp ((Below.refl _ w).alloc (Nat.le_refl _) _)
  have HE := hidp (elemBytes_ok w.heap.size g t p b o cap R (FB w.heap.size T) (fun v w1 w2 hv hb => hv.bex hb H.blk.lt) n _ (H.below HB.out) (fun w1 c hb _ hc => (readBytes_ok w.heap.size c t p b o cap R most T n w1 hc h4 (box_cell hb) hp).mono fun e w' ⟨⟨v, h1, h2⟩, h3⟩ => ⟨⟨v, h1, h2.mono (Nat.le_trans HB.out.size hb.size)⟩, h3⟩))
  clear H hp h4
  go_enter Tryz.func195, Tryz.ntmps195
  go_wp2_with fail
  refine HE.out.mono ?_
  rintro e w1 ⟨⟨v, rfl, hv⟩, h1, h2⟩
  have HV := hidp hv
  have HX := hidp (And.intro h1 ((((Bex.refl g w).alloc _).bex h2)))
  clear h1 h2 HE HB hv
  go_wp2
  go_ret
  exact ⟨⟨_, rfl, HV.out⟩, HX.out⟩
theorem mBytes_er (g t : Nat) (p : Option Addr) (b o cap : Nat) (R : List Nat) (most : Int) (x : Nat) (w : World) (H : Rd w g t p b o cap R 0 0) (hp : pText R most = .er x) :
    Calls Tryz.prog 195 #[.pointer (some ⟨g, 0, none⟩), .int .i64 most] w fun e w' => e = .returned (.slice none 0 0) ∧ RdX w' g t b [] x t ∧ Bex g w w' := by
  have hmf : ∀ (fn : Fn) (first cap : Array Value) (w : World), (Instr.makeFunc fn first cap).run Tryz.prog w = .ok (.func fn first cap) w := fun _ _ _ _ => rfl
  have HB : Hid (Below w.heap.size w (w.alloc (.cells #[.int .i64 most] 3))) := hidp ((Below.refl _ w).alloc (Nat.le_refl _) _)
  have HE := hidp (elemBytes_er w.heap.size g t p b o cap R x _ (H.below HB.out) (fun w1 c hb _ hc => readBytes_er w.heap.size c t p b o cap R most x w1 hc (box_cell hb) hp))
  clear H hp
  go_enter Tryz.func195, Tryz.ntmps195
  go_wp2_with fail
  refine HE.out.mono ?_
  rintro e w1 ⟨rfl, h1, h2⟩
  have HX := hidp (And.intro h1 ((((Bex.refl g w).alloc _).bex h2)))
  clear h1 h2 HE HB
  go_wp2
  go_ret
  exact ⟨rfl, HX.out⟩
end Go.Proofs.YtcmkmnidnapabaaGreat

/-! Jk: Contracts: how many bytes a number has, by its bits. -/
namespace Go.Proofs.YtcmkmnidnapabaaGreat
open Go.RowKit Go.Maps

/-- Bits of a number of k bytes. -/
def LenP (k : Nat) (w : World) (e : Ending) (w' : World) : Prop := ∃ r : Nat, e = .returned (.int .i64 (r : Nat)) ∧ w = w' ∧ (r + 7) / 8 = k
theorem len8_pos : ∀ t : Fin 256, 0 < t.val → 1 ≤ (Lib.len8tab[t.val]!).toNat ∧ (Lib.len8tab[t.val]!).toNat ≤ 8 := by decide +kernel
theorem len8_get (t : Nat) (h : t < Lib.len8tab.size) (h1 : t < 256) (h0 : 0 < t) : 1 ≤ (Lib.len8tab[t]'h).toNat ∧ (Lib.len8tab[t]'h).toNat ≤ 8 := by
  have q := len8_pos ⟨t, h1⟩ h0
  simp only [getElem!_pos Lib.len8tab t h] at q
  exact q

set_option maxHeartbeats 4000000 in
set_option maxRecDepth 100000 in
theorem len64_0 (n : Nat) (w : World) (h0 : 1 ≤ n) (h1 : n < 256) : Calls Tryz.prog 258 #[.int .u64 (n : Nat)] w (LenP 1 w) := by
  have a1 : decide ((4294967296 : Int) ≤ (n : Int)) = false := decide_eq_false (by omega)
  have a2 : decide ((65536 : Int) ≤ (n : Int)) = false := decide_eq_false (by omega)
  have a3 : decide ((256 : Int) ≤ (n : Int)) = false := decide_eq_false (by omega)
  have hl : (n : Int) < 256 := by omega
  have hl0 : 0 ≤ (n : Int) := by omega
  have hm : ((n : Int)) % 256 = (n : Int) := by omega
  have hq := len8_get (n) (by show _ < 256; omega) (by omega) (by omega)
  go_enter Tryz.func258, Tryz.ntmps258
  go_wp2
  go_ret
  exact ⟨0 + (Lib.len8tab[n]'(by show _ < 256; omega)).toNat, ret_int (by omega), rfl, by omega⟩

set_option maxHeartbeats 4000000 in
set_option maxRecDepth 100000 in
theorem len64_1 (n : Nat) (w : World) (h0 : 256 ≤ n) (h1 : n < 65536) : Calls Tryz.prog 258 #[.int .u64 (n : Nat)] w (LenP 2 w) := by
  have a1 : decide ((4294967296 : Int) ≤ (n : Int)) = false := decide_eq_false (by omega)
  have a2 : decide ((65536 : Int) ≤ (n : Int)) = false := decide_eq_false (by omega)
  have a3 : decide ((256 : Int) ≤ (n : Int)) = true := decide_eq_true (by omega)
  have hl : (n : Int) / 256 < 256 := by omega
  have hl0 : 0 ≤ (n : Int) / 256 := by omega
  have hm : ((n : Int) / 256) % 256 = (n : Int) / 256 := by omega
  have hq := len8_get (n / 256) (by show _ < 256; omega) (by omega) (by omega)
  go_enter Tryz.func258, Tryz.ntmps258
  go_wp2
  go_ret
  exact ⟨8 + (Lib.len8tab[n / 256]'(by show _ < 256; omega)).toNat, ret_int (by omega), rfl, by omega⟩

set_option maxHeartbeats 4000000 in
set_option maxRecDepth 100000 in
theorem len64_2 (n : Nat) (w : World) (h0 : 65536 ≤ n) (h1 : n < 16777216) : Calls Tryz.prog 258 #[.int .u64 (n : Nat)] w (LenP 3 w) := by
  have a1 : decide ((4294967296 : Int) ≤ (n : Int)) = false := decide_eq_false (by omega)
  have a2 : decide ((65536 : Int) ≤ (n : Int)) = true := decide_eq_true (by omega)
  have a3 : decide ((256 : Int) ≤ (n : Int) / 65536) = false := decide_eq_false (by omega)
  have hl : (n : Int) / 65536 < 256 := by omega
  have hl0 : 0 ≤ (n : Int) / 65536 := by omega
  have hm : ((n : Int) / 65536) % 256 = (n : Int) / 65536 := by omega
  have hq := len8_get (n / 65536) (by show _ < 256; omega) (by omega) (by omega)
  go_enter Tryz.func258, Tryz.ntmps258
  go_wp2
  go_ret
  exact ⟨16 + (Lib.len8tab[n / 65536]'(by show _ < 256; omega)).toNat, ret_int (by omega), rfl, by omega⟩

set_option maxHeartbeats 4000000 in
set_option maxRecDepth 100000 in
theorem len64_3 (n : Nat) (w : World) (h0 : 16777216 ≤ n) (h1 : n < 4294967296) : Calls Tryz.prog 258 #[.int .u64 (n : Nat)] w (LenP 4 w) := by
  have a1 : decide ((4294967296 : Int) ≤ (n : Int)) = false := decide_eq_false (by omega)
  have a2 : decide ((65536 : Int) ≤ (n : Int)) = true := decide_eq_true (by omega)
  have a3 : decide ((256 : Int) ≤ (n : Int) / 65536) = true := decide_eq_true (by omega)
  have hl : (n : Int) / 65536 / 256 < 256 := by omega
  have hl0 : 0 ≤ (n : Int) / 65536 / 256 := by omega
  have hm : ((n : Int) / 65536 / 256) % 256 = (n : Int) / 65536 / 256 := by omega
  have hq := len8_get (n / 65536 / 256) (by show _ < 256; omega) (by omega) (by omega)
  go_enter Tryz.func258, Tryz.ntmps258
  go_wp2
  go_ret
  exact ⟨24 + (Lib.len8tab[n / 65536 / 256]'(by show _ < 256; omega)).toNat, ret_int (by omega), rfl, by omega⟩

set_option maxHeartbeats 4000000 in
set_option maxRecDepth 100000 in
theorem len64_4 (n : Nat) (w : World) (h0 : 4294967296 ≤ n) (h1 : n < 1099511627776) : Calls Tryz.prog 258 #[.int .u64 (n : Nat)] w (LenP 5 w) := by
  have a1 : decide ((4294967296 : Int) ≤ (n : Int)) = true := decide_eq_true (by omega)
  have a2 : decide ((65536 : Int) ≤ (n : Int) / 4294967296) = false := decide_eq_false (by omega)
  have a3 : decide ((256 : Int) ≤ (n : Int) / 4294967296) = false := decide_eq_false (by omega)
  have hl : (n : Int) / 4294967296 < 256 := by omega
  have hl0 : 0 ≤ (n : Int) / 4294967296 := by omega
  have hm : ((n : Int) / 4294967296) % 256 = (n : Int) / 4294967296 := by omega
  have hq := len8_get (n / 4294967296) (by show _ < 256; omega) (by omega) (by omega)
  go_enter Tryz.func258, Tryz.ntmps258
  go_wp2
  go_ret
  exact ⟨32 + (Lib.len8tab[n / 4294967296]'(by show _ < 256; omega)).toNat, ret_int (by omega), rfl, by omega⟩

set_option maxHeartbeats 4000000 in
set_option maxRecDepth 100000 in
theorem len64_5 (n : Nat) (w : World) (h0 : 1099511627776 ≤ n) (h1 : n < 281474976710656) : Calls Tryz.prog 258 #[.int .u64 (n : Nat)] w (LenP 6 w) := by
  have a1 : decide ((4294967296 : Int) ≤ (n : Int)) = true := decide_eq_true (by omega)
  have a2 : decide ((65536 : Int) ≤ (n : Int) / 4294967296) = false := decide_eq_false (by omega)
  have a3 : decide ((256 : Int) ≤ (n : Int) / 4294967296) = true := decide_eq_true (by omega)
  have hl : (n : Int) / 4294967296 / 256 < 256 := by omega
  have hl0 : 0 ≤ (n : Int) / 4294967296 / 256 := by omega
  have hm : ((n : Int) / 4294967296 / 256) % 256 = (n : Int) / 4294967296 / 256 := by omega
  have hq := len8_get (n / 4294967296 / 256) (by show _ < 256; omega) (by omega) (by omega)
  go_enter Tryz.func258, Tryz.ntmps258
  go_wp2
  go_ret
  exact ⟨40 + (Lib.len8tab[n / 4294967296 / 256]'(by show _ < 256; omega)).toNat, ret_int (by omega), rfl, by omega⟩

set_option maxHeartbeats 4000000 in
set_option maxRecDepth 100000 in
theorem len64_6 (n : Nat) (w : World) (h0 : 281474976710656 ≤ n) (h1 : n < 72057594037927936) : Calls Tryz.prog 258 #[.int .u64 (n : Nat)] w (LenP 7 w) := by
  have a1 : decide ((4294967296 : Int) ≤ (n : Int)) = true := decide_eq_true (by omega)
  have a2 : decide ((65536 : Int) ≤ (n : Int) / 4294967296) = true := decide_eq_true (by omega)
  have a3 : decide ((256 : Int) ≤ (n : Int) / 4294967296 / 65536) = false := decide_eq_false (by omega)
  have hl : (n : Int) / 4294967296 / 65536 < 256 := by omega
  have hl0 : 0 ≤ (n : Int) / 4294967296 / 65536 := by omega
  have hm : ((n : Int) / 4294967296 / 65536) % 256 = (n : Int) / 4294967296 / 65536 := by omega
  have hq := len8_get (n / 4294967296 / 65536) (by show _ < 256; omega) (by omega) (by omega)
  go_enter Tryz.func258, Tryz.ntmps258
  go_wp2
  go_ret
  exact ⟨48 + (Lib.len8tab[n / 4294967296 / 65536]'(by show _ < 256; omega)).toNat, ret_int (by omega), rfl, by omega⟩

set_option maxHeartbeats 4000000 in
set_option maxRecDepth 100000 in
theorem len64_7 (n : Nat) (w : World) (h0 : 72057594037927936 ≤ n) (h1 : n < 9223372036854775808) : Calls Tryz.prog 258 #[.int .u64 (n : Nat)] w (LenP 8 w) := by
  have a1 : decide ((4294967296 : Int) ≤ (n : Int)) = true := decide_eq_true (by omega)
  have a2 : decide ((65536 : Int) ≤ (n : Int) / 4294967296) = true := decide_eq_true (by omega)
  have a3 : decide ((256 : Int) ≤ (n : Int) / 4294967296 / 65536) = true := decide_eq_true (by omega)
  have hl : (n : Int) / 4294967296 / 65536 / 256 < 256 := by omega
  have hl0 : 0 ≤ (n : Int) / 4294967296 / 65536 / 256 := by omega
  have hm : ((n : Int) / 4294967296 / 65536 / 256) % 256 = (n : Int) / 4294967296 / 65536 / 256 := by omega
  have hq := len8_get (n / 4294967296 / 65536 / 256) (by show _ < 256; omega) (by omega) (by omega)
  go_enter Tryz.func258, Tryz.ntmps258
  go_wp2
  go_ret
  exact ⟨56 + (Lib.len8tab[n / 4294967296 / 65536 / 256]'(by show _ < 256; omega)).toNat, ret_int (by omega), rfl, by omega⟩

set_option maxHeartbeats 4000000 in
set_option maxRecDepth 100000 in
theorem len64_z (w : World) : Calls Tryz.prog 258 #[.int .u64 0] w (LenP 0 w) := by
  go_enter Tryz.func258, Tryz.ntmps258
  go_wp2
  go_ret
  exact ⟨0, ret_int (by decide +kernel), rfl, rfl⟩
/-- How many bytes a number has. -/
def Digs (n k : Nat) : Prop := n < 256 ^ k ∧ (0 < k → 256 ^ (k - 1) ≤ n) ∧ k ≤ 8
theorem len64_digs (n k : Nat) (w : World) (h : n < 9223372036854775808) (hd : Digs n k) : Calls Tryz.prog 258 #[.int .u64 (n : Nat)] w (LenP k w) := by
  obtain ⟨h1, h2, h3⟩ := hd
  rcases (show k = 0 ∨ k = 1 ∨ k = 2 ∨ k = 3 ∨ k = 4 ∨ k = 5 ∨ k = 6 ∨ k = 7 ∨ k = 8 by omega) with rfl | rfl | rfl | rfl | rfl | rfl | rfl | rfl | rfl
  · have : n = 0 := by simp at h1; exact h1
    subst this
    exact len64_z w

  · exact len64_0 n w (by have := h2 (by decide); simp at this; omega) (by simp at h1; omega)
  · exact len64_1 n w (by have := h2 (by decide); simp at this; omega) (by simp at h1; omega)
  · exact len64_2 n w (by have := h2 (by decide); simp at this; omega) (by simp at h1; omega)
  · exact len64_3 n w (by have := h2 (by decide); simp at this; omega) (by simp at h1; omega)
  · exact len64_4 n w (by have := h2 (by decide); simp at this; omega) (by simp at h1; omega)
  · exact len64_5 n w (by have := h2 (by decide); simp at this; omega) (by simp at h1; omega)
  · exact len64_6 n w (by have := h2 (by decide); simp at this; omega) (by simp at h1; omega)
  · exact len64_7 n w (by have := h2 (by decide); simp at this; omega) (by simp at h1; omega)

set_option maxRecDepth 20000 in
theorem len_digs (n k : Nat) (w : World) (h : n < 9223372036854775808) (hd : Digs n k) : Calls Tryz.prog 208 #[.int .u64 (n : Nat)] w (LenP k w) := by
  have HL := hidp (len64_digs n k w h hd)
  clear hd
  go_enter Tryz.func208, Tryz.ntmps208
  go_wp2_with (go_at_call 258; refine HL.out.mono ?_; rintro e w1 ⟨r, rfl, rfl, hr⟩; have hr := hidp hr)
  go_ret
  exact ⟨r, rfl, rfl, hr.out⟩

end Go.Proofs.YtcmkmnidnapabaaGreat

/-! Jl: Contracts: a number's bytes. -/
namespace Go.Proofs.YtcmkmnidnapabaaGreat
open Go.RowKit Go.Lib Go.Maps

/-- The nine bytes, the last i of them laid. -/
def formL (n i : Nat) : List Nat := (List.range 9).map fun j => if 9 - i ≤ j then n / 256 ^ (8 - j) % 256 else 0
theorem formL_len (n i : Nat) : (formL n i).length = 9 := by unfold formL; simp
theorem formL_zero (n : Nat) : formL n 0 = List.replicate 9 0 := by unfold formL; rfl
theorem formL_set (n : Nat) {i : Nat} (hi : i < 8) : (formL n i).set (8 - i) (n / 256 ^ i % 256) = formL n (i + 1) := by
  apply List.ext_getElem?
  intro j
  unfold formL
  rw [List.getElem?_set]
  by_cases h : 8 - i = j
  · subst h
    rw [if_pos rfl, if_pos (by simp; omega), List.getElem?_map, List.getElem?_range (by omega), Option.map_some, if_pos (by omega), show 8 - (8 - i) = i by omega]
  · rw [if_neg h, List.getElem?_map, List.getElem?_map]
    by_cases hj : j < 9
    · rw [List.getElem?_range hj, Option.map_some, Option.map_some]
      by_cases h2 : 9 - i ≤ j
      · rw [if_pos h2, if_pos (by omega)]
      · rw [if_neg h2, if_neg (by omega)]
    · rw [List.getElem?_eq_none (by simp; omega)]; rfl
def numF (n k : Nat) : List Nat := (formL n k).set (8 - k) k
theorem numF_len (n k : Nat) : (numF n k).length = 9 := by unfold numF; rw [List.length_set, formL_len]
/-- A number's bytes. -/
def numB (n k : Nat) : List Nat := (numF n k).drop (8 - k)
theorem numB_len (n : Nat) {k : Nat} (hk : k ≤ 8) : (numB n k).length = k + 1 := by unfold numB; rw [List.length_drop, numF_len]; omega
theorem numB_byte (n : Nat) {k : Nat} (hk : k ≤ 8) : ∀ x ∈ numB n k, x < 256 := by
  intro x hx
  have hx2 := List.mem_of_mem_drop hx
  unfold numF at hx2
  rcases List.mem_or_eq_of_mem_set hx2 with h | h
  · unfold formL at h
    simp only [List.mem_map] at h
    obtain ⟨j, _, rfl⟩ := h
    split
    · exact Nat.mod_lt _ (by decide)
    · decide
  · omega
theorem numF_bs {w : World} {B n k : Nat} (hk : k ≤ 8) (h : Blk w B (bvs (numF n k)) 256) : Bs w (some ⟨B, 8 - k, none⟩) B (8 - k) (numB n k) (k + 1) := by
  refine ⟨numB_byte n hk, by rw [numB_len n hk]; exact Nat.le_refl _, fun _ => ⟨rfl, h.lt⟩, fun i hi => ?_⟩
  rw [numB_len n hk] at hi
  unfold numB
  rw [getD_drop, h.cell]
  exact bvs_get (by rw [numF_len]; omega)

set_option maxRecDepth 20000 in
set_option maxHeartbeats 8000000 in
theorem numForm_any (n k : Nat) (w : World) (hn : n < 9223372036854775808) (hd : Digs n k) :
    Calls Tryz.prog 151 #[.int .i64 (n : Nat)] w fun e w' => e = .returned (.slice (some ⟨w.heap.size, 8 - k, none⟩) (k + 1) (k + 1)) ∧ Blk w' w.heap.size (bvs (numF n k)) 256 ∧ Below w.heap.size w w' := by
  have hk8 := hd.2.2
  have HL := hidp (fun w => len_digs n k w hn hd)
  have HN := hidp (And.intro hn hd)
  have hcv : (n : Int) % 18446744073709551616 = (n : Int) := by omega
  have hcv2 : IntKind.u64.wrap (n : Int) = (n : Int) := by rw [IntKind.wrap_u64]; omega
  have h0 := hidp (Blk.new w (bvs (formL n 0)) 256)
  have hB := hidp ((Below.refl _ w).alloc (Nat.le_refl _) (.cells (bvs (formL n 0)).toArray 256))
  rw [formL_zero] at h0 hB
  clear hn hd
  go_enter Tryz.func151, Tryz.ntmps151
  go_wp2_with fail
  refine (HL.out _).mono ?_
  rintro e w1 ⟨r, rfl, rfl, hr⟩
  have hr64 : wrap64 ((r : Int) + 7) = (r : Int) + 7 := w64 _ (by omega)
  have hdv : ((r : Int) + 7).tdiv 8 = (k : Int) := by rw [Int.tdiv_eq_ediv_of_nonneg (by omega)]; omega
  have hdv2 : ((r : Int) + 7) / 8 = (k : Int) := by omega
  have hrk : (r : Int) ≤ 64 := by omega
  have HK := hidp hk8
  clear hr
  go_wp2
  go_loopw [13] (fun x wr => ∃ i : Nat, i ≤ k ∧ x = .int .i64 i ∧ Hid (Blk wr w.heap.size (bvs (formL n i)) 256 ∧ Below w.heap.size w wr)) (fun x _ => k - (Go.RowKit.intOf x).toNat)
  case atStart => exact ⟨0, by omega, rfl, by rw [formL_zero]; exact hidp ⟨h0.out, hB.out⟩⟩
  case round =>
    obtain ⟨i, hi, rfl, hr⟩ := hrel
    by_cases hik : i < k
    · have hset := hidp (formL_set n (i := i) (by omega))
      have HI := hidp hik
      have hii : decide (i < k) = true := decide_eq_true hik
      have hij : decide ((i : Int) < (k : Int)) = true := decide_eq_true (by omega)
      have hnn := HN.out.1
      have hsh : Hid (∀ j, j < 8 → i = j → ((n / 256 ^ j % 256 : Nat) : Int) = (n : Int) / 256 ^ j % 256) := hidp (fun j _ _ => by rw [Int.natCast_emod, Int.natCast_ediv, Int.natCast_pow]; rfl)
      obtain ⟨vo, ho⟩ : ∃ v, wr.cell? ⟨w.heap.size, 8 - i, none⟩ = some v := ⟨_, (hr.out.1.cell (8 - i)).trans (bvs_get (by rw [formL_len]; omega))⟩
      have hfree := hr.out.1.free (8 - i)
      have h8 : i = 0 ∨ i = 1 ∨ i = 2 ∨ i = 3 ∨ i = 4 ∨ i = 5 ∨ i = 6 ∨ i = 7 := by omega
      clear h0 hB hi hik hr64 hdv hdv2 hcv hcv2
      rcases h8 with rfl | rfl | rfl | rfl | rfl | rfl | rfl | rfl
      · simp only [Int.cast_ofNat_Int]
        have hv : Hid (((n / 256 ^ 0 % 256 : Nat) : Int) = (n : Int) % 256) := hidp (by omega)
        try simp only [Int.cast_ofNat_Int] at hij
        go_wp2
        refine ⟨⟨0 + 1, HI.out, rfl, ?_⟩, by have := HI.out; simp [Go.RowKit.intOf]; omega⟩
        rw [← hset.out]
        have hE := hv.out
        try rw [← hE]
        exact hidp ⟨bvs_set _ _ _ ▸ hr.out.1.set _ _, hr.out.2.setCell (by simp) _⟩
      · simp only [Int.cast_ofNat_Int]
        have hv : Hid (((n / 256 ^ 1 % 256 : Nat) : Int) = (n : Int) / 256 % 256) := hidp (by omega)
        try simp only [Int.cast_ofNat_Int] at hij
        go_wp2
        refine ⟨⟨1 + 1, HI.out, rfl, ?_⟩, by have := HI.out; simp [Go.RowKit.intOf]; omega⟩
        rw [← hset.out]
        have hE := hv.out
        try rw [← hE]
        exact hidp ⟨bvs_set _ _ _ ▸ hr.out.1.set _ _, hr.out.2.setCell (by simp) _⟩
      · simp only [Int.cast_ofNat_Int]
        have hv : Hid (((n / 256 ^ 2 % 256 : Nat) : Int) = (n : Int) / 65536 % 256) := hidp (by omega)
        try simp only [Int.cast_ofNat_Int] at hij
        go_wp2
        refine ⟨⟨2 + 1, HI.out, rfl, ?_⟩, by have := HI.out; simp [Go.RowKit.intOf]; omega⟩
        rw [← hset.out]
        have hE := hv.out
        try rw [← hE]
        exact hidp ⟨bvs_set _ _ _ ▸ hr.out.1.set _ _, hr.out.2.setCell (by simp) _⟩
      · simp only [Int.cast_ofNat_Int]
        have hv : Hid (((n / 256 ^ 3 % 256 : Nat) : Int) = (n : Int) / 16777216 % 256) := hidp (by omega)
        try simp only [Int.cast_ofNat_Int] at hij
        go_wp2
        refine ⟨⟨3 + 1, HI.out, rfl, ?_⟩, by have := HI.out; simp [Go.RowKit.intOf]; omega⟩
        rw [← hset.out]
        have hE := hv.out
        try rw [← hE]
        exact hidp ⟨bvs_set _ _ _ ▸ hr.out.1.set _ _, hr.out.2.setCell (by simp) _⟩
      · simp only [Int.cast_ofNat_Int]
        have hv : Hid (((n / 256 ^ 4 % 256 : Nat) : Int) = (n : Int) / 4294967296 % 256) := hidp (by omega)
        try simp only [Int.cast_ofNat_Int] at hij
        go_wp2
        refine ⟨⟨4 + 1, HI.out, rfl, ?_⟩, by have := HI.out; simp [Go.RowKit.intOf]; omega⟩
        rw [← hset.out]
        have hE := hv.out
        try rw [← hE]
        exact hidp ⟨bvs_set _ _ _ ▸ hr.out.1.set _ _, hr.out.2.setCell (by simp) _⟩
      · simp only [Int.cast_ofNat_Int]
        have hv : Hid (((n / 256 ^ 5 % 256 : Nat) : Int) = (n : Int) / 1099511627776 % 256) := hidp (by omega)
        try simp only [Int.cast_ofNat_Int] at hij
        go_wp2
        refine ⟨⟨5 + 1, HI.out, rfl, ?_⟩, by have := HI.out; simp [Go.RowKit.intOf]; omega⟩
        rw [← hset.out]
        have hE := hv.out
        try rw [← hE]
        exact hidp ⟨bvs_set _ _ _ ▸ hr.out.1.set _ _, hr.out.2.setCell (by simp) _⟩
      · simp only [Int.cast_ofNat_Int]
        have hv : Hid (((n / 256 ^ 6 % 256 : Nat) : Int) = (n : Int) / 281474976710656 % 256) := hidp (by omega)
        try simp only [Int.cast_ofNat_Int] at hij
        go_wp2
        refine ⟨⟨6 + 1, HI.out, rfl, ?_⟩, by have := HI.out; simp [Go.RowKit.intOf]; omega⟩
        rw [← hset.out]
        have hE := hv.out
        try rw [← hE]
        exact hidp ⟨bvs_set _ _ _ ▸ hr.out.1.set _ _, hr.out.2.setCell (by simp) _⟩
      · simp only [Int.cast_ofNat_Int]
        have hv : Hid (((n / 256 ^ 7 % 256 : Nat) : Int) = (n : Int) / 72057594037927936) := hidp (by omega)
        try simp only [Int.cast_ofNat_Int] at hij
        go_wp2
        refine ⟨⟨7 + 1, HI.out, rfl, ?_⟩, by have := HI.out; simp [Go.RowKit.intOf]; omega⟩
        rw [← hset.out]
        have hE := hv.out
        try rw [← hE]
        exact hidp ⟨bvs_set _ _ _ ▸ hr.out.1.set _ _, hr.out.2.setCell (by simp) _⟩
    · obtain rfl : i = k := by omega
      have hl8 : (8 : Int) - (i : Int) = ((8 - i : Nat) : Int) := by omega
      have h9 : (9 : Int) - (i : Int) - 1 = ((8 - i : Nat) : Int) := by omega
      have hu8 : (i : Int) % 256 = (i : Int) := by omega
      obtain ⟨l, hl⟩ : ∃ l, l = 8 - i := ⟨_, rfl⟩
      rw [← hl] at h9
      have hl9 : l < 9 := by omega
      have hfree := hr.out.1.free l
      obtain ⟨vo, ho⟩ : ∃ v, wr.cell? ⟨w.heap.size, l, none⟩ = some v := ⟨_, (hr.out.1.cell l).trans (bvs_get (by rw [formL_len]; omega))⟩
      have hw1 : wrap64 ((9 : Int) - (i : Int) - 1) = (l : Int) := by rw [h9]; exact w64 _ (by omega)
      have hsl := run_slice_arr_l (P := Tryz.prog) (t := 256) (e := 5) (n := 9) Tryz.underlying256 (by kernel_rfl) w.heap.size 0 (l := l) hl9
      rw [Nat.zero_add] at hsl
      have hlt : (l : Int) < 9 := by omega
      have HL2 := hidp hl
      clear hl hr64 hdv hdv2 hcv hcv2 hl8
      go_wp2
      go_ret
      have e1 : 9 - l = i + 1 := by have := HL2.out; have := HK.out; omega
      refine ⟨by rw [e1, HL2.out]; rfl, ?_, hr.out.2.setCell (by simp) _⟩
      unfold numF
      rw [← HL2.out]
      exact bvs_set _ _ _ ▸ hr.out.1.set _ _
end Go.Proofs.YtcmkmnidnapabaaGreat
