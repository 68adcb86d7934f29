/-
  Contracts: Smooth, and the answer's Smooth; same.
-/
import Derived.Test.YtajklipfdjaejaaEb
import Derived.Test.YtajklipfdjaejaaEe
namespace Go.Proofs.Ytajklipfdjaejaa
open Go.RowKit
attribute [local go_sem] run_bits run_frombits

def SmP (x y : Nat) (w : World) (e : Ending) (w' : World) : Prop := ∃ r, e = .returned (.float .f64 r) ∧ IsR (smO x y) r ∧ Below w.heap.size w w'
theorem sm_nan {x y r : Nat} (h : nanB x = true) (hr : r = y) : IsR (smO x y) r := by unfold smO; rw [if_pos h]; exact hr
theorem sm_some {x y d q r s : Nat} (h : nanB x = false) (h1 : fsub y x = some d) (h2 : fdiv8 d = some q) (h3 : fadd x q = some r) (hs : s = r) : IsR (smO x y) s := by
  unfold smO; rw [if_neg (by simp [h]), h1]; simp only [Option.bind_some]; rw [h2]; simp only [Option.bind_some]; rw [h3]; exact hs
theorem sm_none {x y r : Nat} (h : nanB x = false) (h1 : ∀ d q, fsub y x = some d → fdiv8 d = some q → fadd x q = none) (hs : nanB r = true) : IsR (smO x y) r := by
  unfold smO; rw [if_neg (by simp [h])]
  cases hd : fsub y x with
  | none => exact hs
  | some d =>
    simp only [Option.bind_some]
    cases hq : fdiv8 d with
    | none => exact hs
    | some q => simp only [Option.bind_some]; rw [h1 d q hd hq]; exact hs

/-- The three operations, whatever they give. -/
theorem run_sub_some {x y d : Nat} (h : fsub y x = some d) (w : World) : (binOp .sub 24 (.float .f64 y) (.float .f64 x)).run Try.prog w = .ok (.float .f64 d) w := run_float_arith w .sub _ .f64 _ _ _ h
theorem run_quo_some {x d : Nat} (h : fdiv8 x = some d) (w : World) : (binOp .quo 24 (.float .f64 x) (.float .f64 4620693217682128896)).run Try.prog w = .ok (.float .f64 d) w := run_float_arith w .quo _ .f64 _ _ _ h
theorem run_add_some {x y d : Nat} (h : fadd x y = some d) (w : World) : (binOp .add 24 (.float .f64 x) (.float .f64 y)).run Try.prog w = .ok (.float .f64 d) w := run_float_arith w .add _ .f64 _ _ _ h
theorem run_sub_none {x y : Nat} (h : fsub y x = none) (w : World) : (binOp .sub 24 (.float .f64 y) (.float .f64 x)).run Try.prog w = .ok (.float .f64 (nanT y x w)) w.drew := run_float_nan .sub (by simp) _ _ _ _ h
theorem run_quo_none {x : Nat} (h : fdiv8 x = none) (w : World) : (binOp .quo 24 (.float .f64 x) (.float .f64 4620693217682128896)).run Try.prog w = .ok (.float .f64 (nanT x 4620693217682128896 w)) w.drew := run_float_nan .quo (by simp) _ _ _ _ h
theorem run_add_none {x y : Nat} (h : fadd x y = none) (w : World) : (binOp .add 24 (.float .f64 x) (.float .f64 y)).run Try.prog w = .ok (.float .f64 (nanT x y w)) w.drew := run_float_nan .add (by simp) _ _ _ _ h

theorem Smooth_any (x y : Nat) (w : World) : Calls Try.prog 23 #[.float .f64 x, .float .f64 y] w (SmP x y w) := by
  cases hn : nanB x
  · have HI := hidp (fun w => hn ▸ IsNaN_any x w)
    have HN := hidp hn; clear hn
    cases h1 : fsub y x with
    | none =>
      have k1 := run_sub_none h1 w
      have k2 := run_quo_none (fdiv8_nan (nanT_nan y x w)) w.drew
      have k3 := run_add_none (fadd_nan x (nanT_nan (nanT y x w) 4620693217682128896 w.drew)) w.drew.drew
      have HS := hidp h1; clear h1
      go_enter Try.func23, Try.ntmps23
      go_wp2_with (go_at_call 40; refine (HI.out _).mono ?_; rintro e w' ⟨rfl, rfl⟩)
      go_ret
      exact ⟨_, rfl, sm_none HN.out (fun d q h => by rw [HS.out] at h; cases h) (nanT_nan _ _ _), by (repeat' (first | (with_reducible exact Below.refl _ _) | (with_reducible refine Below.alloc ?_ ?_ _) | (with_reducible refine Below.drew ?_) | (with_reducible refine Below.drewN ?_ _) | (with_reducible refine Below.setCell ?_ ?_ _) | go_size))⟩
    | some d =>
      have k1 := run_sub_some h1
      cases h2 : fdiv8 d with
      | none =>
        have k2 := run_quo_none h2 w
        have k3 := run_add_none (fadd_nan x (nanT_nan d 4620693217682128896 w)) w.drew
        have HS := hidp h1; have HQ := hidp h2; clear h1 h2
        go_enter Try.func23, Try.ntmps23
        go_wp2_with (go_at_call 40; refine (HI.out _).mono ?_; rintro e w' ⟨rfl, rfl⟩)
        go_ret
        exact ⟨_, rfl, sm_none HN.out (fun d q h k => by rw [HS.out] at h; cases h; rw [HQ.out] at k; cases k) (nanT_nan _ _ _), by (repeat' (first | (with_reducible exact Below.refl _ _) | (with_reducible refine Below.alloc ?_ ?_ _) | (with_reducible refine Below.drew ?_) | (with_reducible refine Below.drewN ?_ _) | (with_reducible refine Below.setCell ?_ ?_ _) | go_size))⟩
      | some q =>
        have k2 := run_quo_some h2
        cases h3 : fadd x q with
        | none =>
          have k3 := run_add_none h3 w
          have HS := hidp h1; have HQ := hidp h2; have HA := hidp h3; clear h1 h2 h3
          go_enter Try.func23, Try.ntmps23
          go_wp2_with (go_at_call 40; refine (HI.out _).mono ?_; rintro e w' ⟨rfl, rfl⟩)
          go_ret
          exact ⟨_, rfl, sm_none HN.out (fun d q h k => by rw [HS.out] at h; cases h; rw [HQ.out] at k; cases k; exact HA.out) (nanT_nan _ _ _), by (repeat' (first | (with_reducible exact Below.refl _ _) | (with_reducible refine Below.alloc ?_ ?_ _) | (with_reducible refine Below.drew ?_) | (with_reducible refine Below.drewN ?_ _) | (with_reducible refine Below.setCell ?_ ?_ _) | go_size))⟩
        | some r =>
          have k3 := run_add_some h3
          have HS := hidp h1; have HQ := hidp h2; have HA := hidp h3; clear h1 h2 h3
          go_enter Try.func23, Try.ntmps23
          go_wp2_with (go_at_call 40; refine (HI.out _).mono ?_; rintro e w' ⟨rfl, rfl⟩)
          go_ret
          exact ⟨_, rfl, sm_some HN.out HS.out HQ.out HA.out rfl, by (repeat' (first | (with_reducible exact Below.refl _ _) | (with_reducible refine Below.alloc ?_ ?_ _) | (with_reducible refine Below.drew ?_) | (with_reducible refine Below.drewN ?_ _) | (with_reducible refine Below.setCell ?_ ?_ _) | go_size))⟩
  · have HI := hidp (fun w => hn ▸ IsNaN_any x w)
    have HN := hidp hn; clear hn
    go_enter Try.func23, Try.ntmps23
    go_wp2_with (go_at_call 40; refine (HI.out _).mono ?_; rintro e w' ⟨rfl, rfl⟩)
    go_ret
    exact ⟨_, rfl, sm_nan HN.out rfl, by (repeat' (first | (with_reducible exact Below.refl _ _) | (with_reducible refine Below.alloc ?_ ?_ _) | (with_reducible refine Below.drew ?_) | (with_reducible refine Below.drewN ?_ _) | (with_reducible refine Below.setCell ?_ ?_ _) | go_size))⟩

theorem refSmooth_any (x y : Nat) (w : World) : Calls Try.prog 24 #[.float .f64 x, .float .f64 y] w (SmP x y w) := by
  cases hn : nanB x
  · have HI : (FloatKind.f64.format.order x x != some .eq) = false := hn
    have HN := hidp hn; clear hn
    cases h1 : fsub y x with
    | none =>
      have k1 := run_sub_none h1 w
      have k2 := run_quo_none (fdiv8_nan (nanT_nan y x w)) w.drew
      have k3 := run_add_none (fadd_nan x (nanT_nan (nanT y x w) 4620693217682128896 w.drew)) w.drew.drew
      have HS := hidp h1; clear h1
      go_enter Try.func24, Try.ntmps24
      go_wp2
      go_ret
      exact ⟨_, rfl, sm_none HN.out (fun d q h => by rw [HS.out] at h; cases h) (nanT_nan _ _ _), by (repeat' (first | (with_reducible exact Below.refl _ _) | (with_reducible refine Below.alloc ?_ ?_ _) | (with_reducible refine Below.drew ?_) | (with_reducible refine Below.drewN ?_ _) | (with_reducible refine Below.setCell ?_ ?_ _) | go_size))⟩
    | some d =>
      have k1 := run_sub_some h1
      cases h2 : fdiv8 d with
      | none =>
        have k2 := run_quo_none h2 w
        have k3 := run_add_none (fadd_nan x (nanT_nan d 4620693217682128896 w)) w.drew
        have HS := hidp h1; have HQ := hidp h2; clear h1 h2
        go_enter Try.func24, Try.ntmps24
        go_wp2
        go_ret
        exact ⟨_, rfl, sm_none HN.out (fun d q h k => by rw [HS.out] at h; cases h; rw [HQ.out] at k; cases k) (nanT_nan _ _ _), by (repeat' (first | (with_reducible exact Below.refl _ _) | (with_reducible refine Below.alloc ?_ ?_ _) | (with_reducible refine Below.drew ?_) | (with_reducible refine Below.drewN ?_ _) | (with_reducible refine Below.setCell ?_ ?_ _) | go_size))⟩
      | some q =>
        have k2 := run_quo_some h2
        cases h3 : fadd x q with
        | none =>
          have k3 := run_add_none h3 w
          have HS := hidp h1; have HQ := hidp h2; have HA := hidp h3; clear h1 h2 h3
          go_enter Try.func24, Try.ntmps24
          go_wp2
          go_ret
          exact ⟨_, rfl, sm_none HN.out (fun d q h k => by rw [HS.out] at h; cases h; rw [HQ.out] at k; cases k; exact HA.out) (nanT_nan _ _ _), by (repeat' (first | (with_reducible exact Below.refl _ _) | (with_reducible refine Below.alloc ?_ ?_ _) | (with_reducible refine Below.drew ?_) | (with_reducible refine Below.drewN ?_ _) | (with_reducible refine Below.setCell ?_ ?_ _) | go_size))⟩
        | some r =>
          have k3 := run_add_some h3
          have HS := hidp h1; have HQ := hidp h2; have HA := hidp h3; clear h1 h2 h3
          go_enter Try.func24, Try.ntmps24
          go_wp2
          go_ret
          exact ⟨_, rfl, sm_some HN.out HS.out HQ.out HA.out rfl, by (repeat' (first | (with_reducible exact Below.refl _ _) | (with_reducible refine Below.alloc ?_ ?_ _) | (with_reducible refine Below.drew ?_) | (with_reducible refine Below.drewN ?_ _) | (with_reducible refine Below.setCell ?_ ?_ _) | go_size))⟩
  · have HI : (FloatKind.f64.format.order x x != some .eq) = true := hn
    have HN := hidp hn; clear hn
    go_enter Try.func24, Try.ntmps24
    go_wp2
    go_ret
    exact ⟨_, rfl, sm_nan HN.out rfl, by (repeat' (first | (with_reducible exact Below.refl _ _) | (with_reducible refine Below.alloc ?_ ?_ _) | (with_reducible refine Below.drew ?_) | (with_reducible refine Below.drewN ?_ _) | (with_reducible refine Below.setCell ?_ ?_ _) | go_size))⟩

def sameB (x y : Nat) : Bool := decide (formN x = formN y)
theorem form_beq (x y : Nat) : (((formN x : Nat) : Int) == ((formN y : Nat) : Int)) = sameB x y := by
  unfold sameB
  rw [Bool.eq_iff_iff, beq_iff_eq, decide_eq_true_eq]; omega
theorem same_any (x y : Nat) (w : World) :
    Calls Try.prog 20 #[.float .f64 x, .float .f64 y] w fun e w' => e = .returned (.bool (sameB x y)) ∧ w = w' := by
  go_enter Try.func20, Try.ntmps20
  go_wp2_with (go_at_call 17; refine (refBits_any _ _).mono ?_; rintro e w' ⟨rfl, rfl⟩)
  go_ret
  exact ⟨ret_bool (form_beq x y), rfl⟩
end Go.Proofs.Ytajklipfdjaejaa
