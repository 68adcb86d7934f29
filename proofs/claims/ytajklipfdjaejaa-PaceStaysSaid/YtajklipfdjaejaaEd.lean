/-
  Contract: the answer's Compare.
-/
import Derived.Test.YtajklipfdjaejaaEb
namespace Go.Proofs.Ytajklipfdjaejaa
open Go.RowKit
attribute [local go_sem] run_bits run_frombits

set_option maxHeartbeats 1000000 in
theorem refCompare_any (x y : Nat) (w : World) :
    Calls Try.prog 22 #[.float .f64 x, .float .f64 y] w fun e w' => e = .returned (.int .i64 (refCmpN x y)) ∧ w = w' := by
  unfold refCmpN
  cases hnx : nanB x
  · cases hny : nanB y
    · have h1 : (FloatKind.f64.format.order x x != some .eq) = false := hnx
      have h2 : (FloatKind.f64.format.order y y != some .eq) = false := hny
      rw [if_neg (by simp)]
      cases hl : ltB x y
      · have h3 : (FloatKind.f64.format.order x y == some .lt) = false := hl
        rw [if_neg (by simp)]
        cases hg : gtB x y
        · have h4 : (FloatKind.f64.format.order x y == some .gt) = false := hg
          rw [if_neg (by simp)]
          have e1 : sgN y - sgN x = sgN y - sgN x := rfl
          have b1 : 0 ≤ sgN y ∧ sgN y ≤ 1 := by unfold sgN; split <;> omega
          have b2 : 0 ≤ sgN x ∧ sgN x ≤ 1 := by unfold sgN; split <;> omega
          obtain ⟨b11, b12⟩ := b1
          obtain ⟨b21, b22⟩ := b2
          clear e1 hnx hny hl hg
          go_enter Try.func22, Try.ntmps22
          go_wp2_with (go_at_call 44; refine (sign_any _ _).mono ?_; rintro e w' ⟨rfl, rfl⟩)
          go_ret
          exact ⟨rfl, rfl⟩
        · have h4 : (FloatKind.f64.format.order x y == some .gt) = true := hg
          rw [if_pos rfl]
          clear hnx hny hl hg
          go_enter Try.func22, Try.ntmps22
          go_wp2
          go_ret
          exact ⟨rfl, rfl⟩
      · have h3 : (FloatKind.f64.format.order x y == some .lt) = true := hl
        rw [if_pos rfl]
        clear hnx hny hl
        go_enter Try.func22, Try.ntmps22
        go_wp2
        go_ret
        exact ⟨rfl, rfl⟩
    · have h1 : (FloatKind.f64.format.order x x != some .eq) = false := hnx
      have h2 : (FloatKind.f64.format.order y y != some .eq) = true := hny
      have h3 : (FloatKind.f64.format.order x x == some .eq) = true := by revert h1; rw [bne]; cases (FloatKind.f64.format.order x x == some .eq) <;> simp
      rw [if_pos (by simp), if_neg (by simp)]
      clear hnx hny
      go_enter Try.func22, Try.ntmps22
      go_wp2
      go_ret
      exact ⟨rfl, rfl⟩
  · have h1 : (FloatKind.f64.format.order x x != some .eq) = true := hnx
    have h3 : (FloatKind.f64.format.order x x == some .eq) = false := by revert h1; rw [bne]; cases (FloatKind.f64.format.order x x == some .eq) <;> simp
    cases hny : nanB y
    · have h2 : (FloatKind.f64.format.order y y != some .eq) = false := hny
      have h4 : (FloatKind.f64.format.order y y == some .eq) = true := by revert h2; rw [bne]; cases (FloatKind.f64.format.order y y == some .eq) <;> simp
      rw [if_pos (by simp), if_pos (by simp), if_neg (by simp)]
      clear hnx hny
      go_enter Try.func22, Try.ntmps22
      go_wp2
      go_ret
      exact ⟨rfl, rfl⟩
    · have h2 : (FloatKind.f64.format.order y y != some .eq) = true := hny
      have h4 : (FloatKind.f64.format.order y y == some .eq) = false := by revert h2; rw [bne]; cases (FloatKind.f64.format.order y y == some .eq) <;> simp
      rw [if_pos (by simp), if_pos (by simp), if_pos (by simp)]
      clear hnx hny
      go_enter Try.func22, Try.ntmps22
      go_wp2
      go_ret
      exact ⟨rfl, rfl⟩
end Go.Proofs.Ytajklipfdjaejaa
