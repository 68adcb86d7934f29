/-
  Contracts: Least, and the answer's Least.
-/
import Derived.Test.YtajklipfdjaejaaEp
import Derived.Test.YtajklipfdjaejaaEj
namespace Go.Proofs.Ytajklipfdjaejaa
open Go.RowKit
attribute [local go_sem] run_bits run_frombits

/-- Where the first of the least ones of the first k stands. -/
def lstK (xs : List Nat) : Nat → Int
  | 0 => -1
  | k + 1 => if lstK xs k < 0 ∨ cmpN (xs.getD k 0) (xs.getD (lstK xs k).toNat 0) < 0 then (k : Int) else lstK xs k
theorem lst_bd (xs : List Nat) : ∀ k, -1 ≤ lstK xs k ∧ lstK xs k < (k : Int) ∨ k = 0 ∧ lstK xs k = -1
  | 0 => .inr ⟨rfl, rfl⟩
  | k + 1 => by
    left
    have ih := lst_bd xs k
    rw [lstK]
    split <;> omega
theorem lst_new {xs : List Nat} {k : Nat} (h : lstK xs k < 0) : lstK xs (k + 1) = k := by rw [lstK, if_pos (.inl h)]
theorem lst_yes {xs : List Nat} {k j : Nat} (h : lstK xs k = j) (hc : cmpN (xs.getD k 0) (xs.getD j 0) < 0) : lstK xs (k + 1) = k := by
  rw [lstK, if_pos (.inr (by rw [h, Int.toNat_natCast]; exact hc))]
theorem lst_no {xs : List Nat} {k j : Nat} (h : lstK xs k = j) (hc : ¬ cmpN (xs.getD k 0) (xs.getD j 0) < 0) : lstK xs (k + 1) = j := by
  rw [lstK, if_neg (by rw [h, Int.toNat_natCast]; intro hx; rcases hx with hx | hx; · omega
                       · exact hc hx)]; exact h

set_option maxHeartbeats 1000000 in
theorem Least_any (v : Value) (xs : List Nat) (w : World) (hl : xs.length ≤ 9223372036854775807) (hv : SlF w v xs) : Calls Try.prog 28 #[v] w fun e w' => e = .returned (.int .i64 (lstK xs xs.length)) ∧ Below w.heap.size w w' := by
  rcases hv with ⟨rfl, rfl⟩ | ⟨b, cap, rfl, hb, hf⟩
  · go_enter Try.func28, Try.ntmps28
    go_wp2
    refine wp_loop_rounds 1 ?_
    rw [rounds_succ]
    go_wp2
    go_ret
    exact ⟨rfl, Below.refl _ _⟩
  · have HF := hidp hf; clear hf
    go_enter Try.func28, Try.ntmps28
    go_wp2
    go_loopw [3, 8] (fun s i wr => ∃ (k : Nat) (j : Int), k ≤ xs.length ∧ i = .int .i64 k ∧ s = .int .i64 j ∧ Hid (lstK xs k = j) ∧ Below w.heap.size w wr) (fun _ i _ => xs.length - (intOf i).toNat)
    case atStart => exact ⟨0, -1, Nat.zero_le _, rfl, rfl, rfl, Below.refl _ _⟩
    case round =>
      obtain ⟨k, j, hk, rfl, rfl, hj, hB⟩ := hrel
      by_cases hki : k < xs.length
      · have hc := (HF.out.below hB hb) k hki
        have hbd := lst_bd xs k
        rw [hj.out] at hbd
        by_cases hj0 : j < 0
        · have hd : decide (j < 0) = true := by simp [hj0]
          have HJ := hidp (lst_new (by rw [hj.out]; exact hj0))
          have HB := hidp hB; clear hB hbd
          go_wp2
          exact ⟨⟨k + 1, k, by omega, by go_num, rfl, HJ, HB.out⟩, by simp [intOf]; omega⟩
        · obtain ⟨j, rfl⟩ := Int.eq_ofNat_of_zero_le (show 0 ≤ j by omega)
          have hd : decide ((j : Int) < 0) = false := by simp
          have hjl : j < xs.length := by omega
          have hc2 := (HF.out.below hB hb) j hjl
          have HB := hidp hB; clear hB hbd hj0
          generalize hx : xs.getD k 0 = x at hc
          generalize hy : xs.getD j 0 = y at hc2
          by_cases hcc : cmpN x y < 0
          · have HJ := hidp (lst_yes hj.out (by rw [hx, hy]; exact hcc))
            have hdc : decide (cmpN x y < 0) = true := by simp [hcc]
            clear hx hy hcc
            go_wp2_with (go_at_call 21; refine (Compare_any _ _ _).mono ?_; rintro e w3 ⟨rfl, hN⟩; have HN := hidp (btrans HB.out hN); clear hN)
            exact ⟨⟨k + 1, k, by omega, by go_num, rfl, HJ, HN.out⟩, by simp [intOf]; omega⟩
          · have HJ := hidp (lst_no hj.out (by rw [hx, hy]; exact hcc))
            have hdc : decide (cmpN x y < 0) = false := by simp [hcc]
            clear hx hy hcc
            go_wp2_with (go_at_call 21; refine (Compare_any _ _ _).mono ?_; rintro e w3 ⟨rfl, hN⟩; have HN := hidp (btrans HB.out hN); clear hN)
            exact ⟨⟨k + 1, j, by omega, by go_num, rfl, HJ, HN.out⟩, by simp [intOf]; omega⟩
      · obtain rfl : k = xs.length := by omega
        have HB := hidp hB; clear hB
        go_wp2
        go_ret
        exact ⟨by rw [hj.out]; rfl, HB.out⟩

theorem Compare_refq (x y : Nat) (w : World) (hx : x < 18446744073709551616) (hy : y < 18446744073709551616) : Calls Try.prog 22 #[.float .f64 x, .float .f64 y] w fun e w' => e = .returned (.int .i64 (cmpN x y)) ∧ w' = w :=
  (Compare_ref x y w hx hy).mono fun _ _ ⟨h, k⟩ => ⟨h, k.symm⟩
set_option maxHeartbeats 1000000 in
theorem refLeast_any (v : Value) (xs : List Nat) (w : World) (hl : xs.length ≤ 9223372036854775807) (hx64 : ∀ k, xs.getD k 0 < 18446744073709551616) (hv : SlF w v xs) : Calls Try.prog 29 #[v] w fun e w' => e = .returned (.int .i64 (lstK xs xs.length)) ∧ Below w.heap.size w w' := by
  rcases hv with ⟨rfl, rfl⟩ | ⟨b, cap, rfl, hb, hf⟩
  · go_enter Try.func29, Try.ntmps29
    go_wp2
    refine wp_loop_rounds 1 ?_
    rw [rounds_succ]
    go_wp2
    go_ret
    exact ⟨rfl, Below.refl _ _⟩
  · have HF := hidp hf; clear hf
    have H64 := hidp hx64; clear hx64
    go_enter Try.func29, Try.ntmps29
    go_wp2
    go_loopw [3, 4] (fun s i wr => ∃ (k : Nat) (j : Int), k ≤ xs.length ∧ i = .int .i64 k ∧ s = .int .i64 j ∧ Hid (lstK xs k = j) ∧ Below w.heap.size w wr) (fun _ i _ => xs.length - (intOf i).toNat)
    case atStart => exact ⟨0, -1, Nat.zero_le _, rfl, rfl, rfl, Below.refl _ _⟩
    case round =>
      obtain ⟨k, j, hk, rfl, rfl, hj, hB⟩ := hrel
      by_cases hki : k < xs.length
      · have hc := (HF.out.below hB hb) k hki
        have hbd := lst_bd xs k
        rw [hj.out] at hbd
        by_cases hj0 : j < 0
        · have hd : decide (j < 0) = true := by simp [hj0]
          have HJ := hidp (lst_new (by rw [hj.out]; exact hj0))
          have HB := hidp hB; clear hB hbd
          go_wp2
          go_quiet (fail)
          go_wp2
          exact ⟨⟨k + 1, k, by omega, by go_num, rfl, HJ, HB.out.drewN _⟩, by simp [intOf]; omega⟩
        · obtain ⟨j, rfl⟩ := Int.eq_ofNat_of_zero_le (show 0 ≤ j by omega)
          have hd : decide ((j : Int) < 0) = false := by simp
          have hjl : j < xs.length := by omega
          have hc2 := (HF.out.below hB hb) j hjl
          have HB := hidp hB; clear hB hbd hj0
          have hx2 := H64.out k
          have hy2 := H64.out j
          generalize hx : xs.getD k 0 = x at hc hx2
          generalize hy : xs.getD j 0 = y at hc2 hy2
          have HX := hidp hx2; have HY := hidp hy2; clear hx2 hy2
          by_cases hcc : cmpN x y < 0
          · have HJ := hidp (lst_yes hj.out (by rw [hx, hy]; exact hcc))
            have hdc : decide (cmpN x y < 0) = true := by simp [hcc]
            clear hx hy hcc
            go_wp2
            go_quiet ((go_at_call 22; exact Calls.quiet_of_same (Compare_refq _ _ _ HX.out HY.out)))
            go_wp2
            exact ⟨⟨k + 1, k, by omega, by go_num, rfl, HJ, HB.out.drewN _⟩, by simp [intOf]; omega⟩
          · have HJ := hidp (lst_no hj.out (by rw [hx, hy]; exact hcc))
            have hdc : decide (cmpN x y < 0) = false := by simp [hcc]
            clear hx hy hcc
            go_wp2
            go_quiet ((go_at_call 22; exact Calls.quiet_of_same (Compare_refq _ _ _ HX.out HY.out)))
            go_wp2
            exact ⟨⟨k + 1, j, by omega, by go_num, rfl, HJ, HB.out.drewN _⟩, by simp [intOf]; omega⟩
      · obtain rfl : k = xs.length := by omega
        have HB := hidp hB; clear hB
        go_wp2
        go_ret
        exact ⟨by rw [hj.out]; rfl, HB.out⟩
end Go.Proofs.Ytajklipfdjaejaa
