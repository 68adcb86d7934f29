/-
  landfalllaw02's PaceStays, whatever the paces.
-/
import Derived.Test.YtajklipfdjaejaaSb
namespace Go.Proofs.Ytajklipfdjaejaa
open Go.RowKit

theorem ge_sv {z m : Nat} (hz : nanB z = false) (hm : nanB m = false) (h : sv m ≤ sv z) : (FloatKind.f64.format.order z m == some .gt || FloatKind.f64.format.order z m == some .eq) = true := by
  have e : FloatKind.f64.format.order z m = some (compare (sv z) (sv m)) := fo_sv hz hm
  rw [e, compare_int]
  split
  · omega
  · split <;> rfl
theorem le_sv {z m : Nat} (hz : nanB z = false) (hm : nanB m = false) (h : sv z ≤ sv m) : (FloatKind.f64.format.order z m == some .lt || FloatKind.f64.format.order z m == some .eq) = true := by
  have e : FloatKind.f64.format.order z m = some (compare (sv z) (sv m)) := fo_sv hz hm
  rw [e, compare_int]
  split
  · rfl
  · split
    · rfl
    · omega
theorem eq_sv {z m : Nat} (hz : nanB z = false) (hm : nanB m = false) (h : sv z = sv m) : (FloatKind.f64.format.order z m == some .eq) = true := by
  have e : FloatKind.f64.format.order z m = some (compare (sv z) (sv m)) := fo_sv hz hm
  rw [e, compare_int, if_neg (by omega), if_pos h]; rfl
theorem min_ex {P : Program} {t : TypeId} {x y : Nat} (hx : nanB x = false) (hy : nanB y = false) : ∃ m, nanB m = false ∧ sv m ≤ sv x ∧ sv m ≤ sv y ∧ (sv m = sv x ∨ sv m = sv y) ∧ ∀ w, (Builtin.min_ #[t, t] t #[.float .f64 x, .float .f64 y]).run P w = .ok (.float .f64 m) w := by
  have e : FloatKind.f64.format.order x y = some (compare (sv x) (sv y)) := fo_sv hx hy
  rcases Int.lt_trichotomy (sv x) (sv y) with h | h | h
  · rw [cmp_lt h] at e
    exact ⟨x, hx, by omega, by omega, by omega, fun w => by simp [Builtin.min_, Builtin.min2, e]⟩
  · rw [compare_int, if_neg (by omega), if_pos h] at e
    refine ⟨if (FloatKind.f64.decode x).neg = true then x else y, ?_, ?_, ?_, ?_, fun w => by simp [Builtin.min_, Builtin.min2, e]⟩ <;> split <;> first | assumption | omega
  · rw [cmp_gt h] at e
    exact ⟨y, hy, by omega, by omega, by omega, fun w => by simp [Builtin.min_, Builtin.min2, e]⟩
theorem max_ex {P : Program} {t : TypeId} {x y : Nat} (hx : nanB x = false) (hy : nanB y = false) : ∃ m, nanB m = false ∧ sv x ≤ sv m ∧ sv y ≤ sv m ∧ (sv m = sv x ∨ sv m = sv y) ∧ ∀ w, (Builtin.max_ #[t, t] t #[.float .f64 x, .float .f64 y]).run P w = .ok (.float .f64 m) w := by
  have e : FloatKind.f64.format.order x y = some (compare (sv x) (sv y)) := fo_sv hx hy
  rcases Int.lt_trichotomy (sv x) (sv y) with h | h | h
  · rw [cmp_lt h] at e
    exact ⟨y, hy, by omega, by omega, by omega, fun w => by simp [Builtin.max_, Builtin.max2, e]⟩
  · rw [compare_int, if_neg (by omega), if_pos h] at e
    refine ⟨if (FloatKind.f64.decode x).neg = true then y else x, ?_, ?_, ?_, ?_, fun w => by simp [Builtin.max_, Builtin.max2, e]⟩ <;> split <;> first | assumption | omega
  · rw [cmp_gt h] at e
    exact ⟨x, hx, by omega, by omega, by omega, fun w => by simp [Builtin.max_, Builtin.max2, e]⟩
/-- Finite: no NaN and no infinity. -/
theorem fin_of {x : Nat} (hn : nanB x = false) (hi : infB x = false) : rung x < inf := by
  have h1 := no_nan hn
  rcases Nat.lt_or_ge (rung x) inf with h | h
  · exact h
  · exfalso
    have he : rung x = inf := by omega
    unfold infB at hi
    rw [he] at hi
    exact absurd hi (by decide +kernel)
theorem fsub_lt {x y d : Nat} (h : fsub y x = some d) : d < 18446744073709551616 := FloatKind.f64.format.sub_lt h

theorem lawStays_w (a b : Int) (w : World) (ha : 0 ≤ a ∧ a ≤ 18446744073709551615) (hb : 0 ≤ b ∧ b ≤ 18446744073709551615) :
    Calls Try.prog 9 #[.int .u64 a, .int .u64 b] w fun e w' => e = .returned (.bool true) ∧ Below w.heap.size w w' := by
  obtain ⟨x, rfl⟩ := Int.eq_ofNat_of_zero_le ha.1
  obtain ⟨y, rfl⟩ := Int.eq_ofNat_of_zero_le hb.1
  have hx : x < 18446744073709551616 := by omega
  have hy : y < 18446744073709551616 := by omega
  cases hi : infB x
  · cases hj : infB y
    · cases hn : nanB x
      · cases hm : nanB y
        · have fx := fin_of hn hi
          have fy := fin_of hm hj
          obtain ⟨neg, mag, k, h1, _⟩ := fsub_fin fx fy
          cases hk : infB (wordN neg (rungN mag (k : Int)))
          · have hnd := (word_parts (neg := neg) (rungN_le mag (k : Int))).2.2.1
            have fd := fin_of hnd hk
            obtain ⟨z, z1, z2, z3, z4⟩ := smooth_between fx fy (fun d hd => by rw [h1] at hd; cases hd; exact fd)
            obtain ⟨u, u1, u2, u3, _⟩ := smooth_between fx fx (fun d hd => by
              obtain ⟨n1, m1, k1, q1, q2, _⟩ := fsub_fin fx fx
              rw [q1] at hd; cases hd
              rw [(word_parts (neg := n1) (rungN_le m1 (k1 : Int))).1]
              have q3 := near_le m1 (k1 : Int) 0 (by
                rw [show ((k1 : Int)).toNat = k1 from Int.toNat_natCast k1, q2]; simp)
              have : 0 < inf := by decide
              omega)
            obtain ⟨mn, m1, m2, m3, m4, m5⟩ := min_ex (P := Try.prog) (t := 24) hn hm
            obtain ⟨mx, x1, x2, x3, x4, x5⟩ := max_ex (P := Try.prog) (t := 24) hn hm
            have zz : sv mn ≤ sv z ∧ sv z ≤ sv mx := by
              rcases Int.le_total (sv x) (sv y) with h | h
              · have := z3 h; omega
              · have := z4 h; omega
            have uu : sv u = sv x := by have := u3 (Int.le_refl _); omega
            exact stays_6 x y w hy hx hi hj hn hm _ (fsub_lt h1) h1 hk z u mn mx z1 u1 m5 x5 (ge_sv z2 m1 zz.1) (le_sv z2 x1 zz.2) (eq_sv u2 hn uu)
          · exact stays_5 x y w hy hx hi hj hn hm _ (fsub_lt h1) h1 hk
        · exact stays_4 x y w hy hx hi hj hn hm
      · exact stays_3 x y w hy hx hi hj hn
    · exact stays_2 x y w hy hx hi hj
  · exact stays_1 x y w hy hx hi
end Go.Proofs.Ytajklipfdjaejaa
