/-
  WideFractions walked, whatever the input.
-/
import Derived.Test.YtbldmenaaedffaaFa
import Derived.Test.YtbldmenaaedffaaFb
namespace Go.Proofs.Ytbldmenaaedffaa
open Go.RowKit

theorem mB_t {x y : Nat} (h : y < x) : moreB x y = true := by unfold moreB; exact decide_eq_true h
theorem mB_f {x y : Nat} (h : ¬ y < x) : moreB x y = false := by unfold moreB; exact decide_eq_false h
theorem zu_any (P Q R : Nat) : (!moreB P Q || !moreB Q R || moreB P R) = true ∧ (!moreB Q P || moreB Q R || !moreB P R) = true := by
  unfold moreB
  constructor
  · by_cases h1 : Q < P <;> by_cases h2 : R < Q <;> by_cases h3 : R < P <;> simp [h1, h2, h3] <;> omega
  · by_cases h1 : P < Q <;> by_cases h2 : R < Q <;> by_cases h3 : R < P <;> simp [h1, h2, h3] <;> omega

theorem lawFractions_any (a b c : Nat) (n m k : Int) (w : World) (ha : a < W128) (hb : b < W128) (hc : c < W128) :
    Calls Try.prog 8 #[wv a, wv b, wv c, .int .i64 n, .int .i64 m, .int .i64 k] w fun e w' => e = .returned (.bool true) ∧ Below w.heap.size w w' := by
  obtain ⟨n', hn1, hn2, en⟩ := mask62 n
  obtain ⟨m', hm1, hm2, em⟩ := mask62 m
  obtain ⟨k', hk1, hk2, ek⟩ := mask62 k
  have hX := fun w => More_any a b n' m' w ha hb (by omega) (by omega)
  have hY := fun w => More_any b a m' n' w hb ha (by omega) (by omega)
  have hZ := fun w => More_any b c m' k' w hb hc (by omega) (by omega)
  have hU := fun w => More_any a c n' k' w ha hc (by omega) (by omega)
  have hzu := zu_any (a * n') (b * m') (c * k')
  have hPk := fun h w => Times_ok a n' w ha (by omega) h
  have hPf : ∀ (h : ¬ a * n' < W128) w, Calls Try.prog 16 #[wv a, .int .i64 n'] w fun e w' => e = .returned (.tuple #[wv 0, .int .i64 7]) ∧ Below w.heap.size w w' := fun h w => by
    rw [wv_0]; exact Times_full a n' w ha (by omega) h
  have hQk := fun h w => Times_ok b m' w hb (by omega) h
  have hQf : ∀ (h : ¬ b * m' < W128) w, Calls Try.prog 16 #[wv b, .int .i64 m'] w fun e w' => e = .returned (.tuple #[wv 0, .int .i64 7]) ∧ Below w.heap.size w w' := fun h w => by
    rw [wv_0]; exact Times_full b m' w hb (by omega) h
  generalize eP : a * n' = P at *
  generalize eQ : b * m' = Q at *
  generalize eR : c * k' = R at *
  rcases Nat.lt_trichotomy P Q with h | h | h
  · have hx := mB_f (x := P) (y := Q) (by omega)
    have hy := mB_t h
    have e : cmpI P Q = -1 := by unfold cmpI; rw [if_pos (by omega)]
    by_cases hp : P < W128
    · by_cases hq : Q < W128
      · exact fr4 a b c P Q n m k n' m' k' w _ _ _ _ 0 0 _ en em ek hX hY hZ hU (hPk hp) (hQk hq) (fun w => Cmp_any P Q w) hx hy rfl rfl e hzu
      · exact fr5 a b c P 0 n m k n' m' k' w _ _ _ _ 0 7 _ en em ek hX hY hZ hU (hPk hp) (hQf hq) (fun w => Cmp_any P 0 w) hx hy rfl rfl hzu
    · exact fr6 a b c 0 0 n m k n' m' k' w _ _ _ _ 7 7 _ en em ek hX hY hZ hU (hPf hp) (hQf (by omega)) (fun w => Cmp_any 0 0 w) hx hy rfl rfl hzu
  · have hx := mB_f (x := P) (y := Q) (by omega)
    have hy := mB_f (x := Q) (y := P) (by omega)
    have e : cmpI P Q = 0 := by unfold cmpI; rw [if_neg (by omega), if_neg (by omega)]
    by_cases hp : P < W128
    · exact fr7 a b c P Q n m k n' m' k' w _ _ _ _ 0 0 _ en em ek hX hY hZ hU (hPk hp) (hQk (by omega)) (fun w => Cmp_any P Q w) hx hy rfl rfl e hzu
    · exact fr8 a b c 0 0 n m k n' m' k' w _ _ _ _ 7 7 _ en em ek hX hY hZ hU (hPf hp) (hQf (by omega)) (fun w => Cmp_any 0 0 w) hx hy rfl rfl hzu
  · have hx := mB_t h
    have hy := mB_f (x := Q) (y := P) (by omega)
    have e : cmpI P Q = 1 := by unfold cmpI; rw [if_neg (by omega), if_pos (by omega)]
    by_cases hq : Q < W128
    · by_cases hp : P < W128
      · exact fr1 a b c P Q n m k n' m' k' w _ _ _ _ 0 0 _ en em ek hX hY hZ hU (hPk hp) (hQk hq) (fun w => Cmp_any P Q w) hx hy rfl rfl e hzu
      · exact fr2 a b c 0 Q n m k n' m' k' w _ _ _ _ 7 0 _ en em ek hX hY hZ hU (hPf hp) (hQk hq) (fun w => Cmp_any 0 Q w) hx hy rfl rfl hzu
    · exact fr3 a b c 0 0 n m k n' m' k' w _ _ _ _ 7 7 _ en em ek hX hY hZ hU (hPf (by omega)) (hQf hq) (fun w => Cmp_any 0 0 w) hx hy rfl rfl hzu
end Go.Proofs.Ytbldmenaaedffaa
