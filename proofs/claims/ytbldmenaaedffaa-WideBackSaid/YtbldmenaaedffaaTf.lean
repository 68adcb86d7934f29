/-
  WideTexts walked, whatever the input.
-/
import Derived.Test.YtbldmenaaedffaaTe
namespace Go.Proofs.Ytbldmenaaedffaa
open Go.RowKit

theorem least_one {P : Nat → Prop} : ∀ i, P i → ∃ i, P i ∧ ∀ j, j < i → ¬ P j := by
  intro i
  induction i using Nat.strongRecOn with
  | _ i ih =>
    intro h
    by_cases hj : ∃ j, j < i ∧ P j
    · obtain ⟨j, h1, h2⟩ := hj
      exact ih j h1 h2
    · exact ⟨i, h, fun j h1 h2 => hj ⟨j, h1, h2⟩⟩
theorem foldl_pow (ds : List Nat) : ∀ n, n * 10 ^ ds.length ≤ ds.foldl (fun n d => n * 10 + d) n := by
  induction ds with
  | nil => intro n; simp
  | cons d r ih =>
    intro n
    rw [List.foldl_cons, List.length_cons, Nat.pow_succ]
    refine Nat.le_trans ?_ (ih _)
    rw [Nat.mul_comm (10 ^ r.length), ← Nat.mul_assoc]
    exact Nat.mul_le_mul_right _ (by omega)
theorem numN_big {ds : List Nat} (hl : 39 < ds.length) (h0 : ∀ d r, ds = d :: r → 0 < d) : ¬ numN ds < W128 := by
  cases ds with
  | nil => simp at hl
  | cons d r =>
    have hd := h0 d r rfl
    have h1 := foldl_pow r (0 * 10 + d)
    unfold numN
    rw [List.foldl_cons]
    have hr : 39 ≤ r.length := by rw [List.length_cons] at hl; omega
    have h2 : 10 ^ 39 ≤ 10 ^ r.length := Nat.pow_le_pow_right (by decide) hr
    have h3 : 1 * 10 ^ 39 ≤ (0 * 10 + d) * 10 ^ r.length := Nat.mul_le_mul (by omega) h2
    have h4 : W128 ≤ 1 * 10 ^ 39 := by decide
    omega
theorem digs_head {s : ByteArray} (hs : 1 < s.size) (hz : ¬ (s[0]'(by omega)).toNat = 48) (hg : ∀ j, ¬ badB s j) : ∀ d r, digs s = d :: r → 0 < d := by
  intro d r h
  have h0 : (digs s)[0]?.getD 0 = d := by rw [h]; rfl
  rw [digs_get (k := 0) (by omega)] at h0
  have := not_bad (hg 0) (by omega)
  omega
/-- What both Reads tell. -/
def ReadOne (s : ByteArray) (r : Nat) (e i : Int) : Prop := (e = 0 ∧ i = 0 ∧ r = numN (digs s) ∧ r < W128 ∧ ¬ s.size = 0 ∧ (∀ j, ¬ badB s j) ∧ ∀ h : 1 < s.size, ¬ (s[0]'(by omega)).toNat = 48) ∨ (¬ e = 0 ∧ r = 0 ∧ 0 ≤ i ∧ i ≤ s.size)
theorem Read_both (s : ByteArray) (hs : s.size ≤ 100) : ∃ (r : Nat) (e i : Int), (∀ w, Calls Try.prog 27 #[.string s] w fun x w' => x = .returned (.tuple #[wv r, fv e i]) ∧ Below w.heap.size w w') ∧
    (∀ w, Calls Try.prog 28 #[.string s] w fun x w' => x = .returned (.tuple #[wv r, fv e i]) ∧ Below w.heap.size w w') ∧ ReadOne s r e i := by
  by_cases h0 : s.size = 0
  · refine ⟨0, 6, 0, fun w => ?_, fun w => ?_, .inr ⟨by omega, rfl, by omega, by omega⟩⟩
    · rw [wv_0]; exact Read_mal s 6 0 w (by omega) (fun w => mal_empty s w h0)
    · rw [wv_0]; exact refRead_empty s w h0
  · by_cases hb : ∃ i, badB s i
    · obtain ⟨i, hi, hm⟩ := least_one (P := badB s) _ hb.choose_spec
      have hlt := hi.1
      refine ⟨0, 5, i, fun w => ?_, fun w => ?_, .inr ⟨by omega, rfl, by omega, by omega⟩⟩
      · rw [wv_0]; exact Read_mal s 5 i w (by omega) (fun w => mal_bad s i w (by omega) hi hm)
      · rw [wv_0]; exact refRead_bad s i w (by omega) hi hm
    · have hg : ∀ j, ¬ badB s j := fun j h => hb ⟨j, h⟩
      by_cases hz : ∃ h : 1 < s.size, (s[0]'(by omega)).toNat = 48
      · obtain ⟨h1, hz⟩ := hz
        refine ⟨0, 5, 0, fun w => ?_, fun w => ?_, .inr ⟨by omega, rfl, by omega, by omega⟩⟩
        · rw [wv_0]; exact Read_mal s 5 0 w (by omega) (fun w => mal_zero s w (by omega) h1 hz hg)
        · rw [wv_0]; exact refRead_zero s w (by omega) h1 hz hg
      · have hz2 : ∀ h : 1 < s.size, ¬ (s[0]'(by omega)).toNat = 48 := fun h k => hz ⟨h, k⟩
        have hok := fun w => mal_ok s w (by omega) h0 hz2 hg
        have hr := fun w => refRead_digits s w hs h0 hz2 hg
        by_cases hl : 39 < s.size
        · have hf : ¬ numN (digs s) < W128 := numN_big (by rw [digs_len]; exact hl) (digs_head (by omega) (hz2 (by omega)) hg)
          rw [readV_full hf] at hr
          refine ⟨0, 3, 0, fun w => ?_, fun w => ?_, .inr ⟨by omega, rfl, by omega, by omega⟩⟩
          · rw [wv_0]; exact Read_long s w hl hok
          · rw [wv_0]; exact hr w
        · have hd := fun w => Read_digits s w hl hg hok
          by_cases hf : numN (digs s) < W128
          · rw [if_pos hf] at hd
            rw [readV_ok hf] at hr
            exact ⟨_, 0, 0, hd, hr, .inl ⟨rfl, rfl, rfl, hf, h0, hg, hz2⟩⟩
          · rw [if_neg hf] at hd
            rw [readV_full hf] at hr
            refine ⟨0, 3, 0, fun w => ?_, fun w => ?_, .inr ⟨by omega, rfl, by omega, by omega⟩⟩
            · rw [wv_0]; exact hd w
            · rw [wv_0]; exact hr w

theorem lawTexts_w (a : Nat) (s : ByteArray) (w : World) (ha : a < W128) (_hs : s.size ≤ 9223372036854775807) :
    Calls Try.prog 5 #[wv a, .string s] w fun e w' => e = .returned (.bool true) ∧ Below w.heap.size w w' := by
  by_cases h : 100 < s.size
  · exact lawTexts_long a s w h
  · obtain ⟨r, e, i, h1, h2, _⟩ := Read_both s (by omega)
    exact lawTexts_walk a s w ha (by omega) r e i h1 h2
end Go.Proofs.Ytbldmenaaedffaa
