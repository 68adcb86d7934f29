/-
  WideBack walked, whatever the input.
-/
import Derived.Test.YtbldmenaaedffaaBc
import Derived.Test.YtbldmenaaedffaaBd
namespace Go.Proofs.Ytbldmenaaedffaa
open Go.RowKit

theorem cmp_val {a b : Nat} {c : Int} (h : cmpI (a : Int) (b : Int) = c) (w : World) : Calls Try.prog 20 #[wv a, wv b] w fun e w' => e = .returned (.int .i64 c) ∧ Below w.heap.size w w' := by
  rw [← h]; exact Cmp_any a b w
theorem cmp_m {a b : Nat} (h : a < b) : cmpI (a : Int) (b : Int) = -1 := by unfold cmpI; rw [if_pos (by omega)]
theorem cmp_p {a b : Nat} (h : b < a) : cmpI (a : Int) (b : Int) = 1 := by unfold cmpI; rw [if_neg (by omega), if_pos (by omega)]
theorem cmp_z (a : Nat) : cmpI (a : Int) (a : Int) = 0 := by unfold cmpI; rw [if_neg (by omega), if_neg (by omega)]
theorem size_t {s t : ByteArray} (h : s.size = t.size) : ((s.size : Int) == (t.size : Int)) = true := by rw [h]; simp
theorem size_f {s t : ByteArray} (h : t.size < s.size) : ((s.size : Int) == (t.size : Int)) = false := by rw [beq_eq_false_iff_ne]; omega
theorem less_self : ∀ l : List UInt8, Op.bytesLess l l = false
  | [] => rfl
  | a :: l => by
    rw [Op.bytesLess, less_self l]
    simp [UInt8.lt_irrefl]
theorem list_f {a b : Nat} (h : ¬ a = b) : ((textOf a).toList == (textOf b).toList) = false := by
  cases hc : ((textOf a).toList == (textOf b).toList)
  · rfl
  · exact absurd (text_inj (by simpa using hc)) h

theorem lawBack_w (a b : Nat) (s : ByteArray) (w : World) (ha : a < W128) (hb : b < W128) (_hs : s.size ≤ 9223372036854775807) :
    Calls Try.prog 9 #[wv a, wv b, .string s] w fun e w' => e = .returned (.bool true) ∧ Below w.heap.size w w' := by
  by_cases h100 : 100 < s.size
  · exact back_long a b s w h100
  · have h100' : s.size ≤ 100 := by omega
    obtain ⟨r, e, i, hR, _, hO⟩ := Read_both s h100'
    have hTa := fun w => Text_any a w ha
    have hTb := fun w => Text_any b w hb
    have hRt := Read_text a ha
    rcases hO with ⟨rfl, rfl, hr, hrl, h0, hg, hz⟩ | ⟨he, rfl, hi0, hi1⟩
    · have hY := fun w => Text_any r w hrl
      have hts : textOf r = s := by rw [hr]; exact text_num h0 hg hz
      rw [hts] at hY
      rcases Nat.lt_trichotomy a b with h | h | h
      · rcases text_lt h with o | ⟨o2, o3⟩
        · exact back_11 a b r (textOf a) (textOf b) s w h100' hTa hTb hRt hR hY (cmp_val (cmp_m h)) (cmp_val (cmp_p h)) o
        · exact back_12 a b r (textOf a) (textOf b) s w h100' hTa hTb hRt hR hY (cmp_val (cmp_m h)) (cmp_val (cmp_p h)) (by omega) (size_t o2) o3
      · subst h
        exact back_13 a a r (textOf a) (textOf a) s w h100' hTa hTb hRt hR hY (cmp_val (cmp_z a)) (cmp_val (cmp_z a)) (Nat.le_refl _) (size_t rfl) (less_self _) (by simp)
      · rcases text_gt h with o | ⟨o2, o3⟩
        · exact back_14 a b r (textOf a) (textOf b) s w h100' hTa hTb hRt hR hY (cmp_val (cmp_p h)) (cmp_val (cmp_m h)) o (size_f o) (list_f (by omega))
        · exact back_15 a b r (textOf a) (textOf b) s w h100' hTa hTb hRt hR hY (cmp_val (cmp_p h)) (cmp_val (cmp_m h)) (by omega) (size_t o2) o3 (list_f (by omega))
    · rw [wv_0] at hR
      have g1 : (e == 0) = false := by rw [beq_eq_false_iff_ne]; exact he
      rcases Nat.lt_trichotomy a b with h | h | h
      · rcases text_lt h with o | ⟨o2, o3⟩
        · exact back_21 a b (textOf a) (textOf b) s e i w h100' hTa hTb hRt hR (cmp_val (cmp_m h)) (cmp_val (cmp_p h)) o g1 hi0 hi1
        · exact back_22 a b (textOf a) (textOf b) s e i w h100' hTa hTb hRt hR (cmp_val (cmp_m h)) (cmp_val (cmp_p h)) (by omega) (size_t o2) o3 g1 hi0 hi1
      · subst h
        exact back_23 a a (textOf a) (textOf a) s e i w h100' hTa hTb hRt hR (cmp_val (cmp_z a)) (cmp_val (cmp_z a)) (Nat.le_refl _) (size_t rfl) (less_self _) (by simp) g1 hi0 hi1
      · rcases text_gt h with o | ⟨o2, o3⟩
        · exact back_24 a b (textOf a) (textOf b) s e i w h100' hTa hTb hRt hR (cmp_val (cmp_p h)) (cmp_val (cmp_m h)) o (size_f o) (list_f (by omega)) g1 hi0 hi1
        · exact back_25 a b (textOf a) (textOf b) s e i w h100' hTa hTb hRt hR (cmp_val (cmp_p h)) (cmp_val (cmp_m h)) (by omega) (size_t o2) o3 (list_f (by omega)) g1 hi0 hi1
end Go.Proofs.Ytbldmenaaedffaa
