/-
  WideRing walked, whatever the input.
-/
import Derived.Test.YtbldmenaaedffaaRa
import Derived.Test.YtbldmenaaedffaaRb
import Derived.Test.YtbldmenaaedffaaRc
import Derived.Test.YtbldmenaaedffaaRd
import Derived.Test.YtbldmenaaedffaaRe
import Derived.Test.YtbldmenaaedffaaGd
namespace Go.Proofs.Ytbldmenaaedffaa
open Go.RowKit

theorem PlusF (a b : Nat) (ha : a < W128) (hb : b < W128) (h : ¬ a + b < W128) (w : World) : Calls Try.prog 14 #[wv a, wv b] w fun e w' => e = .returned (.tuple #[wv 0, .int .i64 7]) ∧ Below w.heap.size w w' := by
  rw [wv_0]; exact Plus_full a b w ha hb h
theorem TimesF (a n : Nat) (ha : a < W128) (hn : n ≤ 9223372036854775807) (h : ¬ a * n < W128) (w : World) : Calls Try.prog 16 #[wv a, .int .i64 n] w fun e w' => e = .returned (.tuple #[wv 0, .int .i64 7]) ∧ Below w.heap.size w w' := by
  rw [wv_0]; exact Times_full a n w ha hn h
theorem PlusX (a b : Nat) (ha : a < W128) (hb : b < W128) : ∃ (r : Nat) (x : Int), ∀ w, Calls Try.prog 14 #[wv a, wv b] w fun e w' => e = .returned (.tuple #[wv r, .int .i64 x]) ∧ Below w.heap.size w w' := by
  obtain ⟨r, x, h, _⟩ := Plus_both a b ha hb
  exact ⟨r, x, h⟩
theorem TimesX (a n : Nat) (ha : a < W128) (hn : n ≤ 9223372036854775807) : ∃ (r : Nat) (x : Int), ∀ w, Calls Try.prog 16 #[wv a, .int .i64 n] w fun e w' => e = .returned (.tuple #[wv r, .int .i64 x]) ∧ Below w.heap.size w w' := by
  obtain ⟨r, x, h, _⟩ := Times_both a n ha (by omega)
  exact ⟨r, x, h⟩
theorem cmp_ge {p a : Nat} (h : a ≤ p) : decide (cmpI (p : Int) (a : Int) < 0) = false := by
  unfold cmpI
  rw [if_neg (by omega)]
  split <;> simp
theorem zero_lt : 0 < W128 := by decide

theorem lawRing_w (a b c : Nat) (n m : Int) (w : World) (ha : a < W128) (hb : b < W128) (hc : c < W128) (_hn : -9223372036854775808 ≤ n ∧ n ≤ 9223372036854775807) (_hm : -9223372036854775808 ≤ m ∧ m ≤ 9223372036854775807) :
    Calls Try.prog 7 #[wv a, wv b, wv c, .int .i64 n, .int .i64 m] w fun e w' => e = .returned (.bool true) ∧ Below w.heap.size w w' := by
  obtain ⟨n', hn, en⟩ := mask63 n
  obtain ⟨m', hm, em⟩ := mask63 m
  obtain ⟨y, h, hY⟩ := PlusX b c hb hc
  obtain ⟨t, j, hT⟩ := TimesX b n' hb hn
  obtain ⟨r, o, hR⟩ := TimesX a m' ha hm
  have hmul : a * m' * n' = a * n' * m' := by rw [Nat.mul_assoc, Nat.mul_assoc, Nat.mul_comm m']
  have last : a * n' * m' < W128 → 0 < n' → a * m' < W128 := fun h1 h2 => by
    refine Nat.lt_of_le_of_lt ?_ h1
    rw [← hmul]; exact Nat.le_mul_of_pos_right _ h2
  have z1 : ∀ k, 0 * k < W128 := fun k => by rw [Nat.zero_mul]; exact zero_lt
  by_cases he : a + b < W128
  · have hP := fun w => Plus_ok a b w he
    have hQ := fun w => Plus_ok b a w (by rw [Nat.add_comm]; exact he)
    rw [Nat.add_comm b a] at hQ
    have hC := fun w => Cmp_any (a + b) a w
    have hD := fun w => Cmp_any (a + b) b w
    have hcpa := cmp_ge (show a ≤ a + b by omega)
    have hcpb := cmp_ge (show b ≤ a + b by omega)
    by_cases hg : a + b + c < W128
    · have hX := fun w => Plus_ok (a + b) c w hg
      have hY0 := fun w => Plus_ok b c w (by omega)
      have hZ := fun w => Plus_ok a (b + c) w (by omega)
      rw [← Nat.add_assoc] at hZ
      by_cases hkk : (a + b) * n' < W128
      · have hU := fun w => Times_ok (a + b) n' w he hn hkk
        have hab : (a + b) * n' = a * n' + b * n' := Nat.add_mul a b n'
        have hs : a * n' < W128 := by omega
        have hT0 := fun w => Times_ok b n' w hb hn (by omega)
        have hV := fun w => Plus_ok (a * n') (b * n') w (by omega)
        rw [← hab] at hV
        have hS := fun w => Times_ok a n' w ha hn hs
        by_cases hl : a * n' * m' < W128
        · have hW := fun w => Times_ok (a * n') m' w hs hm hl
          by_cases h0 : 0 < n'
          · by_cases m0 : 0 < m'
            · have hR0 := fun w => Times_ok a m' w ha hm (last hl h0)
              have hO := fun w => Times_ok (a * m') n' w (last hl h0) hn (by rw [hmul]; exact hl)
              rw [hmul] at hO
              exact ring_000_5 (w := w) (en := en) (em := em) (hP := hP) (hQ := hQ) (hC := hC) (hD := hD) (hcpa := hcpa) (hcpb := hcpb) (hX := hX) (hY := hY0) (hZ := hZ) (hT := hT0) (hU := hU) (hV := hV) (hS := hS) (hW := hW) (hR := hR0) (hO := hO) (hn := h0) (hm := m0)
            · exact ring_000_4 (w := w) (en := en) (em := em) (hP := hP) (hQ := hQ) (hC := hC) (hD := hD) (hcpa := hcpa) (hcpb := hcpb) (hX := hX) (hY := hY0) (hZ := hZ) (hT := hT0) (hU := hU) (hV := hV) (hS := hS) (hW := hW) (hR := hR) (hn := h0) (hm := by omega)
          · exact ring_000_3 (w := w) (en := en) (em := em) (hP := hP) (hQ := hQ) (hC := hC) (hD := hD) (hcpa := hcpa) (hcpb := hcpb) (hX := hX) (hY := hY0) (hZ := hZ) (hT := hT0) (hU := hU) (hV := hV) (hS := hS) (hW := hW) (hR := hR) (hn := by omega)
        · have hW := TimesF (a * n') m' hs hm hl
          exact ring_000_2 (w := w) (en := en) (em := em) (hP := hP) (hQ := hQ) (hC := hC) (hD := hD) (hcpa := hcpa) (hcpb := hcpb) (hX := hX) (hY := hY0) (hZ := hZ) (hT := hT0) (hU := hU) (hV := hV) (hS := hS) (hW := hW) (hR := hR)
      · have hU := TimesF (a + b) n' he hn hkk
        by_cases hs : a * n' < W128
        · have hS := fun w => Times_ok a n' w ha hn hs
          by_cases hl : a * n' * m' < W128
          · have hW := fun w => Times_ok (a * n') m' w hs hm hl
            by_cases h0 : 0 < n'
            · by_cases m0 : 0 < m'
              · have hR0 := fun w => Times_ok a m' w ha hm (last hl h0)
                have hO := fun w => Times_ok (a * m') n' w (last hl h0) hn (by rw [hmul]; exact hl)
                rw [hmul] at hO
                exact ring_007_5 (w := w) (en := en) (em := em) (hP := hP) (hQ := hQ) (hC := hC) (hD := hD) (hcpa := hcpa) (hcpb := hcpb) (hX := hX) (hY := hY0) (hZ := hZ) (hT := hT) (hU := hU) (hS := hS) (hW := hW) (hR := hR0) (hO := hO) (hn := h0) (hm := m0)
              · exact ring_007_4 (w := w) (en := en) (em := em) (hP := hP) (hQ := hQ) (hC := hC) (hD := hD) (hcpa := hcpa) (hcpb := hcpb) (hX := hX) (hY := hY0) (hZ := hZ) (hT := hT) (hU := hU) (hS := hS) (hW := hW) (hR := hR) (hn := h0) (hm := by omega)
            · obtain rfl : n' = 0 := by omega
              rw [Nat.mul_zero] at hkk
              exact absurd zero_lt hkk
          · have hW := TimesF (a * n') m' hs hm hl
            exact ring_007_2 (w := w) (en := en) (em := em) (hP := hP) (hQ := hQ) (hC := hC) (hD := hD) (hcpa := hcpa) (hcpb := hcpb) (hX := hX) (hY := hY0) (hZ := hZ) (hT := hT) (hU := hU) (hS := hS) (hW := hW) (hR := hR)
        · have hS := TimesF a n' ha hn hs
          have hW := fun w => Times_ok 0 m' w zero_lt hm (z1 m')
          exact ring_007_1 (w := w) (en := en) (em := em) (hP := hP) (hQ := hQ) (hC := hC) (hD := hD) (hcpa := hcpa) (hcpb := hcpb) (hX := hX) (hY := hY0) (hZ := hZ) (hT := hT) (hU := hU) (hS := hS) (hW := hW) (hR := hR)
    · have hX := PlusF (a + b) c he hc hg
      by_cases hkk : (a + b) * n' < W128
      · have hU := fun w => Times_ok (a + b) n' w he hn hkk
        have hab : (a + b) * n' = a * n' + b * n' := Nat.add_mul a b n'
        have hs : a * n' < W128 := by omega
        have hT0 := fun w => Times_ok b n' w hb hn (by omega)
        have hV := fun w => Plus_ok (a * n') (b * n') w (by omega)
        rw [← hab] at hV
        have hS := fun w => Times_ok a n' w ha hn hs
        by_cases hl : a * n' * m' < W128
        · have hW := fun w => Times_ok (a * n') m' w hs hm hl
          by_cases h0 : 0 < n'
          · by_cases m0 : 0 < m'
            · have hR0 := fun w => Times_ok a m' w ha hm (last hl h0)
              have hO := fun w => Times_ok (a * m') n' w (last hl h0) hn (by rw [hmul]; exact hl)
              rw [hmul] at hO
              exact ring_070_5 (w := w) (en := en) (em := em) (hP := hP) (hQ := hQ) (hC := hC) (hD := hD) (hcpa := hcpa) (hcpb := hcpb) (hX := hX) (hY := hY) (hT := hT0) (hU := hU) (hV := hV) (hS := hS) (hW := hW) (hR := hR0) (hO := hO) (hn := h0) (hm := m0)
            · exact ring_070_4 (w := w) (en := en) (em := em) (hP := hP) (hQ := hQ) (hC := hC) (hD := hD) (hcpa := hcpa) (hcpb := hcpb) (hX := hX) (hY := hY) (hT := hT0) (hU := hU) (hV := hV) (hS := hS) (hW := hW) (hR := hR) (hn := h0) (hm := by omega)
          · exact ring_070_3 (w := w) (en := en) (em := em) (hP := hP) (hQ := hQ) (hC := hC) (hD := hD) (hcpa := hcpa) (hcpb := hcpb) (hX := hX) (hY := hY) (hT := hT0) (hU := hU) (hV := hV) (hS := hS) (hW := hW) (hR := hR) (hn := by omega)
        · have hW := TimesF (a * n') m' hs hm hl
          exact ring_070_2 (w := w) (en := en) (em := em) (hP := hP) (hQ := hQ) (hC := hC) (hD := hD) (hcpa := hcpa) (hcpb := hcpb) (hX := hX) (hY := hY) (hT := hT0) (hU := hU) (hV := hV) (hS := hS) (hW := hW) (hR := hR)
      · have hU := TimesF (a + b) n' he hn hkk
        by_cases hs : a * n' < W128
        · have hS := fun w => Times_ok a n' w ha hn hs
          by_cases hl : a * n' * m' < W128
          · have hW := fun w => Times_ok (a * n') m' w hs hm hl
            by_cases h0 : 0 < n'
            · by_cases m0 : 0 < m'
              · have hR0 := fun w => Times_ok a m' w ha hm (last hl h0)
                have hO := fun w => Times_ok (a * m') n' w (last hl h0) hn (by rw [hmul]; exact hl)
                rw [hmul] at hO
                exact ring_077_5 (w := w) (en := en) (em := em) (hP := hP) (hQ := hQ) (hC := hC) (hD := hD) (hcpa := hcpa) (hcpb := hcpb) (hX := hX) (hY := hY) (hT := hT) (hU := hU) (hS := hS) (hW := hW) (hR := hR0) (hO := hO) (hn := h0) (hm := m0)
              · exact ring_077_4 (w := w) (en := en) (em := em) (hP := hP) (hQ := hQ) (hC := hC) (hD := hD) (hcpa := hcpa) (hcpb := hcpb) (hX := hX) (hY := hY) (hT := hT) (hU := hU) (hS := hS) (hW := hW) (hR := hR) (hn := h0) (hm := by omega)
            · obtain rfl : n' = 0 := by omega
              rw [Nat.mul_zero] at hkk
              exact absurd zero_lt hkk
          · have hW := TimesF (a * n') m' hs hm hl
            exact ring_077_2 (w := w) (en := en) (em := em) (hP := hP) (hQ := hQ) (hC := hC) (hD := hD) (hcpa := hcpa) (hcpb := hcpb) (hX := hX) (hY := hY) (hT := hT) (hU := hU) (hS := hS) (hW := hW) (hR := hR)
        · have hS := TimesF a n' ha hn hs
          have hW := fun w => Times_ok 0 m' w zero_lt hm (z1 m')
          exact ring_077_1 (w := w) (en := en) (em := em) (hP := hP) (hQ := hQ) (hC := hC) (hD := hD) (hcpa := hcpa) (hcpb := hcpb) (hX := hX) (hY := hY) (hT := hT) (hU := hU) (hS := hS) (hW := hW) (hR := hR)
  · have hP := PlusF a b ha hb he
    have hQ := PlusF b a hb ha (by rw [Nat.add_comm]; exact he)
    have hX := fun w => Plus_ok 0 c w (by omega)
    have hU := fun w => Times_ok 0 n' w zero_lt hn (z1 n')
    by_cases hs : a * n' < W128
    · have hS := fun w => Times_ok a n' w ha hn hs
      by_cases hl : a * n' * m' < W128
      · have hW := fun w => Times_ok (a * n') m' w hs hm hl
        by_cases h0 : 0 < n'
        · by_cases m0 : 0 < m'
          · have hR0 := fun w => Times_ok a m' w ha hm (last hl h0)
            have hO := fun w => Times_ok (a * m') n' w (last hl h0) hn (by rw [hmul]; exact hl)
            rw [hmul] at hO
            exact ring_700_5 (w := w) (en := en) (em := em) (hP := hP) (hQ := hQ) (hX := hX) (hY := hY) (hT := hT) (hU := hU) (hS := hS) (hW := hW) (hR := hR0) (hO := hO) (hn := h0) (hm := m0)
          · exact ring_700_4 (w := w) (en := en) (em := em) (hP := hP) (hQ := hQ) (hX := hX) (hY := hY) (hT := hT) (hU := hU) (hS := hS) (hW := hW) (hR := hR) (hn := h0) (hm := by omega)
        · exact ring_700_3 (w := w) (en := en) (em := em) (hP := hP) (hQ := hQ) (hX := hX) (hY := hY) (hT := hT) (hU := hU) (hS := hS) (hW := hW) (hR := hR) (hn := by omega)
      · have hW := TimesF (a * n') m' hs hm hl
        exact ring_700_2 (w := w) (en := en) (em := em) (hP := hP) (hQ := hQ) (hX := hX) (hY := hY) (hT := hT) (hU := hU) (hS := hS) (hW := hW) (hR := hR)
    · have hS := TimesF a n' ha hn hs
      have hW := fun w => Times_ok 0 m' w zero_lt hm (z1 m')
      exact ring_700_1 (w := w) (en := en) (em := em) (hP := hP) (hQ := hQ) (hX := hX) (hY := hY) (hT := hT) (hU := hU) (hS := hS) (hW := hW) (hR := hR)
end Go.Proofs.Ytbldmenaaedffaa
