/-
  WideSums walked, whatever the input.
-/
import Derived.Test.YtbldmenaaedffaaGc
namespace Go.Proofs.Ytbldmenaaedffaa
open Go.RowKit

theorem sumV_form (ys : List Int) : ∃ (r : Nat) (x : Int), sumV ys = .tuple #[wv r, .int .i64 x] := by
  unfold sumV; split
  · exact ⟨_, _, rfl⟩
  · exact ⟨0, 3, by rw [wv_0]⟩
theorem Of_both (n : Int) (hn : n ≤ 9223372036854775807) : ∃ (r : Nat) (x : Int), (∀ w, Calls Try.prog 12 #[.int .i64 n] w fun e w' => e = .returned (.tuple #[wv r, .int .i64 x]) ∧ Below w.heap.size w w') ∧ (∀ w, Calls Try.prog 13 #[.int .i64 n] w fun e w' => e = .returned (.tuple #[wv r, .int .i64 x]) ∧ Below w.heap.size w w') := by
  by_cases h : n < 0
  · refine ⟨0, 3, fun w => ?_, fun w => ?_⟩
    · rw [wv_0]; exact Of_neg n w h
    · rw [wv_0]; exact refOf_neg n w h
  · obtain ⟨k, rfl⟩ := Int.eq_ofNat_of_zero_le (show 0 ≤ n by omega)
    exact ⟨k, 0, fun w => Of_nat k w (by omega), fun w => refOf_nat k w (by omega)⟩
theorem Plus_both (a b : Nat) (ha : a < W128) (hb : b < W128) : ∃ (r : Nat) (x : Int), (∀ w, Calls Try.prog 14 #[wv a, wv b] w fun e w' => e = .returned (.tuple #[wv r, .int .i64 x]) ∧ Below w.heap.size w w') ∧ (∀ w, Calls Try.prog 15 #[wv a, wv b] w fun e w' => e = .returned (.tuple #[wv r, .int .i64 x]) ∧ Below w.heap.size w w') := by
  by_cases h : a + b < W128
  · exact ⟨a + b, 0, fun w => Plus_ok a b w h, fun w => refPlus_ok a b w h⟩
  · refine ⟨0, 7, fun w => ?_, fun w => ?_⟩
    · rw [wv_0]; exact Plus_full a b w ha hb h
    · rw [wv_0]; exact refPlus_full a b w ha hb h
theorem Times_both (a : Nat) (n : Int) (ha : a < W128) (hn : n ≤ 9223372036854775807) : ∃ (r : Nat) (x : Int), (∀ w, Calls Try.prog 16 #[wv a, .int .i64 n] w fun e w' => e = .returned (.tuple #[wv r, .int .i64 x]) ∧ Below w.heap.size w w') ∧ (∀ w, Calls Try.prog 17 #[wv a, .int .i64 n] w fun e w' => e = .returned (.tuple #[wv r, .int .i64 x]) ∧ Below w.heap.size w w') := by
  by_cases h : n < 0
  · refine ⟨0, 3, fun w => ?_, fun w => ?_⟩
    · rw [wv_0]; exact Times_neg a n w h
    · rw [wv_0]; exact refTimes_neg a n w h
  · obtain ⟨k, rfl⟩ := Int.eq_ofNat_of_zero_le (show 0 ≤ n by omega)
    by_cases hf : a * k < W128
    · exact ⟨a * k, 0, fun w => Times_ok a k w ha (by omega) hf, fun w => refTimes_ok a k w ha (by omega) hf⟩
    · refine ⟨0, 7, fun w => ?_, fun w => ?_⟩
      · rw [wv_0]; exact Times_full a k w ha (by omega) hf
      · rw [wv_0]; exact refTimes_full a k w ha (by omega) hf

theorem lawSums_w (a b : Nat) (n : Int) (s : Option Addr) (len cap : Nat) (zs : List Int) (w : World) (ha : a < W128) (hb : b < W128) (hn : -9223372036854775808 ≤ n ∧ n ≤ 9223372036854775807) (h : IsRow .i64 w s len cap zs) :
    Calls Try.prog 3 #[wv a, wv b, .int .i64 n, .slice s len cap] w fun e w' => e = .returned (.bool true) ∧ Below w.heap.size w w' := by
  by_cases h80 : 80 < len
  · exact lawSums_long a b n s len cap w h80
  · have hlen : (zs.take len).length = len := by have := h.le; rw [List.length_take]; omega
    have hm : ∀ z ∈ zs.take len, z ≤ 9223372036854775807 := by
      intro z hz
      have hz := List.mem_of_mem_take hz
      rcases h with ⟨_, _, _, rfl⟩ | ⟨x, _, _, _, _, _, h6⟩
      · cases hz
      · have q : IntKind.i64.min ≤ z ∧ z ≤ IntKind.i64.max := by simpa [Lit.wf] using h6 z hz
        exact q.2
    have hs : s = none → zs.take len = [] ∧ cap = 0 := by
      rintro rfl
      rcases h with ⟨_, rfl, rfl, rfl⟩ | ⟨x, h1, _⟩
      · exact ⟨rfl, rfl⟩
      · cases h1
    obtain ⟨rO, xO, hO, hO2⟩ := Of_both n hn.2
    obtain ⟨rP, xP, hP, hP2⟩ := Plus_both a b ha hb
    obtain ⟨rT, xT, hT, hT2⟩ := Times_both a n ha hn.2
    obtain ⟨rS, xS, hS⟩ := sumV_form (zs.take len)
    have q := lawSums_walk a b n s cap (zs.take len) w (by omega) hm (rowAt_of h) hs rO rP rT rS xO xP xT xS hS hO hO2 hP hP2 hT hT2
    rwa [hlen] at q
end Go.Proofs.Ytbldmenaaedffaa
