/-
  Contracts: how many bytes a number has, by its bits.
-/
import Derived.Test.YtlfmmmlheloloaaJa
import Derived.Lib.Strings
import Derived.Lib.Slices
import Derived.Lib.Small
import Derived.Lib.Walk
import Derived.Lib.BitFns
namespace Go.Proofs.Ytlfmmmlheloloaa
open Go.RowKit Go.Maps

/-- Bits of a number of k bytes. -/
def LenP (k : Nat) (w : World) (e : Ending) (w' : World) : Prop := ∃ r : Nat, e = .returned (.int .i64 (r : Nat)) ∧ w = w' ∧ (r + 7) / 8 = k
theorem len8_pos : ∀ t : Fin 256, 0 < t.val → 1 ≤ (Lib.len8tab[t.val]!).toNat ∧ (Lib.len8tab[t.val]!).toNat ≤ 8 := by decide +kernel
theorem len8_get (t : Nat) (h : t < Lib.len8tab.size) (h1 : t < 256) (h0 : 0 < t) : 1 ≤ (Lib.len8tab[t]'h).toNat ∧ (Lib.len8tab[t]'h).toNat ≤ 8 := by
  have q := len8_pos ⟨t, h1⟩ h0
  simp only [getElem!_pos Lib.len8tab t h] at q
  exact q

set_option maxHeartbeats 4000000 in
set_option maxRecDepth 100000 in
theorem len64_0 (n : Nat) (w : World) (h0 : 1 ≤ n) (h1 : n < 256) : Calls Try.prog 171 #[.int .u64 (n : Nat)] w (LenP 1 w) := by
  have a1 : decide ((4294967296 : Int) ≤ (n : Int)) = false := decide_eq_false (by omega)
  have a2 : decide ((65536 : Int) ≤ (n : Int)) = false := decide_eq_false (by omega)
  have a3 : decide ((256 : Int) ≤ (n : Int)) = false := decide_eq_false (by omega)
  have hl : (n : Int) < 256 := by omega
  have hl0 : 0 ≤ (n : Int) := by omega
  have hm : ((n : Int)) % 256 = (n : Int) := by omega
  have hq := len8_get (n) (by show _ < 256; omega) (by omega) (by omega)
  go_enter Try.func171, Try.ntmps171
  go_wp2
  go_ret
  exact ⟨0 + (Lib.len8tab[n]'(by show _ < 256; omega)).toNat, ret_int (by omega), rfl, by omega⟩

set_option maxHeartbeats 4000000 in
set_option maxRecDepth 100000 in
theorem len64_1 (n : Nat) (w : World) (h0 : 256 ≤ n) (h1 : n < 65536) : Calls Try.prog 171 #[.int .u64 (n : Nat)] w (LenP 2 w) := by
  have a1 : decide ((4294967296 : Int) ≤ (n : Int)) = false := decide_eq_false (by omega)
  have a2 : decide ((65536 : Int) ≤ (n : Int)) = false := decide_eq_false (by omega)
  have a3 : decide ((256 : Int) ≤ (n : Int)) = true := decide_eq_true (by omega)
  have hl : (n : Int) / 256 < 256 := by omega
  have hl0 : 0 ≤ (n : Int) / 256 := by omega
  have hm : ((n : Int) / 256) % 256 = (n : Int) / 256 := by omega
  have hq := len8_get (n / 256) (by show _ < 256; omega) (by omega) (by omega)
  go_enter Try.func171, Try.ntmps171
  go_wp2
  go_ret
  exact ⟨8 + (Lib.len8tab[n / 256]'(by show _ < 256; omega)).toNat, ret_int (by omega), rfl, by omega⟩

set_option maxHeartbeats 4000000 in
set_option maxRecDepth 100000 in
theorem len64_2 (n : Nat) (w : World) (h0 : 65536 ≤ n) (h1 : n < 16777216) : Calls Try.prog 171 #[.int .u64 (n : Nat)] w (LenP 3 w) := by
  have a1 : decide ((4294967296 : Int) ≤ (n : Int)) = false := decide_eq_false (by omega)
  have a2 : decide ((65536 : Int) ≤ (n : Int)) = true := decide_eq_true (by omega)
  have a3 : decide ((256 : Int) ≤ (n : Int) / 65536) = false := decide_eq_false (by omega)
  have hl : (n : Int) / 65536 < 256 := by omega
  have hl0 : 0 ≤ (n : Int) / 65536 := by omega
  have hm : ((n : Int) / 65536) % 256 = (n : Int) / 65536 := by omega
  have hq := len8_get (n / 65536) (by show _ < 256; omega) (by omega) (by omega)
  go_enter Try.func171, Try.ntmps171
  go_wp2
  go_ret
  exact ⟨16 + (Lib.len8tab[n / 65536]'(by show _ < 256; omega)).toNat, ret_int (by omega), rfl, by omega⟩

set_option maxHeartbeats 4000000 in
set_option maxRecDepth 100000 in
theorem len64_3 (n : Nat) (w : World) (h0 : 16777216 ≤ n) (h1 : n < 4294967296) : Calls Try.prog 171 #[.int .u64 (n : Nat)] w (LenP 4 w) := by
  have a1 : decide ((4294967296 : Int) ≤ (n : Int)) = false := decide_eq_false (by omega)
  have a2 : decide ((65536 : Int) ≤ (n : Int)) = true := decide_eq_true (by omega)
  have a3 : decide ((256 : Int) ≤ (n : Int) / 65536) = true := decide_eq_true (by omega)
  have hl : (n : Int) / 65536 / 256 < 256 := by omega
  have hl0 : 0 ≤ (n : Int) / 65536 / 256 := by omega
  have hm : ((n : Int) / 65536 / 256) % 256 = (n : Int) / 65536 / 256 := by omega
  have hq := len8_get (n / 65536 / 256) (by show _ < 256; omega) (by omega) (by omega)
  go_enter Try.func171, Try.ntmps171
  go_wp2
  go_ret
  exact ⟨24 + (Lib.len8tab[n / 65536 / 256]'(by show _ < 256; omega)).toNat, ret_int (by omega), rfl, by omega⟩

set_option maxHeartbeats 4000000 in
set_option maxRecDepth 100000 in
theorem len64_4 (n : Nat) (w : World) (h0 : 4294967296 ≤ n) (h1 : n < 1099511627776) : Calls Try.prog 171 #[.int .u64 (n : Nat)] w (LenP 5 w) := by
  have a1 : decide ((4294967296 : Int) ≤ (n : Int)) = true := decide_eq_true (by omega)
  have a2 : decide ((65536 : Int) ≤ (n : Int) / 4294967296) = false := decide_eq_false (by omega)
  have a3 : decide ((256 : Int) ≤ (n : Int) / 4294967296) = false := decide_eq_false (by omega)
  have hl : (n : Int) / 4294967296 < 256 := by omega
  have hl0 : 0 ≤ (n : Int) / 4294967296 := by omega
  have hm : ((n : Int) / 4294967296) % 256 = (n : Int) / 4294967296 := by omega
  have hq := len8_get (n / 4294967296) (by show _ < 256; omega) (by omega) (by omega)
  go_enter Try.func171, Try.ntmps171
  go_wp2
  go_ret
  exact ⟨32 + (Lib.len8tab[n / 4294967296]'(by show _ < 256; omega)).toNat, ret_int (by omega), rfl, by omega⟩

set_option maxHeartbeats 4000000 in
set_option maxRecDepth 100000 in
theorem len64_5 (n : Nat) (w : World) (h0 : 1099511627776 ≤ n) (h1 : n < 281474976710656) : Calls Try.prog 171 #[.int .u64 (n : Nat)] w (LenP 6 w) := by
  have a1 : decide ((4294967296 : Int) ≤ (n : Int)) = true := decide_eq_true (by omega)
  have a2 : decide ((65536 : Int) ≤ (n : Int) / 4294967296) = false := decide_eq_false (by omega)
  have a3 : decide ((256 : Int) ≤ (n : Int) / 4294967296) = true := decide_eq_true (by omega)
  have hl : (n : Int) / 4294967296 / 256 < 256 := by omega
  have hl0 : 0 ≤ (n : Int) / 4294967296 / 256 := by omega
  have hm : ((n : Int) / 4294967296 / 256) % 256 = (n : Int) / 4294967296 / 256 := by omega
  have hq := len8_get (n / 4294967296 / 256) (by show _ < 256; omega) (by omega) (by omega)
  go_enter Try.func171, Try.ntmps171
  go_wp2
  go_ret
  exact ⟨40 + (Lib.len8tab[n / 4294967296 / 256]'(by show _ < 256; omega)).toNat, ret_int (by omega), rfl, by omega⟩

set_option maxHeartbeats 4000000 in
set_option maxRecDepth 100000 in
theorem len64_6 (n : Nat) (w : World) (h0 : 281474976710656 ≤ n) (h1 : n < 72057594037927936) : Calls Try.prog 171 #[.int .u64 (n : Nat)] w (LenP 7 w) := by
  have a1 : decide ((4294967296 : Int) ≤ (n : Int)) = true := decide_eq_true (by omega)
  have a2 : decide ((65536 : Int) ≤ (n : Int) / 4294967296) = true := decide_eq_true (by omega)
  have a3 : decide ((256 : Int) ≤ (n : Int) / 4294967296 / 65536) = false := decide_eq_false (by omega)
  have hl : (n : Int) / 4294967296 / 65536 < 256 := by omega
  have hl0 : 0 ≤ (n : Int) / 4294967296 / 65536 := by omega
  have hm : ((n : Int) / 4294967296 / 65536) % 256 = (n : Int) / 4294967296 / 65536 := by omega
  have hq := len8_get (n / 4294967296 / 65536) (by show _ < 256; omega) (by omega) (by omega)
  go_enter Try.func171, Try.ntmps171
  go_wp2
  go_ret
  exact ⟨48 + (Lib.len8tab[n / 4294967296 / 65536]'(by show _ < 256; omega)).toNat, ret_int (by omega), rfl, by omega⟩

set_option maxHeartbeats 4000000 in
set_option maxRecDepth 100000 in
theorem len64_7 (n : Nat) (w : World) (h0 : 72057594037927936 ≤ n) (h1 : n < 9223372036854775808) : Calls Try.prog 171 #[.int .u64 (n : Nat)] w (LenP 8 w) := by
  have a1 : decide ((4294967296 : Int) ≤ (n : Int)) = true := decide_eq_true (by omega)
  have a2 : decide ((65536 : Int) ≤ (n : Int) / 4294967296) = true := decide_eq_true (by omega)
  have a3 : decide ((256 : Int) ≤ (n : Int) / 4294967296 / 65536) = true := decide_eq_true (by omega)
  have hl : (n : Int) / 4294967296 / 65536 / 256 < 256 := by omega
  have hl0 : 0 ≤ (n : Int) / 4294967296 / 65536 / 256 := by omega
  have hm : ((n : Int) / 4294967296 / 65536 / 256) % 256 = (n : Int) / 4294967296 / 65536 / 256 := by omega
  have hq := len8_get (n / 4294967296 / 65536 / 256) (by show _ < 256; omega) (by omega) (by omega)
  go_enter Try.func171, Try.ntmps171
  go_wp2
  go_ret
  exact ⟨56 + (Lib.len8tab[n / 4294967296 / 65536 / 256]'(by show _ < 256; omega)).toNat, ret_int (by omega), rfl, by omega⟩

set_option maxHeartbeats 4000000 in
set_option maxRecDepth 100000 in
theorem len64_z (w : World) : Calls Try.prog 171 #[.int .u64 0] w (LenP 0 w) := by
  go_enter Try.func171, Try.ntmps171
  go_wp2
  go_ret
  exact ⟨0, ret_int (by decide +kernel), rfl, rfl⟩
/-- How many bytes a number has. -/
def Digs (n k : Nat) : Prop := n < 256 ^ k ∧ (0 < k → 256 ^ (k - 1) ≤ n) ∧ k ≤ 8
theorem len64_digs (n k : Nat) (w : World) (h : n < 9223372036854775808) (hd : Digs n k) : Calls Try.prog 171 #[.int .u64 (n : Nat)] w (LenP k w) := by
  obtain ⟨h1, h2, h3⟩ := hd
  rcases (show k = 0 ∨ k = 1 ∨ k = 2 ∨ k = 3 ∨ k = 4 ∨ k = 5 ∨ k = 6 ∨ k = 7 ∨ k = 8 by omega) with rfl | rfl | rfl | rfl | rfl | rfl | rfl | rfl | rfl
  · have : n = 0 := by simp at h1; exact h1
    subst this
    exact len64_z w

  · exact len64_0 n w (by have := h2 (by decide); simp at this; omega) (by simp at h1; omega)
  · exact len64_1 n w (by have := h2 (by decide); simp at this; omega) (by simp at h1; omega)
  · exact len64_2 n w (by have := h2 (by decide); simp at this; omega) (by simp at h1; omega)
  · exact len64_3 n w (by have := h2 (by decide); simp at this; omega) (by simp at h1; omega)
  · exact len64_4 n w (by have := h2 (by decide); simp at this; omega) (by simp at h1; omega)
  · exact len64_5 n w (by have := h2 (by decide); simp at this; omega) (by simp at h1; omega)
  · exact len64_6 n w (by have := h2 (by decide); simp at this; omega) (by simp at h1; omega)
  · exact len64_7 n w (by have := h2 (by decide); simp at this; omega) (by simp at h1; omega)

set_option maxRecDepth 20000 in
theorem len_digs (n k : Nat) (w : World) (h : n < 9223372036854775808) (hd : Digs n k) : Calls Try.prog 162 #[.int .u64 (n : Nat)] w (LenP k w) := by
  have HL := hidp (len64_digs n k w h hd)
  clear hd
  go_enter Try.func162, Try.ntmps162
  go_wp2_with (go_at_call 171; refine HL.out.mono ?_; rintro e w1 ⟨r, rfl, rfl, hr⟩; have hr := hidp hr)
  go_ret
  exact ⟨r, rfl, rfl, hr.out⟩

end Go.Proofs.Ytlfmmmlheloloaa
