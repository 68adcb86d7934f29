/-
  Contracts: bits.Div64 by 10.
-/
import Derived.Test.YtbldmenaaedffaaWa
import Derived.Test.YtbldmenaaedffaaMc
namespace Go.Proofs.Ytbldmenaaedffaa
open Go.RowKit

set_option maxHeartbeats 400000 in
set_option maxRecDepth 100000 in
theorem Len64_10 (w : World) :
    Calls Try.prog 63 #[.int .u64 10] w fun e w' => e = .returned (.int .i64 4) ∧ w = w' := by
  go_enter Try.func63, Try.ntmps63
  go_wp2
  go_ret
  exact ⟨by kernel_rfl, rfl⟩
theorem LeadingZeros64_10 (w : World) :
    Calls Try.prog 62 #[.int .u64 10] w fun e w' => e = .returned (.int .i64 60) ∧ w = w' := by
  go_enter Try.func62, Try.ntmps62
  go_wp2_with (go_at_call 63; refine (Len64_10 _).mono ?_; rintro e w' ⟨rfl, rfl⟩)
  go_ret
  exact ⟨rfl, rfl⟩

attribute [local go_sem] A0 wrap_zero A1 A2 A3 A9 R1 R2 R4' R6 R7 hi32_wrap wrap_wrap S1 S1' S2 S5 S8

set_option maxHeartbeats 1000000 in
set_option maxRecDepth 100000 in
theorem Div64_hi (h l : Nat) (w : World) (hh : h < 10) (h0 : ¬ h = 0) (hl : l < B64) :
    Calls Try.prog 61 #[.int .u64 h, .int .u64 l, .int .u64 10] w fun e w' => e = .returned (.tuple #[.int .u64 (((h * B64 + l) / 10 : Nat) : Int), .int .u64 (((h * B64 + l) % 10 : Nat) : Int)]) ∧ w = w' := by
  obtain ⟨hd1, hd2⟩ := div10' h l
  rw [← hd1, ← hd2]
  clear hd1 hd2
  have hu := u32_lt hh hl
  have ho := or_word' h l hh hl
  have hv := u21_lt (l := l) (r32_lt (u32 h l))
  have hu1 : u32 h l < B64 := Nat.lt_trans hu top10_B64
  have hv1 : u21 (r32 (u32 h l)) l < B64 := Nat.lt_trans hv top10_B64
  have hq1 := qT hu
  have hq2 := qT hv
  have hqd := qD hu
  have hqd2 := qD hv
  clear hu hv
  unfold B64 at hl
  go_enter Try.func61, Try.ntmps61
  go_wp2_with (go_at_call 62; refine (LeadingZeros64_10 _).mono ?_; rintro e w' ⟨rfl, rfl⟩)
  rw [y10_eq, yh_eq]
  have hy := yh_ne
  have d1 := neg_no (u21 (r32 (u32 h l)) l)
  have d2 := neg_no (hi32 (r32 (u21 (r32 (u32 h l)) l)))
  clear hl ho
  refine wp_loop_rounds 1 ?_
  rw [rounds_succ]
  go_wp2
  refine wp_loop_rounds 1 ?_
  rw [rounds_succ]
  go_wp2
  go_ret2
  exact ⟨rfl, rfl⟩

set_option maxHeartbeats 1000000 in
set_option maxRecDepth 100000 in
theorem Div64_0 (l : Nat) (w : World) (hl : l < B64) :
    Calls Try.prog 61 #[.int .u64 0, .int .u64 l, .int .u64 10] w fun e w' => e = .returned (.tuple #[.int .u64 (d10 l), .int .u64 (m10 l)]) ∧ Below w.heap.size w w' := by
  have e1 := W10 hl
  have e2 := C10 l
  go_enter Try.func61, Try.ntmps61
  go_wp2
  go_quiet (fail)
  go_wp2
  go_ret2
  exact ⟨rfl, by (repeat' (first | (with_reducible exact Below.refl _ _) | (with_reducible refine Below.alloc ?_ ?_ _) | (with_reducible refine Below.drew ?_) | (with_reducible refine Below.drewN ?_ _) | (with_reducible refine Below.setCell ?_ ?_ _) | go_size))⟩
theorem Div64_any (h l : Nat) (w : World) (hh : h < 10) (hl : l < B64) :
    Calls Try.prog 61 #[.int .u64 h, .int .u64 l, .int .u64 10] w fun e w' => e = .returned (.tuple #[.int .u64 (((h * B64 + l) / 10 : Nat) : Int), .int .u64 (((h * B64 + l) % 10 : Nat) : Int)]) ∧ Below w.heap.size w w' := by
  by_cases h0 : h = 0
  · subst h0
    rw [Nat.zero_mul, Nat.zero_add]
    exact Div64_0 l w hl
  · exact (Div64_hi h l w hh h0 hl).mono fun e w' ⟨he, hw⟩ => ⟨he, hw ▸ Below.refl _ _⟩

set_option maxHeartbeats 400000 in
theorem split_any (a : Nat) (w : World) (ha : a < W128) :
    Calls Try.prog 60 #[wv a] w fun e w' => e = .returned (.tuple #[wv (d10 a), .int .u64 (m10 a)]) ∧ Below w.heap.size w w' := by
  have hd := fun w => Div64_any (hiw a % 10) (low a) w (Nat.mod_lt _ (by omega)) (low_lt a)
  rw [split_lo, split_rem] at hd
  have HD : Hid (∀ w, Calls Try.prog 61 #[.int .u64 (m10 (hiw a)), .int .u64 (low a), .int .u64 10] w fun e w' => e = .returned (.tuple #[.int .u64 (low (d10 a)), .int .u64 (m10 a)]) ∧ Below w.heap.size w w') := hd
  have e1 : IntKind.u64.wrap (((hiw a : Nat) : Int) / 10) = ((hiw (d10 a) : Nat) : Int) := (W10 (hiw_lt ha)).trans (congrArg _ (split_hi a))
  have e2 := C10 (hiw a)
  clear hd ha
  go_enter Try.func60, Try.ntmps60
  go_wp2
  go_quiet (fail)
  go_wp2_with fail
  refine (HD.out _).mono ?_
  rintro e w1 ⟨rfl, hB⟩
  obtain ⟨hc, hf⟩ := bcell hB
  have HB := hidp hB; have hs := hB.size; clear hB
  have hz : w.heap.size + 1 < w1.heap.size := by simp at hs; omega
  clear hs
  go_wp2
  exact bodyPost_ret (v := .tuple #[wv (d10 a), .int .u64 (m10 a)]) (by simp [results, Try.results60, go_sem, hc]) rfl ⟨rfl, by (repeat' (first | (with_reducible exact Below.refl _ _) | (with_reducible refine Below.alloc ?_ ?_ _) | (with_reducible refine Below.drew ?_) | (with_reducible refine Below.drewN ?_ _) | (with_reducible refine Below.setCell ?_ ?_ _) | (with_reducible refine Below.trans ?_ (Below.mono HB.out ?_)) | go_size | (have i0_ := HB.out.size; (try simp at i0_); (try simp); omega)))⟩
end Go.Proofs.Ytbldmenaaedffaa
