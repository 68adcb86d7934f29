/-
  Contracts: Text.
-/
import Derived.Test.YtajklipfdjaejaaEf
import Derived.Test.YtajklipfdjaejaaEh
import Derived.Maps.AppendAt
namespace Go.Proofs.Ytajklipfdjaejaa
open Go.RowKit Go.Lib Go.Maps
attribute [local go_sem] run_bits run_frombits
theorem info_byte : (Try.prog.info? 5).map (fun i => (i.zero, i.size, i.bytes)) = some (some (.int .u8 0), 1, 1) := by kernel_rfl
def zrow : Array Value := #[.int .u8 0, .int .u8 0, .int .u8 0, .int .u8 0, .int .u8 0, .int .u8 0, .int .u8 0, .int .u8 0, .int .u8 0, .int .u8 0, .int .u8 0, .int .u8 0, .int .u8 0, .int .u8 0, .int .u8 0, .int .u8 0]
theorem own_slice {W : World} {base : Nat} {e : TypeId} {size : Nat} {v : Value} {k : Nat} {xs : List Value} (h : W.ownsRow base e size v (k + 1) xs) : ∃ g cap, v = .slice (some ⟨g, 0, none⟩) (k + 1) cap := by
  rcases h.2 with ⟨_, h⟩ | ⟨g, cap, _, h, _⟩
  · cases h
  · exact ⟨g, cap, h⟩
theorem run_make16 (w : World) : (Instr.makeSlice 53 (.int .i64 0) (.int .i64 16)).run Try.prog w = .ok (.slice (some ⟨w.heap.size, 0, none⟩) 0 16) (w.alloc (.cells zrow 5)) := by kernel_rfl
theorem own_zrow (w : World) : (w.alloc (.cells zrow 5)).ownsRow w.heap.size 5 1 (.slice (some ⟨w.heap.size, 0, none⟩) 0 16) 0 [] :=
  ⟨rfl, .inr ⟨w.heap.size, 16, zrow, rfl, Nat.le_refl _, heap_alloc_new w _, by decide, by decide, rfl, rfl⟩⟩
theorem run_digit (d : Nat) (h : d < 16) (w : World) : (Instr.index 9 (.string ⟨#[48, 49, 50, 51, 52, 53, 54, 55, 56, 57, 97, 98, 99, 100, 101, 102]⟩) (.int .u64 d)).run Try.prog w = .ok (.int .u8 ((hexC d : Nat) : Int)) w := by
  have h1 : d = 0 ∨ d = 1 ∨ d = 2 ∨ d = 3 ∨ d = 4 ∨ d = 5 ∨ d = 6 ∨ d = 7 ∨ d = 8 ∨ d = 9 ∨ d = 10 ∨ d = 11 ∨ d = 12 ∨ d = 13 ∨ d = 14 ∨ d = 15 := by omega
  rcases h1 with rfl | rfl | rfl | rfl | rfl | rfl | rfl | rfl | rfl | rfl | rfl | rfl | rfl | rfl | rfl | rfl <;> (show _ = _; kernel_rfl)
theorem formN_lt {x : Nat} (h : x < 18446744073709551616) : formN x < 18446744073709551616 := by
  unfold formN nanForm; split <;> omega

set_option maxHeartbeats 1000000 in
theorem Text_any (x : Nat) (w : World) (hx : x < 18446744073709551616) : Calls Try.prog 18 #[.float .f64 x] w fun e w' => e = .returned (.string (hexT (formN x))) ∧ Below w.heap.size w w' := by
  obtain ⟨i0, hi, hz0, hz1, hz2⟩ := info_parts info_byte
  have hmk := run_make16
  have HF := hidp (formN_lt hx); clear hx
  have HBt := hidp (Bits_any x)
  generalize formN x = n at HF HBt ⊢
  go_enter Try.func18, Try.ntmps18
  go_wp2_with (go_at_call 16; refine (HBt.out _).mono ?_; rintro e w' ⟨rfl, rfl⟩)
  go_loopw [4, 10] (fun v i wr => ∃ k : Nat, k ≤ 16 ∧ i = .int .i64 k ∧ wr.ownsRow w.heap.size 5 1 v k ((hexL n k).map fun c : Nat => Value.int .u8 (c : Int)) ∧ Below w.heap.size w wr) (fun _ i _ => 16 - (RowKit.intOf i).toNat)
  case atStart => exact ⟨0, by omega, rfl, own_zrow w, by (repeat' (first | (with_reducible exact Below.refl _ _) | (with_reducible refine Below.alloc ?_ ?_ _) | (with_reducible refine Below.drew ?_) | (with_reducible refine Below.drewN ?_ _) | (with_reducible refine Below.setCell ?_ ?_ _) | go_size))⟩
  case round =>
    obtain ⟨k, hk, rfl, hown, hB⟩ := hrel
    by_cases hlt : k < 16
    · have hn := nib_and n k HF.out
      have hd := run_digit (nib n k) (nib_lt n k)
      have hsz := hB.size
      go_wp2_with (at_builtin; refine wpList_append_own _ rfl _ _ 53 rfl w.heap.size 5 i0 (.int .u8 0) 1 1 Try.underlying53 hi hz0 hz1 hz2 rfl (by decide) _ _ _ rfl (hown.alloc _) ⟨wr.heap.size, 0, none⟩ 1 1 [.int .u8 ((hexC (nib n k) : Nat) : Int)] rfl rfl (cell_one_new _ _ _) (by simp [Value.oneCell']) (by unfold maxLen; omega) (by omega) (by simp; omega) ?_; intro v' w1 hown' hgrow _)
      have hB1 := (hB.alloc hsz _).grown hgrow (by simp; omega) (fun j hj => (hown.lt j hj).1)
      have ho1 : w1.ownsRow w.heap.size 5 1 v' (k + 1) ((hexL n (k + 1)).map fun c : Nat => Value.int .u8 (c : Int)) := by rw [hexL_succ, List.map_append]; exact hown'
      have HB1 := hidp hB1; have HO1 := hidp ho1; clear hB1 ho1 hown hown' hgrow hB hd hn
      go_wp2
      go_roundw
      case rel => exact ⟨k + 1, by omega, by go_num, HO1.out, HB1.out⟩
      case measure => simp [RowKit.intOf]; omega
    · obtain rfl : k = 16 := by omega
      obtain ⟨g, cap, rfl⟩ := own_slice hown
      have hcv := run_convert_whole (P := Try.prog) wr 53 5 9 Try.underlying53 Try.underlying5 Try.underlying9 g 0 (hexT n) (hexT_row hown) cap
      rw [hexT_size] at hcv
      have HB := hidp hB; clear hB hown
      go_wp2
      go_ret
      exact ⟨rfl, HB.out⟩
end Go.Proofs.Ytajklipfdjaejaa
