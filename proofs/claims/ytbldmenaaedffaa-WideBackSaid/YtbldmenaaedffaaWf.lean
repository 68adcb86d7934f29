/-
  Contracts: multiply.
-/
import Derived.Test.YtbldmenaaedffaaWe
import Derived.Test.YtbldmenaaedffaaSh
namespace Go.Proofs.Ytbldmenaaedffaa
open Go.RowKit

theorem ml_eq (x y : Nat) : mulL x y + mulH x y * B64 = x * y := mul_word x y
theorem acc1 {l n : Nat} (hl : l < B64) (hn : n < B64) : ((0 + mulL l n * pow64 0) % W192 + mulH l n * pow64 1) % W192 = l * n := by
  have h := ml_eq l n
  have h2 : l * n < B64 * B64 := Nat.mul_lt_mul_of_lt_of_lt hl hn
  have h3 : mulL l n < B64 := Nat.mod_lt _ (by decide)
  simp only [pow64]
  unfold B64 at *; unfold W192; omega
theorem acc2 {l h n : Nat} (hl : l < B64) (hh : h < B64) (hn : n < B64) : ((l * n + mulL h n * pow64 1) % W192 + mulH h n * pow64 2) % W192 = (h * B64 + l) * n := by
  have e := ml_eq h n
  have h1 : l * n ≤ (B64 - 1) * (B64 - 1) := Nat.mul_le_mul (by omega) (by omega)
  have h2 : h * n ≤ (B64 - 1) * (B64 - 1) := Nat.mul_le_mul (by omega) (by omega)
  have h3 : mulL h n < B64 := Nat.mod_lt _ (by decide)
  have h4 : (h * B64 + l) * n = h * n * B64 + l * n := by rw [Nat.add_mul, Nat.mul_right_comm]
  rw [h4]
  simp only [pow64]
  unfold B64 at *; unfold W192; omega

theorem add_0 (b word n : Nat) (T : TypeId) (w : World) (hn : n < W192) (hb : Blk w b (pcs n) T) :
    Calls Try.prog 55 #[.pointer (some ⟨b, 0, none⟩), .int .i64 0, .int .u64 word] w fun e w' => e = .returned (.tuple #[]) ∧ Blk w' b (pcs ((n + word * pow64 0) % W192)) T ∧ But b w w' := add_any b 0 word n T w (by omega) hn hb
theorem add_1 (b word n : Nat) (T : TypeId) (w : World) (hn : n < W192) (hb : Blk w b (pcs n) T) :
    Calls Try.prog 55 #[.pointer (some ⟨b, 0, none⟩), .int .i64 1, .int .u64 word] w fun e w' => e = .returned (.tuple #[]) ∧ Blk w' b (pcs ((n + word * pow64 1) % W192)) T ∧ But b w w' := add_any b 1 word n T w (by omega) hn hb
theorem add_2 (b word n : Nat) (T : TypeId) (w : World) (hn : n < W192) (hb : Blk w b (pcs n) T) :
    Calls Try.prog 55 #[.pointer (some ⟨b, 0, none⟩), .int .i64 2, .int .u64 word] w fun e w' => e = .returned (.tuple #[]) ∧ Blk w' b (pcs ((n + word * pow64 2) % W192)) T ∧ But b w w' := add_any b 2 word n T w (by omega) hn hb

set_option maxHeartbeats 1000000 in
theorem multiply_any (a n : Nat) (w : World) (ha : a < W128) (hn : n ≤ 9223372036854775807) :
    Calls Try.prog 40 #[wv a, .int .i64 n] w fun e w' => e = .returned (.agg (pcs (a * n)).toArray) ∧ Below w.heap.size w w' := by
  have hn64 : n < B64 := by unfold B64; omega
  have HN := hidp hn64; clear hn64
  have HA := hidp ha; clear ha
  have i0 : ∀ w (x0 x1 : Value), (Instr.index 77 (.agg #[x0, x1]) (.int .i64 0)).run Try.prog w = .ok x0 w := fun _ _ _ => by kernel_rfl
  have i1 : ∀ w (x0 x1 : Value), (Instr.index 77 (.agg #[x0, x1]) (.int .i64 1)).run Try.prog w = .ok x1 w := fun _ _ _ => by kernel_rfl
  go_enter Try.func40, Try.ntmps40
  go_wp2
  go_loopw [15] (fun i wr => ∃ k : Nat, ∃ ki : Int, k ≤ 2 ∧ ki = k ∧ i = .int .i64 ki ∧ Hid (Blk wr (w.heap.size + 2) (pcs (if k = 0 then 0 else if k = 1 then low a * n else a * n)) 59 ∧ Blk wr (w.heap.size + 1) (pcs 0) 59 ∧ Below w.heap.size w wr)) (fun i _ => 2 - (intOf i).toNat)
  case atStart => 
    refine ⟨0, 0, by omega, rfl, rfl, ?_, ?_, by (repeat' (first | (with_reducible exact Below.refl _ _) | (with_reducible refine Below.alloc ?_ ?_ _) | (with_reducible refine Below.drew ?_) | (with_reducible refine Below.drewN ?_ _) | (with_reducible refine Below.setCell ?_ ?_ _) | go_size))⟩
    · exact Blk.new' _ (pcs 0) _ _ (by simp)
    · exact (Blk.new' _ (pcs 0) _ _ (by simp)).alloc _
  case round =>
    obtain ⟨k, ki, hk, hki, rfl, hr⟩ := hrel
    have hkk : k = 0 ∨ k = 1 ∨ k = 2 := by omega
    rcases hkk with rfl | rfl | rfl
    · obtain rfl : ki = 0 := by omega
      clear hki
      go_wp2_with fail
      refine (Mul64_any _ _ (low_lt a) HN.out _).mono ?_
      rintro e w1 ⟨rfl, rfl⟩
      go_wp2_with fail
      refine (add_0 _ _ 0 _ _ (by decide) hr.out.1).mono ?_
      rintro e w1 ⟨rfl, hb1, hu1⟩
      have HB1 := hidp hb1; clear hb1
      have HU1 := hidp hu1; clear hu1
      go_wp2_with fail
      refine (add_1 _ _ _ _ _ (Nat.mod_lt _ (by decide)) HB1.out).mono ?_
      rintro e w2 ⟨rfl, hb2, hu2⟩
      rw [acc1 (low_lt a) HN.out] at hb2
      have HB2 := hidp hb2; clear hb2
      have HU2 := hidp hu2; clear hu2
      go_wp2
      go_roundw
      case rel =>
        have hU := HU1.out.trans HU2.out
        exact ⟨1, 1, by omega, rfl, rfl, HB2.out, hU.blk hr.out.2.1 (by omega), hr.out.2.2.trans (hU.below (by omega))⟩
      case measure => simp [intOf]
    · obtain rfl : ki = 1 := by omega
      clear hki
      go_wp2_with fail
      refine (Mul64_any _ _ (hiw_lt HA.out) HN.out _).mono ?_
      rintro e w1 ⟨rfl, rfl⟩
      go_wp2_with fail
      refine (add_1 _ _ (low a * n) _ _ (Nat.lt_of_lt_of_le (Nat.mul_lt_mul_of_lt_of_lt (low_lt a) HN.out) (by decide)) hr.out.1).mono ?_
      rintro e w1 ⟨rfl, hb1, hu1⟩
      have HB1 := hidp hb1; clear hb1
      have HU1 := hidp hu1; clear hu1
      go_wp2_with fail
      refine (add_2 _ _ _ _ _ (Nat.mod_lt _ (by decide)) HB1.out).mono ?_
      rintro e w2 ⟨rfl, hb2, hu2⟩
      rw [acc2 (low_lt a) (hiw_lt HA.out) HN.out, hilow] at hb2
      have HB2 := hidp hb2; clear hb2
      have HU2 := hidp hu2; clear hu2
      go_wp2
      go_roundw
      case rel =>
        have hU := HU1.out.trans HU2.out
        exact ⟨2, 2, by omega, rfl, rfl, HB2.out, hU.blk hr.out.2.1 (by omega), hr.out.2.2.trans (hU.below (by omega))⟩
      case measure => simp [intOf]
    · obtain rfl : ki = 2 := by omega
      clear hki
      obtain ⟨hb, hz, hB⟩ := hr.out
      have c0 := hb.cell 0
      have c1 := hb.cell 1
      have c2 := hb.cell 2
      have z0 := hz.cell 0
      have z1 := hz.cell 1
      have z2 := hz.cell 2
      have f0 := hz.free 0
      have f1 := hz.free 1
      have f2 := hz.free 2
      simp only [if_neg (show ¬ (2 = 0) by omega), if_neg (show ¬ (2 = 1) by omega), List.getElem?_cons_zero, List.getElem?_cons_succ] at c0 c1 c2 z0 z1 z2
      have HB := hidp hB; clear hB
      clear hb hz
      go_wp2
      exact bodyPost_ret (v := .agg (pcs (a * n)).toArray) (by simp [results, Try.results40, go_sem, z0, z1, z2]) rfl ⟨rfl, by (repeat' (first | (with_reducible exact HB.out) | (with_reducible exact Below.refl _ _) | (with_reducible refine Below.alloc ?_ ?_ _) | (with_reducible refine Below.drew ?_) | (with_reducible refine Below.drewN ?_ _) | (with_reducible refine Below.setCell ?_ ?_ _) | go_size))⟩
end Go.Proofs.Ytbldmenaaedffaa
