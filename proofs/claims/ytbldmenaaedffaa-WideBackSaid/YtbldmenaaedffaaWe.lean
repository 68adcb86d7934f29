/-
  Contracts: the words of a product: add, multiply, compare.
-/
import Derived.Test.YtbldmenaaedffaaWd
namespace Go.Proofs.Ytbldmenaaedffaa
open Go.RowKit

/-- The three words of a number, as cells. -/
abbrev pcs (n : Nat) : List Value := [.int .u64 (wd0 n), .int .u64 (wd1 n), .int .u64 (wd2 n)]
abbrev xcs (x0 x1 x2 : Nat) : List Value := [.int .u64 x0, .int .u64 x1, .int .u64 x2]

theorem Add64_word (x c : Nat) (w : World) :
    (callFunc 38 #[.int .u64 x, .int .u64 c, .int .u64 0]).run Try.prog w = .ok (.value (.tuple #[.int .u64 (adm x c), .int .u64 (adc x c)])) w := by
  have h := Add64_law x c 0 (by omega) w
  rw [Nat.add_zero] at h
  exact h

set_option maxHeartbeats 400000 in
theorem add_any (b at_ word n : Nat) (T : TypeId) (w : World) (hat : at_ ≤ 2) (hn : n < W192) (hb : Blk w b (pcs n) T) :
    Calls Try.prog 55 #[.pointer (some ⟨b, 0, none⟩), .int .i64 at_, .int .u64 word] w fun e w' => e = .returned (.tuple #[]) ∧ Blk w' b (pcs ((n + word * pow64 at_) % W192)) T ∧ But b w w' := by
  have Hn := hidp hn; clear hn
  have Hb := hidp hb; clear hb
  go_enter Try.func55, Try.ntmps55
  go_wp2
  go_loopw [2, 6] (fun c i wr => ∃ k c' x0 x1 x2 : Nat, ∃ ki : Int, k ≤ 3 ∧ ki = k ∧ i = .int .i64 ki ∧ c = .int .u64 c' ∧ Hid (x0 < B64 ∧ x1 < B64 ∧ x2 < B64 ∧ num3 x0 x1 x2 + c' * pow64 k = n + word * pow64 at_ ∧ Blk wr b (xcs x0 x1 x2) T ∧ But b w wr)) (fun _ i _ => 3 - (intOf i).toNat)
  case atStart => exact ⟨at_, word, wd0 n, wd1 n, wd2 n, _, by omega, rfl, rfl, rfl, wd0_lt n, wd1_lt n, wd2_lt Hn.out, by rw [num3_wd], Hb.out, But.refl _ _⟩
  case round =>
    obtain ⟨k, c', x0, x1, x2, ki, hk, hki, rfl, rfl, hr⟩ := hrel
    have hbk := hr.out.2.2.2.2.1
    have hc := hbk.cell k
    have hf := hbk.free k
    have Hbk := hidp hbk; clear hbk
    have hkk : k = 0 ∨ k = 1 ∨ k = 2 ∨ k = 3 := by omega
    rcases hkk with rfl | rfl | rfl | rfl
    · obtain rfl : ki = 0 := by omega
      clear hki
      have ka := Add64_word x0 c'
      simp only [List.getElem?_cons_zero] at hc
      go_wp2
      go_region
      go_wp2
      go_roundw
      case rel => exact ⟨1, adc x0 c', adm x0 c', x1, x2, 1, by omega, rfl, rfl, rfl, adm_lt _ _, hr.out.2.1, hr.out.2.2.1, by rw [step0]; exact hr.out.2.2.2.1, (Hbk.out.set 0 _).drew, (hr.out.2.2.2.2.2.setCell 0 _).drew⟩
      case measure => simp [intOf]
    · obtain rfl : ki = 1 := by omega
      clear hki
      have ka := Add64_word x1 c'
      simp only [List.getElem?_cons_zero, List.getElem?_cons_succ] at hc
      go_wp2
      go_region
      go_wp2
      go_roundw
      case rel => exact ⟨2, adc x1 c', x0, adm x1 c', x2, 2, by omega, rfl, rfl, rfl, hr.out.1, adm_lt _ _, hr.out.2.2.1, by rw [step1]; exact hr.out.2.2.2.1, (Hbk.out.set 1 _).drew, (hr.out.2.2.2.2.2.setCell 1 _).drew⟩
      case measure => simp [intOf]
    · obtain rfl : ki = 2 := by omega
      clear hki
      have ka := Add64_word x2 c'
      simp only [List.getElem?_cons_zero, List.getElem?_cons_succ] at hc
      go_wp2
      go_region
      go_wp2
      go_roundw
      case rel => exact ⟨3, adc x2 c', x0, x1, adm x2 c', 3, by omega, rfl, rfl, rfl, hr.out.1, hr.out.2.1, adm_lt _ _, by rw [step2]; exact hr.out.2.2.2.1, (Hbk.out.set 2 _).drew, (hr.out.2.2.2.2.2.setCell 2 _).drew⟩
      case measure => simp [intOf]
    · obtain rfl : ki = 3 := by omega
      clear hki hc hf
      go_wp2
      go_end0
      obtain ⟨h0, h1, h2, he, hB, hU⟩ := hr.out
      refine ⟨rfl, ?_, hU⟩
      rw [← num3_end h0 h1 h2 he]
      unfold pcs
      rw [wd0_num3 h0, wd1_num3 h0 h1, wd2_num3 h0 h1]
      exact hB
end Go.Proofs.Ytbldmenaaedffaa
