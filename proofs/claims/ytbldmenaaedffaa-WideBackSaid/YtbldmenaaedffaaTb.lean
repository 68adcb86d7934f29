/-
  Contract: the answer's Text.
-/
import Derived.Test.YtbldmenaaedffaaTa
import Derived.Lib.SlBytesRow
namespace Go.Proofs.Ytbldmenaaedffaa
open Go.RowKit Go.Lib

/-- The digits behind what is left: the text so far. -/
def tailT (a q : Nat) (t : ByteArray) : Prop := ∃ pre : List Nat, revDig a = pre ++ revDig q ∧ t = ⟨(pre.reverse.map UInt8.ofNat).toArray⟩
theorem tail_start (a : Nat) : tailT a a ⟨#[]⟩ := ⟨[], rfl, rfl⟩
theorem tail_step {a q : Nat} {t : ByteArray} (h : tailT a q t) (hq : ¬ q < 10) : tailT a (d10 q) (⟨#[UInt8.ofNat (dgt q)]⟩ ++ t) := by
  obtain ⟨pre, h1, rfl⟩ := h
  refine ⟨pre ++ [dgt q], by rw [h1, revDig_ge hq]; simp, ?_⟩
  apply ByteArray.ext
  apply Array.toList_inj.1
  simp
theorem tail_end {a q : Nat} {t : ByteArray} (h : tailT a q t) (hq : q < 10) : (⟨#[UInt8.ofNat (dgt q)]⟩ : ByteArray) ++ t = textOf a := by
  obtain ⟨pre, h1, rfl⟩ := h
  unfold textOf
  rw [h1, revDig_lt hq]
  apply ByteArray.ext
  apply Array.toList_inj.1
  simp
theorem tail_size {a q : Nat} {t : ByteArray} (ha : a < W128) (h : tailT a q t) : t.size ≤ 39 := by
  obtain ⟨pre, h1, rfl⟩ := h
  have h2 := revDig_39 ha
  rw [h1, List.length_append] at h2
  show ((pre.reverse.map UInt8.ofNat).toArray).size ≤ 39
  simp; omega

theorem run_one_byte (q : Nat) (w1 W : World) (hW : W.heap.size = w1.heap.size + 1) : (convert 68 9 (.slice (some ⟨w1.heap.size + 1, 0, none⟩) 1 1)).run Try.prog (W.alloc (.cells #[.int .u8 (48 + ((m10 q : Nat) : Int))] 5)) = .ok (.string ⟨#[UInt8.ofNat (dgt q)]⟩) (W.alloc (.cells #[.int .u8 (48 + ((m10 q : Nat) : Int))] 5)) := by
  refine run_convert_whole (P := Try.prog) _ 68 5 9 Try.underlying68 Try.underlying5 Try.underlying9 (w1.heap.size + 1) 0 ⟨#[UInt8.ofNat (dgt q)]⟩ ?_ 1
  intro i hi
  have hi1 : i < 1 := hi
  obtain rfl : i = 0 := by omega
  rw [← hW]
  have h := (Blk.new W [.int .u8 (48 + ((m10 q : Nat) : Int))] 5).cell 0
  rw [h]
  have hm := m10_lt q
  have e : ((⟨#[UInt8.ofNat (dgt q)]⟩ : ByteArray)[0]'hi).toNat = 48 + m10 q := by
    show (UInt8.ofNat (dgt q)).toNat = _
    rw [UInt8.toNat_ofNat_of_lt' (by unfold dgt; show 48 + m10 q < 256; omega)]; rfl
  rw [e]
  show some (Value.int .u8 (48 + ((m10 q : Nat) : Int))) = _
  congr 2

set_option maxHeartbeats 2000000 in
theorem refText_any (a : Nat) (w : World) (ha : a < W128) : Calls Try.prog 30 #[wv a] w fun e w' => e = .returned (.string (textOf a)) ∧ Below w.heap.size w w' := by
  have HA := hidp ha; clear ha
  go_enter Try.func30, Try.ntmps30
  go_wp2
  go_loopw [3] (fun t wr => ∃ (q : Nat) (s : ByteArray), t = .string s ∧ Hid (q ≤ a ∧ tailT a q s ∧ Blk wr w.heap.size [.int .u64 (hiw q), .int .u64 (low q)] 24 ∧ Below w.heap.size w wr)) (fun _ wr => boxN wr w.heap.size)
  case atStart => exact ⟨a, _, rfl, Nat.le_refl _, tail_start a, Blk.new w _ _, by (repeat' (first | (with_reducible exact Below.refl _ _) | (with_reducible refine Below.alloc ?_ ?_ _) | (with_reducible refine Below.drew ?_) | (with_reducible refine Below.drewN ?_ _) | (with_reducible refine Below.setCell ?_ ?_ _) | go_size))⟩
  case round =>
    obtain ⟨q, s, rfl, hr⟩ := hrel
    have bq := hr.out.2.2.1
    have q0 := bq.cell 0
    have q1 := bq.cell 1
    simp only [List.getElem?_cons_zero, List.getElem?_cons_succ] at q0 q1
    have hsz := tail_size HA.out hr.out.2.1
    have hql := Nat.lt_of_le_of_lt hr.out.1 HA.out
    have BQ := hidp bq; clear bq
    have HQ := hidp hql; clear hql
    go_wp2_with fail
    refine (tenth_any q _ HQ.out).mono ?_
    rintro e w1 ⟨rfl, hN⟩
    have b1 := BQ.out.below hN BQ.out.lt
    have k0 := b1.cell 0
    have k1 := b1.cell 1
    have f0 := b1.free 0
    have f1 := b1.free 1
    simp only [List.getElem?_cons_zero, List.getElem?_cons_succ] at k0 k1
    have B1 := hidp b1
    have hl1 := b1.lt
    have HN := hidp hN
    clear hN b1 q0 q1
    have hm := m10_lt q
    have hcv := run_one_byte q w1 (w1.alloc (.cells #[.int .u64 (hiw (d10 q)), .int .u64 (low (d10 q))] 24)) (by simp)
    by_cases h10 : q < 10
    · have hz := wide_zero.2 (d10_zero.2 h10)
      have z1 : (((hiw (d10 q) : Nat) : Int) == 0) = true := by rw [hz.1]; rfl
      have z2 : (((low (d10 q) : Nat) : Int) == 0) = true := by rw [hz.2]; rfl
      have HE := hidp (tail_end hr.out.2.1 h10)
      clear hz h10
      go_wp2
      go_ret
      exact ⟨by rw [← HE.out]; rfl, ((hr.out.2.2.2.trans (HN.out.mono hr.out.2.2.2.size)).alloc (Nat.le_trans hr.out.2.2.2.size HN.out.size) _).alloc (by have := Nat.le_trans hr.out.2.2.2.size HN.out.size; simp; omega) _⟩
    · have hz : ¬ (hiw (d10 q) = 0 ∧ low (d10 q) = 0) := fun h => h10 (d10_zero.1 (wide_zero.1 h))
      have hb := (((B1.out.set 0 (.int .u64 (hiw (d10 q)))).set 1 (.int .u64 (low (d10 q)))).alloc (.cells #[.int .u64 (hiw (d10 q)), .int .u64 (low (d10 q))] 24)).alloc (.cells #[.int .u8 (48 + ((m10 q : Nat) : Int))] 5)
      have hbel := (((((hr.out.2.2.2.trans (HN.out.mono hr.out.2.2.2.size)).setCell (p := ⟨w.heap.size, 0, none⟩) (Nat.le_refl _) (.int .u64 (hiw (d10 q)))).setCell (p := ⟨w.heap.size, 1, none⟩) (Nat.le_refl _) (.int .u64 (low (d10 q)))).alloc (by have := Nat.le_trans hr.out.2.2.2.size HN.out.size; simpa using this) (.cells #[.int .u64 (hiw (d10 q)), .int .u64 (low (d10 q))] 24)).alloc (by have := Nat.le_trans hr.out.2.2.2.size HN.out.size; simp; omega) (.cells #[.int .u8 (48 + ((m10 q : Nat) : Int))] 5))
      have HS := hidp (tail_step hr.out.2.1 h10)
      have HB := hidp hb
      have HL := hidp hbel
      have hms : boxN ((((w1.setCell ⟨w.heap.size, 0, none⟩ (.int .u64 (hiw (d10 q)))).setCell ⟨w.heap.size, 1, none⟩ (.int .u64 (low (d10 q)))).alloc (.cells #[.int .u64 (hiw (d10 q)), .int .u64 (low (d10 q))] 24)).alloc (.cells #[.int .u8 (48 + ((m10 q : Nat) : Int))] 5)) w.heap.size < boxN wr w.heap.size := by
        rw [boxN_blk hb, boxN_blk BQ.out]; exact d10_lt h10
      have HM := hidp hms
      have hle := Nat.le_trans (d10_le q) hr.out.1
      have HLE := hidp hle
      clear hb hbel hms hle
      by_cases hh : hiw (d10 q) = 0
      · have hl : ¬ low (d10 q) = 0 := fun h => hz ⟨hh, h⟩
        have z1 : (((hiw (d10 q) : Nat) : Int) == 0) = true := by rw [hh]; rfl
        have z2 : (((low (d10 q) : Nat) : Int) == 0) = false := by rw [beq_eq_false_iff_ne]; omega
        clear hz hh hl h10
        go_wp2
        exact ⟨⟨d10 q, _, rfl, HLE.out, HS.out, HB.out, HL.out⟩, HM.out⟩
      · have z1 : (((hiw (d10 q) : Nat) : Int) == 0) = false := by rw [beq_eq_false_iff_ne]; omega
        clear hz hh h10
        go_wp2
        exact ⟨⟨d10 q, _, rfl, HLE.out, HS.out, HB.out, HL.out⟩, HM.out⟩
end Go.Proofs.Ytbldmenaaedffaa
