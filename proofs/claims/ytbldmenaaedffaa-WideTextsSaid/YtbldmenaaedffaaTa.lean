/-
  Contract: the answer's tenth.
-/
import Derived.Test.YtbldmenaaedffaaWv
import Derived.Test.YtbldmenaaedffaaTm
namespace Go.Proofs.Ytbldmenaaedffaa
open Go.RowKit

set_option maxHeartbeats 4000000 in
theorem tenth_any (a : Nat) (w : World) (ha : a < W128) : Calls Try.prog 53 #[wv a] w fun e w' => e = .returned (.tuple #[wv (d10 a), .int .u8 (m10 a)]) ∧ Below w.heap.size w w' := by
  have HA := hidp ha; clear ha
  go_enter Try.func53, Try.ntmps53
  go_wp2
  go_loopw [5, 6] (fun r i wr => ∃ n : Nat, n ≤ 128 ∧ ((n = 0 ∧ i = .int .i64 (-1)) ∨ ∃ k : Nat, n = k + 1 ∧ i = .int .i64 k) ∧ r = .int .u64 ((tpN a n % 10 : Nat) : Int) ∧ Hid (Blk wr (w.heap.size + 2) [.int .u64 (hiw (quoN a n)), .int .u64 (low (quoN a n))] 24 ∧ Blk wr w.heap.size [.int .u64 (hiw a), .int .u64 (low a)] 24 ∧ Blk wr (w.heap.size + 1) [.int .u64 0, .int .u64 0] 24 ∧ Below w.heap.size w wr)) (fun _ i _ => (intOf i + 1).toNat)
  case atStart =>
    have h1 := top_128 HA.out
    have h2 := quo_128 HA.out
    refine ⟨128, by omega, .inr ⟨127, rfl, rfl⟩, by rw [h1]; rfl, ?_, ?_, ?_, by (repeat' (first | (with_reducible exact Below.refl _ _) | (with_reducible refine Below.alloc ?_ ?_ _) | (with_reducible refine Below.drew ?_) | (with_reducible refine Below.drewN ?_ _) | (with_reducible refine Below.setCell ?_ ?_ _) | go_size))⟩
    · rw [h2]
      exact (Blk.new' _ [.int .u64 0, .int .u64 0] _ _ (by simp))
    · exact ((Blk.new w [.int .u64 (hiw a), .int .u64 (low a)] _).alloc _).alloc _
    · exact (Blk.new' _ [.int .u64 0, .int .u64 0] _ _ (by simp)).alloc _
  case round =>
    obtain ⟨n, hn, hi, rfl, hr⟩ := hrel
    rcases hi with ⟨rfl, rfl⟩ | ⟨k, rfl, rfl⟩
    · have hr2 := hr.out
      rw [quo_0] at hr2
      have bq := hr2.1
      have q0 := bq.cell 0
      have q1 := bq.cell 1
      have br := hr2.2.2.1
      have r0 := br.cell 0
      have r1 := br.cell 1
      have f0 := br.free 0
      have f1 := br.free 1
      simp only [List.getElem?_cons_zero, List.getElem?_cons_succ] at q0 q1 r0 r1
      have hm : tpN a 0 % 10 = m10 a := by rw [top_0]; rfl
      rw [hm]
      have hml := m10_lt a
      have HR := hidp hr2.2.2.2
      clear hr hr2 bq br hm
      go_wp2
      exact bodyPost_ret (v := .tuple #[wv (d10 a), .int .u8 (m10 a)]) (by simp [results, Try.results53, go_sem, r0, r1]) rfl ⟨rfl, HR.out.trans (by (repeat' (first | (with_reducible exact Below.refl _ _) | (with_reducible refine Below.alloc ?_ ?_ _) | (with_reducible refine Below.drew ?_) | (with_reducible refine Below.drewN ?_ _) | (with_reducible refine Below.setCell ?_ ?_ _) | go_size)))⟩
    · have ba := hr.out.2.1
      have a0 := ba.cell 0
      have a1 := ba.cell 1
      have bq := hr.out.1
      have q0 := bq.cell 0
      have q1 := bq.cell 1
      have f0 := bq.free 0
      have f1 := bq.free 1
      simp only [List.getElem?_cons_zero, List.getElem?_cons_succ] at a0 a1 q0 q1
      have BQ := hidp bq
      clear ba bq
      have hb2 := bitN_lt a k
      have hk1 : k < 128 := by omega
      have hnext : ∀ r x y : Nat, r = tpN a k % 10 → x = hiw (quoN a k) → y = low (quoN a k) → ∀ wr', Blk wr' (w.heap.size + 2) [.int .u64 x, .int .u64 y] 24 → Blk wr' w.heap.size [.int .u64 (hiw a), .int .u64 (low a)] 24 → Blk wr' (w.heap.size + 1) [.int .u64 0, .int .u64 0] 24 → Below w.heap.size w wr' →
          (∃ n : Nat, n ≤ 128 ∧ ((n = 0 ∧ Value.int .i64 ((k : Int) - 1) = .int .i64 (-1)) ∨ ∃ j : Nat, n = j + 1 ∧ Value.int .i64 ((k : Int) - 1) = .int .i64 j) ∧ Value.int .u64 (r : Int) = .int .u64 ((tpN a n % 10 : Nat) : Int) ∧ Hid (Blk wr' (w.heap.size + 2) [.int .u64 (hiw (quoN a n)), .int .u64 (low (quoN a n))] 24 ∧ Blk wr' w.heap.size [.int .u64 (hiw a), .int .u64 (low a)] 24 ∧ Blk wr' (w.heap.size + 1) [.int .u64 0, .int .u64 0] 24 ∧ Below w.heap.size w wr')) ∧ (intOf (Value.int .i64 ((k : Int) - 1)) + 1).toNat < (intOf (Value.int .i64 (k : Int)) + 1).toNat := by
        rintro r x y rfl rfl rfl wr' h1 h2 h3 h4
        refine ⟨⟨k, by omega, ?_, rfl, h1, h2, h3, h4⟩, by simp [intOf] <;> omega⟩
        rcases k with _ | j
        · exact .inl ⟨rfl, rfl⟩
        · exact .inr ⟨j, rfl, by congr 1; omega⟩
      have HX := hidp hnext; clear hnext
      generalize hrr : tpN a (k + 1) % 10 = r
      have hr10 : r < 10 := by omega
      by_cases h10 : r * 2 + bitN a k < 10
      · have hs := quo_small (a := a) (k := k) (by rw [hrr]; exact h10)
        rw [hrr] at hs
        have HS := hidp hs; clear hs
        have HRR := hidp hrr; clear hrr
        by_cases h64 : k < 64
        · have hb := and_lo (a := a) h64
          go_wp2
          exact HX.out _ _ _ HS.out.1.symm (by rw [HS.out.2]) (by rw [HS.out.2]) wr BQ.out hr.out.2.1 hr.out.2.2.1 hr.out.2.2.2
        · have hb := and_hi (a := a) HA.out h64 hk1
          go_wp2
          exact HX.out _ _ _ HS.out.1.symm (by rw [HS.out.2]) (by rw [HS.out.2]) wr BQ.out hr.out.2.1 hr.out.2.2.1 hr.out.2.2.2
      · have hs := quo_great (a := a) (k := k) (by rw [hrr]; exact h10)
        rw [hrr] at hs
        have HS := hidp hs.1; clear hs
        by_cases h64 : k < 64
        · have hb := and_lo (a := a) h64
          obtain ⟨ho, hh⟩ := quo_lo (a := a) h64 (by rw [hrr]; exact h10)
          have HH := hidp hh; clear hh
          have HRR := hidp hrr; clear hrr
          have ec : (r : Int) * 2 + ((bitN a k : Nat) : Int) - 10 = ((r * 2 + bitN a k - 10 : Nat) : Int) := by omega
          have EC := hidp ec; clear ec
          go_wp2
          rw [EC.out]
          exact HX.out _ _ _ HS.out.symm HH.out.symm rfl _ (BQ.out.set 1 _) (hr.out.2.1.other _ _ (by simp; omega)) (hr.out.2.2.1.other _ _ (by simp)) (hr.out.2.2.2.setCell (by simp; omega) _)
        · have hb := and_hi (a := a) HA.out h64 hk1
          obtain ⟨ho, hh⟩ := quo_hi (a := a) HA.out h64 hk1 (by rw [hrr]; exact h10)
          have HH := hidp hh; clear hh
          have HRR := hidp hrr; clear hrr
          have ec : (r : Int) * 2 + ((bitN a k : Nat) : Int) - 10 = ((r * 2 + bitN a k - 10 : Nat) : Int) := by omega
          have EC := hidp ec; clear ec
          go_wp2
          rw [EC.out]
          exact HX.out _ _ _ HS.out.symm rfl HH.out.symm _ (BQ.out.set 0 _) (hr.out.2.1.other _ _ (by simp; omega)) (hr.out.2.2.1.other _ _ (by simp)) (hr.out.2.2.2.setCell (by simp; omega) _)
end Go.Proofs.Ytbldmenaaedffaa
