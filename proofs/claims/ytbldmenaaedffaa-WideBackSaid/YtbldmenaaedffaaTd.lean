/-
  Contracts: the answer's Read, of one digit; and of digits.
-/
import Derived.Test.YtbldmenaaedffaaTc
namespace Go.Proofs.Ytbldmenaaedffaa
open Go.RowKit

set_option maxHeartbeats 20000000 in
theorem refRead_one (s : ByteArray) (w : World) (hs : s.size ≤ 100) (h0 : ¬ s.size = 0) (h1 : ¬ 1 < s.size) (hg : ∀ j, ¬ badB s j) :
    Calls Try.prog 28 #[.string s] w fun e w' => e = .returned (readV (digs s)) ∧ Below w.heap.size w w' := by
  have hne := toList_ne (s := s) (by omega)
  have HM := hidp hg; clear hg
  go_enter Try.func28, Try.ntmps28
  go_wp2
  go_loop [4] (fun x => ∃ k : Nat, k ≤ s.size ∧ x = .int .i64 k) (fun x => s.size - (intOf x).toNat)
  case atStart => exact ⟨0, Nat.zero_le _, rfl⟩
  case round =>
    obtain ⟨k, hk, rfl⟩ := hrel
    by_cases hki : k < s.size
    · obtain ⟨h1, h2⟩ := not_bad (HM.out k) hki
      go_wp2
      go_round
      case rel => exact ⟨k + 1, by omega, by go_num⟩
      case measure => simp [intOf]; omega
    · have hki2 : ¬ k < s.size := hki
      clear h0
      go_wp2
      go_loopw [6] (fun x wr => ∃ j : Nat, j ≤ s.size ∧ x = .int .i64 j ∧ Hid (numN ((digs s).take j) < W128 ∧ Blk wr (w.heap.size + 2) [.int .u64 (hiw (numN ((digs s).take j))), .int .u64 (low (numN ((digs s).take j)))] 24 ∧ Blk wr w.heap.size [.int .u64 0, .int .u64 0] 24 ∧ Blk wr (w.heap.size + 1) [.int .i64 0, .int .i64 0] 42 ∧ Below w.heap.size w wr)) (fun x _ => s.size - (intOf x).toNat)
      case atStart =>
        refine ⟨0, by omega, rfl, ?_, ?_, ?_, ?_, by (repeat' (first | (with_reducible exact Below.refl _ _) | (with_reducible refine Below.alloc ?_ ?_ _) | (with_reducible refine Below.drew ?_) | (with_reducible refine Below.drewN ?_ _) | (with_reducible refine Below.setCell ?_ ?_ _) | go_size))⟩
        · rw [List.take_zero]; decide
        · have e1 : ((hiw (numN ((digs s).take 0)) : Nat) : Int) = 0 := by rw [List.take_zero]; rfl
          have e2 : ((low (numN ((digs s).take 0)) : Nat) : Int) = 0 := by rw [List.take_zero]; rfl
          rw [e1, e2]
          exact (Blk.new' _ [.int .u64 0, .int .u64 0] _ _ (by simp))
        · exact ((Blk.new' _ [.int .u64 0, .int .u64 0] _ _ (by simp)).alloc _).alloc _
        · exact (Blk.new' _ [.int .i64 0, .int .i64 0] _ _ (by simp)).alloc _
      case round =>
        obtain ⟨j, hj, rfl, hr⟩ := hrel
        by_cases hlt : j < s.size
        · obtain ⟨g1, g2⟩ := not_bad (HM.out j) hlt
          have hjl : j < (digs s).length := by rw [digs_len]; exact hlt
          have hsn := numN_snoc (digs s) j hjl
          rw [digs_get hlt] at hsn
          have bo := hr.out.2.1
          have c0 := bo.cell 0
          have c1 := bo.cell 1
          have f0 := bo.free 0
          have f1 := bo.free 1
          simp only [List.getElem?_cons_zero, List.getElem?_cons_succ] at c0 c1
          have BO := hidp bo; clear bo
          have HSN := hidp hsn; clear hsn
          have hN := hr.out.1
          have HN := hidp hN; clear hN
          obtain ⟨d, hd⟩ : ∃ d, d = s[j].toNat - 48 := ⟨_, rfl⟩
          have hd9 : d ≤ 9 := by omega
          have ed : ((s[j].toNat : Nat) : Int) - 48 = (d : Int) := by omega
          have HD := hidp hd; clear hd
          by_cases hT : numN ((digs s).take j) * 10 < W128
          · have HT := hidp hT; clear hT
            go_wp2_with fail
            refine (refTimes_ok _ 10 _ HN.out (by omega) HT.out).mono ?_
            rintro e w1 ⟨rfl, hB1⟩
            have HB1 := hidp hB1
            have hl1 := BO.out.below hB1 BO.out.lt
            clear c0 c1 f0 f1 hB1
            go_wp2
            obtain ⟨W0, hW0⟩ : ∃ W0, w1.alloc (.cells #[.int .u64 (hiw (numN ((digs s).take j) * 10)), .int .u64 (low (numN ((digs s).take j) * 10))] 24) = W0 := ⟨_, rfl⟩
            have t0 : W0.cell? ⟨w1.heap.size, 0, none⟩ = some (.int .u64 (hiw (numN ((digs s).take j) * 10))) := by subst hW0; simp
            have t1 : W0.cell? ⟨w1.heap.size, 1, none⟩ = some (.int .u64 (low (numN ((digs s).take j) * 10))) := by subst hW0; simp
            have hs0 : w1.heap.size + 1 ≤ W0.heap.size := by subst hW0; simp
            have hBW : Below w1.heap.size w1 W0 := by subst hW0; exact (Below.refl _ _).alloc (Nat.le_refl _) _
            rw [hW0]
            have HW0 := hidp hW0
            clear hW0
            have wr1 : IntKind.u8.wrap (d : Int) = (d : Int) := by simp only [IntKind.wrap, IntKind.bits, IntKind.signed]; simp; omega
            have wr2 : IntKind.u64.wrap (d : Int) = (d : Int) := by rw [IntKind.wrap_u64]; omega
            have HBW := hidp hBW; clear hBW
            by_cases hP : numN ((digs s).take j) * 10 + d < W128
            · have HPl := hidp (fun w => refPlus_ok (numN ((digs s).take j) * 10) d w hP)
              rw [wv_nat (n := d) (by omega)] at HPl
              have HP := hidp hP; clear hP
              go_region_held3 (fun w' => w'.cell? ⟨w1.heap.size, 0, none⟩ = some (.int .u64 (hiw (numN ((digs s).take j) * 10))) ∧ w'.cell? ⟨w1.heap.size, 1, none⟩ = some (.int .u64 (low (numN ((digs s).take j) * 10))))
                (first | (refine ⟨?_, ?_⟩ <;> first | (refine Eq.trans (Below.cell (B := w1.heap.size + 1) (w := W0) ?_ (by simp)) (by assumption); (repeat' (first | (with_reducible exact Below.refl _ _) | (with_reducible refine Below.alloc ?_ ?_ _) | (with_reducible refine Below.drew ?_) | (with_reducible refine Below.drewN ?_ _) | (with_reducible refine Below.setCell ?_ ?_ _) | go_size)); done) | go_size) | (refine ⟨?_, ?_⟩ <;> first | (refine Eq.trans (Below.cell (B := w1.heap.size + 1) (w := W0) ?_ (by simp)) (by assumption); (repeat' (first | (with_reducible exact Below.refl _ _) | (with_reducible refine Below.alloc ?_ ?_ _) | (with_reducible refine Below.drew ?_) | (with_reducible refine Below.drewN ?_ _) | (with_reducible refine Below.setCell ?_ ?_ _) | (with_reducible refine Below.trans ?_ (Below.mono hB2 ?_)) | go_size | (have i0_ := hB2.size; (try simp at i0_); (try simp); omega))); done) | go_size | (have i0_ := hB2.size; (try simp at i0_); (try simp); omega)))
                ((go_at_call 15; refine (HPl.out _).mono ?_; rintro e w2 ⟨rfl, hB2⟩; (try (have q_ := hB2.cell (p := ⟨W0.heap.size, 0, none⟩) (by first | omega | (simp; done) | (simp; omega)); (try simp at q_))); (try (have q_ := hB2.frozen (p := ⟨W0.heap.size, 0, none⟩) (by first | omega | (simp; done) | (simp; omega)); (try simp at q_))); (try (have q_ := hB2.cell (p := ⟨W0.heap.size, 1, none⟩) (by first | omega | (simp; done) | (simp; omega)); (try simp at q_))); (try (have q_ := hB2.frozen (p := ⟨W0.heap.size, 1, none⟩) (by first | omega | (simp; done) | (simp; omega)); (try simp at q_))); (try (have q_ := hB2.cell (p := ⟨W0.heap.size, 2, none⟩) (by first | omega | (simp; done) | (simp; omega)); (try simp at q_))); (try (have q_ := hB2.frozen (p := ⟨W0.heap.size, 2, none⟩) (by first | omega | (simp; done) | (simp; omega)); (try simp at q_))); (try (have q_ : W0.heap.size < w2.heap.size := by have i_ := hB2.size; (try simp at i_); omega))))
              all_goals
                have hl0 : w.heap.size + 2 < w1.heap.size := hl1.lt
                have bo := hl1.below HBW.out hl0
                have bz := (hr.out.2.2.1.below HB1.out hr.out.2.2.1.lt).below HBW.out (by omega)
                have bf := (hr.out.2.2.2.1.below HB1.out hr.out.2.2.2.1.lt).below HBW.out (by omega)
                have bo2 : Blk w2 (w.heap.size + 2) [.int .u64 (hiw (numN ((digs s).take j))), .int .u64 (low (numN ((digs s).take j)))] 24 := by first | exact bo.below hB2 (by first | omega | (simp; omega)) | exact bo.drew.below hB2 (by first | omega | (simp; omega)) | exact (bo.alloc _).below hB2 (by first | omega | (simp; omega)) | exact (bo.drew.alloc _).below hB2 (by first | omega | (simp; omega))
                have bz2 : Blk w2 w.heap.size [.int .u64 0, .int .u64 0] 24 := by first | exact bz.below hB2 (by first | omega | (simp; omega)) | exact bz.drew.below hB2 (by first | omega | (simp; omega)) | exact (bz.alloc _).below hB2 (by first | omega | (simp; omega)) | exact (bz.drew.alloc _).below hB2 (by first | omega | (simp; omega))
                have bf2 : Blk w2 (w.heap.size + 1) [.int .i64 0, .int .i64 0] 42 := by first | exact bf.below hB2 (by first | omega | (simp; omega)) | exact bf.drew.below hB2 (by first | omega | (simp; omega)) | exact (bf.alloc _).below hB2 (by first | omega | (simp; omega)) | exact (bf.drew.alloc _).below hB2 (by first | omega | (simp; omega))
                have bb2 : Below w.heap.size w w2 := by
                  have h1 := (hr.out.2.2.2.2.trans (HB1.out.mono hr.out.2.2.2.2.size)).trans (HBW.out.mono (by omega))
                  first | exact h1.trans (hB2.mono (by first | omega | (simp; omega))) | exact h1.drew.trans (hB2.mono (by first | omega | (simp; omega))) | exact (h1.alloc (by omega) _).trans (hB2.mono (by first | omega | (simp; omega))) | exact (h1.drew.alloc (by first | omega | (simp; omega)) _).trans (hB2.mono (by first | omega | (simp; omega)))
                have k0 := bo2.cell 0
                have k1 := bo2.cell 1
                have q0 := bo2.free 0
                have q1 := bo2.free 1
                simp only [List.getElem?_cons_zero, List.getElem?_cons_succ] at k0 k1
                have hl2 := bo2.lt
                have BO2 := hidp bo2; have BZ2 := hidp bz2; have BF2 := hidp bf2; have BB2 := hidp bb2
                clear bo bz bf bo2 bz2 bf2 bb2 t0 t1 hB2
                go_wp2
                refine ⟨⟨j + 1, by omega, by go_num, ?_, ?_, ?_, ?_, ?_⟩, by simp [intOf]; omega⟩
                · rw [HSN.out, ← HD.out]; exact HP.out
                · rw [HSN.out, ← HD.out]
                  show Blk _ (w.heap.size + 1 + 1) _ _
                  have BO3 : Hid (Blk w2 (w.heap.size + 1 + 1) [.int .u64 (hiw (numN ((digs s).take j))), .int .u64 (low (numN ((digs s).take j)))] 24) := BO2
                  try (with_reducible refine Blk.alloc ?_ _)
                  with_reducible refine Blk.set2 (x := .int .u64 (hiw (numN ((digs s).take j)))) (y := .int .u64 (low (numN ((digs s).take j)))) ?_
                  repeat' (first | (with_reducible exact BO3.out) | (with_reducible refine Blk.other ?_ _ _ ?_) | (simp; omega))
                · repeat' (first | (with_reducible exact BZ2.out) | (with_reducible refine Blk.alloc ?_ _) | (with_reducible refine Blk.other ?_ _ _ ?_) | (simp; done) | (simp; omega))
                · repeat' (first | (with_reducible exact BF2.out) | (with_reducible refine Blk.alloc ?_ _) | (with_reducible refine Blk.other ?_ _ _ ?_) | (simp; done) | (simp; omega))
                · repeat' (first | (with_reducible exact BB2.out) | (with_reducible refine Below.alloc ?_ ?_ _) | (with_reducible refine Below.setCell ?_ ?_ _) | (simp; done) | (simp; omega))
            · have HPl := hidp (fun w => refPlus_full (numN ((digs s).take j) * 10) d w HT.out (Nat.lt_of_le_of_lt hd9 (by decide)) hP)
              rw [wv_nat (n := d) (by omega)] at HPl
              have HP := hidp hP; clear hP
              go_region_held3 (fun w' => w'.cell? ⟨w1.heap.size, 0, none⟩ = some (.int .u64 (hiw (numN ((digs s).take j) * 10))) ∧ w'.cell? ⟨w1.heap.size, 1, none⟩ = some (.int .u64 (low (numN ((digs s).take j) * 10))))
                (first | (refine ⟨?_, ?_⟩ <;> first | (refine Eq.trans (Below.cell (B := w1.heap.size + 1) (w := W0) ?_ (by simp)) (by assumption); (repeat' (first | (with_reducible exact Below.refl _ _) | (with_reducible refine Below.alloc ?_ ?_ _) | (with_reducible refine Below.drew ?_) | (with_reducible refine Below.drewN ?_ _) | (with_reducible refine Below.setCell ?_ ?_ _) | go_size)); done) | go_size) | (refine ⟨?_, ?_⟩ <;> first | (refine Eq.trans (Below.cell (B := w1.heap.size + 1) (w := W0) ?_ (by simp)) (by assumption); (repeat' (first | (with_reducible exact Below.refl _ _) | (with_reducible refine Below.alloc ?_ ?_ _) | (with_reducible refine Below.drew ?_) | (with_reducible refine Below.drewN ?_ _) | (with_reducible refine Below.setCell ?_ ?_ _) | (with_reducible refine Below.trans ?_ (Below.mono hB2 ?_)) | go_size | (have i0_ := hB2.size; (try simp at i0_); (try simp); omega))); done) | go_size | (have i0_ := hB2.size; (try simp at i0_); (try simp); omega)))
                ((go_at_call 15; refine (HPl.out _).mono ?_; rintro e w2 ⟨rfl, hB2⟩; (try (have q_ := hB2.cell (p := ⟨W0.heap.size, 0, none⟩) (by first | omega | (simp; done) | (simp; omega)); (try simp at q_))); (try (have q_ := hB2.frozen (p := ⟨W0.heap.size, 0, none⟩) (by first | omega | (simp; done) | (simp; omega)); (try simp at q_))); (try (have q_ := hB2.cell (p := ⟨W0.heap.size, 1, none⟩) (by first | omega | (simp; done) | (simp; omega)); (try simp at q_))); (try (have q_ := hB2.frozen (p := ⟨W0.heap.size, 1, none⟩) (by first | omega | (simp; done) | (simp; omega)); (try simp at q_))); (try (have q_ := hB2.cell (p := ⟨W0.heap.size, 2, none⟩) (by first | omega | (simp; done) | (simp; omega)); (try simp at q_))); (try (have q_ := hB2.frozen (p := ⟨W0.heap.size, 2, none⟩) (by first | omega | (simp; done) | (simp; omega)); (try simp at q_))); (try (have q_ : W0.heap.size < w2.heap.size := by have i_ := hB2.size; (try simp at i_); omega))))
              all_goals
                have hl0 : w.heap.size + 2 < w1.heap.size := hl1.lt
                have bo := hl1.below HBW.out hl0
                have bz := (hr.out.2.2.1.below HB1.out hr.out.2.2.1.lt).below HBW.out (by omega)
                have bf := (hr.out.2.2.2.1.below HB1.out hr.out.2.2.2.1.lt).below HBW.out (by omega)
                have bo2 : Blk w2 (w.heap.size + 2) [.int .u64 (hiw (numN ((digs s).take j))), .int .u64 (low (numN ((digs s).take j)))] 24 := by first | exact bo.below hB2 (by first | omega | (simp; omega)) | exact bo.drew.below hB2 (by first | omega | (simp; omega)) | exact (bo.alloc _).below hB2 (by first | omega | (simp; omega)) | exact (bo.drew.alloc _).below hB2 (by first | omega | (simp; omega))
                have bz2 : Blk w2 w.heap.size [.int .u64 0, .int .u64 0] 24 := by first | exact bz.below hB2 (by first | omega | (simp; omega)) | exact bz.drew.below hB2 (by first | omega | (simp; omega)) | exact (bz.alloc _).below hB2 (by first | omega | (simp; omega)) | exact (bz.drew.alloc _).below hB2 (by first | omega | (simp; omega))
                have bf2 : Blk w2 (w.heap.size + 1) [.int .i64 0, .int .i64 0] 42 := by first | exact bf.below hB2 (by first | omega | (simp; omega)) | exact bf.drew.below hB2 (by first | omega | (simp; omega)) | exact (bf.alloc _).below hB2 (by first | omega | (simp; omega)) | exact (bf.drew.alloc _).below hB2 (by first | omega | (simp; omega))
                have bb2 : Below w.heap.size w w2 := by
                  have h1 := (hr.out.2.2.2.2.trans (HB1.out.mono hr.out.2.2.2.2.size)).trans (HBW.out.mono (by omega))
                  first | exact h1.trans (hB2.mono (by first | omega | (simp; omega))) | exact h1.drew.trans (hB2.mono (by first | omega | (simp; omega))) | exact (h1.alloc (by omega) _).trans (hB2.mono (by first | omega | (simp; omega))) | exact (h1.drew.alloc (by first | omega | (simp; omega)) _).trans (hB2.mono (by first | omega | (simp; omega)))
                have z0 := bz2.cell 0
                have z1 := bz2.cell 1
                have y0 := bz2.free 0
                have y1 := bz2.free 1
                have x0 := bf2.cell 0
                have x1 := bf2.cell 1
                have v0 := bf2.free 0
                have v1 := bf2.free 1
                simp only [List.getElem?_cons_zero, List.getElem?_cons_succ] at z0 z1 x0 x1
                have hl3 := bz2.lt
                have hl4 := bf2.lt
                have BB2 := hidp bb2
                clear bo bz bf bo2 bz2 bf2 bb2 t0 t1 hB2
                go_wp2
                refine bodyPost_ret (v := .tuple #[wz, fv 3 0]) (by simp [results, Try.results28, go_sem, z0, z1, x0, x1, hl3, hl4]) rfl ⟨by rw [readV_full (by have h := numN_take_le (digs s) (j + 1); rw [HSN.out, ← HD.out] at h; have := HP.out; omega)], ?_⟩
                repeat' (first | (with_reducible exact BB2.out) | (with_reducible refine Below.alloc ?_ ?_ _) | (with_reducible refine Below.setCell ?_ ?_ _) | (simp; done) | (simp; omega))
          · have HT := hidp hT; clear hT
            go_wp2_with fail
            refine (refTimes_full _ 10 _ HN.out (by omega) HT.out).mono ?_
            rintro e w1 ⟨rfl, hB1⟩
            have HB1 := hidp hB1
            have hl1 := BO.out.below hB1 BO.out.lt
            clear c0 c1 f0 f1 hB1
            go_wp2
            obtain ⟨W0, hW0⟩ : ∃ W0, w1.alloc (.cells #[.int .u64 0, .int .u64 0] 24) = W0 := ⟨_, rfl⟩
            have t0 : W0.cell? ⟨w1.heap.size, 0, none⟩ = some (.int .u64 0) := by subst hW0; simp
            have t1 : W0.cell? ⟨w1.heap.size, 1, none⟩ = some (.int .u64 0) := by subst hW0; simp
            have hs0 : w1.heap.size + 1 ≤ W0.heap.size := by subst hW0; simp
            have hBW : Below w1.heap.size w1 W0 := by subst hW0; exact (Below.refl _ _).alloc (Nat.le_refl _) _
            rw [hW0]
            have HW0 := hidp hW0
            clear hW0
            have wr1 : IntKind.u8.wrap (d : Int) = (d : Int) := by simp only [IntKind.wrap, IntKind.bits, IntKind.signed]; simp; omega
            have wr2 : IntKind.u64.wrap (d : Int) = (d : Int) := by rw [IntKind.wrap_u64]; omega
            have HBW := hidp hBW; clear hBW
            · have HPl := hidp (fun w => refPlus_ok 0 d w (Nat.lt_of_le_of_lt (show 0 + d ≤ 9 by omega) (by decide)))
              rw [wv_nat (n := d) (by omega), wv_0] at HPl
              go_region_held3 (fun w' => w'.cell? ⟨w1.heap.size, 0, none⟩ = some (.int .u64 0) ∧ w'.cell? ⟨w1.heap.size, 1, none⟩ = some (.int .u64 0))
                (first | (refine ⟨?_, ?_⟩ <;> first | (refine Eq.trans (Below.cell (B := w1.heap.size + 1) (w := W0) ?_ (by simp)) (by assumption); (repeat' (first | (with_reducible exact Below.refl _ _) | (with_reducible refine Below.alloc ?_ ?_ _) | (with_reducible refine Below.drew ?_) | (with_reducible refine Below.drewN ?_ _) | (with_reducible refine Below.setCell ?_ ?_ _) | go_size)); done) | go_size) | (refine ⟨?_, ?_⟩ <;> first | (refine Eq.trans (Below.cell (B := w1.heap.size + 1) (w := W0) ?_ (by simp)) (by assumption); (repeat' (first | (with_reducible exact Below.refl _ _) | (with_reducible refine Below.alloc ?_ ?_ _) | (with_reducible refine Below.drew ?_) | (with_reducible refine Below.drewN ?_ _) | (with_reducible refine Below.setCell ?_ ?_ _) | (with_reducible refine Below.trans ?_ (Below.mono hB2 ?_)) | go_size | (have i0_ := hB2.size; (try simp at i0_); (try simp); omega))); done) | go_size | (have i0_ := hB2.size; (try simp at i0_); (try simp); omega)))
                ((go_at_call 15; refine (HPl.out _).mono ?_; rintro e w2 ⟨rfl, hB2⟩; (try (have q_ := hB2.cell (p := ⟨W0.heap.size, 0, none⟩) (by first | omega | (simp; done) | (simp; omega)); (try simp at q_))); (try (have q_ := hB2.frozen (p := ⟨W0.heap.size, 0, none⟩) (by first | omega | (simp; done) | (simp; omega)); (try simp at q_))); (try (have q_ := hB2.cell (p := ⟨W0.heap.size, 1, none⟩) (by first | omega | (simp; done) | (simp; omega)); (try simp at q_))); (try (have q_ := hB2.frozen (p := ⟨W0.heap.size, 1, none⟩) (by first | omega | (simp; done) | (simp; omega)); (try simp at q_))); (try (have q_ := hB2.cell (p := ⟨W0.heap.size, 2, none⟩) (by first | omega | (simp; done) | (simp; omega)); (try simp at q_))); (try (have q_ := hB2.frozen (p := ⟨W0.heap.size, 2, none⟩) (by first | omega | (simp; done) | (simp; omega)); (try simp at q_))); (try (have q_ : W0.heap.size < w2.heap.size := by have i_ := hB2.size; (try simp at i_); omega))))
              all_goals
                have hl0 : w.heap.size + 2 < w1.heap.size := hl1.lt
                have bo := hl1.below HBW.out hl0
                have bz := (hr.out.2.2.1.below HB1.out hr.out.2.2.1.lt).below HBW.out (by omega)
                have bf := (hr.out.2.2.2.1.below HB1.out hr.out.2.2.2.1.lt).below HBW.out (by omega)
                have bo2 : Blk w2 (w.heap.size + 2) [.int .u64 (hiw (numN ((digs s).take j))), .int .u64 (low (numN ((digs s).take j)))] 24 := by first | exact bo.below hB2 (by first | omega | (simp; omega)) | exact bo.drew.below hB2 (by first | omega | (simp; omega)) | exact (bo.alloc _).below hB2 (by first | omega | (simp; omega)) | exact (bo.drew.alloc _).below hB2 (by first | omega | (simp; omega))
                have bz2 : Blk w2 w.heap.size [.int .u64 0, .int .u64 0] 24 := by first | exact bz.below hB2 (by first | omega | (simp; omega)) | exact bz.drew.below hB2 (by first | omega | (simp; omega)) | exact (bz.alloc _).below hB2 (by first | omega | (simp; omega)) | exact (bz.drew.alloc _).below hB2 (by first | omega | (simp; omega))
                have bf2 : Blk w2 (w.heap.size + 1) [.int .i64 0, .int .i64 0] 42 := by first | exact bf.below hB2 (by first | omega | (simp; omega)) | exact bf.drew.below hB2 (by first | omega | (simp; omega)) | exact (bf.alloc _).below hB2 (by first | omega | (simp; omega)) | exact (bf.drew.alloc _).below hB2 (by first | omega | (simp; omega))
                have bb2 : Below w.heap.size w w2 := by
                  have h1 := (hr.out.2.2.2.2.trans (HB1.out.mono hr.out.2.2.2.2.size)).trans (HBW.out.mono (by omega))
                  first | exact h1.trans (hB2.mono (by first | omega | (simp; omega))) | exact h1.drew.trans (hB2.mono (by first | omega | (simp; omega))) | exact (h1.alloc (by omega) _).trans (hB2.mono (by first | omega | (simp; omega))) | exact (h1.drew.alloc (by first | omega | (simp; omega)) _).trans (hB2.mono (by first | omega | (simp; omega)))
                have z0 := bz2.cell 0
                have z1 := bz2.cell 1
                have y0 := bz2.free 0
                have y1 := bz2.free 1
                have x0 := bf2.cell 0
                have x1 := bf2.cell 1
                have v0 := bf2.free 0
                have v1 := bf2.free 1
                simp only [List.getElem?_cons_zero, List.getElem?_cons_succ] at z0 z1 x0 x1
                have hl3 := bz2.lt
                have hl4 := bf2.lt
                have BB2 := hidp bb2
                clear bo bz bf bo2 bz2 bf2 bb2 t0 t1 hB2
                go_wp2
                refine bodyPost_ret (v := .tuple #[wz, fv 3 0]) (by simp [results, Try.results28, go_sem, z0, z1, x0, x1, hl3, hl4]) rfl ⟨by rw [readV_full (by have h := numN_take_le (digs s) (j + 1); rw [HSN.out] at h; have := HT.out; omega)], ?_⟩
                repeat' (first | (with_reducible exact BB2.out) | (with_reducible refine Below.alloc ?_ ?_ _) | (with_reducible refine Below.setCell ?_ ?_ _) | (simp; done) | (simp; omega))
        · obtain rfl : j = s.size := by omega
          have hr2 := hr.out
          rw [List.take_of_length_le (by rw [digs_len]; exact Nat.le_refl _)] at hr2
          have bo := hr2.2.1
          have c0 := bo.cell 0
          have c1 := bo.cell 1
          have bz := hr2.2.2.1
          have z0 := bz.cell 0
          have z1 := bz.cell 1
          have y0 := bz.free 0
          have y1 := bz.free 1
          have bf := hr2.2.2.2.1
          have x0 := bf.cell 0
          have x1 := bf.cell 1
          have v0 := bf.free 0
          have v1 := bf.free 1
          simp only [List.getElem?_cons_zero, List.getElem?_cons_succ] at c0 c1 z0 z1 x0 x1
          have HN := hidp hr2.1
          have BB := hidp hr2.2.2.2.2
          clear bo bz bf hr hr2
          go_wp2
          refine bodyPost_ret (v := .tuple #[wv (numN (digs s)), fv 0 0]) (by simp [results, Try.results28, go_sem, z0, z1, x0, x1]) rfl ⟨by rw [readV_ok HN.out], ?_⟩
          repeat' (first | (with_reducible exact BB.out) | (with_reducible refine Below.alloc ?_ ?_ _) | (with_reducible refine Below.setCell ?_ ?_ _) | (simp; done) | (simp; omega))
theorem refRead_digits (s : ByteArray) (w : World) (hs : s.size ≤ 100) (h0 : ¬ s.size = 0) (hz : ∀ h : 1 < s.size, ¬ s[0].toNat = 48) (hg : ∀ j, ¬ badB s j) :
    Calls Try.prog 28 #[.string s] w fun e w' => e = .returned (readV (digs s)) ∧ Below w.heap.size w w' := by
  by_cases h1 : 1 < s.size
  · exact refRead_many s w hs h0 h1 (hz h1) hg
  · exact refRead_one s w hs h0 h1 hg
end Go.Proofs.Ytbldmenaaedffaa
