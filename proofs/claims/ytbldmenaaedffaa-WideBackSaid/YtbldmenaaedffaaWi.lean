/-
  Contracts: landfallref01's product.
-/
import Derived.Test.YtbldmenaaedffaaWh
namespace Go.Proofs.Ytbldmenaaedffaa
open Go.RowKit

theorem Blk.set3 {w : World} {b : Nat} {c0 c1 c2 : Value} {T : TypeId} (h : Blk w b [c0, c1, c2] T) (v0 v1 v2 : Value) : Blk (((w.setCell ⟨b, 0, none⟩ v0).setCell ⟨b, 1, none⟩ v1).setCell ⟨b, 2, none⟩ v2) b [v0, v1, v2] T := ((h.set 0 v0).set 1 v1).set 2 v2
theorem Blk.other3 {w : World} {b c : Nat} {cs : List Value} {T : TypeId} (h : Blk w b cs T) (v0 v1 v2 : Value) (hne : b ≠ c) : Blk (((w.setCell ⟨c, 0, none⟩ v0).setCell ⟨c, 1, none⟩ v1).setCell ⟨c, 2, none⟩ v2) b cs T := ((h.other _ v0 hne).other _ v1 hne).other _ v2 hne

theorem mod_step_even {o x n m t : Nat} (he : n = 2 * m) (h : (o + x * n) % W192 = t) : (o + (x + x) % W192 * m) % W192 = t := by
  rw [← h, he, ← Nat.mul_assoc, Nat.mul_comm x 2, Nat.two_mul, Nat.add_mod, Nat.mod_mul_mod, ← Nat.add_mod]
theorem mod_step_odd {o x n m t : Nat} (he : n = 2 * m + 1) (h : (o + x * n) % W192 = t) : ((o + x) % W192 + (x + x) % W192 * m) % W192 = t := by
  have e : o + x * n = (o + x) + (x + x) * m := by
    rw [he, Nat.mul_add, Nat.mul_one, Nat.add_mul, Nat.two_mul, Nat.mul_add]; omega
  rw [← h, e, Nat.add_mod ((o + x) % W192), Nat.mod_mod, Nat.mod_mul_mod, ← Nat.add_mod]

set_option maxHeartbeats 1000000 in
theorem product_any (a n0 : Nat) (w : World) (ha : a < W128) (hn : n0 ≤ 9223372036854775807) :
    Calls Try.prog 41 #[wv a, .int .i64 n0] w fun e w' => e = .returned (.agg (pcs (a * n0)).toArray) ∧ Below w.heap.size w w' := by
  have HA := hidp ha; clear ha
  have hlt : a * n0 < W192 := Nat.lt_of_lt_of_le (Nat.mul_lt_mul_of_lt_of_le HA.out hn (by omega)) (by decide)
  have HL := hidp hlt; clear hlt
  have HN := hidp hn
  go_enter Try.func41, Try.ntmps41
  go_wp2
  go_loopw [1] (fun i wr => ∃ n o x : Nat, n ≤ 9223372036854775807 ∧ i = .int .i64 n ∧ Hid (o < W192 ∧ x < W192 ∧ (o + x * n) % W192 = (a * n0) % W192 ∧ Blk wr (w.heap.size + 2) (pcs o) 58 ∧ Blk wr (w.heap.size + 3) (pcs x) 58 ∧ Blk wr (w.heap.size + 1) (xcs 0 0 0) 58 ∧ Below w.heap.size w wr)) (fun i _ => (intOf i).toNat)
  case atStart =>
    refine ⟨n0, 0, a, hn, rfl, by decide, Nat.lt_trans HA.out (by decide), by rw [Nat.zero_add], ?_, ?_, ?_, by (repeat' (first | (with_reducible exact Below.refl _ _) | (with_reducible refine Below.alloc ?_ ?_ _) | (with_reducible refine Below.drew ?_) | (with_reducible refine Below.drewN ?_ _) | (with_reducible refine Below.setCell ?_ ?_ _) | go_size))⟩
    · exact (Blk.new' _ (pcs 0) _ _ (by simp)).alloc _
    · have h := Blk.new' ((((w.alloc (.cells #[.int .u64 (hiw a), .int .u64 (low a)] 24)).alloc (.cells #[.int .u64 0, .int .u64 0, .int .u64 0] 58)).alloc (.cells #[.int .u64 0, .int .u64 0, .int .u64 0] 58))) (pcs a) 58 (w.heap.size + 3) (by simp)
      unfold pcs at h
      rw [wd2_zero HA.out, wd1_hiw HA.out, wd0_low] at h
      unfold pcs
      rw [wd2_zero HA.out, wd1_hiw HA.out, wd0_low]
      exact h
    · exact ((Blk.new' _ (xcs 0 0 0) _ _ (by simp)).alloc _).alloc _
  case round =>
    obtain ⟨n, o, x, hk, rfl, hr⟩ := hrel
    by_cases hz : n = 0
    · subst hz
      obtain ⟨ho, hx, he, bo, bx, bz, hB⟩ := hr.out
      rw [Nat.mul_zero, Nat.add_zero, Nat.mod_eq_of_lt ho, Nat.mod_eq_of_lt HL.out] at he
      subst he
      have r0 := bo.cell 0
      have r1 := bo.cell 1
      have r2 := bo.cell 2
      have y0 := bz.cell 0
      have y1 := bz.cell 1
      have y2 := bz.cell 2
      have f0 := bz.free 0
      have f1 := bz.free 1
      have f2 := bz.free 2
      simp only [List.getElem?_cons_zero, List.getElem?_cons_succ] at r0 r1 r2 y0 y1 y2
      have HB := hidp hB; clear hB bo bx bz hr ho hx
      go_wp2
      exact bodyPost_ret (v := .agg (pcs (a * n0)).toArray) (by simp [results, Try.results41, go_sem, y0, y1, y2]) rfl ⟨rfl, by (repeat' (first | (with_reducible exact HB.out) | (with_reducible exact Below.refl _ _) | (with_reducible refine Below.alloc ?_ ?_ _) | (with_reducible refine Below.drew ?_) | (with_reducible refine Below.drewN ?_ _) | (with_reducible refine Below.setCell ?_ ?_ _) | go_size))⟩
    · have bx := hr.out.2.2.2.2.1
      have bo := hr.out.2.2.2.1
      have x0 := bx.cell 0
      have x1 := bx.cell 1
      have x2 := bx.cell 2
      have o0 := bo.cell 0
      have o1 := bo.cell 1
      have o2 := bo.cell 2
      have BX := hidp bx
      have BO := hidp bo
      have BZ := hidp hr.out.2.2.2.2.2.1
      have HB := hidp hr.out.2.2.2.2.2.2
      simp only [List.getElem?_cons_zero, List.getElem?_cons_succ] at x0 x1 x2 o0 o1 o2
      clear bx bo
      by_cases he : (n : Int) % 2 = 1
      · go_wp2_with fail
        refine (added_any o x hr.out.1 hr.out.2.1 _).mono ?_
        rintro e w1 ⟨rfl, hB1⟩
        have b1 := BO.out.below hB1 BO.out.lt
        have b2 := BX.out.below hB1 BX.out.lt
        have b3 := BZ.out.below hB1 BZ.out.lt
        have k0 := b1.cell 0
        have k1 := b1.cell 1
        have k2 := b1.cell 2
        have f0 := b1.free 0
        have f1 := b1.free 1
        have f2 := b1.free 2
        have l0 := b2.cell 0
        have l1 := b2.cell 1
        have l2 := b2.cell 2
        simp only [List.getElem?_cons_zero, List.getElem?_cons_succ] at k0 k1 k2 l0 l1 l2
        have B1 := hidp b1; have B2 := hidp b2; have B3 := hidp b3; clear b1 b2 b3
        have HB1 := hidp hB1; clear hB1
        go_wp2_with fail
        refine (added_any x x hr.out.2.1 hr.out.2.1 _).mono ?_
        rintro e w2 ⟨rfl, hB2⟩
        clear k0 k1 k2 f0 f1 f2 l0 l1 l2 x0 x1 x2 o0 o1 o2
        have b2 := (B2.out.other3 (c := w.heap.size + 2) _ _ _ (by omega)).below hB2 (by have := B2.out.lt; simp; omega)
        have b1 := (B1.out.set3 _ _ _).below hB2 (by have := B1.out.lt; simp; omega)
        have b3 := (B3.out.other3 (c := w.heap.size + 2) _ _ _ (by omega)).below hB2 (by have := B3.out.lt; simp; omega)
        have k0 := b2.cell 0
        have k1 := b2.cell 1
        have k2 := b2.cell 2
        have f0 := b2.free 0
        have f1 := b2.free 1
        have f2 := b2.free 2
        simp only [List.getElem?_cons_zero, List.getElem?_cons_succ] at k0 k1 k2
        have C1 := hidp b1; have C2 := hidp b2; have C3 := hidp b3; clear b1 b2 b3
        have HB2 := hidp hB2; clear hB2
        go_wp2
        go_roundw
        case rel =>
          refine ⟨n / 2, (o + x) % W192, (x + x) % W192, by omega, by go_num, Nat.mod_lt _ (by decide), Nat.mod_lt _ (by decide), mod_step_odd (n := n) (by omega) hr.out.2.2.1, C1.out.other3 _ _ _ (by omega), C2.out.set3 _ _ _, C3.out.other3 _ _ _ (by omega), ?_⟩
          have hs := HB.out.size
          have hs1 := HB1.out.size
          have H2 : Below w.heap.size w w2 := (((HB.out.trans (HB1.out.mono hs)).setCell (p := ⟨w.heap.size + 2, 0, none⟩) (by simp) _).setCell (p := ⟨w.heap.size + 2, 1, none⟩) (by simp) _).setCell (p := ⟨w.heap.size + 2, 2, none⟩) (by simp) _ |>.trans (HB2.out.mono (by simp; omega))
          (repeat' (first | (with_reducible exact H2) | (with_reducible exact Below.refl _ _) | (with_reducible refine Below.alloc ?_ ?_ _) | (with_reducible refine Below.drew ?_) | (with_reducible refine Below.drewN ?_ _) | (with_reducible refine Below.setCell ?_ ?_ _) | go_size))
        case measure => simp [intOf]; omega
      · have he' : (n : Int) % 2 = 0 := by omega
        have HE := hidp he; clear he
        go_wp2_with fail
        refine (added_any x x hr.out.2.1 hr.out.2.1 _).mono ?_
        rintro e w1 ⟨rfl, hB1⟩
        have b1 := BX.out.below hB1 (BX.out.lt)
        have k0 := b1.cell 0
        have k1 := b1.cell 1
        have k2 := b1.cell 2
        have f0 := b1.free 0
        have f1 := b1.free 1
        have f2 := b1.free 2
        simp only [List.getElem?_cons_zero, List.getElem?_cons_succ] at k0 k1 k2
        have B1 := hidp b1; clear b1
        have HB1 := hidp hB1; clear hB1
        go_wp2
        go_roundw
        case rel =>
          refine ⟨n / 2, o, (x + x) % W192, by omega, by go_num, hr.out.1, Nat.mod_lt _ (by decide), mod_step_even (n := n) (by omega) hr.out.2.2.1, ?_, B1.out.set3 _ _ _, ?_, by (repeat' (first | (with_reducible exact HB.out.trans (HB1.out.mono HB.out.size)) | (with_reducible exact Below.refl _ _) | (with_reducible refine Below.alloc ?_ ?_ _) | (with_reducible refine Below.drew ?_) | (with_reducible refine Below.drewN ?_ _) | (with_reducible refine Below.setCell ?_ ?_ _) | go_size))⟩
          · exact (BO.out.below HB1.out BO.out.lt).other3 _ _ _ (by omega)
          · exact (BZ.out.below HB1.out BZ.out.lt).other3 _ _ _ (by omega)
        case measure => simp [intOf]; omega
end Go.Proofs.Ytbldmenaaedffaa
