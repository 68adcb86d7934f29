/-
  Contract: the answer's Read.
-/
import Derived.Test.YthcgenlhblbjaaaHy
import Derived.Still
namespace Go.Proofs.Ythcgenlhblbjaaa
open Go.RowKit Go.Lib

/-- A region that only reads: the world behind its draw has a name. -/
theorem region_still {P : Program} {id : Nat} {Q : Exit → Act → World → Prop} {a : Act} {w : World} {l : List Oper} (hm : P.follows .mixedOrders = true) (hB : Region.lexB .any l.toArray = true)
    (h : ∀ wd : World, Hid (wd = w.drew) → wpStill P l.toArray wd (fun a' => Q .normal a' wd) l a) : (Code.region id l.toArray true).wp P Q a w :=
  wp_region_still_lit hm hB (h w.drew (hidp rfl))

/-! Read. -/
theorem partR_pair (s : ByteArray) {i : Nat} (hi : i < 32) : (partR s (2 * i)).set i (16 * dgV s (2 * i) + dgV s (2 * i + 1)) = partR s (2 * (i + 1)) := by
  have h1 := partR_set s (k := 2 * i) (by omega)
  have h2 := partR_set s (k := 2 * i + 1) (by omega)
  rw [← h1, show 2 * i / 2 = i by omega, show (2 * i + 1) / 2 = i by omega, List.set_set] at h2
  have e : stepR s (2 * i + 1) = 16 * dgV s (2 * i) + dgV s (2 * i + 1) := by unfold stepR; rw [if_neg (by omega), show 2 * i + 1 - 1 = 2 * i by omega]
  rw [e] at h2
  rw [h2]
  congr 1
theorem refRead_len (s : ByteArray) (w : World) (hs : ¬ s.size = 64) : Calls Try.prog 15 #[.string s] w fun e w' => e = .returned (.tuple #[.agg z32.toArray, .int .i64 5]) ∧ Below w.heap.size w w' := by
  have hne : (((s.size : Nat) : Int) != 64) = true := by rw [bne_iff_ne]; omega
  have hr0 := hidp (Blk.new w z32 26)
  clear hs
  go_enter Try.func15, Try.ntmps15
  go_wp2_with (first | refine wpList_buildTo rfl 26 _ rfl _ rfl z32.toArray (by kernel_rfl) ?_ | (refine wpList_store_blk rfl 26 _ _ rfl w.heap.size z32 z32 26 rfl rfl hr0.out (by kernel_rfl) rfl (bvs_one _) ?_; intro w6 hw6))
  have b2 : Blk w6 w.heap.size z32 26 := by rw [hw6.out]; exact hr0.out.row
  refine bodyPost_ret (v := .tuple #[.agg z32.toArray, .int .i64 5]) ?_ rfl ⟨rfl, ?_⟩
  · exact results_row2 Try.results15 _ _ w.heap.size 26 _ _ rfl b2 Try.underlying26 rfl (by kernel_rfl)
  · rw [hw6.out]; exact below_setRow ((Below.refl _ w).alloc (Nat.le_refl _) _) (Nat.le_refl _) _

/-- What the answer's Read knows between its statements. -/
structure RqS (w wr : World) (s : ByteArray) (i : Nat) : Prop where
  h : Blk wr (w.heap.size + 1) (bvs (partR s (2 * i))) 26
  r : Blk wr w.heap.size z32 26
  bel : Below w.heap.size w wr
theorem RqS.start (w : World) (s : ByteArray) : RqS w ((w.alloc (.cells z32.toArray 26)).alloc (.cells (bvs (List.replicate 32 0)).toArray 26)) s 0 :=
  ⟨by rw [Nat.mul_zero, partR_zero]; exact Blk.new' _ _ _ _ (by simp), (Blk.new w _ _).alloc _, ((Below.refl _ w).alloc (Nat.le_refl _) _).alloc (by simp) _⟩
theorem RqS.drewN {w wr : World} {s : ByteArray} {i : Nat} (H : RqS w wr s i) (n : Nat) : RqS w (wr.drewN n) s i := ⟨H.h.drewN n, H.r.drewN n, H.bel.drewN n⟩

set_option maxRecDepth 20000 in
set_option maxHeartbeats 4000000 in
theorem refRead_go (s : ByteArray) (q : Nat) (w : World) (hs : s.size = 64) (hq : q ≤ 32) (hg : ∀ j, j < 2 * q → dgV s j < 16) (hbad : q < 32 → ¬ (dgV s (2 * q) < 16 ∧ dgV s (2 * q + 1) < 16)) :
    Calls Try.prog 15 #[.string s] w fun e w' => e = .returned (if q = 32 then .tuple #[.agg (bvs (readL s)).toArray, .int .i64 0] else .tuple #[.agg z32.toArray, .int .i64 5]) ∧ Below w.heap.size w w' := by
  have hne : (((s.size : Nat) : Int) != 64) = false := by rw [bne_eq_false_iff_eq]; omega
  have H0 := hidp (RqS.start w s)
  have HS := hidp hs
  have HG := hidp hg
  have HQ := hidp hq
  have HB := hidp hbad
  clear hs hg hq hbad
  go_enter Try.func15, Try.ntmps15
  go_wp2
  go_loopw [5] (fun x wr => ∃ i : Nat, i ≤ q ∧ x = .int .i64 i ∧ Hid (RqS w wr s i)) (fun x _ => 32 - (RowKit.intOf x).toNat)
  case atStart => exact ⟨0, Nat.zero_le _, rfl, H0⟩
  case round =>
    obtain ⟨i, hi, rfl, hr⟩ := hrel
    clear H0
    by_cases h32 : i < 32
    · have hc1 : 2 * i < s.size := by rw [HS.out]; omega
      have hc2 : 2 * i + 1 < s.size := by rw [HS.out]; omega
      have e1 := byteAt_eq hc1
      have e2 := byteAt_eq hc2
      have k1 := hidp (fun w => digit_any (byteAt s (2 * i)) w (byteAt_lt s _))
      have k2 := hidp (fun w => digit_any (byteAt s (2 * i + 1)) w (byteAt_lt s _))
      have w1 : IntKind.i64.wrap (2 * (i : Int)) = 2 * (i : Int) := by rw [IntKind.wrap_i64]; omega
      have w2 : IntKind.i64.wrap (2 * (i : Int) + 1) = 2 * (i : Int) + 1 := by rw [IntKind.wrap_i64]; omega
      have p1 : (0 : Int) ≤ 2 * (i : Int) := by omega
      have p2 : (0 : Int) ≤ 2 * (i : Int) + 1 := by omega
      have l1 : 2 * (i : Int) < ((s.size : Nat) : Int) := by omega
      have l2 : 2 * (i : Int) + 1 < ((s.size : Nat) : Int) := by omega
      have t1 : (2 * (i : Int)).toNat = 2 * i := by omega
      have t2 : (2 * (i : Int) + 1).toNat = 2 * i + 1 := by omega
      have d1 := hexV_le (byteAt s (2 * i))
      have d2 := hexV_le (byteAt s (2 * i + 1))
      have v1 : hexV (byteAt s (2 * i)) = dgV s (2 * i) := rfl
      have v2 : hexV (byteAt s (2 * i + 1)) = dgV s (2 * i + 1) := rfl
      have hset := partR_pair s h32
      rw [v1] at k1 d1
      rw [v2] at k2 d2
      have hgood : i < q → dgV s (2 * i) < 16 ∧ dgV s (2 * i + 1) < 16 := fun h => ⟨HG.out _ (by omega), HG.out _ (by omega)⟩
      have hbad : i = q → ¬ (dgV s (2 * i) < 16 ∧ dgV s (2 * i + 1) < 16) := fun h => by subst h; exact HB.out h32
      clear v1 v2
      generalize dgV s (2 * i) = x at k1 d1 hset hgood hbad
      generalize dgV s (2 * i + 1) = y at k2 d2 hset hgood hbad
      generalize byteAt s (2 * i) = c1 at e1 k1
      generalize byteAt s (2 * i + 1) = c2 at e2 k2
      have hset := hidp hset
      have hl : (i : Int) < 32 := by omega
      have hcell := (hr.out.h.cell i).trans (bvs_get (by rw [partR_len]; exact h32))
      have hfree := hr.out.h.free i
      have h32 := hidp h32
      by_cases hiq : i < q
      · obtain ⟨g1, g2⟩ := hgood hiq
        have t3 : ((x : Int) == 16) = false := by rw [beq_eq_false_iff_ne]; omega
        have t4 : ((y : Int) == 16) = false := by rw [beq_eq_false_iff_ne]; omega
        have m1 : (x : Int) * 16 % 256 = (x : Int) * 16 := by omega
        have m2 : ((x : Int) * 16 + (y : Int)) % 256 = (x : Int) * 16 + (y : Int) := by omega
        have hv : Hid ((x : Int) * 16 + (y : Int) = ((16 * x + y : Nat) : Int)) := hidp (by omega)
        have hiq := hidp hiq
        clear hgood hbad d1 d2
        go_wp2
        refine region_still (by kernel_rfl) (by kernel_rfl) ?_
        intro wd hwd
        have hd : Hid (RqS w wd s i) := hwd.out.symm ▸ hidp (hr.out.drewN 1)
        clear hr hwd hcell hfree
        have hcell := (hd.out.h.cell i).trans (bvs_get (by rw [partR_len]; exact h32.out))
        have hfree := hd.out.h.free i
        repeat still_step
        still_call (k1.out _)
        repeat still_step
        still_call (k2.out _)
        repeat still_step
        try refine wpStill_nil ?_
        go_wp2
        refine ⟨⟨i + 1, by have := hiq.out; omega, by go_num, hidp ⟨?_, hd.out.r.other _ _ (by simp), hd.out.bel.setCell (p := ⟨w.heap.size + 1, i, none⟩) (by simp) _⟩⟩, by have := h32.out; simp [RowKit.intOf]; omega⟩
        rw [hv.out, ← hset.out, ← bvs_set]
        exact hd.out.h.set _ _
      · have hiq2 : i = q := by omega
        have hq32 : Hid (¬ q = 32) := hidp (by have := h32.out; omega)
        have hb := hbad hiq2
        clear hgood hbad hset
        by_cases hx16 : x = 16
        · have t3 : ((x : Int) == 16) = true := by rw [beq_iff_eq]; omega
          clear hb hx16 hiq2 hiq
          go_wp2
          refine region_still (by kernel_rfl) (by kernel_rfl) ?_
          intro wd hwd
          have hd : Hid (RqS w wd s i) := hwd.out.symm ▸ hidp (hr.out.drewN 1)
          clear hr hwd hcell hfree
          repeat still_step
          still_call (k1.out _)
          repeat still_step
          still_call (k2.out _)
          repeat still_step
          try refine wpStill_nil ?_
          go_wp2_with (first | refine wpList_buildTo rfl 26 _ rfl _ rfl z32.toArray (by kernel_rfl) ?_ | (refine wpList_store_blk rfl 26 _ _ rfl w.heap.size z32 z32 26 rfl rfl hd.out.r (by kernel_rfl) rfl (bvs_one _) ?_; intro w6 hw6))
          have b2 : Blk w6 w.heap.size z32 26 := by rw [hw6.out]; exact hd.out.r.row
          refine bodyPost_ret (v := .tuple #[.agg z32.toArray, .int .i64 5]) ?_ rfl ⟨rfl, ?_⟩
          · exact results_row2 Try.results15 _ _ w.heap.size 26 _ _ rfl b2 Try.underlying26 rfl (by kernel_rfl)
          · rw [hw6.out]; exact below_setRow hd.out.bel (Nat.le_refl _) _
        · have t3 : ((x : Int) == 16) = false := by rw [beq_eq_false_iff_ne]; omega
          have t4 : ((y : Int) == 16) = true := by rw [beq_iff_eq]; omega
          clear hb hx16 hiq2 hiq
          go_wp2
          refine region_still (by kernel_rfl) (by kernel_rfl) ?_
          intro wd hwd
          have hd : Hid (RqS w wd s i) := hwd.out.symm ▸ hidp (hr.out.drewN 1)
          clear hr hwd hcell hfree
          repeat still_step
          still_call (k1.out _)
          repeat still_step
          still_call (k2.out _)
          repeat still_step
          try refine wpStill_nil ?_
          go_wp2_with (first | refine wpList_buildTo rfl 26 _ rfl _ rfl z32.toArray (by kernel_rfl) ?_ | (refine wpList_store_blk rfl 26 _ _ rfl w.heap.size z32 z32 26 rfl rfl hd.out.r (by kernel_rfl) rfl (bvs_one _) ?_; intro w6 hw6))
          have b2 : Blk w6 w.heap.size z32 26 := by rw [hw6.out]; exact hd.out.r.row
          refine bodyPost_ret (v := .tuple #[.agg z32.toArray, .int .i64 5]) ?_ rfl ⟨rfl, ?_⟩
          · exact results_row2 Try.results15 _ _ w.heap.size 26 _ _ rfl b2 Try.underlying26 rfl (by kernel_rfl)
          · rw [hw6.out]; exact below_setRow hd.out.bel (Nat.le_refl _) _
    · have h32i : i = 32 := by have := HQ.out; omega
      have hq32 : Hid (q = 32) := hidp (by have := HQ.out; omega)
      subst h32i
      have hb := hidp (partR_all s ▸ hr.out.h)
      go_wp2_with (first | refine wpList_load_blk rfl 26 _ rfl (w.heap.size + 1) (bvs (readL s)) 26 rfl hb.out _ Try.underlying26 rfl (by rw [bvs_len, readL_len]; kernel_rfl) ?_ | (refine wpList_store_blk rfl 26 _ _ rfl w.heap.size (bvs (readL s)) z32 26 rfl rfl hr.out.r (by rw [bvs_len, readL_len]; kernel_rfl) (by rw [bvs_len, readL_len]; rfl) (bvs_one _) ?_; intro w6 hw6))
      have b2 : Blk w6 w.heap.size (bvs (readL s)) 26 := by rw [hw6.out]; exact hr.out.r.row
      refine bodyPost_ret (v := .tuple #[.agg (bvs (readL s)).toArray, .int .i64 0]) ?_ rfl ⟨rfl, ?_⟩
      · exact results_row2 Try.results15 _ _ w.heap.size 26 _ _ rfl b2 Try.underlying26 rfl (by rw [bvs_len, readL_len]; kernel_rfl)
      · rw [hw6.out]; exact below_setRow hr.out.bel (Nat.le_refl _) _
theorem refRead_any (s : ByteArray) (w : World) : Calls Try.prog 15 #[.string s] w fun e w' => e = .returned (.tuple #[.agg (bvs (readO s).1).toArray, .int .i64 ((readO s).2 : Nat)]) ∧ Below w.heap.size w w' := by
  by_cases h : goodR s
  · rw [readO_ok h]
    have := refRead_go s 32 w h.1 (Nat.le_refl _) (fun j hj => h.2 j (by omega)) (fun h => absurd h (by omega))
    rw [if_pos rfl] at this
    exact this
  · rw [readO_no h]
    by_cases hs : s.size = 64
    · obtain ⟨i, h1, h2, h3⟩ := first_bad hs h
      have := refRead_go s (i / 2) w hs (by omega) (fun j hj => h3 j (by omega)) (fun hq hb => by
        by_cases hp : i % 2 = 0
        · rw [show 2 * (i / 2) = i by omega] at hb; exact h2 hb.1
        · rw [show 2 * (i / 2) + 1 = i by omega] at hb; exact h2 hb.2)
      rw [if_neg (by omega)] at this
      exact this
    · exact refRead_len s w hs
end Go.Proofs.Ythcgenlhblbjaaa
