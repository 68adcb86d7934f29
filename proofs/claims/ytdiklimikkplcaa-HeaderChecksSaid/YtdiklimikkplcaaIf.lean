/-
  Contracts of the answer's hash: turn, mix.
-/
import Derived.Test.YtdiklimikkplcaaHm
namespace Go.Proofs.Ytdiklimikkplcaa
open Go.RowKit Go.Lib

theorem rot_word' {x : Nat} (n : Nat) (hx : x < W32) (hn : n ≤ 32) : bits .or .u32 (((x / 2 ^ n : Nat)) : Int) (((x * 2 ^ (32 - n) % 4294967296 : Nat)) : Int) = ((rotW x n : Nat) : Int) := by
  have h1 : x * 2 ^ (32 - n) % 4294967296 < W32 := Nat.mod_lt _ (by decide)
  have h2 : x / 2 ^ n < W32 := Nat.lt_of_le_of_lt (Nat.div_le_self _ _) hx
  rw [or_word h2 h1, Nat.or_comm, rot_or hx hn]
theorem refTurn_any (x n : Nat) (w : World) (hx : x < W32) (hn : n = 16 ∨ n = 12 ∨ n = 8 ∨ n = 7) :
    Calls Try.prog 204 #[.int .u32 x, .int .u64 n] w fun e w' => e = .returned (.int .u32 (rotW x n : Nat)) ∧ w' = w := by
  rcases hn with rfl | rfl | rfl | rfl
  · have hr := rot_word' 16 hx (by decide)
    clear hx
    go_enter Try.func204, Try.ntmps204
    go_wp2
    go_ret
    exact ⟨ret_int hr, rfl⟩
  · have hr := rot_word' 12 hx (by decide)
    clear hx
    go_enter Try.func204, Try.ntmps204
    go_wp2
    go_ret
    exact ⟨ret_int hr, rfl⟩
  · have hr := rot_word' 8 hx (by decide)
    clear hx
    go_enter Try.func204, Try.ntmps204
    go_wp2
    go_ret
    exact ⟨ret_int hr, rfl⟩
  · have hr := rot_word' 7 hx (by decide)
    clear hx
    go_enter Try.func204, Try.ntmps204
    go_wp2
    go_ret
    exact ⟨ret_int hr, rfl⟩
theorem refTurn_still (x n r : Nat) (w : World) (hx : x < W32) (hn : n = 16 ∨ n = 12 ∨ n = 8 ∨ n = 7) (hr : rotW x n = r) :
    Calls Try.prog 204 #[.int .u32 x, .int .u64 n] w fun e w' => e = .returned (.int .u32 (r : Nat)) ∧ w' = w :=
  (refTurn_any x n w hx hn).mono fun _ _ h => ⟨hr ▸ h.1, h.2⟩
theorem wrap_add3 {a b x : Nat} : IntKind.u32.wrap (IntKind.u32.wrap ((a : Int) + (b : Int)) + (x : Int)) = ((addW (addW a b) x : Nat) : Int) := by
  rw [IntKind.wrap_u32, IntKind.wrap_u32]; unfold addW; omega

set_option maxRecDepth 20000 in
set_option maxHeartbeats 8000000 in
theorem refMix_any (i j k l : Nat) (v : List Nat) (x y : Nat) (w : World) (hv : Words 16 v) (hi : i < 16) (hj : j < 16) (hk : k < 16) (hl : l < 16)
    (hij : i ≠ j) (hik : i ≠ k) (hil : i ≠ l) (hjk : j ≠ k) (hjl : j ≠ l) (hkl : k ≠ l) :
    Calls Try.prog 192 #[.agg (wvs v).toArray, .int .i64 i, .int .i64 j, .int .i64 k, .int .i64 l, .int .u32 x, .int .u32 y] w fun e w' => e = .returned (.agg (wvs (mixL v i j k l x y)).toArray) ∧ Below w.heap.size w w' := by
  obtain ⟨B, hBe⟩ : ∃ B, B = w.heap.size := ⟨_, rfl⟩
  obtain ⟨W0, hW0⟩ : ∃ W0, W0 = (w.alloc (.cells (wvs v).toArray 213)).alloc (.cells #[.int .u32 0, .int .u32 0, .int .u32 0, .int .u32 0, .int .u32 0, .int .u32 0, .int .u32 0, .int .u32 0, .int .u32 0, .int .u32 0, .int .u32 0, .int .u32 0, .int .u32 0, .int .u32 0, .int .u32 0, .int .u32 0] 213) := ⟨_, rfl⟩
  have hw : Blk W0 B (wvs v) 213 := by rw [hW0, hBe]; exact (Blk.new w _ _).alloc _
  have hz := hidp (show Blk W0 (B + 1) (wvs (List.replicate 16 0)) 213 by rw [hW0, hBe]; exact Blk.new' _ (wvs (List.replicate 16 0)) _ _ (by simp))
  have hBel := hidp (show Below w.heap.size w W0 by rw [hW0]; exact ((Below.refl _ w).alloc (Nat.le_refl _) _).alloc (by simp) _)
  have HB0 := hidp hBe
  have HW0 := hidp hW0
  have ii : (i : Int) < 16 := by omega
  have jj : (j : Int) < 16 := by omega
  have kk : (k : Int) < 16 := by omega
  have ll : (l : Int) < 16 := by omega
  clear hBe hW0
  have h4 := Row.four hw (hv.1.symm ▸ hi) (hv.1.symm ▸ hj) (hv.1.symm ▸ hk) (hv.1.symm ▸ hl)
  have hR := hidp (Row.refl hw)
  have hb1 : v.getD j 0 < W32 := hv.get j
  have hd1 : v.getD l 0 < W32 := hv.get l
  have hlen := hidp hv.1
  have HW := hidp (mixL_words hv i j k l x y)
  have HM : mixL v i j k l x y = (((v.set i (gA2 (v.getD i 0) (v.getD j 0) (v.getD k 0) (v.getD l 0) x y)).set j (gB2 (v.getD i 0) (v.getD j 0) (v.getD k 0) (v.getD l 0) x y)).set k (gC2 (v.getD i 0) (v.getD j 0) (v.getD k 0) (v.getD l 0) x y)).set l (gD2 (v.getD i 0) (v.getD j 0) (v.getD k 0) (v.getD l 0) x y) := rfl
  clear hv hw
  revert h4 hb1 hd1 HM
  generalize v.getD i 0 = a1
  generalize v.getD j 0 = b1
  generalize v.getD k 0 = c1
  generalize v.getD l 0 = d1
  intro h4 hb1 hd1 HM
  obtain ⟨A1, hA1⟩ : ∃ r, r = gA1 a1 b1 x := ⟨_, rfl⟩
  obtain ⟨D1, hD1⟩ : ∃ r, r = gD1 a1 b1 d1 x := ⟨_, rfl⟩
  obtain ⟨C1, hC1⟩ : ∃ r, r = gC1 a1 b1 c1 d1 x := ⟨_, rfl⟩
  obtain ⟨B1, hB1⟩ : ∃ r, r = gB1 a1 b1 c1 d1 x := ⟨_, rfl⟩
  obtain ⟨A2, hA2⟩ : ∃ r, r = gA2 a1 b1 c1 d1 x y := ⟨_, rfl⟩
  obtain ⟨D2, hD2⟩ : ∃ r, r = gD2 a1 b1 c1 d1 x y := ⟨_, rfl⟩
  obtain ⟨C2, hC2⟩ : ∃ r, r = gC2 a1 b1 c1 d1 x y := ⟨_, rfl⟩
  obtain ⟨B2, hB2⟩ : ∃ r, r = gB2 a1 b1 c1 d1 x y := ⟨_, rfl⟩
  have lA1 : A1 < W32 := hA1 ▸ gA1_lt _ _ _
  have lD1 : D1 < W32 := hD1 ▸ gD1_lt _ _ _ hd1
  have lC1 : C1 < W32 := hC1 ▸ gC1_lt _ _ _ _ _
  have lB1 : B1 < W32 := hB1 ▸ gB1_lt _ _ _ _ hb1
  have lA2 : A2 < W32 := hA2 ▸ gA2_lt _ _ _ _ _ _
  have lC2 : C2 < W32 := hC2 ▸ gC2_lt _ _ _ _ _ _
  have e1 : IntKind.u32.wrap (IntKind.u32.wrap ((a1 : Int) + (b1 : Int)) + (x : Int)) = (A1 : Int) := by rw [wrap_add3, hA1]; rfl
  have e2 := xor_word hd1 lA1
  have H2 := hidp (refTurn_still (xorW d1 A1) 16 D1 · (xorW_lt hd1 lA1) (by simp) (by rw [hD1, hA1]; rfl))
  have e3 : IntKind.u32.wrap ((c1 : Int) + (D1 : Int)) = (C1 : Int) := by rw [wrap_add, hC1, hD1]; rfl
  have e4 := xor_word hb1 lC1
  have H4 := hidp (refTurn_still (xorW b1 C1) 12 B1 · (xorW_lt hb1 lC1) (by simp) (by rw [hB1, hC1]; rfl))
  have e5 : IntKind.u32.wrap (IntKind.u32.wrap ((A1 : Int) + (B1 : Int)) + (y : Int)) = (A2 : Int) := by rw [wrap_add3, hA2, hA1, hB1]; rfl
  have e6 := xor_word lD1 lA2
  have H6 := hidp (refTurn_still (xorW D1 A2) 8 D2 · (xorW_lt lD1 lA2) (by simp) (by rw [hD2, hD1, hA2]; rfl))
  have e7 : IntKind.u32.wrap ((C1 : Int) + (D2 : Int)) = (C2 : Int) := by rw [wrap_add, hC2, hC1, hD2]; rfl
  have e8 := xor_word lB1 lC2
  have H8 := hidp (refTurn_still (xorW B1 C2) 7 B2 · (xorW_lt lB1 lC2) (by simp) (by rw [hB2, hB1, hC2]; rfl))
  rw [← hA2, ← hD2, ← hC2, ← hB2, ← sets_eq v A1 D1 C1 B1 A2 D2 C2 B2 hij hik hil hjk hjl hkl] at HM
  have HM := hidp HM
  clear hA1 hD1 hC1 hB1 hA2 hD2 hC2 hB2 lA1 lD1 lC1 lB1 lA2 lC2 hb1 hd1
  have H0 := hidp h4
  obtain ⟨ca, cb, cc, cd, fa, fb, fc, fd⟩ := h4
  go_enter Try.func192, Try.ntmps192
  go_wp2_with fail
  rw [← HW0.out, ← HB0.out]
  refine region_tail 11 (by kernel_rfl) (by kernel_rfl) ?_
  intro wd0 hwd0
  have h4d := hidp (hwd0.out.symm ▸ H0.out.drew)
  have hRd := hidp (hwd0.out.symm ▸ hR.out.drew)
  clear ca cb cc cd fa fb fc fd
  obtain ⟨ca, cb, cc, cd, fa, fb, fc, fd⟩ := h4d.out
  simp only [List.take_succ_cons, List.take_zero, List.drop_succ_cons, List.drop_zero]
  repeat still_step
  try refine wpStill_nil ?_
  go_wp2_with fail
  have h40 := hidp (h4d.out.seta hij hik hil A1)
  have hR0 := hidp (hRd.out.set i A1)
  generalize (wd0.setCell _ _) = w0 at h40 hR0 ⊢
  clear h4d hRd
  clear ca cb cc cd fa fb fc fd
  obtain ⟨ca, cb, cc, cd, fa, fb, fc, fd⟩ := h40.out
  refine region_tail 10 (by kernel_rfl) (by kernel_rfl) ?_
  intro wd1 hwd1
  have h4d := hidp (hwd1.out.symm ▸ h40.out.drew)
  have hRd := hidp (hwd1.out.symm ▸ hR0.out.drew)
  clear ca cb cc cd fa fb fc fd
  obtain ⟨ca, cb, cc, cd, fa, fb, fc, fd⟩ := h4d.out
  simp only [List.take_succ_cons, List.take_zero, List.drop_succ_cons, List.drop_zero]
  repeat still_step
  still_call (H2.out _)
  repeat still_step
  try refine wpStill_nil ?_
  go_wp2_with fail
  have h41 := hidp (h4d.out.setd hil.symm hjl.symm hkl.symm D1)
  have hR1 := hidp (hRd.out.set l D1)
  generalize (wd1.setCell _ _) = w1 at h41 hR1 ⊢
  clear h4d hRd
  clear ca cb cc cd fa fb fc fd
  obtain ⟨ca, cb, cc, cd, fa, fb, fc, fd⟩ := h41.out
  refine region_tail 9 (by kernel_rfl) (by kernel_rfl) ?_
  intro wd2 hwd2
  have h4d := hidp (hwd2.out.symm ▸ h41.out.drew)
  have hRd := hidp (hwd2.out.symm ▸ hR1.out.drew)
  clear ca cb cc cd fa fb fc fd
  obtain ⟨ca, cb, cc, cd, fa, fb, fc, fd⟩ := h4d.out
  simp only [List.take_succ_cons, List.take_zero, List.drop_succ_cons, List.drop_zero]
  repeat still_step
  try refine wpStill_nil ?_
  go_wp2_with fail
  have h42 := hidp (h4d.out.setc hik.symm hjk.symm hkl C1)
  have hR2 := hidp (hRd.out.set k C1)
  generalize (wd2.setCell _ _) = w2 at h42 hR2 ⊢
  clear h4d hRd
  clear ca cb cc cd fa fb fc fd
  obtain ⟨ca, cb, cc, cd, fa, fb, fc, fd⟩ := h42.out
  refine region_tail 10 (by kernel_rfl) (by kernel_rfl) ?_
  intro wd3 hwd3
  have h4d := hidp (hwd3.out.symm ▸ h42.out.drew)
  have hRd := hidp (hwd3.out.symm ▸ hR2.out.drew)
  clear ca cb cc cd fa fb fc fd
  obtain ⟨ca, cb, cc, cd, fa, fb, fc, fd⟩ := h4d.out
  simp only [List.take_succ_cons, List.take_zero, List.drop_succ_cons, List.drop_zero]
  repeat still_step
  still_call (H4.out _)
  repeat still_step
  try refine wpStill_nil ?_
  go_wp2_with fail
  have h43 := hidp (h4d.out.setb hij.symm hjk hjl B1)
  have hR3 := hidp (hRd.out.set j B1)
  generalize (wd3.setCell _ _) = w3 at h43 hR3 ⊢
  clear h4d hRd
  clear ca cb cc cd fa fb fc fd
  obtain ⟨ca, cb, cc, cd, fa, fb, fc, fd⟩ := h43.out
  refine region_tail 11 (by kernel_rfl) (by kernel_rfl) ?_
  intro wd4 hwd4
  have h4d := hidp (hwd4.out.symm ▸ h43.out.drew)
  have hRd := hidp (hwd4.out.symm ▸ hR3.out.drew)
  clear ca cb cc cd fa fb fc fd
  obtain ⟨ca, cb, cc, cd, fa, fb, fc, fd⟩ := h4d.out
  simp only [List.take_succ_cons, List.take_zero, List.drop_succ_cons, List.drop_zero]
  repeat still_step
  try refine wpStill_nil ?_
  go_wp2_with fail
  have h44 := hidp (h4d.out.seta hij hik hil A2)
  have hR4 := hidp (hRd.out.set i A2)
  generalize (wd4.setCell _ _) = w4 at h44 hR4 ⊢
  clear h4d hRd
  clear ca cb cc cd fa fb fc fd
  obtain ⟨ca, cb, cc, cd, fa, fb, fc, fd⟩ := h44.out
  refine region_tail 10 (by kernel_rfl) (by kernel_rfl) ?_
  intro wd5 hwd5
  have h4d := hidp (hwd5.out.symm ▸ h44.out.drew)
  have hRd := hidp (hwd5.out.symm ▸ hR4.out.drew)
  clear ca cb cc cd fa fb fc fd
  obtain ⟨ca, cb, cc, cd, fa, fb, fc, fd⟩ := h4d.out
  simp only [List.take_succ_cons, List.take_zero, List.drop_succ_cons, List.drop_zero]
  repeat still_step
  still_call (H6.out _)
  repeat still_step
  try refine wpStill_nil ?_
  go_wp2_with fail
  have h45 := hidp (h4d.out.setd hil.symm hjl.symm hkl.symm D2)
  have hR5 := hidp (hRd.out.set l D2)
  generalize (wd5.setCell _ _) = w5 at h45 hR5 ⊢
  clear h4d hRd
  clear ca cb cc cd fa fb fc fd
  obtain ⟨ca, cb, cc, cd, fa, fb, fc, fd⟩ := h45.out
  refine region_tail 9 (by kernel_rfl) (by kernel_rfl) ?_
  intro wd6 hwd6
  have h4d := hidp (hwd6.out.symm ▸ h45.out.drew)
  have hRd := hidp (hwd6.out.symm ▸ hR5.out.drew)
  clear ca cb cc cd fa fb fc fd
  obtain ⟨ca, cb, cc, cd, fa, fb, fc, fd⟩ := h4d.out
  simp only [List.take_succ_cons, List.take_zero, List.drop_succ_cons, List.drop_zero]
  repeat still_step
  try refine wpStill_nil ?_
  go_wp2_with fail
  have h46 := hidp (h4d.out.setc hik.symm hjk.symm hkl C2)
  have hR6 := hidp (hRd.out.set k C2)
  generalize (wd6.setCell _ _) = w6 at h46 hR6 ⊢
  clear h4d hRd
  clear ca cb cc cd fa fb fc fd
  obtain ⟨ca, cb, cc, cd, fa, fb, fc, fd⟩ := h46.out
  refine region_tail 10 (by kernel_rfl) (by kernel_rfl) ?_
  intro wd7 hwd7
  have h4d := hidp (hwd7.out.symm ▸ h46.out.drew)
  have hRd := hidp (hwd7.out.symm ▸ hR6.out.drew)
  clear ca cb cc cd fa fb fc fd
  obtain ⟨ca, cb, cc, cd, fa, fb, fc, fd⟩ := h4d.out
  simp only [List.take_succ_cons, List.take_zero, List.drop_succ_cons, List.drop_zero]
  repeat still_step
  still_call (H8.out _)
  repeat still_step
  try refine wpStill_nil ?_
  have hR7 := hidp (hRd.out.set j B2)
  have hM := hidp (show Blk (wd7.setCell ⟨B, j, none⟩ (.int .u32 (B2 : Nat))) B (wvs (mixL v i j k l x y)) 213 by rw [HM.out]; exact hR7.out.new)
  have hZ := hidp (hR7.out.but.blk hz.out (show B + 1 ≠ B by omega))
  have hE := hidp (hBel.out.trans (hR7.out.but.below (show w.heap.size ≤ B by have := HB0.out; omega)))
  have hLe := hidp (show w.heap.size ≤ B + 1 by have := HB0.out; omega)
  clear hR7 hRd h4d HM hR hBel hz HW0 HB0
  go_wp2_with (first | refine wpList_load_blk rfl 213 _ rfl _ _ _ rfl hM.out _ Try.underlying213 rfl (by rw [wvs_len, HW.out.1]; kernel_rfl) ?_ | (refine wpList_store_blk rfl 213 _ _ rfl (B + 1) (wvs (mixL v i j k l x y)) (wvs (List.replicate 16 0)) 213 rfl rfl hZ.out (by rw [wvs_len, HW.out.1]; kernel_rfl) (by rw [wvs_len, wvs_len, HW.out.1]; rfl) (wvs_one _) ?_; intro w9 hw9))
  have b2 : Blk w9 (B + 1) (wvs (mixL v i j k l x y)) 213 := by rw [hw9.out]; exact hZ.out.row
  refine bodyPost_ret (v := .agg (wvs (mixL v i j k l x y)).toArray) ?_ rfl ⟨rfl, ?_⟩
  · exact results_cell_row Try.results192 _ _ (B + 1) 213 _ (0, 0) _ rfl b2 Try.underlying213 rfl (by rw [List.size_toArray, wvs_len, HW.out.1]; kernel_rfl)
  · rw [hw9.out]; exact below_setRow hE.out hLe.out _
end Go.Proofs.Ytdiklimikkplcaa
