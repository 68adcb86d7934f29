/-
  Texts If, Ig, Ij, Ik, Il, Im, one behind the other.
-/
import Derived.Laws.AppendOwnNone
import Derived.Deep.RegionHeld3
import Derived.Deep.MidRow
import Derived.Lib.SlBytesConst
import Derived.Laws.IdiomStrings
import Derived.Test.YtcmkmnidnapabaaGreatH3
import Derived.Test.YtcmkmnidnapabaaGreatOV
import Derived.Deep.CutRange

/-! If: Contracts of the answer's hash: turn, mix. -/
namespace Go.Proofs.YtcmkmnidnapabaaGreat
open Go.RowKit Go.Lib

theorem rot_word' {x : Nat} (n : Nat) (hx : x < W32) (hn : n ≤ 32) : bits .or .u32 (((x / 2 ^ n : Nat)) : Int) (((x * 2 ^ (32 - n) % 4294967296 : Nat)) : Int) = ((rotW x n : Nat) : Int) := by
  have h1 : x * 2 ^ (32 - n) % 4294967296 < W32 := Nat.mod_lt _ (by decide)
  have h2 : x / 2 ^ n < W32 := Nat.lt_of_le_of_lt (Nat.div_le_self _ _) hx
  rw [or_word h2 h1, Nat.or_comm, rot_or hx hn]
theorem refTurn_any (x n : Nat) (w : World) (hx : x < W32) (hn : n = 16 ∨ n = 12 ∨ n = 8 ∨ n = 7) :
    Calls Tryz.prog 263 #[.int .u32 x, .int .u64 n] w fun e w' => e = .returned (.int .u32 (rotW x n : Nat)) ∧ w' = w := by
  rcases hn with rfl | rfl | rfl | rfl
  · have hr := rot_word' 16 hx (by decide)
    clear hx
    go_enter Tryz.func263, Tryz.ntmps263
    go_wp2
    go_ret
    exact ⟨ret_int hr, rfl⟩
  · have hr := rot_word' 12 hx (by decide)
    clear hx
    go_enter Tryz.func263, Tryz.ntmps263
    go_wp2
    go_ret
    exact ⟨ret_int hr, rfl⟩
  · have hr := rot_word' 8 hx (by decide)
    clear hx
    go_enter Tryz.func263, Tryz.ntmps263
    go_wp2
    go_ret
    exact ⟨ret_int hr, rfl⟩
  · have hr := rot_word' 7 hx (by decide)
    clear hx
    go_enter Tryz.func263, Tryz.ntmps263
    go_wp2
    go_ret
    exact ⟨ret_int hr, rfl⟩
theorem refTurn_still (x n r : Nat) (w : World) (hx : x < W32) (hn : n = 16 ∨ n = 12 ∨ n = 8 ∨ n = 7) (hr : rotW x n = r) :
    Calls Tryz.prog 263 #[.int .u32 x, .int .u64 n] w fun e w' => e = .returned (.int .u32 (r : Nat)) ∧ w' = w :=
  (refTurn_any x n w hx hn).mono fun _ _ h => ⟨hr ▸ h.1, h.2⟩
theorem wrap_add3 {a b x : Nat} : IntKind.u32.wrap (IntKind.u32.wrap ((a : Int) + (b : Int)) + (x : Int)) = ((addW (addW a b) x : Nat) : Int) := by
  rw [IntKind.wrap_u32, IntKind.wrap_u32]; unfold addW; omega

set_option maxRecDepth 20000 in
set_option maxHeartbeats 8000000 in
theorem refMix_any (i j k l : Nat) (v : List Nat) (x y : Nat) (w : World) (hv : Words 16 v) (hi : i < 16) (hj : j < 16) (hk : k < 16) (hl : l < 16)
    (hij : i ≠ j) (hik : i ≠ k) (hil : i ≠ l) (hjk : j ≠ k) (hjl : j ≠ l) (hkl : k ≠ l) :
    Calls Tryz.prog 215 #[.agg (wvs v).toArray, .int .i64 i, .int .i64 j, .int .i64 k, .int .i64 l, .int .u32 x, .int .u32 y] w fun e w' => e = .returned (.agg (wvs (mixL v i j k l x y)).toArray) ∧ Below w.heap.size w w' := by
  obtain ⟨B, hBe⟩ : ∃ B, B = w.heap.size := ⟨_, rfl⟩
  obtain ⟨W0, hW0⟩ : ∃ W0, W0 = (w.alloc (.cells (wvs v).toArray 261)).alloc (.cells #[.int .u32 0, .int .u32 0, .int .u32 0, .int .u32 0, .int .u32 0, .int .u32 0, .int .u32 0, .int .u32 0, .int .u32 0, .int .u32 0, .int .u32 0, .int .u32 0, .int .u32 0, .int .u32 0, .int .u32 0, .int .u32 0] 261) := ⟨_, rfl⟩
  have hw : Blk W0 B (wvs v) 261 := by rw [hW0, hBe]; exact (Blk.new w _ _).alloc _
  have hz := hidp (show Blk W0 (B + 1) (wvs (List.replicate 16 0)) 261 by rw [hW0, hBe]; exact Blk.new' _ (wvs (List.replicate 16 0)) _ _ (by simp))
  have hBel := hidp (show Below w.heap.size w W0 by rw [hW0]; exact ((Below.refl _ w).alloc (Nat.le_refl _) _).alloc (by simp) _)
  have HB0 := hidp hBe
  have HW0 := hidp hW0
  have ii : (i : Int) < 16 := by omega
  have jj : (j : Int) < 16 := by omega
  have kk : (k : Int) < 16 := by omega
  have ll : (l : Int) < 16 := by omega
  clear hBe hW0
  have h4 := Row.four hw (hv.1.symm ▸ hi) (hv.1.symm ▸ hj) (hv.1.symm ▸ hk) (hv.1.symm ▸ hl)
  have hR := hidp (Row.refl hw)
  have hb1 : v.getD j 0 < W32 := hv.get j
  have hd1 : v.getD l 0 < W32 := hv.get l
  have hlen := hidp hv.1
  have HW := hidp (mixL_words hv i j k l x y)
  have HM : mixL v i j k l x y = (((v.set i (gA2 (v.getD i 0) (v.getD j 0) (v.getD k 0) (v.getD l 0) x y)).set j (gB2 (v.getD i 0) (v.getD j 0) (v.getD k 0) (v.getD l 0) x y)).set k (gC2 (v.getD i 0) (v.getD j 0) (v.getD k 0) (v.getD l 0) x y)).set l (gD2 (v.getD i 0) (v.getD j 0) (v.getD k 0) (v.getD l 0) x y) := rfl
  clear hv hw
  revert h4 hb1 hd1 HM
  generalize v.getD i 0 = a1
  generalize v.getD j 0 = b1
  generalize v.getD k 0 = c1
  generalize v.getD l 0 = d1
  intro h4 hb1 hd1 HM
  obtain ⟨A1, hA1⟩ : ∃ r, r = gA1 a1 b1 x := ⟨_, rfl⟩
  obtain ⟨D1, hD1⟩ : ∃ r, r = gD1 a1 b1 d1 x := ⟨_, rfl⟩
  obtain ⟨C1, hC1⟩ : ∃ r, r = gC1 a1 b1 c1 d1 x := ⟨_, rfl⟩
  obtain ⟨B1, hB1⟩ : ∃ r, r = gB1 a1 b1 c1 d1 x := ⟨_, rfl⟩
  obtain ⟨A2, hA2⟩ : ∃ r, r = gA2 a1 b1 c1 d1 x y := ⟨_, rfl⟩
  obtain ⟨D2, hD2⟩ : ∃ r, r = gD2 a1 b1 c1 d1 x y := ⟨_, rfl⟩
  obtain ⟨C2, hC2⟩ : ∃ r, r = gC2 a1 b1 c1 d1 x y := ⟨_, rfl⟩
  obtain ⟨B2, hB2⟩ : ∃ r, r = gB2 a1 b1 c1 d1 x y := ⟨_, rfl⟩
  have lA1 : A1 < W32 := hA1 ▸ gA1_lt _ _ _
  have lD1 : D1 < W32 := hD1 ▸ gD1_lt _ _ _ hd1
  have lC1 : C1 < W32 := hC1 ▸ gC1_lt _ _ _ _ _
  have lB1 : B1 < W32 := hB1 ▸ gB1_lt _ _ _ _ hb1
  have lA2 : A2 < W32 := hA2 ▸ gA2_lt _ _ _ _ _ _
  have lC2 : C2 < W32 := hC2 ▸ gC2_lt _ _ _ _ _ _
  have e1 : IntKind.u32.wrap (IntKind.u32.wrap ((a1 : Int) + (b1 : Int)) + (x : Int)) = (A1 : Int) := by rw [wrap_add3, hA1]; rfl
  have e2 := xor_word hd1 lA1
  have H2 := hidp (refTurn_still (xorW d1 A1) 16 D1 · (xorW_lt hd1 lA1) (by simp) (by rw [hD1, hA1]; rfl))
  have e3 : IntKind.u32.wrap ((c1 : Int) + (D1 : Int)) = (C1 : Int) := by rw [wrap_add, hC1, hD1]; rfl
  have e4 := xor_word hb1 lC1
  have H4 := hidp (refTurn_still (xorW b1 C1) 12 B1 · (xorW_lt hb1 lC1) (by simp) (by rw [hB1, hC1]; rfl))
  have e5 : IntKind.u32.wrap (IntKind.u32.wrap ((A1 : Int) + (B1 : Int)) + (y : Int)) = (A2 : Int) := by rw [wrap_add3, hA2, hA1, hB1]; rfl
  have e6 := xor_word lD1 lA2
  have H6 := hidp (refTurn_still (xorW D1 A2) 8 D2 · (xorW_lt lD1 lA2) (by simp) (by rw [hD2, hD1, hA2]; rfl))
  have e7 : IntKind.u32.wrap ((C1 : Int) + (D2 : Int)) = (C2 : Int) := by rw [wrap_add, hC2, hC1, hD2]; rfl
  have e8 := xor_word lB1 lC2
  have H8 := hidp (refTurn_still (xorW B1 C2) 7 B2 · (xorW_lt lB1 lC2) (by simp) (by rw [hB2, hB1, hC2]; rfl))
  rw [← hA2, ← hD2, ← hC2, ← hB2, ← sets_eq v A1 D1 C1 B1 A2 D2 C2 B2 hij hik hil hjk hjl hkl] at HM
  have HM := hidp HM
  clear hA1 hD1 hC1 hB1 hA2 hD2 hC2 hB2 lA1 lD1 lC1 lB1 lA2 lC2 hb1 hd1
  have H0 := hidp h4
  obtain ⟨ca, cb, cc, cd, fa, fb, fc, fd⟩ := h4
  go_enter Tryz.func215, Tryz.ntmps215
  go_wp2_with fail
  rw [← HW0.out, ← HB0.out]
  refine region_tail 11 (by kernel_rfl) (by kernel_rfl) ?_
  intro wd0 hwd0
  have h4d := hidp (hwd0.out.symm ▸ H0.out.drew)
  have hRd := hidp (hwd0.out.symm ▸ hR.out.drew)
  clear ca cb cc cd fa fb fc fd
  obtain ⟨ca, cb, cc, cd, fa, fb, fc, fd⟩ := h4d.out
  simp only [List.take_succ_cons, List.take_zero, List.drop_succ_cons, List.drop_zero]
  repeat still_step
  try refine wpStill_nil ?_
  go_wp2_with fail
  have h40 := hidp (h4d.out.seta hij hik hil A1)
  have hR0 := hidp (hRd.out.set i A1)
  generalize (wd0.setCell _ _) = w0 at h40 hR0 ⊢
  clear h4d hRd
  clear ca cb cc cd fa fb fc fd
  obtain ⟨ca, cb, cc, cd, fa, fb, fc, fd⟩ := h40.out
  refine region_tail 10 (by kernel_rfl) (by kernel_rfl) ?_
  intro wd1 hwd1
  have h4d := hidp (hwd1.out.symm ▸ h40.out.drew)
  have hRd := hidp (hwd1.out.symm ▸ hR0.out.drew)
  clear ca cb cc cd fa fb fc fd
  obtain ⟨ca, cb, cc, cd, fa, fb, fc, fd⟩ := h4d.out
  simp only [List.take_succ_cons, List.take_zero, List.drop_succ_cons, List.drop_zero]
  repeat still_step
  still_call (H2.out _)
  repeat still_step
  try refine wpStill_nil ?_
  go_wp2_with fail
  have h41 := hidp (h4d.out.setd hil.symm hjl.symm hkl.symm D1)
  have hR1 := hidp (hRd.out.set l D1)
  generalize (wd1.setCell _ _) = w1 at h41 hR1 ⊢
  clear h4d hRd
  clear ca cb cc cd fa fb fc fd
  obtain ⟨ca, cb, cc, cd, fa, fb, fc, fd⟩ := h41.out
  refine region_tail 9 (by kernel_rfl) (by kernel_rfl) ?_
  intro wd2 hwd2
  have h4d := hidp (hwd2.out.symm ▸ h41.out.drew)
  have hRd := hidp (hwd2.out.symm ▸ hR1.out.drew)
  clear ca cb cc cd fa fb fc fd
  obtain ⟨ca, cb, cc, cd, fa, fb, fc, fd⟩ := h4d.out
  simp only [List.take_succ_cons, List.take_zero, List.drop_succ_cons, List.drop_zero]
  repeat still_step
  try refine wpStill_nil ?_
  go_wp2_with fail
  have h42 := hidp (h4d.out.setc hik.symm hjk.symm hkl C1)
  have hR2 := hidp (hRd.out.set k C1)
  generalize (wd2.setCell _ _) = w2 at h42 hR2 ⊢
  clear h4d hRd
  clear ca cb cc cd fa fb fc fd
  obtain ⟨ca, cb, cc, cd, fa, fb, fc, fd⟩ := h42.out
  refine region_tail 10 (by kernel_rfl) (by kernel_rfl) ?_
  intro wd3 hwd3
  have h4d := hidp (hwd3.out.symm ▸ h42.out.drew)
  have hRd := hidp (hwd3.out.symm ▸ hR2.out.drew)
  clear ca cb cc cd fa fb fc fd
  obtain ⟨ca, cb, cc, cd, fa, fb, fc, fd⟩ := h4d.out
  simp only [List.take_succ_cons, List.take_zero, List.drop_succ_cons, List.drop_zero]
  repeat still_step
  still_call (H4.out _)
  repeat still_step
  try refine wpStill_nil ?_
  go_wp2_with fail
  have h43 := hidp (h4d.out.setb hij.symm hjk hjl B1)
  have hR3 := hidp (hRd.out.set j B1)
  generalize (wd3.setCell _ _) = w3 at h43 hR3 ⊢
  clear h4d hRd
  clear ca cb cc cd fa fb fc fd
  obtain ⟨ca, cb, cc, cd, fa, fb, fc, fd⟩ := h43.out
  refine region_tail 11 (by kernel_rfl) (by kernel_rfl) ?_
  intro wd4 hwd4
  have h4d := hidp (hwd4.out.symm ▸ h43.out.drew)
  have hRd := hidp (hwd4.out.symm ▸ hR3.out.drew)
  clear ca cb cc cd fa fb fc fd
  obtain ⟨ca, cb, cc, cd, fa, fb, fc, fd⟩ := h4d.out
  simp only [List.take_succ_cons, List.take_zero, List.drop_succ_cons, List.drop_zero]
  repeat still_step
  try refine wpStill_nil ?_
  go_wp2_with fail
  have h44 := hidp (h4d.out.seta hij hik hil A2)
  have hR4 := hidp (hRd.out.set i A2)
  generalize (wd4.setCell _ _) = w4 at h44 hR4 ⊢
  clear h4d hRd
  clear ca cb cc cd fa fb fc fd
  obtain ⟨ca, cb, cc, cd, fa, fb, fc, fd⟩ := h44.out
  refine region_tail 10 (by kernel_rfl) (by kernel_rfl) ?_
  intro wd5 hwd5
  have h4d := hidp (hwd5.out.symm ▸ h44.out.drew)
  have hRd := hidp (hwd5.out.symm ▸ hR4.out.drew)
  clear ca cb cc cd fa fb fc fd
  obtain ⟨ca, cb, cc, cd, fa, fb, fc, fd⟩ := h4d.out
  simp only [List.take_succ_cons, List.take_zero, List.drop_succ_cons, List.drop_zero]
  repeat still_step
  still_call (H6.out _)
  repeat still_step
  try refine wpStill_nil ?_
  go_wp2_with fail
  have h45 := hidp (h4d.out.setd hil.symm hjl.symm hkl.symm D2)
  have hR5 := hidp (hRd.out.set l D2)
  generalize (wd5.setCell _ _) = w5 at h45 hR5 ⊢
  clear h4d hRd
  clear ca cb cc cd fa fb fc fd
  obtain ⟨ca, cb, cc, cd, fa, fb, fc, fd⟩ := h45.out
  refine region_tail 9 (by kernel_rfl) (by kernel_rfl) ?_
  intro wd6 hwd6
  have h4d := hidp (hwd6.out.symm ▸ h45.out.drew)
  have hRd := hidp (hwd6.out.symm ▸ hR5.out.drew)
  clear ca cb cc cd fa fb fc fd
  obtain ⟨ca, cb, cc, cd, fa, fb, fc, fd⟩ := h4d.out
  simp only [List.take_succ_cons, List.take_zero, List.drop_succ_cons, List.drop_zero]
  repeat still_step
  try refine wpStill_nil ?_
  go_wp2_with fail
  have h46 := hidp (h4d.out.setc hik.symm hjk.symm hkl C2)
  have hR6 := hidp (hRd.out.set k C2)
  generalize (wd6.setCell _ _) = w6 at h46 hR6 ⊢
  clear h4d hRd
  clear ca cb cc cd fa fb fc fd
  obtain ⟨ca, cb, cc, cd, fa, fb, fc, fd⟩ := h46.out
  refine region_tail 10 (by kernel_rfl) (by kernel_rfl) ?_
  intro wd7 hwd7
  have h4d := hidp (hwd7.out.symm ▸ h46.out.drew)
  have hRd := hidp (hwd7.out.symm ▸ hR6.out.drew)
  clear ca cb cc cd fa fb fc fd
  obtain ⟨ca, cb, cc, cd, fa, fb, fc, fd⟩ := h4d.out
  simp only [List.take_succ_cons, List.take_zero, List.drop_succ_cons, List.drop_zero]
  repeat still_step
  still_call (H8.out _)
  repeat still_step
  try refine wpStill_nil ?_
  have hR7 := hidp (hRd.out.set j B2)
  have hM := hidp (show Blk (wd7.setCell ⟨B, j, none⟩ (.int .u32 (B2 : Nat))) B (wvs (mixL v i j k l x y)) 261 by rw [HM.out]; exact hR7.out.new)
  have hZ := hidp (hR7.out.but.blk hz.out (show B + 1 ≠ B by omega))
  have hE := hidp (hBel.out.trans (hR7.out.but.below (show w.heap.size ≤ B by have := HB0.out; omega)))
  have hLe := hidp (show w.heap.size ≤ B + 1 by have := HB0.out; omega)
  clear hR7 hRd h4d HM hR hBel hz HW0 HB0
  go_wp2_with (first | refine wpList_load_blk rfl 261 _ rfl _ _ _ rfl hM.out _ Tryz.underlying261 rfl (by rw [wvs_len, HW.out.1]; kernel_rfl) ?_ | (refine wpList_store_blk rfl 261 _ _ rfl (B + 1) (wvs (mixL v i j k l x y)) (wvs (List.replicate 16 0)) 261 rfl rfl hZ.out (by rw [wvs_len, HW.out.1]; kernel_rfl) (by rw [wvs_len, wvs_len, HW.out.1]; rfl) (wvs_one _) ?_; intro w9 hw9))
  have b2 : Blk w9 (B + 1) (wvs (mixL v i j k l x y)) 261 := by rw [hw9.out]; exact hZ.out.row
  refine bodyPost_ret (v := .agg (wvs (mixL v i j k l x y)).toArray) ?_ rfl ⟨rfl, ?_⟩
  · exact results_cell_row Tryz.results215 _ _ (B + 1) 261 _ (0, 0) _ rfl b2 Tryz.underlying261 rfl (by rw [List.size_toArray, wvs_len, HW.out.1]; kernel_rfl)
  · rw [hw9.out]; exact below_setRow hE.out hLe.out _
end Go.Proofs.YtcmkmnidnapabaaGreat

/-! Ig: Contracts of the answer's hash: begin, row. -/
namespace Go.Proofs.YtcmkmnidnapabaaGreat
open Go.RowKit Go.Lib

theorem refBegin_any (w : World) :
    Calls Tryz.prog 158 #[] w fun e w' => e = .returned (.agg (wvs initL).toArray) ∧ Below w.heap.size w w' := by
  have hz := hidp (Blk.new w (wvs (List.replicate 8 0)) 203)
  go_enter Tryz.func158, Tryz.ntmps158
  go_wp2_with (first | refine wpList_buildTo rfl 203 _ rfl _ rfl (wvs initL).toArray (by kernel_rfl) ?_ | (refine wpList_store_blk rfl 203 _ _ rfl w.heap.size (wvs initL) (wvs (List.replicate 8 0)) 203 rfl rfl hz.out (by kernel_rfl) rfl (wvs_one _) ?_; intro w6 hw6))
  have b2 : Blk w6 w.heap.size (wvs initL) 203 := by rw [hw6.out]; exact hz.out.row
  refine bodyPost_ret (v := .agg (wvs initL).toArray) ?_ rfl ⟨rfl, ?_⟩
  · exact results_cell_row Tryz.results158 _ _ w.heap.size 203 _ (0, 0) _ rfl b2 Tryz.underlying203 rfl (by kernel_rfl)
  · rw [hw6.out]; exact below_setRow ((Below.refl _ w).alloc (Nat.le_refl _) _) (Nat.le_refl _) _

/-! The table. -/
def ints (v : List Nat) : List Value := v.map fun x => Value.int .i64 (x : Nat)
theorem ints_len (v : List Nat) : (ints v).length = v.length := by unfold ints; simp
theorem ints_one (v : List Nat) : (ints v).toArray.all (·.oneCell') = true := by
  rw [Array.all_eq_true_iff_forall_mem]
  intro x hx
  simp only [ints, List.mem_toArray, List.mem_map] at hx
  obtain ⟨y, _, rfl⟩ := hx
  rfl
theorem rowL_len {r : Nat} (h : r < 10) : (rowL r).length = 16 := by
  unfold rowL; rw [List.length_take, List.length_drop, show tabL.length = 160 by rfl]; omega
theorem row_range {w : World} {b r : Nat} {T : TypeId} (h : Blk w b (ints tabL) T) : w.rangeAt b (r * 16) (ints (rowL r)) := by
  intro j v hj
  rw [Nat.mul_comm r 16]
  rw [h.cell (16 * r + j), ← hj]
  unfold ints rowL
  rw [List.getElem?_map, List.getElem?_map]
  have hlt : j < 16 := by
    have h1 := (List.getElem?_eq_some_iff.1 hj).1
    rw [ints_len] at h1
    unfold rowL at h1
    rw [List.length_take] at h1
    omega
  rw [List.getElem?_take_of_lt hlt, List.getElem?_drop]

def zTab : List Value := ints (List.replicate 160 0)
theorem zero_tab : (Tryz.prog.info? 308).map (fun i => (i.zero, i.size)) = some (some (.agg zTab.toArray), 160) := by kernel_rfl
set_option maxRecDepth 20000 in
set_option maxHeartbeats 4000000 in
theorem refRow_any (r : Nat) (w : World) (hr : r < 10) :
    Calls Tryz.prog 214 #[.int .i64 r] w fun e w' => e = .returned (.agg (ints (rowL r)).toArray) ∧ Below w.heap.size w w' := by
  have hz := hidp (Blk.new w (ints (List.replicate 16 0)) 262)
  have ht := hidp (Blk.new' (w.alloc (.cells (ints (List.replicate 16 0)).toArray 262)) zTab 308 (w.heap.size + 1) (by simp))
  have hlen := hidp (rowL_len hr)
  have hzt : ∀ w, (zeroValue 308).run Tryz.prog w = .ok (.agg zTab.toArray) w := (zero_of_info (P := Tryz.prog) zero_tab).1
  have rr : (r : Int) < 10 := by omega
  have R := hidp hr
  clear hr
  go_enter Tryz.func214, Tryz.ntmps214
  go_wp2_with (first | refine wpList_buildTo rfl 262 _ rfl (some 4) rfl (ints (rowL 0)).toArray (by kernel_rfl) ?_ | refine wpList_buildTo rfl 262 _ rfl (some 5) rfl (ints (rowL 1)).toArray (by kernel_rfl) ?_ | refine wpList_buildTo rfl 262 _ rfl (some 6) rfl (ints (rowL 2)).toArray (by kernel_rfl) ?_ | refine wpList_buildTo rfl 262 _ rfl (some 7) rfl (ints (rowL 3)).toArray (by kernel_rfl) ?_ | refine wpList_buildTo rfl 262 _ rfl (some 8) rfl (ints (rowL 4)).toArray (by kernel_rfl) ?_ | refine wpList_buildTo rfl 262 _ rfl (some 9) rfl (ints (rowL 5)).toArray (by kernel_rfl) ?_ | refine wpList_buildTo rfl 262 _ rfl (some 10) rfl (ints (rowL 6)).toArray (by kernel_rfl) ?_ | refine wpList_buildTo rfl 262 _ rfl (some 11) rfl (ints (rowL 7)).toArray (by kernel_rfl) ?_ | refine wpList_buildTo rfl 262 _ rfl (some 12) rfl (ints (rowL 8)).toArray (by kernel_rfl) ?_ | refine wpList_buildTo rfl 262 _ rfl (some 13) rfl (ints (rowL 9)).toArray (by kernel_rfl) ?_ | refine wpList_buildTo rfl 308 _ rfl _ rfl (ints tabL).toArray (by kernel_rfl) ?_ | (refine wpList_store_blk rfl 308 _ _ rfl (w.heap.size + 1) (ints tabL) zTab 308 rfl rfl ht.out (by kernel_rfl) rfl (ints_one _) ?_; intro w6 hw6; have h6 := hidp (show Blk w6 (w.heap.size + 1) (ints tabL) 308 by rw [hw6.out]; exact ht.out.row); have hZ := hidp (show Blk w6 w.heap.size (ints (List.replicate 16 0)) 262 by rw [hw6.out]; exact ((But.refl (w.heap.size + 1) _).setRow _).blk (hz.out.alloc _) (by omega)); have hE := hidp (show Below w.heap.size w w6 by rw [hw6.out]; exact below_setRow (((Below.refl _ w).alloc (Nat.le_refl _) _).alloc (by simp) _) (Nat.le_succ _) _)) | refine wpList_load_mid rfl 262 _ rfl (w.heap.size + 1) (r * 16) rfl (ints (rowL r)) _ (row_range h6.out) Tryz.underlying262 rfl (by rw [ints_len, hlen.out]; kernel_rfl) ?_ | (refine wpList_store_blk rfl 262 _ _ rfl w.heap.size (ints (rowL r)) (ints (List.replicate 16 0)) 262 rfl rfl hZ.out (by rw [ints_len, hlen.out]; kernel_rfl) (by rw [ints_len, ints_len, hlen.out]; rfl) (ints_one _) ?_; intro w9 hw9))
  have b2 : Blk w9 w.heap.size (ints (rowL r)) 262 := by rw [hw9.out]; exact hZ.out.row
  refine bodyPost_ret (v := .agg (ints (rowL r)).toArray) ?_ rfl ⟨rfl, ?_⟩
  · exact results_cell_row Tryz.results214 _ _ w.heap.size 262 _ (0, 0) _ rfl b2 Tryz.underlying262 rfl (by rw [List.size_toArray, ints_len, hlen.out]; kernel_rfl)
  · rw [hw9.out]; exact below_setRow hE.out (Nat.le_refl _) _
end Go.Proofs.YtcmkmnidnapabaaGreat

/-! Ij: Plain, and what the answer's block knows between its statements. -/
namespace Go.Proofs.YtcmkmnidnapabaaGreat
open Go.RowKit Go.Lib

theorem run_index_cellsK {T e : TypeId} {n : Nat} {d : TypeDesc} (hT : Tryz.prog.underlying T = some (.array n e)) (he : Tryz.prog.underlying e = some d) (hd : (match d with | .struct _ | .array _ _ => false | _ => true) = true) (hs : (Tryz.prog.info? e).map (·.size) = some 1)
    (cs : List Value) (i : Nat) (hi : i < n) (v : Value) (hv : cs[i]? = some v) (w : World) : (Instr.index T (.agg cs.toArray) (.int .i64 (i : Nat))).run Tryz.prog w = .ok v w := by
  cases hq : Tryz.prog.info? e with
  | none => simp [hq] at hs
  | some j =>
    have hj : j.size = 1 := by simpa [hq] using hs
    have hagg : (isAgg e).run Tryz.prog w = .ok false w := by
      unfold isAgg
      rw [Sem.run_bind, run_underlying he w]
      cases d <;> simp_all
    simp [Instr.index, asIntOf, run_underlying hT, sizeOf, typeInfo, hq, hj, part, hagg, hv]
    intro hle; omega


/-! The words that rounds begin with, filled pair by pair. -/
def partHv (h : List Nat) (i : Nat) : List Nat := (List.range 16).map fun j => if j < i then h.getD j 0 else if 8 ≤ j ∧ j < 8 + i then initL.getD (j - 8) 0 else 0
theorem partV_len (h : List Nat) (i : Nat) : (partHv h i).length = 16 := by unfold partHv; simp
theorem partV_zero (h : List Nat) : partHv h 0 = List.replicate 16 0 := by unfold partHv; rfl
theorem partV_all {h : List Nat} (h8 : h.length = 8) : partHv h 8 = h ++ initL := by
  apply List.ext_getElem?
  intro j
  unfold partHv
  rw [List.getElem?_map]
  by_cases hj : j < 8
  · rw [List.getElem?_range (by omega), List.getElem?_append_left (by omega), List.getElem?_eq_getElem (by omega)]
    simp only [Option.map_some, hj, if_true]
    rw [List.getD_eq_getElem?_getD, List.getElem?_eq_getElem (by omega)]; rfl
  · by_cases hk : j < 16
    · rw [List.getElem?_range hk, List.getElem?_append_right (by omega), h8, List.getElem?_eq_getElem (by show j - 8 < 8; omega)]
      simp only [Option.map_some, hj, if_false]
      rw [if_pos (by omega), List.getD_eq_getElem?_getD, List.getElem?_eq_getElem (by show j - 8 < 8; omega)]; rfl
    · rw [List.getElem?_eq_none (by simp; omega), List.getElem?_eq_none (by rw [List.length_append, h8]; show 8 + 8 ≤ j; omega)]; rfl
theorem partV_set (h : List Nat) {i : Nat} (hi : i < 8) : ((partHv h i).set i (h.getD i 0)).set (i + 8) (initL.getD i 0) = partHv h (i + 1) := by
  apply List.ext_getElem?
  intro n
  rw [List.getElem?_set, List.getElem?_set, List.length_set, partV_len]
  unfold partHv
  by_cases h1 : i + 8 = n
  · subst h1
    rw [if_pos rfl, if_pos (by omega), List.getElem?_map, List.getElem?_range (by omega), Option.map_some, if_neg (by omega), if_pos (by omega), show i + 8 - 8 = i by omega]
  · rw [if_neg h1]
    by_cases h2 : i = n
    · subst h2
      rw [if_pos rfl, if_pos (by omega), List.getElem?_map, List.getElem?_range (by omega), Option.map_some, if_pos (by omega)]
    · rw [if_neg h2, List.getElem?_map, List.getElem?_map]
      by_cases hn : n < 16
      · rw [List.getElem?_range hn, Option.map_some, Option.map_some]
        by_cases h3 : n < i
        · rw [if_pos h3, if_pos (by omega)]
        · rw [if_neg h3, if_neg (show ¬ n < i + 1 by omega)]
          by_cases h4 : 8 ≤ n ∧ n < 8 + i
          · rw [if_pos h4, if_pos (by omega)]
          · rw [if_neg h4, if_neg (by omega)]
      · rw [List.getElem?_eq_none (by simp; omega)]; rfl

/-! A round, mixing by mixing. -/
def halfL (v p : List Nat) : Nat → List Nat
  | 0 => v
  | 1 => mixL v 0 4 8 12 (p.getD 0 0) (p.getD 1 0)
  | 2 => mixL (mixL v 0 4 8 12 (p.getD 0 0) (p.getD 1 0)) 1 5 9 13 (p.getD 2 0) (p.getD 3 0)
  | 3 => mixL (mixL (mixL v 0 4 8 12 (p.getD 0 0) (p.getD 1 0)) 1 5 9 13 (p.getD 2 0) (p.getD 3 0)) 2 6 10 14 (p.getD 4 0) (p.getD 5 0)
  | _ => mixL (mixL (mixL (mixL v 0 4 8 12 (p.getD 0 0) (p.getD 1 0)) 1 5 9 13 (p.getD 2 0) (p.getD 3 0)) 2 6 10 14 (p.getD 4 0) (p.getD 5 0)) 3 7 11 15 (p.getD 6 0) (p.getD 7 0)
def restL (v p : List Nat) : Nat → List Nat
  | 0 => v
  | 1 => mixL v 0 5 10 15 (p.getD 8 0) (p.getD 9 0)
  | 2 => mixL (mixL v 0 5 10 15 (p.getD 8 0) (p.getD 9 0)) 1 6 11 12 (p.getD 10 0) (p.getD 11 0)
  | 3 => mixL (mixL (mixL v 0 5 10 15 (p.getD 8 0) (p.getD 9 0)) 1 6 11 12 (p.getD 10 0) (p.getD 11 0)) 2 7 8 13 (p.getD 12 0) (p.getD 13 0)
  | _ => mixL (mixL (mixL (mixL v 0 5 10 15 (p.getD 8 0) (p.getD 9 0)) 1 6 11 12 (p.getD 10 0) (p.getD 11 0)) 2 7 8 13 (p.getD 12 0) (p.getD 13 0)) 3 4 9 14 (p.getD 14 0) (p.getD 15 0)
theorem round_halves (v p : List Nat) : roundL v p = restL (halfL v p 4) p 4 := rfl
theorem halfL_words {v : List Nat} (h : Words 16 v) (p : List Nat) : ∀ k, Words 16 (halfL v p k)
  | 0 => h
  | 1 => mixL_words h _ _ _ _ _ _
  | 2 => mixL_words (mixL_words h _ _ _ _ _ _) _ _ _ _ _ _
  | 3 => mixL_words (mixL_words (mixL_words h _ _ _ _ _ _) _ _ _ _ _ _) _ _ _ _ _ _
  | _ + 4 => mixL_words (mixL_words (mixL_words (mixL_words h _ _ _ _ _ _) _ _ _ _ _ _) _ _ _ _ _ _) _ _ _ _ _ _
theorem restL_words {v : List Nat} (h : Words 16 v) (p : List Nat) : ∀ k, Words 16 (restL v p k)
  | 0 => h
  | 1 => mixL_words h _ _ _ _ _ _
  | 2 => mixL_words (mixL_words h _ _ _ _ _ _) _ _ _ _ _ _
  | 3 => mixL_words (mixL_words (mixL_words h _ _ _ _ _ _) _ _ _ _ _ _) _ _ _ _ _ _
  | _ + 4 => mixL_words (mixL_words (mixL_words (mixL_words h _ _ _ _ _ _) _ _ _ _ _ _) _ _ _ _ _ _) _ _ _ _ _ _
theorem rowL_lt {r : Nat} (hr : r < 10) (j : Nat) : (rowL r).getD j 0 < 16 := by
  have h : ∀ r, r < 10 → ∀ x ∈ rowL r, x < 16 := by decide
  rw [List.getD_eq_getElem?_getD]
  cases hj : (rowL r)[j]? with
  | none => show 0 < 16; decide
  | some x => exact h r hr x (List.mem_of_getElem? hj)
theorem pickL_get {m : List Nat} {r : Nat} (hr : r < 10) {j : Nat} (hj : j < 16) : (pickL m r).getD j 0 = m.getD ((rowL r).getD j 0) 0 := by
  unfold pickL
  rw [List.getD_eq_getElem?_getD, List.getElem?_map, List.getD_eq_getElem?_getD (l := rowL r), List.getElem?_eq_getElem (by rw [rowL_len hr]; exact hj)]
  rfl
theorem ints_get {v : List Nat} {i : Nat} (h : i < v.length) : (ints v)[i]? = some (.int .i64 (v.getD i 0 : Nat)) := by
  unfold ints
  rw [List.getElem?_map, List.getD_eq_getElem?_getD, List.getElem?_eq_getElem h]; rfl

/-- What the answer's block knows between its statements: h, the result, the block's words, v. -/
structure BlS (w wr : World) (h m v : List Nat) : Prop where
  bh : Blk wr w.heap.size (wvs h) 203
  br : Blk wr (w.heap.size + 1) (wvs (List.replicate 8 0)) 203
  bm : Blk wr (w.heap.size + 1 + 1) (wvs m) 261
  bv : Blk wr (w.heap.size + 3) (wvs v) 261
  bel : Below w.heap.size w wr
theorem BlS.drew {w wr : World} {h m v : List Nat} (H : BlS w wr h m v) : BlS w wr.drew h m v := ⟨H.bh.drew, H.br.drew, H.bm.drew, H.bv.drew, H.bel.drew⟩
theorem BlS.below {w wr w' : World} {h m v : List Nat} (H : BlS w wr h m v) (hb : Below wr.heap.size wr w') : BlS w w' h m v :=
  ⟨H.bh.below hb H.bh.lt, H.br.below hb H.br.lt, H.bm.below hb H.bm.lt, H.bv.below hb H.bv.lt, btrans H.bel hb⟩
theorem BlS.alloc {w wr : World} {h m v : List Nat} (H : BlS w wr h m v) (o : Obj) : BlS w (wr.alloc o) h m v :=
  ⟨H.bh.alloc o, H.br.alloc o, H.bm.alloc o, H.bv.alloc o, H.bel.alloc H.bel.size o⟩
theorem BlS.butv {w wr w' : World} {h m v v' : List Nat} (H : BlS w wr h m v) (hb : But (w.heap.size + 3) wr w') (hv : Blk w' (w.heap.size + 3) (wvs v') 261) : BlS w w' h m v' :=
  ⟨hb.blk H.bh (by omega), hb.blk H.br (by omega), hb.blk H.bm (by omega), hv, H.bel.trans (hb.below (by omega))⟩
theorem BlS.setv {w wr : World} {h m v : List Nat} (H : BlS w wr h m v) (i x : Nat) : BlS w (wr.setCell ⟨w.heap.size + 3, i, none⟩ (.int .u32 (x : Nat))) h m (v.set i x) :=
  H.butv ((But.refl _ wr).setCell _ _) (wvs_set v i x ▸ H.bv.set i _)
theorem BlS.seth {w wr : World} {h m v : List Nat} (H : BlS w wr h m v) (i x : Nat) : BlS w (wr.setCell ⟨w.heap.size, i, none⟩ (.int .u32 (x : Nat))) (h.set i x) m v := by
  have hb := (But.refl w.heap.size wr).setCell i (.int .u32 (x : Nat))
  exact ⟨wvs_set h i x ▸ H.bh.set i _, hb.blk H.br (by omega), hb.blk H.bm (by omega), hb.blk H.bv (by omega), H.bel.trans (hb.below (Nat.le_refl _))⟩
theorem BlS.other {w wr w' : World} {h m v : List Nat} {c : Nat} (H : BlS w wr h m v) (hb : But c wr w') (hc : w.heap.size + 4 ≤ c) : BlS w w' h m v :=
  ⟨hb.blk H.bh (by omega), hb.blk H.br (by omega), hb.blk H.bm (by omega), hb.blk H.bv (by omega), H.bel.trans (hb.below (by omega))⟩

end Go.Proofs.YtcmkmnidnapabaaGreat

/-! Ik: Contract of the answer's hash: block. -/
namespace Go.Proofs.YtcmkmnidnapabaaGreat
open Go.RowKit Go.Lib

def markL (last : Bool) : Nat := if last then 0xffffffff else 0
theorem assocW (a b c : Nat) : xorW (xorW a b) c = xorW a (xorW b c) := Nat.xor_assoc a b c
theorem beginL_last {h : List Nat} (h8 : h.length = 8) (t : Nat) (ht : t < 4294967296) :
    (((h ++ initL).set 12 (xorW 0x510e527f t)).set 13 (xorW 0x9b05688c 0)).set 14 3766232660 = beginL h t (markL true) := by
  rw [← begin_sets h8, Nat.mod_eq_of_lt ht, Nat.div_eq_of_lt ht]; rfl
theorem beginL_more {h : List Nat} (h8 : h.length = 8) (t : Nat) (ht : t < 4294967296) :
    ((h ++ initL).set 12 (xorW 0x510e527f t)).set 13 (xorW 0x9b05688c 0) = beginL h t (markL false) := by
  rw [← begin_sets h8, Nat.mod_eq_of_lt ht, Nat.div_eq_of_lt ht]
  show _ = (((h ++ initL).set 12 (xorW 0x510e527f t)).set 13 (xorW 0x9b05688c 0)).set 14 528734635
  rw [List.set_append_right _ _ (by omega), List.set_append_right _ _ (by omega), List.set_append_right _ _ (by omega), h8]
  rfl

set_option maxRecDepth 100000 in
set_option maxHeartbeats 16000000 in
theorem refBlock_any (h bl : List Nat) (g o cap many : Nat) (last : Bool) (w : World) (hh : Words 8 h) (hb : Bytes 64 bl) (hm : many ≤ 100000) (hg : g < w.heap.size) (hc : BytesAt w g o bl) :
    Calls Tryz.prog 159 #[.agg (wvs h).toArray, .slice (some ⟨g, o, none⟩) 64 cap, .int .i64 (many : Nat), .bool last] w fun e w' => e = .returned (.agg (wvs (blockL h (wordsL bl) many (markL last))).toArray) ∧ Below w.heap.size w w' := by
  have HH := hidp hh
  have HB := hidp hb
  have HG := hidp hg
  have HC := hidp hc
  have HM := hidp hm
  have h8 := hidp hh.1
  have HBeg := hidp (fun w => refBegin_any w)
  have HRow := hidp (fun r w hr => refRow_any r w hr)
  clear hh hb hg hc hm
  go_enter Tryz.func159, Tryz.ntmps159
  go_wp2
  go_loopw [10] (fun x wr => ∃ i : Nat, i ≤ 16 ∧ x = .int .i64 i ∧ Hid (Blk wr w.heap.size (wvs h) 203 ∧ Blk wr (w.heap.size + 1) (wvs (List.replicate 8 0)) 203 ∧ Blk wr (w.heap.size + 1 + 1) (wvs (partW bl i)) 261 ∧ Below w.heap.size w wr ∧ wr.heap.size = w.heap.size + 3)) (fun x _ => 16 - (RowKit.intOf x).toNat)
  case atStart =>
    refine ⟨0, by omega, rfl, ?_, ?_, ?_, by (repeat' (first | (with_reducible exact Below.refl _ _) | (with_reducible refine Below.alloc ?_ ?_ _) | (with_reducible refine Below.drew ?_) | (with_reducible refine Below.drewN ?_ _) | (with_reducible refine Below.setCell ?_ ?_ _) | go_size)), by simp⟩
    · exact ((Blk.new w (wvs h) _).alloc _).alloc _
    · exact (Blk.new' (w.alloc (.cells (wvs h).toArray 203)) (wvs (List.replicate 8 0)) _ _ (by simp)).alloc _
    · rw [partW_zero]; exact Blk.new' ((w.alloc (.cells (wvs h).toArray 203)).alloc (.cells (wvs (List.replicate 8 0)).toArray 203)) (wvs (List.replicate 16 0)) _ _ (by simp)
  case round =>
    obtain ⟨i, hi, rfl, hr⟩ := hrel
    by_cases h16 : i < 16
    · have hI := hidp h16
      have hx : ∀ wd, Below w.heap.size w wd → ∀ k, k < 64 → wd.cell? ⟨g, o + k, none⟩ = some (.int .u8 (bl.getD k 0 : Nat)) := fun wd hB k hk => (hB.cell (p := ⟨g, o + k, none⟩) HG.out).trans (HC.out k (HB.out.1.symm ▸ hk))
      replace hx := hidp hx
      have hor := or_bytes (HB.out.get (4 * i)) (HB.out.get (4 * i + 1)) (HB.out.get (4 * i + 2)) (HB.out.get (4 * i + 3))
      have hset := hidp (partW_set bl h16)
      have hwl : wordL bl i = bl.getD (4 * i) 0 + 256 * bl.getD (4 * i + 1) 0 + 65536 * bl.getD (4 * i + 2) 0 + 16777216 * bl.getD (4 * i + 3) 0 := rfl
      have l0 := HB.out.get (4 * i)
      have l1 := HB.out.get (4 * i + 1)
      have l2 := HB.out.get (4 * i + 2)
      have l3 := HB.out.get (4 * i + 3)
      rw [← hwl] at hor
      clear hwl
      rw [show ((bl.getD (4 * i + 1) 0 : Nat) : Int) * 256 % 4294967296 = ((bl.getD (4 * i + 1) 0 : Nat) : Int) * 256 by omega, show ((bl.getD (4 * i + 2) 0 : Nat) : Int) * 65536 % 4294967296 = ((bl.getD (4 * i + 2) 0 : Nat) : Int) * 65536 by omega, show ((bl.getD (4 * i + 3) 0 : Nat) : Int) * 16777216 % 4294967296 = ((bl.getD (4 * i + 3) 0 : Nat) : Int) * 16777216 by omega] at hor
      have hX := hidp (fun wd hB => And.intro (hx.out wd hB (4 * i) (by omega)) (And.intro (hx.out wd hB (4 * i + 1) (by omega)) (And.intro (hx.out wd hB (4 * i + 2) (by omega)) (hx.out wd hB (4 * i + 3) (by omega)))))
      clear hx
      generalize bl.getD (4 * i) 0 = x0 at hor hX l0
      generalize bl.getD (4 * i + 1) 0 = x1 at hor hX l1
      generalize bl.getD (4 * i + 2) 0 = x2 at hor hX l2
      generalize bl.getD (4 * i + 3) 0 = x3 at hor hX l3
      have k0 : (0 : Int) ≤ 4 * (i : Int) := by omega
      have k1 : 4 * (i : Int) < 64 := by omega
      have k2 : 4 * (i : Int) + 1 < 64 := by omega
      have k3 : 4 * (i : Int) + 2 < 64 := by omega
      have k4 : 4 * (i : Int) + 3 < 64 := by omega
      have m0 : IntKind.i64.wrap (4 * (i : Int)) = 4 * (i : Int) := by rw [IntKind.wrap_i64]; omega
      have m1 : IntKind.i64.wrap (4 * (i : Int) + 1) = 4 * (i : Int) + 1 := by rw [IntKind.wrap_i64]; omega
      have m2 : IntKind.i64.wrap (4 * (i : Int) + 2) = 4 * (i : Int) + 2 := by rw [IntKind.wrap_i64]; omega
      have m3 : IntKind.i64.wrap (4 * (i : Int) + 3) = 4 * (i : Int) + 3 := by rw [IntKind.wrap_i64]; omega
      have n0 : (4 * (i : Int)).toNat = 4 * i := by omega
      have n1 : (4 * (i : Int) + 1).toNat = 4 * i + 1 := by omega
      have n2 : (4 * (i : Int) + 2).toNat = 4 * i + 2 := by omega
      have n3 : (4 * (i : Int) + 3).toNat = 4 * i + 3 := by omega
      have p1 : (0 : Int) ≤ 4 * (i : Int) + 1 := by omega
      have p2 : (0 : Int) ≤ 4 * (i : Int) + 2 := by omega
      have p3 : (0 : Int) ≤ 4 * (i : Int) + 3 := by omega
      have hlt : (i : Int) < 16 := by omega
      clear h16
      go_wp2
      refine region_tail 34 (by kernel_rfl) (by kernel_rfl) ?_
      intro wd hwd
      have hd := hidp (show Blk wd w.heap.size (wvs h) 203 ∧ Blk wd (w.heap.size + 1) (wvs (List.replicate 8 0)) 203 ∧ Blk wd (w.heap.size + 1 + 1) (wvs (partW bl i)) 261 ∧ Below w.heap.size w wd ∧ wd.heap.size = w.heap.size + 3 by rw [hwd.out]; exact ⟨hr.out.1.drew, hr.out.2.1.drew, hr.out.2.2.1.drew, hr.out.2.2.2.1.drew, hr.out.2.2.2.2⟩)
      clear hr hwd
      obtain ⟨y0, y1, y2, y3⟩ := hX.out wd hd.out.2.2.2.1
      have hfree := hd.out.2.2.1.free i
      obtain ⟨vo, ho⟩ : ∃ v, wd.cell? ⟨w.heap.size + 1 + 1, i, none⟩ = some v := ⟨_, (hd.out.2.2.1.cell i).trans (wvs_get (by rw [partW_len]; exact hI.out))⟩
      simp only [List.take_succ_cons, List.take_zero, List.drop_succ_cons, List.drop_zero]
      repeat still_step
      try refine wpStill_nil ?_
      go_wp2
      refine ⟨⟨i + 1, by have := hI.out; omega, by go_num, ?_⟩, by have := hI.out; simp [RowKit.intOf]; omega⟩
      rw [← hset.out]
      exact hidp ⟨hd.out.1.other _ _ (by simp; omega), hd.out.2.1.other _ _ (by simp), wvs_set _ _ _ ▸ hd.out.2.2.1.set i _, hd.out.2.2.2.1.setCell (by simp; omega) _, by simp [World.setCell]; exact hd.out.2.2.2.2⟩
    · obtain rfl : i = 16 := by omega
      simp only [Int.cast_ofNat_Int]
      have hsz := hr.out.2.2.2.2
      have hS : Hid (BlS w (wr.alloc (.cells (wvs (List.replicate 16 0)).toArray 261)) h (wordsL bl) (List.replicate 16 0)) := hidp ⟨hr.out.1.alloc _, hr.out.2.1.alloc _, partW_all bl ▸ hr.out.2.2.1.alloc _, Blk.new' _ _ _ _ hsz.symm, hr.out.2.2.2.1.alloc (by omega) _⟩
      clear hr hi h16
      go_wp2
      clear hsz
      go_loopw [12] (fun x wt => ∃ i : Nat, i ≤ 8 ∧ x = .int .i64 i ∧ Hid (BlS w wt h (wordsL bl) (partHv h i))) (fun x _ => 8 - (RowKit.intOf x).toNat)
      case atStart => exact ⟨0, by omega, rfl, by rw [partV_zero]; exact hS⟩
      case round =>
        obtain ⟨i, hi, rfl, hr⟩ := hrel
        clear hS
        by_cases h8i : i < 8
        · have hI := hidp h8i
          have hset := hidp (partV_set h h8i)
          have ch := (hr.out.bh.cell i).trans (wvs_get (by rw [h8.out]; exact h8i))
          have hfree := hr.out.bv.free i
          obtain ⟨vo, ho⟩ : ∃ v, wr.cell? ⟨w.heap.size + 3, i, none⟩ = some v := ⟨_, (hr.out.bv.cell i).trans (wvs_get (by rw [partV_len]; omega))⟩
          have hix := run_index_cellsK (T := 203) (e := 202) (n := 8) Tryz.underlying203 Tryz.underlying202 rfl (by kernel_rfl) (wvs initL) i h8i _ (wvs_get h8i)
          generalize h.getD i 0 = hv at hset ch
          generalize initL.getD i 0 = iv at hset hix
          have hlt : (i : Int) < 8 := by omega
          have hl8 : (i : Int) + 8 < 16 := by omega
          have hl9 : (i : Int) < 16 := by omega
          have hi8 : ((i : Int) + 8).toNat = i + 8 := by omega
          have H1 := hidp (hr.out.setv i hv)
          clear h8i
          go_wp2_with fail
          refine (HBeg.out _).mono ?_
          rintro e w1 ⟨rfl, hB1⟩
          have H2 := hidp (H1.out.below hB1)
          clear H1 hr ch hfree ho hB1
          have hfree := H2.out.bv.free (i + 8)
          obtain ⟨vo, ho⟩ : ∃ v, w1.cell? ⟨w.heap.size + 3, i + 8, none⟩ = some v := ⟨_, (H2.out.bv.cell (i + 8)).trans (wvs_get (by rw [List.length_set, partV_len]; have := hI.out; omega))⟩
          go_wp2
          refine ⟨⟨i + 1, by have := hI.out; omega, by go_num, ?_⟩, by have := hI.out; simp [RowKit.intOf]; omega⟩
          rw [← hset.out]
          exact hidp (H2.out.setv (i + 8) iv)
        · obtain rfl : i = 8 := by omega
          simp only [Int.cast_ofNat_Int]
          have r12 : wr.cell? ⟨w.heap.size + 3, 12, none⟩ = some (.int .u32 1359893119) := (hr.out.bv.cell 12).trans ((wvs_get (by rw [partV_len]; decide)).trans (by rw [partV_all h8.out, app_get h8.out 4]; rfl))
          have r13 : wr.cell? ⟨w.heap.size + 3, 13, none⟩ = some (.int .u32 2600822924) := (hr.out.bv.cell 13).trans ((wvs_get (by rw [partV_len]; decide)).trans (by rw [partV_all h8.out, app_get h8.out 5]; rfl))
          have r14 : wr.cell? ⟨w.heap.size + 3, 14, none⟩ = some (.int .u32 528734635) := (hr.out.bv.cell 14).trans ((wvs_get (by rw [partV_len]; decide)).trans (by rw [partV_all h8.out, app_get h8.out 6]; rfl))
          have f12 := hr.out.bv.free 12
          have f13 := hr.out.bv.free 13
          have f14 := hr.out.bv.free 14
          have e12 := xor_word (a := 0x510e527f) (b := many) (by decide) (by have := HM.out; unfold W32; omega)
          have e13 := xor_word (a := 0x9b05688c) (b := 0) (by decide) (by decide)
          simp only [Int.cast_ofNat_Int] at e12 e13
          have e12 : bits .xor .u32 1359893119 (many : Int) = _ := e12
          have hm0 := HM.out
          have hmd : (many : Int) / 4294967296 = 0 := by omega
          have H7 := hidp ((hr.out.setv 12 (xorW 0x510e527f many)).setv 13 (xorW 0x9b05688c 0))
          have H8 := hidp (H7.out.setv 14 3766232660)
          rw [partV_all h8.out, beginL_more h8.out many (by omega)] at H7
          rw [partV_all h8.out, beginL_last h8.out many (by omega)] at H8
          clear hr
          go_upto_if 87 with fail
          go_cut [] from 88 to 91 (fun wx => Hid (BlS w wx h (wordsL bl) (beginL h many (markL last))))
          case first =>
            clear HBeg HRow
            cases last
            · go_wp2
              go_meet
              case rel => exact H7
            · have e14 : Hid (bits .xor .u32 IntKind.u32.max 528734635 = ((3766232660 : Nat) : Int)) := hidp (by decide +kernel)
              go_wp2
              go_meet
              case rel => rw [e14.out]; exact H8
          case rest =>
            clear H7 H8 e12 e13 hm0 hmd r12 r13 r14 f12 f13 f14 hi h8i
            have HV0 := hidp (beginL_words (h := h) HH.out (t := many) (mark := markL last) (by cases last <;> decide))
            obtain ⟨V0, hV0⟩ : ∃ V0, V0 = beginL h many (markL last) := ⟨_, rfl⟩
            rw [← hV0] at HV0 hcut
            replace hV0 := hidp hV0
            go_wp2
            go_loopw [13] (fun x wr => ∃ r : Nat, r ≤ 10 ∧ x = .int .i64 r ∧ Hid (BlS w wr h (wordsL bl) (roundsL V0 (wordsL bl) r))) (fun x _ => 10 - (RowKit.intOf x).toNat)
            case atStart => exact ⟨0, by omega, rfl, hcut⟩
            case round =>
              obtain ⟨r, hr10, rfl, hr⟩ := hrel
              clear hcut
              by_cases hrl : r < 10
              · have hR10 := hidp hrl
                have hrr : (r : Int) < 10 := by omega
                clear hrl hr10
                have wrz : Hid (∀ n : Nat, n < 17 → IntKind.i64.wrap (n : Int) = (n : Int)) := hidp (fun n h => by rw [IntKind.wrap_i64]; omega)
                go_wp2_with fail
                refine (HRow.out _ _ hR10.out).mono ?_
                rintro e w1 ⟨rfl, hB1⟩
                have H1 := hidp ((hr.out.below hB1).alloc (.cells (ints (List.replicate 16 0)).toArray 262))
                have hz := hidp (Blk.new w1 (ints (List.replicate 16 0)) 262)
                have hsb : Hid (w.heap.size + 4 ≤ w1.heap.size) := hidp (by have h1 := hr.out.bv.lt; have h2 := hB1.size; omega)
                clear hr hB1
                go_wp2_with (refine wpList_store_blk rfl 262 _ _ rfl w1.heap.size (ints (rowL r)) (ints (List.replicate 16 0)) 262 rfl rfl hz.out (by rw [ints_len, rowL_len hR10.out]; kernel_rfl) (by rw [ints_len, ints_len, rowL_len hR10.out]; rfl) (ints_one _) ?_; intro w2 hw2)
                obtain ⟨V, hV⟩ : ∃ V, V = roundsL V0 (wordsL bl) r := ⟨_, rfl⟩
                obtain ⟨P, hP⟩ : ∃ P, P = pickL (wordsL bl) r := ⟨_, rfl⟩
                replace hP := hidp hP
                have HR : Hid (BlS w w2 h (wordsL bl) (halfL V P 0) ∧ Blk w2 w1.heap.size (ints (rowL r)) 262) := by
                  have hbt : But w1.heap.size (w1.alloc (.cells (ints (List.replicate 16 0)).toArray 262)) w2 := hw2.out ▸ (But.refl _ _).setRow _
                  exact hidp ⟨hV ▸ H1.out.other hbt hsb.out, hw2.out ▸ hz.out.row⟩
                have HV : Hid (Words 16 V) := hidp (hV ▸ roundsL_words HV0.out (wordsL bl) r)
                replace hV := hidp hV
                clear H1 hz hw2
                go_loopw [15] (fun x wr => ∃ i : Nat, i ≤ 4 ∧ x = .int .i64 i ∧ Hid (BlS w wr h (wordsL bl) (halfL V P i) ∧ Blk wr w1.heap.size (ints (rowL r)) 262)) (fun x _ => 4 - (RowKit.intOf x).toNat)
                case atStart => exact ⟨0, by omega, rfl, HR⟩
                case round =>
                  obtain ⟨i, hi, rfl, hr⟩ := hrel
                  clear HR
                  by_cases h4 : i < 4
                  · have hcase : i = 0 ∨ i = 1 ∨ i = 2 ∨ i = 3 := by omega
                    clear h4 hi
                    rcases hcase with rfl | rfl | rfl | rfl
                    · simp only [Int.cast_ofNat_Int]
                      go_wp2_with fail
                      refine region_tail 21 (by kernel_rfl) (by kernel_rfl) ?_
                      intro wd hwd
                      have hd := hidp (show BlS w wd h (wordsL bl) (halfL V P 0) ∧ Blk wd w1.heap.size (ints (rowL r)) 262 by rw [hwd.out]; exact ⟨hr.out.1.drew, hr.out.2.drew⟩)
                      clear hr hwd
                      have s0 : wd.cell? ⟨w1.heap.size, 0, none⟩ = _ := (hd.out.2.cell 0).trans (ints_get (by rw [rowL_len hR10.out]; decide))
                      have s1 : wd.cell? ⟨w1.heap.size, 1, none⟩ = _ := (hd.out.2.cell 1).trans (ints_get (by rw [rowL_len hR10.out]; decide))
                      have b0 := rowL_lt hR10.out 0
                      have b1 := rowL_lt hR10.out 1
                      have p0 : P.getD 0 0 = _ := (congrArg (fun l => List.getD l 0 0) hP.out).trans (pickL_get (m := wordsL bl) hR10.out (j := 0) (by decide))
                      have p1 : P.getD 1 0 = _ := (congrArg (fun l => List.getD l 1 0) hP.out).trans (pickL_get (m := wordsL bl) hR10.out (j := 1) (by decide))
                      have hmix := refMix_any 0 4 8 12 (halfL V P 0) (P.getD 0 0) (P.getD 1 0) wd (halfL_words HV.out P 0) (by decide) (by decide) (by decide) (by decide) (by decide) (by decide) (by decide) (by decide) (by decide) (by decide)
                      have hst : Hid (mixL (halfL V P 0) 0 4 8 12 (P.getD 0 0) (P.getD 1 0) = halfL V P 1) := hidp rfl
                      have HVW := hidp (halfL_words HV.out P 1)
                      rw [p0, p1] at hmix hst
                      clear p0 p1
                      generalize (rowL r).getD 0 0 = q0 at s0 b0 hmix hst
                      generalize (rowL r).getD 1 0 = q1 at s1 b1 hmix hst
                      have m0 := (hd.out.1.bm.cell q0).trans (wvs_get (by rw [wordsL_len]; exact b0))
                      have m1 := (hd.out.1.bm.cell q1).trans (wvs_get (by rw [wordsL_len]; exact b1))
                      have b0 : (q0 : Int) < 16 := by omega
                      have b1 : (q1 : Int) < 16 := by omega
                      generalize (wordsL bl).getD q0 0 = x0 at m0 hmix hst
                      generalize (wordsL bl).getD q1 0 = x1 at m1 hmix hst
                      simp only [Int.cast_ofNat_Int] at hmix
                      have lv : (halfL V P 0).length = 16 := (halfL_words HV.out P 0).1
                      have hrg := hd.out.1.bv
                      rw [hst.out] at hmix
                      clear hst
                      generalize halfL V P 0 = VI at hmix lv hrg hd
                      have hnx : Hid (4 - 1 < 4 - 0) := hidp (by decide)
                      obtain ⟨VN, hVN⟩ : ∃ VN, VN = halfL V P 1 := ⟨_, rfl⟩
                      rw [← hVN] at hmix HVW
                      replace hVN := hidp hVN
                      replace hmix := hidp hmix
                      replace lv := hidp lv
                      replace hrg := hidp hrg
                      have wr0 : IntKind.i64.wrap 0 = 0 := wrz.out 0 (by decide)
                      have wr1 : IntKind.i64.wrap 1 = 1 := wrz.out 1 (by decide)
                      have wr2 : IntKind.i64.wrap 2 = 2 := wrz.out 2 (by decide)
                      have wr3 : IntKind.i64.wrap 3 = 3 := wrz.out 3 (by decide)
                      have wr4 : IntKind.i64.wrap 4 = 4 := wrz.out 4 (by decide)
                      have wr5 : IntKind.i64.wrap 5 = 5 := wrz.out 5 (by decide)
                      have wr6 : IntKind.i64.wrap 6 = 6 := wrz.out 6 (by decide)
                      have wr7 : IntKind.i64.wrap 7 = 7 := wrz.out 7 (by decide)
                      have wr8 : IntKind.i64.wrap 8 = 8 := wrz.out 8 (by decide)
                      have wr9 : IntKind.i64.wrap 9 = 9 := wrz.out 9 (by decide)
                      have wr10 : IntKind.i64.wrap 10 = 10 := wrz.out 10 (by decide)
                      have wr11 : IntKind.i64.wrap 11 = 11 := wrz.out 11 (by decide)
                      have wr12 : IntKind.i64.wrap 12 = 12 := wrz.out 12 (by decide)
                      have wr13 : IntKind.i64.wrap 13 = 13 := wrz.out 13 (by decide)
                      have wr14 : IntKind.i64.wrap 14 = 14 := wrz.out 14 (by decide)
                      have wr15 : IntKind.i64.wrap 15 = 15 := wrz.out 15 (by decide)
                      have wr16 : IntKind.i64.wrap 16 = 16 := wrz.out 16 (by decide)
                      simp only [List.take_succ_cons, List.take_zero, List.drop_succ_cons, List.drop_zero]
                      refine wpStill_load_blk rfl 261 _ rfl (w.heap.size + 3) (wvs VI) 261 rfl hrg.out _ Tryz.underlying261 rfl (by rw [wvs_len, lv.out]; kernel_rfl) ?_
                      repeat still_step
                      try refine wpStill_nil ?_
                      clear wr0 wr1 wr2 wr3 wr4 wr5 wr6 wr7 wr8 wr9 wr10 wr11 wr12 wr13 wr14 wr15 wr16
                      clear s0 s1 m0 m1
                      go_wp2_with fail
                      refine hmix.out.mono ?_
                      rintro e w7 ⟨rfl, hB7⟩
                      have H7 := hidp (And.intro (hd.out.1.below hB7) (hd.out.2.below hB7 hd.out.2.lt))
                      clear hd hmix hrg hB7
                      go_wp2_with (refine wpList_store_blk rfl 261 _ _ rfl (w.heap.size + 3) (wvs VN) (wvs VI) 261 rfl rfl H7.out.1.bv (by rw [wvs_len, HVW.out.1]; kernel_rfl) (by rw [wvs_len, wvs_len, HVW.out.1, lv.out]) (wvs_one _) ?_; intro w8 hw8)
                      refine ⟨⟨1, by decide, rfl, ?_⟩, by simp [RowKit.intOf]⟩
                      have hbt : But (w.heap.size + 3) w7 w8 := hw8.out ▸ (But.refl _ _).setRow _
                      rw [← hVN.out]
                      exact hidp ⟨H7.out.1.butv hbt (hw8.out ▸ H7.out.1.bv.row), hbt.blk H7.out.2 (by have := hsb.out; omega)⟩
                    · simp only [Int.cast_ofNat_Int]
                      go_wp2_with fail
                      refine region_tail 21 (by kernel_rfl) (by kernel_rfl) ?_
                      intro wd hwd
                      have hd := hidp (show BlS w wd h (wordsL bl) (halfL V P 1) ∧ Blk wd w1.heap.size (ints (rowL r)) 262 by rw [hwd.out]; exact ⟨hr.out.1.drew, hr.out.2.drew⟩)
                      clear hr hwd
                      have s0 : wd.cell? ⟨w1.heap.size, 2, none⟩ = _ := (hd.out.2.cell 2).trans (ints_get (by rw [rowL_len hR10.out]; decide))
                      have s1 : wd.cell? ⟨w1.heap.size, 3, none⟩ = _ := (hd.out.2.cell 3).trans (ints_get (by rw [rowL_len hR10.out]; decide))
                      have b0 := rowL_lt hR10.out 2
                      have b1 := rowL_lt hR10.out 3
                      have p0 : P.getD 2 0 = _ := (congrArg (fun l => List.getD l 2 0) hP.out).trans (pickL_get (m := wordsL bl) hR10.out (j := 2) (by decide))
                      have p1 : P.getD 3 0 = _ := (congrArg (fun l => List.getD l 3 0) hP.out).trans (pickL_get (m := wordsL bl) hR10.out (j := 3) (by decide))
                      have hmix := refMix_any 1 5 9 13 (halfL V P 1) (P.getD 2 0) (P.getD 3 0) wd (halfL_words HV.out P 1) (by decide) (by decide) (by decide) (by decide) (by decide) (by decide) (by decide) (by decide) (by decide) (by decide)
                      have hst : Hid (mixL (halfL V P 1) 1 5 9 13 (P.getD 2 0) (P.getD 3 0) = halfL V P 2) := hidp rfl
                      have HVW := hidp (halfL_words HV.out P 2)
                      rw [p0, p1] at hmix hst
                      clear p0 p1
                      generalize (rowL r).getD 2 0 = q0 at s0 b0 hmix hst
                      generalize (rowL r).getD 3 0 = q1 at s1 b1 hmix hst
                      have m0 := (hd.out.1.bm.cell q0).trans (wvs_get (by rw [wordsL_len]; exact b0))
                      have m1 := (hd.out.1.bm.cell q1).trans (wvs_get (by rw [wordsL_len]; exact b1))
                      have b0 : (q0 : Int) < 16 := by omega
                      have b1 : (q1 : Int) < 16 := by omega
                      generalize (wordsL bl).getD q0 0 = x0 at m0 hmix hst
                      generalize (wordsL bl).getD q1 0 = x1 at m1 hmix hst
                      simp only [Int.cast_ofNat_Int] at hmix
                      have lv : (halfL V P 1).length = 16 := (halfL_words HV.out P 1).1
                      have hrg := hd.out.1.bv
                      rw [hst.out] at hmix
                      clear hst
                      generalize halfL V P 1 = VI at hmix lv hrg hd
                      have hnx : Hid (4 - 2 < 4 - 1) := hidp (by decide)
                      obtain ⟨VN, hVN⟩ : ∃ VN, VN = halfL V P 2 := ⟨_, rfl⟩
                      rw [← hVN] at hmix HVW
                      replace hVN := hidp hVN
                      replace hmix := hidp hmix
                      replace lv := hidp lv
                      replace hrg := hidp hrg
                      have wr0 : IntKind.i64.wrap 0 = 0 := wrz.out 0 (by decide)
                      have wr1 : IntKind.i64.wrap 1 = 1 := wrz.out 1 (by decide)
                      have wr2 : IntKind.i64.wrap 2 = 2 := wrz.out 2 (by decide)
                      have wr3 : IntKind.i64.wrap 3 = 3 := wrz.out 3 (by decide)
                      have wr4 : IntKind.i64.wrap 4 = 4 := wrz.out 4 (by decide)
                      have wr5 : IntKind.i64.wrap 5 = 5 := wrz.out 5 (by decide)
                      have wr6 : IntKind.i64.wrap 6 = 6 := wrz.out 6 (by decide)
                      have wr7 : IntKind.i64.wrap 7 = 7 := wrz.out 7 (by decide)
                      have wr8 : IntKind.i64.wrap 8 = 8 := wrz.out 8 (by decide)
                      have wr9 : IntKind.i64.wrap 9 = 9 := wrz.out 9 (by decide)
                      have wr10 : IntKind.i64.wrap 10 = 10 := wrz.out 10 (by decide)
                      have wr11 : IntKind.i64.wrap 11 = 11 := wrz.out 11 (by decide)
                      have wr12 : IntKind.i64.wrap 12 = 12 := wrz.out 12 (by decide)
                      have wr13 : IntKind.i64.wrap 13 = 13 := wrz.out 13 (by decide)
                      have wr14 : IntKind.i64.wrap 14 = 14 := wrz.out 14 (by decide)
                      have wr15 : IntKind.i64.wrap 15 = 15 := wrz.out 15 (by decide)
                      have wr16 : IntKind.i64.wrap 16 = 16 := wrz.out 16 (by decide)
                      simp only [List.take_succ_cons, List.take_zero, List.drop_succ_cons, List.drop_zero]
                      refine wpStill_load_blk rfl 261 _ rfl (w.heap.size + 3) (wvs VI) 261 rfl hrg.out _ Tryz.underlying261 rfl (by rw [wvs_len, lv.out]; kernel_rfl) ?_
                      repeat still_step
                      try refine wpStill_nil ?_
                      clear wr0 wr1 wr2 wr3 wr4 wr5 wr6 wr7 wr8 wr9 wr10 wr11 wr12 wr13 wr14 wr15 wr16
                      clear s0 s1 m0 m1
                      go_wp2_with fail
                      refine hmix.out.mono ?_
                      rintro e w7 ⟨rfl, hB7⟩
                      have H7 := hidp (And.intro (hd.out.1.below hB7) (hd.out.2.below hB7 hd.out.2.lt))
                      clear hd hmix hrg hB7
                      go_wp2_with (refine wpList_store_blk rfl 261 _ _ rfl (w.heap.size + 3) (wvs VN) (wvs VI) 261 rfl rfl H7.out.1.bv (by rw [wvs_len, HVW.out.1]; kernel_rfl) (by rw [wvs_len, wvs_len, HVW.out.1, lv.out]) (wvs_one _) ?_; intro w8 hw8)
                      refine ⟨⟨2, by decide, rfl, ?_⟩, by simp [RowKit.intOf]⟩
                      have hbt : But (w.heap.size + 3) w7 w8 := hw8.out ▸ (But.refl _ _).setRow _
                      rw [← hVN.out]
                      exact hidp ⟨H7.out.1.butv hbt (hw8.out ▸ H7.out.1.bv.row), hbt.blk H7.out.2 (by have := hsb.out; omega)⟩
                    · simp only [Int.cast_ofNat_Int]
                      go_wp2_with fail
                      refine region_tail 21 (by kernel_rfl) (by kernel_rfl) ?_
                      intro wd hwd
                      have hd := hidp (show BlS w wd h (wordsL bl) (halfL V P 2) ∧ Blk wd w1.heap.size (ints (rowL r)) 262 by rw [hwd.out]; exact ⟨hr.out.1.drew, hr.out.2.drew⟩)
                      clear hr hwd
                      have s0 : wd.cell? ⟨w1.heap.size, 4, none⟩ = _ := (hd.out.2.cell 4).trans (ints_get (by rw [rowL_len hR10.out]; decide))
                      have s1 : wd.cell? ⟨w1.heap.size, 5, none⟩ = _ := (hd.out.2.cell 5).trans (ints_get (by rw [rowL_len hR10.out]; decide))
                      have b0 := rowL_lt hR10.out 4
                      have b1 := rowL_lt hR10.out 5
                      have p0 : P.getD 4 0 = _ := (congrArg (fun l => List.getD l 4 0) hP.out).trans (pickL_get (m := wordsL bl) hR10.out (j := 4) (by decide))
                      have p1 : P.getD 5 0 = _ := (congrArg (fun l => List.getD l 5 0) hP.out).trans (pickL_get (m := wordsL bl) hR10.out (j := 5) (by decide))
                      have hmix := refMix_any 2 6 10 14 (halfL V P 2) (P.getD 4 0) (P.getD 5 0) wd (halfL_words HV.out P 2) (by decide) (by decide) (by decide) (by decide) (by decide) (by decide) (by decide) (by decide) (by decide) (by decide)
                      have hst : Hid (mixL (halfL V P 2) 2 6 10 14 (P.getD 4 0) (P.getD 5 0) = halfL V P 3) := hidp rfl
                      have HVW := hidp (halfL_words HV.out P 3)
                      rw [p0, p1] at hmix hst
                      clear p0 p1
                      generalize (rowL r).getD 4 0 = q0 at s0 b0 hmix hst
                      generalize (rowL r).getD 5 0 = q1 at s1 b1 hmix hst
                      have m0 := (hd.out.1.bm.cell q0).trans (wvs_get (by rw [wordsL_len]; exact b0))
                      have m1 := (hd.out.1.bm.cell q1).trans (wvs_get (by rw [wordsL_len]; exact b1))
                      have b0 : (q0 : Int) < 16 := by omega
                      have b1 : (q1 : Int) < 16 := by omega
                      generalize (wordsL bl).getD q0 0 = x0 at m0 hmix hst
                      generalize (wordsL bl).getD q1 0 = x1 at m1 hmix hst
                      simp only [Int.cast_ofNat_Int] at hmix
                      have lv : (halfL V P 2).length = 16 := (halfL_words HV.out P 2).1
                      have hrg := hd.out.1.bv
                      rw [hst.out] at hmix
                      clear hst
                      generalize halfL V P 2 = VI at hmix lv hrg hd
                      have hnx : Hid (4 - 3 < 4 - 2) := hidp (by decide)
                      obtain ⟨VN, hVN⟩ : ∃ VN, VN = halfL V P 3 := ⟨_, rfl⟩
                      rw [← hVN] at hmix HVW
                      replace hVN := hidp hVN
                      replace hmix := hidp hmix
                      replace lv := hidp lv
                      replace hrg := hidp hrg
                      have wr0 : IntKind.i64.wrap 0 = 0 := wrz.out 0 (by decide)
                      have wr1 : IntKind.i64.wrap 1 = 1 := wrz.out 1 (by decide)
                      have wr2 : IntKind.i64.wrap 2 = 2 := wrz.out 2 (by decide)
                      have wr3 : IntKind.i64.wrap 3 = 3 := wrz.out 3 (by decide)
                      have wr4 : IntKind.i64.wrap 4 = 4 := wrz.out 4 (by decide)
                      have wr5 : IntKind.i64.wrap 5 = 5 := wrz.out 5 (by decide)
                      have wr6 : IntKind.i64.wrap 6 = 6 := wrz.out 6 (by decide)
                      have wr7 : IntKind.i64.wrap 7 = 7 := wrz.out 7 (by decide)
                      have wr8 : IntKind.i64.wrap 8 = 8 := wrz.out 8 (by decide)
                      have wr9 : IntKind.i64.wrap 9 = 9 := wrz.out 9 (by decide)
                      have wr10 : IntKind.i64.wrap 10 = 10 := wrz.out 10 (by decide)
                      have wr11 : IntKind.i64.wrap 11 = 11 := wrz.out 11 (by decide)
                      have wr12 : IntKind.i64.wrap 12 = 12 := wrz.out 12 (by decide)
                      have wr13 : IntKind.i64.wrap 13 = 13 := wrz.out 13 (by decide)
                      have wr14 : IntKind.i64.wrap 14 = 14 := wrz.out 14 (by decide)
                      have wr15 : IntKind.i64.wrap 15 = 15 := wrz.out 15 (by decide)
                      have wr16 : IntKind.i64.wrap 16 = 16 := wrz.out 16 (by decide)
                      simp only [List.take_succ_cons, List.take_zero, List.drop_succ_cons, List.drop_zero]
                      refine wpStill_load_blk rfl 261 _ rfl (w.heap.size + 3) (wvs VI) 261 rfl hrg.out _ Tryz.underlying261 rfl (by rw [wvs_len, lv.out]; kernel_rfl) ?_
                      repeat still_step
                      try refine wpStill_nil ?_
                      clear wr0 wr1 wr2 wr3 wr4 wr5 wr6 wr7 wr8 wr9 wr10 wr11 wr12 wr13 wr14 wr15 wr16
                      clear s0 s1 m0 m1
                      go_wp2_with fail
                      refine hmix.out.mono ?_
                      rintro e w7 ⟨rfl, hB7⟩
                      have H7 := hidp (And.intro (hd.out.1.below hB7) (hd.out.2.below hB7 hd.out.2.lt))
                      clear hd hmix hrg hB7
                      go_wp2_with (refine wpList_store_blk rfl 261 _ _ rfl (w.heap.size + 3) (wvs VN) (wvs VI) 261 rfl rfl H7.out.1.bv (by rw [wvs_len, HVW.out.1]; kernel_rfl) (by rw [wvs_len, wvs_len, HVW.out.1, lv.out]) (wvs_one _) ?_; intro w8 hw8)
                      refine ⟨⟨3, by decide, rfl, ?_⟩, by simp [RowKit.intOf]⟩
                      have hbt : But (w.heap.size + 3) w7 w8 := hw8.out ▸ (But.refl _ _).setRow _
                      rw [← hVN.out]
                      exact hidp ⟨H7.out.1.butv hbt (hw8.out ▸ H7.out.1.bv.row), hbt.blk H7.out.2 (by have := hsb.out; omega)⟩
                    · simp only [Int.cast_ofNat_Int]
                      go_wp2_with fail
                      refine region_tail 21 (by kernel_rfl) (by kernel_rfl) ?_
                      intro wd hwd
                      have hd := hidp (show BlS w wd h (wordsL bl) (halfL V P 3) ∧ Blk wd w1.heap.size (ints (rowL r)) 262 by rw [hwd.out]; exact ⟨hr.out.1.drew, hr.out.2.drew⟩)
                      clear hr hwd
                      have s0 : wd.cell? ⟨w1.heap.size, 6, none⟩ = _ := (hd.out.2.cell 6).trans (ints_get (by rw [rowL_len hR10.out]; decide))
                      have s1 : wd.cell? ⟨w1.heap.size, 7, none⟩ = _ := (hd.out.2.cell 7).trans (ints_get (by rw [rowL_len hR10.out]; decide))
                      have b0 := rowL_lt hR10.out 6
                      have b1 := rowL_lt hR10.out 7
                      have p0 : P.getD 6 0 = _ := (congrArg (fun l => List.getD l 6 0) hP.out).trans (pickL_get (m := wordsL bl) hR10.out (j := 6) (by decide))
                      have p1 : P.getD 7 0 = _ := (congrArg (fun l => List.getD l 7 0) hP.out).trans (pickL_get (m := wordsL bl) hR10.out (j := 7) (by decide))
                      have hmix := refMix_any 3 7 11 15 (halfL V P 3) (P.getD 6 0) (P.getD 7 0) wd (halfL_words HV.out P 3) (by decide) (by decide) (by decide) (by decide) (by decide) (by decide) (by decide) (by decide) (by decide) (by decide)
                      have hst : Hid (mixL (halfL V P 3) 3 7 11 15 (P.getD 6 0) (P.getD 7 0) = halfL V P 4) := hidp rfl
                      have HVW := hidp (halfL_words HV.out P 4)
                      rw [p0, p1] at hmix hst
                      clear p0 p1
                      generalize (rowL r).getD 6 0 = q0 at s0 b0 hmix hst
                      generalize (rowL r).getD 7 0 = q1 at s1 b1 hmix hst
                      have m0 := (hd.out.1.bm.cell q0).trans (wvs_get (by rw [wordsL_len]; exact b0))
                      have m1 := (hd.out.1.bm.cell q1).trans (wvs_get (by rw [wordsL_len]; exact b1))
                      have b0 : (q0 : Int) < 16 := by omega
                      have b1 : (q1 : Int) < 16 := by omega
                      generalize (wordsL bl).getD q0 0 = x0 at m0 hmix hst
                      generalize (wordsL bl).getD q1 0 = x1 at m1 hmix hst
                      simp only [Int.cast_ofNat_Int] at hmix
                      have lv : (halfL V P 3).length = 16 := (halfL_words HV.out P 3).1
                      have hrg := hd.out.1.bv
                      rw [hst.out] at hmix
                      clear hst
                      generalize halfL V P 3 = VI at hmix lv hrg hd
                      have hnx : Hid (4 - 4 < 4 - 3) := hidp (by decide)
                      obtain ⟨VN, hVN⟩ : ∃ VN, VN = halfL V P 4 := ⟨_, rfl⟩
                      rw [← hVN] at hmix HVW
                      replace hVN := hidp hVN
                      replace hmix := hidp hmix
                      replace lv := hidp lv
                      replace hrg := hidp hrg
                      have wr0 : IntKind.i64.wrap 0 = 0 := wrz.out 0 (by decide)
                      have wr1 : IntKind.i64.wrap 1 = 1 := wrz.out 1 (by decide)
                      have wr2 : IntKind.i64.wrap 2 = 2 := wrz.out 2 (by decide)
                      have wr3 : IntKind.i64.wrap 3 = 3 := wrz.out 3 (by decide)
                      have wr4 : IntKind.i64.wrap 4 = 4 := wrz.out 4 (by decide)
                      have wr5 : IntKind.i64.wrap 5 = 5 := wrz.out 5 (by decide)
                      have wr6 : IntKind.i64.wrap 6 = 6 := wrz.out 6 (by decide)
                      have wr7 : IntKind.i64.wrap 7 = 7 := wrz.out 7 (by decide)
                      have wr8 : IntKind.i64.wrap 8 = 8 := wrz.out 8 (by decide)
                      have wr9 : IntKind.i64.wrap 9 = 9 := wrz.out 9 (by decide)
                      have wr10 : IntKind.i64.wrap 10 = 10 := wrz.out 10 (by decide)
                      have wr11 : IntKind.i64.wrap 11 = 11 := wrz.out 11 (by decide)
                      have wr12 : IntKind.i64.wrap 12 = 12 := wrz.out 12 (by decide)
                      have wr13 : IntKind.i64.wrap 13 = 13 := wrz.out 13 (by decide)
                      have wr14 : IntKind.i64.wrap 14 = 14 := wrz.out 14 (by decide)
                      have wr15 : IntKind.i64.wrap 15 = 15 := wrz.out 15 (by decide)
                      have wr16 : IntKind.i64.wrap 16 = 16 := wrz.out 16 (by decide)
                      simp only [List.take_succ_cons, List.take_zero, List.drop_succ_cons, List.drop_zero]
                      refine wpStill_load_blk rfl 261 _ rfl (w.heap.size + 3) (wvs VI) 261 rfl hrg.out _ Tryz.underlying261 rfl (by rw [wvs_len, lv.out]; kernel_rfl) ?_
                      repeat still_step
                      try refine wpStill_nil ?_
                      clear wr0 wr1 wr2 wr3 wr4 wr5 wr6 wr7 wr8 wr9 wr10 wr11 wr12 wr13 wr14 wr15 wr16
                      clear s0 s1 m0 m1
                      go_wp2_with fail
                      refine hmix.out.mono ?_
                      rintro e w7 ⟨rfl, hB7⟩
                      have H7 := hidp (And.intro (hd.out.1.below hB7) (hd.out.2.below hB7 hd.out.2.lt))
                      clear hd hmix hrg hB7
                      go_wp2_with (refine wpList_store_blk rfl 261 _ _ rfl (w.heap.size + 3) (wvs VN) (wvs VI) 261 rfl rfl H7.out.1.bv (by rw [wvs_len, HVW.out.1]; kernel_rfl) (by rw [wvs_len, wvs_len, HVW.out.1, lv.out]) (wvs_one _) ?_; intro w8 hw8)
                      refine ⟨⟨4, by decide, rfl, ?_⟩, by simp [RowKit.intOf]⟩
                      have hbt : But (w.heap.size + 3) w7 w8 := hw8.out ▸ (But.refl _ _).setRow _
                      rw [← hVN.out]
                      exact hidp ⟨H7.out.1.butv hbt (hw8.out ▸ H7.out.1.bv.row), hbt.blk H7.out.2 (by have := hsb.out; omega)⟩
                  · obtain rfl : i = 4 := by omega
                    simp only [Int.cast_ofNat_Int]
                    have HR := hr
                    clear hr hi h4
                    go_wp2
                    obtain ⟨V2, hV2⟩ : ∃ V2, V2 = halfL V P 4 := ⟨_, rfl⟩
                    have HV2 : Hid (Words 16 V2) := hidp (hV2 ▸ halfL_words HV.out P 4)
                    have HR2 : Hid (BlS w wr h (wordsL bl) (restL V2 P 0) ∧ Blk wr w1.heap.size (ints (rowL r)) 262) := hidp (hV2 ▸ HR.out)
                    replace hV2 := hidp hV2
                    clear HR
                    go_loopw [16] (fun x wr => ∃ i : Nat, i ≤ 4 ∧ x = .int .i64 i ∧ Hid (BlS w wr h (wordsL bl) (restL V2 P i) ∧ Blk wr w1.heap.size (ints (rowL r)) 262)) (fun x _ => 4 - (RowKit.intOf x).toNat)
                    case atStart => exact ⟨0, by omega, rfl, HR2⟩
                    case round =>
                      obtain ⟨i, hi, rfl, hr⟩ := hrel
                      clear HR2
                      by_cases h4 : i < 4
                      · have hcase : i = 0 ∨ i = 1 ∨ i = 2 ∨ i = 3 := by omega
                        clear h4 hi
                        rcases hcase with rfl | rfl | rfl | rfl
                        · simp only [Int.cast_ofNat_Int]
                          go_wp2_with fail
                          refine region_tail 28 (by kernel_rfl) (by kernel_rfl) ?_
                          intro wd hwd
                          have hd := hidp (show BlS w wd h (wordsL bl) (restL V2 P 0) ∧ Blk wd w1.heap.size (ints (rowL r)) 262 by rw [hwd.out]; exact ⟨hr.out.1.drew, hr.out.2.drew⟩)
                          clear hr hwd
                          have s0 : wd.cell? ⟨w1.heap.size, 8, none⟩ = _ := (hd.out.2.cell 8).trans (ints_get (by rw [rowL_len hR10.out]; decide))
                          have s1 : wd.cell? ⟨w1.heap.size, 9, none⟩ = _ := (hd.out.2.cell 9).trans (ints_get (by rw [rowL_len hR10.out]; decide))
                          have b0 := rowL_lt hR10.out 8
                          have b1 := rowL_lt hR10.out 9
                          have p0 : P.getD 8 0 = _ := (congrArg (fun l => List.getD l 8 0) hP.out).trans (pickL_get (m := wordsL bl) hR10.out (j := 8) (by decide))
                          have p1 : P.getD 9 0 = _ := (congrArg (fun l => List.getD l 9 0) hP.out).trans (pickL_get (m := wordsL bl) hR10.out (j := 9) (by decide))
                          have hmix := refMix_any 0 5 10 15 (restL V2 P 0) (P.getD 8 0) (P.getD 9 0) wd (restL_words HV2.out P 0) (by decide) (by decide) (by decide) (by decide) (by decide) (by decide) (by decide) (by decide) (by decide) (by decide)
                          have hst : Hid (mixL (restL V2 P 0) 0 5 10 15 (P.getD 8 0) (P.getD 9 0) = restL V2 P 1) := hidp rfl
                          have HVW := hidp (restL_words HV2.out P 1)
                          rw [p0, p1] at hmix hst
                          clear p0 p1
                          generalize (rowL r).getD 8 0 = q0 at s0 b0 hmix hst
                          generalize (rowL r).getD 9 0 = q1 at s1 b1 hmix hst
                          have m0 := (hd.out.1.bm.cell q0).trans (wvs_get (by rw [wordsL_len]; exact b0))
                          have m1 := (hd.out.1.bm.cell q1).trans (wvs_get (by rw [wordsL_len]; exact b1))
                          have b0 : (q0 : Int) < 16 := by omega
                          have b1 : (q1 : Int) < 16 := by omega
                          generalize (wordsL bl).getD q0 0 = x0 at m0 hmix hst
                          generalize (wordsL bl).getD q1 0 = x1 at m1 hmix hst
                          simp only [Int.cast_ofNat_Int] at hmix
                          have lv : (restL V2 P 0).length = 16 := (restL_words HV2.out P 0).1
                          have hrg := hd.out.1.bv
                          rw [hst.out] at hmix
                          clear hst
                          generalize restL V2 P 0 = VI at hmix lv hrg hd
                          have hnx : Hid (4 - 1 < 4 - 0) := hidp (by decide)
                          obtain ⟨VN, hVN⟩ : ∃ VN, VN = restL V2 P 1 := ⟨_, rfl⟩
                          rw [← hVN] at hmix HVW
                          replace hVN := hidp hVN
                          replace hmix := hidp hmix
                          replace lv := hidp lv
                          replace hrg := hidp hrg
                          have wr0 : IntKind.i64.wrap 0 = 0 := wrz.out 0 (by decide)
                          have wr1 : IntKind.i64.wrap 1 = 1 := wrz.out 1 (by decide)
                          have wr2 : IntKind.i64.wrap 2 = 2 := wrz.out 2 (by decide)
                          have wr3 : IntKind.i64.wrap 3 = 3 := wrz.out 3 (by decide)
                          have wr4 : IntKind.i64.wrap 4 = 4 := wrz.out 4 (by decide)
                          have wr5 : IntKind.i64.wrap 5 = 5 := wrz.out 5 (by decide)
                          have wr6 : IntKind.i64.wrap 6 = 6 := wrz.out 6 (by decide)
                          have wr7 : IntKind.i64.wrap 7 = 7 := wrz.out 7 (by decide)
                          have wr8 : IntKind.i64.wrap 8 = 8 := wrz.out 8 (by decide)
                          have wr9 : IntKind.i64.wrap 9 = 9 := wrz.out 9 (by decide)
                          have wr10 : IntKind.i64.wrap 10 = 10 := wrz.out 10 (by decide)
                          have wr11 : IntKind.i64.wrap 11 = 11 := wrz.out 11 (by decide)
                          have wr12 : IntKind.i64.wrap 12 = 12 := wrz.out 12 (by decide)
                          have wr13 : IntKind.i64.wrap 13 = 13 := wrz.out 13 (by decide)
                          have wr14 : IntKind.i64.wrap 14 = 14 := wrz.out 14 (by decide)
                          have wr15 : IntKind.i64.wrap 15 = 15 := wrz.out 15 (by decide)
                          have wr16 : IntKind.i64.wrap 16 = 16 := wrz.out 16 (by decide)
                          simp only [List.take_succ_cons, List.take_zero, List.drop_succ_cons, List.drop_zero]
                          refine wpStill_load_blk rfl 261 _ rfl (w.heap.size + 3) (wvs VI) 261 rfl hrg.out _ Tryz.underlying261 rfl (by rw [wvs_len, lv.out]; kernel_rfl) ?_
                          repeat still_step
                          try refine wpStill_nil ?_
                          clear wr0 wr1 wr2 wr3 wr4 wr5 wr6 wr7 wr8 wr9 wr10 wr11 wr12 wr13 wr14 wr15 wr16
                          clear s0 s1 m0 m1
                          go_wp2_with fail
                          refine hmix.out.mono ?_
                          rintro e w7 ⟨rfl, hB7⟩
                          have H7 := hidp (And.intro (hd.out.1.below hB7) (hd.out.2.below hB7 hd.out.2.lt))
                          clear hd hmix hrg hB7
                          go_wp2_with (refine wpList_store_blk rfl 261 _ _ rfl (w.heap.size + 3) (wvs VN) (wvs VI) 261 rfl rfl H7.out.1.bv (by rw [wvs_len, HVW.out.1]; kernel_rfl) (by rw [wvs_len, wvs_len, HVW.out.1, lv.out]) (wvs_one _) ?_; intro w8 hw8)
                          refine ⟨⟨1, by decide, rfl, ?_⟩, by simp [RowKit.intOf]⟩
                          have hbt : But (w.heap.size + 3) w7 w8 := hw8.out ▸ (But.refl _ _).setRow _
                          rw [← hVN.out]
                          exact hidp ⟨H7.out.1.butv hbt (hw8.out ▸ H7.out.1.bv.row), hbt.blk H7.out.2 (by have := hsb.out; omega)⟩
                        · simp only [Int.cast_ofNat_Int]
                          go_wp2_with fail
                          refine region_tail 28 (by kernel_rfl) (by kernel_rfl) ?_
                          intro wd hwd
                          have hd := hidp (show BlS w wd h (wordsL bl) (restL V2 P 1) ∧ Blk wd w1.heap.size (ints (rowL r)) 262 by rw [hwd.out]; exact ⟨hr.out.1.drew, hr.out.2.drew⟩)
                          clear hr hwd
                          have s0 : wd.cell? ⟨w1.heap.size, 10, none⟩ = _ := (hd.out.2.cell 10).trans (ints_get (by rw [rowL_len hR10.out]; decide))
                          have s1 : wd.cell? ⟨w1.heap.size, 11, none⟩ = _ := (hd.out.2.cell 11).trans (ints_get (by rw [rowL_len hR10.out]; decide))
                          have b0 := rowL_lt hR10.out 10
                          have b1 := rowL_lt hR10.out 11
                          have p0 : P.getD 10 0 = _ := (congrArg (fun l => List.getD l 10 0) hP.out).trans (pickL_get (m := wordsL bl) hR10.out (j := 10) (by decide))
                          have p1 : P.getD 11 0 = _ := (congrArg (fun l => List.getD l 11 0) hP.out).trans (pickL_get (m := wordsL bl) hR10.out (j := 11) (by decide))
                          have hmix := refMix_any 1 6 11 12 (restL V2 P 1) (P.getD 10 0) (P.getD 11 0) wd (restL_words HV2.out P 1) (by decide) (by decide) (by decide) (by decide) (by decide) (by decide) (by decide) (by decide) (by decide) (by decide)
                          have hst : Hid (mixL (restL V2 P 1) 1 6 11 12 (P.getD 10 0) (P.getD 11 0) = restL V2 P 2) := hidp rfl
                          have HVW := hidp (restL_words HV2.out P 2)
                          rw [p0, p1] at hmix hst
                          clear p0 p1
                          generalize (rowL r).getD 10 0 = q0 at s0 b0 hmix hst
                          generalize (rowL r).getD 11 0 = q1 at s1 b1 hmix hst
                          have m0 := (hd.out.1.bm.cell q0).trans (wvs_get (by rw [wordsL_len]; exact b0))
                          have m1 := (hd.out.1.bm.cell q1).trans (wvs_get (by rw [wordsL_len]; exact b1))
                          have b0 : (q0 : Int) < 16 := by omega
                          have b1 : (q1 : Int) < 16 := by omega
                          generalize (wordsL bl).getD q0 0 = x0 at m0 hmix hst
                          generalize (wordsL bl).getD q1 0 = x1 at m1 hmix hst
                          simp only [Int.cast_ofNat_Int] at hmix
                          have lv : (restL V2 P 1).length = 16 := (restL_words HV2.out P 1).1
                          have hrg := hd.out.1.bv
                          rw [hst.out] at hmix
                          clear hst
                          generalize restL V2 P 1 = VI at hmix lv hrg hd
                          have hnx : Hid (4 - 2 < 4 - 1) := hidp (by decide)
                          obtain ⟨VN, hVN⟩ : ∃ VN, VN = restL V2 P 2 := ⟨_, rfl⟩
                          rw [← hVN] at hmix HVW
                          replace hVN := hidp hVN
                          replace hmix := hidp hmix
                          replace lv := hidp lv
                          replace hrg := hidp hrg
                          have wr0 : IntKind.i64.wrap 0 = 0 := wrz.out 0 (by decide)
                          have wr1 : IntKind.i64.wrap 1 = 1 := wrz.out 1 (by decide)
                          have wr2 : IntKind.i64.wrap 2 = 2 := wrz.out 2 (by decide)
                          have wr3 : IntKind.i64.wrap 3 = 3 := wrz.out 3 (by decide)
                          have wr4 : IntKind.i64.wrap 4 = 4 := wrz.out 4 (by decide)
                          have wr5 : IntKind.i64.wrap 5 = 5 := wrz.out 5 (by decide)
                          have wr6 : IntKind.i64.wrap 6 = 6 := wrz.out 6 (by decide)
                          have wr7 : IntKind.i64.wrap 7 = 7 := wrz.out 7 (by decide)
                          have wr8 : IntKind.i64.wrap 8 = 8 := wrz.out 8 (by decide)
                          have wr9 : IntKind.i64.wrap 9 = 9 := wrz.out 9 (by decide)
                          have wr10 : IntKind.i64.wrap 10 = 10 := wrz.out 10 (by decide)
                          have wr11 : IntKind.i64.wrap 11 = 11 := wrz.out 11 (by decide)
                          have wr12 : IntKind.i64.wrap 12 = 12 := wrz.out 12 (by decide)
                          have wr13 : IntKind.i64.wrap 13 = 13 := wrz.out 13 (by decide)
                          have wr14 : IntKind.i64.wrap 14 = 14 := wrz.out 14 (by decide)
                          have wr15 : IntKind.i64.wrap 15 = 15 := wrz.out 15 (by decide)
                          have wr16 : IntKind.i64.wrap 16 = 16 := wrz.out 16 (by decide)
                          simp only [List.take_succ_cons, List.take_zero, List.drop_succ_cons, List.drop_zero]
                          refine wpStill_load_blk rfl 261 _ rfl (w.heap.size + 3) (wvs VI) 261 rfl hrg.out _ Tryz.underlying261 rfl (by rw [wvs_len, lv.out]; kernel_rfl) ?_
                          repeat still_step
                          try refine wpStill_nil ?_
                          clear wr0 wr1 wr2 wr3 wr4 wr5 wr6 wr7 wr8 wr9 wr10 wr11 wr12 wr13 wr14 wr15 wr16
                          clear s0 s1 m0 m1
                          go_wp2_with fail
                          refine hmix.out.mono ?_
                          rintro e w7 ⟨rfl, hB7⟩
                          have H7 := hidp (And.intro (hd.out.1.below hB7) (hd.out.2.below hB7 hd.out.2.lt))
                          clear hd hmix hrg hB7
                          go_wp2_with (refine wpList_store_blk rfl 261 _ _ rfl (w.heap.size + 3) (wvs VN) (wvs VI) 261 rfl rfl H7.out.1.bv (by rw [wvs_len, HVW.out.1]; kernel_rfl) (by rw [wvs_len, wvs_len, HVW.out.1, lv.out]) (wvs_one _) ?_; intro w8 hw8)
                          refine ⟨⟨2, by decide, rfl, ?_⟩, by simp [RowKit.intOf]⟩
                          have hbt : But (w.heap.size + 3) w7 w8 := hw8.out ▸ (But.refl _ _).setRow _
                          rw [← hVN.out]
                          exact hidp ⟨H7.out.1.butv hbt (hw8.out ▸ H7.out.1.bv.row), hbt.blk H7.out.2 (by have := hsb.out; omega)⟩
                        · simp only [Int.cast_ofNat_Int]
                          go_wp2_with fail
                          refine region_tail 28 (by kernel_rfl) (by kernel_rfl) ?_
                          intro wd hwd
                          have hd := hidp (show BlS w wd h (wordsL bl) (restL V2 P 2) ∧ Blk wd w1.heap.size (ints (rowL r)) 262 by rw [hwd.out]; exact ⟨hr.out.1.drew, hr.out.2.drew⟩)
                          clear hr hwd
                          have s0 : wd.cell? ⟨w1.heap.size, 12, none⟩ = _ := (hd.out.2.cell 12).trans (ints_get (by rw [rowL_len hR10.out]; decide))
                          have s1 : wd.cell? ⟨w1.heap.size, 13, none⟩ = _ := (hd.out.2.cell 13).trans (ints_get (by rw [rowL_len hR10.out]; decide))
                          have b0 := rowL_lt hR10.out 12
                          have b1 := rowL_lt hR10.out 13
                          have p0 : P.getD 12 0 = _ := (congrArg (fun l => List.getD l 12 0) hP.out).trans (pickL_get (m := wordsL bl) hR10.out (j := 12) (by decide))
                          have p1 : P.getD 13 0 = _ := (congrArg (fun l => List.getD l 13 0) hP.out).trans (pickL_get (m := wordsL bl) hR10.out (j := 13) (by decide))
                          have hmix := refMix_any 2 7 8 13 (restL V2 P 2) (P.getD 12 0) (P.getD 13 0) wd (restL_words HV2.out P 2) (by decide) (by decide) (by decide) (by decide) (by decide) (by decide) (by decide) (by decide) (by decide) (by decide)
                          have hst : Hid (mixL (restL V2 P 2) 2 7 8 13 (P.getD 12 0) (P.getD 13 0) = restL V2 P 3) := hidp rfl
                          have HVW := hidp (restL_words HV2.out P 3)
                          rw [p0, p1] at hmix hst
                          clear p0 p1
                          generalize (rowL r).getD 12 0 = q0 at s0 b0 hmix hst
                          generalize (rowL r).getD 13 0 = q1 at s1 b1 hmix hst
                          have m0 := (hd.out.1.bm.cell q0).trans (wvs_get (by rw [wordsL_len]; exact b0))
                          have m1 := (hd.out.1.bm.cell q1).trans (wvs_get (by rw [wordsL_len]; exact b1))
                          have b0 : (q0 : Int) < 16 := by omega
                          have b1 : (q1 : Int) < 16 := by omega
                          generalize (wordsL bl).getD q0 0 = x0 at m0 hmix hst
                          generalize (wordsL bl).getD q1 0 = x1 at m1 hmix hst
                          simp only [Int.cast_ofNat_Int] at hmix
                          have lv : (restL V2 P 2).length = 16 := (restL_words HV2.out P 2).1
                          have hrg := hd.out.1.bv
                          rw [hst.out] at hmix
                          clear hst
                          generalize restL V2 P 2 = VI at hmix lv hrg hd
                          have hnx : Hid (4 - 3 < 4 - 2) := hidp (by decide)
                          obtain ⟨VN, hVN⟩ : ∃ VN, VN = restL V2 P 3 := ⟨_, rfl⟩
                          rw [← hVN] at hmix HVW
                          replace hVN := hidp hVN
                          replace hmix := hidp hmix
                          replace lv := hidp lv
                          replace hrg := hidp hrg
                          have wr0 : IntKind.i64.wrap 0 = 0 := wrz.out 0 (by decide)
                          have wr1 : IntKind.i64.wrap 1 = 1 := wrz.out 1 (by decide)
                          have wr2 : IntKind.i64.wrap 2 = 2 := wrz.out 2 (by decide)
                          have wr3 : IntKind.i64.wrap 3 = 3 := wrz.out 3 (by decide)
                          have wr4 : IntKind.i64.wrap 4 = 4 := wrz.out 4 (by decide)
                          have wr5 : IntKind.i64.wrap 5 = 5 := wrz.out 5 (by decide)
                          have wr6 : IntKind.i64.wrap 6 = 6 := wrz.out 6 (by decide)
                          have wr7 : IntKind.i64.wrap 7 = 7 := wrz.out 7 (by decide)
                          have wr8 : IntKind.i64.wrap 8 = 8 := wrz.out 8 (by decide)
                          have wr9 : IntKind.i64.wrap 9 = 9 := wrz.out 9 (by decide)
                          have wr10 : IntKind.i64.wrap 10 = 10 := wrz.out 10 (by decide)
                          have wr11 : IntKind.i64.wrap 11 = 11 := wrz.out 11 (by decide)
                          have wr12 : IntKind.i64.wrap 12 = 12 := wrz.out 12 (by decide)
                          have wr13 : IntKind.i64.wrap 13 = 13 := wrz.out 13 (by decide)
                          have wr14 : IntKind.i64.wrap 14 = 14 := wrz.out 14 (by decide)
                          have wr15 : IntKind.i64.wrap 15 = 15 := wrz.out 15 (by decide)
                          have wr16 : IntKind.i64.wrap 16 = 16 := wrz.out 16 (by decide)
                          simp only [List.take_succ_cons, List.take_zero, List.drop_succ_cons, List.drop_zero]
                          refine wpStill_load_blk rfl 261 _ rfl (w.heap.size + 3) (wvs VI) 261 rfl hrg.out _ Tryz.underlying261 rfl (by rw [wvs_len, lv.out]; kernel_rfl) ?_
                          repeat still_step
                          try refine wpStill_nil ?_
                          clear wr0 wr1 wr2 wr3 wr4 wr5 wr6 wr7 wr8 wr9 wr10 wr11 wr12 wr13 wr14 wr15 wr16
                          clear s0 s1 m0 m1
                          go_wp2_with fail
                          refine hmix.out.mono ?_
                          rintro e w7 ⟨rfl, hB7⟩
                          have H7 := hidp (And.intro (hd.out.1.below hB7) (hd.out.2.below hB7 hd.out.2.lt))
                          clear hd hmix hrg hB7
                          go_wp2_with (refine wpList_store_blk rfl 261 _ _ rfl (w.heap.size + 3) (wvs VN) (wvs VI) 261 rfl rfl H7.out.1.bv (by rw [wvs_len, HVW.out.1]; kernel_rfl) (by rw [wvs_len, wvs_len, HVW.out.1, lv.out]) (wvs_one _) ?_; intro w8 hw8)
                          refine ⟨⟨3, by decide, rfl, ?_⟩, by simp [RowKit.intOf]⟩
                          have hbt : But (w.heap.size + 3) w7 w8 := hw8.out ▸ (But.refl _ _).setRow _
                          rw [← hVN.out]
                          exact hidp ⟨H7.out.1.butv hbt (hw8.out ▸ H7.out.1.bv.row), hbt.blk H7.out.2 (by have := hsb.out; omega)⟩
                        · simp only [Int.cast_ofNat_Int]
                          go_wp2_with fail
                          refine region_tail 28 (by kernel_rfl) (by kernel_rfl) ?_
                          intro wd hwd
                          have hd := hidp (show BlS w wd h (wordsL bl) (restL V2 P 3) ∧ Blk wd w1.heap.size (ints (rowL r)) 262 by rw [hwd.out]; exact ⟨hr.out.1.drew, hr.out.2.drew⟩)
                          clear hr hwd
                          have s0 : wd.cell? ⟨w1.heap.size, 14, none⟩ = _ := (hd.out.2.cell 14).trans (ints_get (by rw [rowL_len hR10.out]; decide))
                          have s1 : wd.cell? ⟨w1.heap.size, 15, none⟩ = _ := (hd.out.2.cell 15).trans (ints_get (by rw [rowL_len hR10.out]; decide))
                          have b0 := rowL_lt hR10.out 14
                          have b1 := rowL_lt hR10.out 15
                          have p0 : P.getD 14 0 = _ := (congrArg (fun l => List.getD l 14 0) hP.out).trans (pickL_get (m := wordsL bl) hR10.out (j := 14) (by decide))
                          have p1 : P.getD 15 0 = _ := (congrArg (fun l => List.getD l 15 0) hP.out).trans (pickL_get (m := wordsL bl) hR10.out (j := 15) (by decide))
                          have hmix := refMix_any 3 4 9 14 (restL V2 P 3) (P.getD 14 0) (P.getD 15 0) wd (restL_words HV2.out P 3) (by decide) (by decide) (by decide) (by decide) (by decide) (by decide) (by decide) (by decide) (by decide) (by decide)
                          have hst : Hid (mixL (restL V2 P 3) 3 4 9 14 (P.getD 14 0) (P.getD 15 0) = restL V2 P 4) := hidp rfl
                          have HVW := hidp (restL_words HV2.out P 4)
                          rw [p0, p1] at hmix hst
                          clear p0 p1
                          generalize (rowL r).getD 14 0 = q0 at s0 b0 hmix hst
                          generalize (rowL r).getD 15 0 = q1 at s1 b1 hmix hst
                          have m0 := (hd.out.1.bm.cell q0).trans (wvs_get (by rw [wordsL_len]; exact b0))
                          have m1 := (hd.out.1.bm.cell q1).trans (wvs_get (by rw [wordsL_len]; exact b1))
                          have b0 : (q0 : Int) < 16 := by omega
                          have b1 : (q1 : Int) < 16 := by omega
                          generalize (wordsL bl).getD q0 0 = x0 at m0 hmix hst
                          generalize (wordsL bl).getD q1 0 = x1 at m1 hmix hst
                          simp only [Int.cast_ofNat_Int] at hmix
                          have lv : (restL V2 P 3).length = 16 := (restL_words HV2.out P 3).1
                          have hrg := hd.out.1.bv
                          rw [hst.out] at hmix
                          clear hst
                          generalize restL V2 P 3 = VI at hmix lv hrg hd
                          have hnx : Hid (4 - 4 < 4 - 3) := hidp (by decide)
                          obtain ⟨VN, hVN⟩ : ∃ VN, VN = restL V2 P 4 := ⟨_, rfl⟩
                          rw [← hVN] at hmix HVW
                          replace hVN := hidp hVN
                          replace hmix := hidp hmix
                          replace lv := hidp lv
                          replace hrg := hidp hrg
                          have wr0 : IntKind.i64.wrap 0 = 0 := wrz.out 0 (by decide)
                          have wr1 : IntKind.i64.wrap 1 = 1 := wrz.out 1 (by decide)
                          have wr2 : IntKind.i64.wrap 2 = 2 := wrz.out 2 (by decide)
                          have wr3 : IntKind.i64.wrap 3 = 3 := wrz.out 3 (by decide)
                          have wr4 : IntKind.i64.wrap 4 = 4 := wrz.out 4 (by decide)
                          have wr5 : IntKind.i64.wrap 5 = 5 := wrz.out 5 (by decide)
                          have wr6 : IntKind.i64.wrap 6 = 6 := wrz.out 6 (by decide)
                          have wr7 : IntKind.i64.wrap 7 = 7 := wrz.out 7 (by decide)
                          have wr8 : IntKind.i64.wrap 8 = 8 := wrz.out 8 (by decide)
                          have wr9 : IntKind.i64.wrap 9 = 9 := wrz.out 9 (by decide)
                          have wr10 : IntKind.i64.wrap 10 = 10 := wrz.out 10 (by decide)
                          have wr11 : IntKind.i64.wrap 11 = 11 := wrz.out 11 (by decide)
                          have wr12 : IntKind.i64.wrap 12 = 12 := wrz.out 12 (by decide)
                          have wr13 : IntKind.i64.wrap 13 = 13 := wrz.out 13 (by decide)
                          have wr14 : IntKind.i64.wrap 14 = 14 := wrz.out 14 (by decide)
                          have wr15 : IntKind.i64.wrap 15 = 15 := wrz.out 15 (by decide)
                          have wr16 : IntKind.i64.wrap 16 = 16 := wrz.out 16 (by decide)
                          simp only [List.take_succ_cons, List.take_zero, List.drop_succ_cons, List.drop_zero]
                          refine wpStill_load_blk rfl 261 _ rfl (w.heap.size + 3) (wvs VI) 261 rfl hrg.out _ Tryz.underlying261 rfl (by rw [wvs_len, lv.out]; kernel_rfl) ?_
                          repeat still_step
                          try refine wpStill_nil ?_
                          clear wr0 wr1 wr2 wr3 wr4 wr5 wr6 wr7 wr8 wr9 wr10 wr11 wr12 wr13 wr14 wr15 wr16
                          clear s0 s1 m0 m1
                          go_wp2_with fail
                          refine hmix.out.mono ?_
                          rintro e w7 ⟨rfl, hB7⟩
                          have H7 := hidp (And.intro (hd.out.1.below hB7) (hd.out.2.below hB7 hd.out.2.lt))
                          clear hd hmix hrg hB7
                          go_wp2_with (refine wpList_store_blk rfl 261 _ _ rfl (w.heap.size + 3) (wvs VN) (wvs VI) 261 rfl rfl H7.out.1.bv (by rw [wvs_len, HVW.out.1]; kernel_rfl) (by rw [wvs_len, wvs_len, HVW.out.1, lv.out]) (wvs_one _) ?_; intro w8 hw8)
                          refine ⟨⟨4, by decide, rfl, ?_⟩, by simp [RowKit.intOf]⟩
                          have hbt : But (w.heap.size + 3) w7 w8 := hw8.out ▸ (But.refl _ _).setRow _
                          rw [← hVN.out]
                          exact hidp ⟨H7.out.1.butv hbt (hw8.out ▸ H7.out.1.bv.row), hbt.blk H7.out.2 (by have := hsb.out; omega)⟩
                      · obtain rfl : i = 4 := by omega
                        simp only [Int.cast_ofNat_Int]
                        go_wp2
                        refine ⟨⟨r + 1, by have := hR10.out; omega, by go_num, ?_⟩, by have := hR10.out; simp [RowKit.intOf]; omega⟩
                        have e : restL V2 P 4 = roundsL V0 (wordsL bl) (r + 1) := by rw [hV2.out, ← round_halves, hV.out, hP.out]; rfl
                        rw [← e]
                        exact hidp hr.out.1
              · obtain rfl : r = 10 := by omega
                simp only [Int.cast_ofNat_Int]
                have VW := hidp (roundsL_words HV0.out (wordsL bl) 10)
                have hfin : Hid (partH h (roundsL V0 (wordsL bl) 10) 8 = blockL h (wordsL bl) many (markL last)) := hidp (by rw [partH_all, hV0.out]; rfl)
                obtain ⟨v, hv⟩ : ∃ v, v = roundsL V0 (wordsL bl) 10 := ⟨_, rfl⟩
                rw [← hv] at VW hfin hr
                clear hv hr10 hrl HV0 hV0
                have R0 : Hid (BlS w wr (partH h v 0) (wordsL bl) v) := by rw [partH_zero h8.out]; exact hr
                clear hr
                go_wp2
                go_loopw [17] (fun x wr => ∃ i : Nat, i ≤ 8 ∧ x = .int .i64 i ∧ Hid (BlS w wr (partH h v i) (wordsL bl) v)) (fun x _ => 8 - (RowKit.intOf x).toNat)
                case atStart => exact ⟨0, by omega, rfl, R0⟩
                case round =>
                  obtain ⟨i, hi, rfl, hr⟩ := hrel
                  clear R0
                  by_cases h8i : i < 8
                  · have hI := hidp h8i
                    have hx : ∀ (wd : World), BlS w wd (partH h v i) (wordsL bl) v → wd.cell? ⟨w.heap.size, i, none⟩ = some (.int .u32 (h.getD i 0 : Nat)) ∧ wd.cell? ⟨w.heap.size + 3, i, none⟩ = some (.int .u32 (v.getD i 0 : Nat)) ∧ wd.cell? ⟨w.heap.size + 3, i + 8, none⟩ = some (.int .u32 (v.getD (i + 8) 0 : Nat)) ∧ wd.frozen? ⟨w.heap.size, i, none⟩ = false :=
                      fun _ H => ⟨(H.bh.cell i).trans ((wvs_get (by rw [partH_len]; exact h8i)).trans (by rw [partH_get h v h8i])), (H.bv.cell i).trans (wvs_get (by rw [VW.out.1]; omega)), (H.bv.cell (i + 8)).trans (wvs_get (by rw [VW.out.1]; omega)), H.bh.free _⟩
                    replace hx := hidp hx
                    have lx := xorW_lt (HH.out.get i) (VW.out.get i)
                    have e1 := xor_word (HH.out.get i) (VW.out.get i)
                    have e2 := xor_word lx (VW.out.get (i + 8))
                    have hset := partH_set h v h8i
                    rw [← assocW] at hset
                    clear lx
                    generalize h.getD i 0 = ha at hx e1 e2 hset
                    generalize v.getD i 0 = va at hx e1 e2 hset
                    generalize v.getD (i + 8) 0 = vb at hx e1 e2 hset
                    replace hset := hidp hset
                    have hi8 : (i : Int) < 8 := by omega
                    have hi16 : (i : Int) + 8 < 16 := by omega
                    have hi17 : (i : Int) < 16 := by omega
                    have hw8 : IntKind.i64.wrap ((i : Int) + 8) = (i : Int) + 8 := by rw [IntKind.wrap_i64]; omega
                    have hw9 : (0 : Int) ≤ (i : Int) + 8 := by omega
                    have hw10 : ((i : Int) + 8).toNat = i + 8 := by omega
                    clear h8i
                    go_wp2
                    refine region_tail 13 (by kernel_rfl) (by kernel_rfl) ?_
                    intro wd hwd
                    have hd := hidp (hwd.out.symm ▸ hr.out.drew)
                    clear hr hwd
                    obtain ⟨x1, x2, x3, x4⟩ := hx.out _ hd.out
                    clear hx
                    simp only [List.take_succ_cons, List.take_zero, List.drop_succ_cons, List.drop_zero]
                    repeat still_step
                    try refine wpStill_nil ?_
                    go_wp2
                    refine ⟨⟨i + 1, by have := hI.out; omega, by go_num, ?_⟩, by have := hI.out; simp [RowKit.intOf]; omega⟩
                    rw [← hset.out]
                    exact hidp (hd.out.seth i _)
                  · obtain rfl : i = 8 := by omega
                    simp only [Int.cast_ofNat_Int]
                    have lw : Hid ((blockL h (wordsL bl) many (markL last)).length = 8) := hidp (by rw [← hfin.out]; exact partH_len _ _ _)
                    have bh := hidp (show Blk wr w.heap.size (wvs (blockL h (wordsL bl) many (markL last))) 203 by rw [← hfin.out]; exact hr.out.bh)
                    have br := hidp hr.out.br
                    have bel := hidp hr.out.bel
                    clear hr hi h8i
                    go_wp2_with (first | refine wpList_load_blk rfl 203 _ rfl _ _ _ rfl bh.out _ Tryz.underlying203 rfl (by rw [wvs_len, lw.out]; kernel_rfl) ?_ | (refine wpList_store_blk rfl 203 _ _ rfl _ _ _ _ rfl rfl br.out (by rw [wvs_len, lw.out]; kernel_rfl) (by rw [wvs_len, wvs_len, lw.out]; rfl) (wvs_one _) ?_; intro w2 hw2))
                    have b2 : Blk w2 (w.heap.size + 1) (wvs (blockL h (wordsL bl) many (markL last))) 203 := by rw [hw2.out]; exact br.out.row
                    refine bodyPost_ret (v := .agg (wvs (blockL h (wordsL bl) many (markL last))).toArray) ?_ rfl ⟨rfl, ?_⟩
                    · exact results_cell_row Tryz.results159 _ _ (w.heap.size + 1) 203 _ (0, 0) _ rfl b2 Tryz.underlying203 rfl (by rw [List.size_toArray, wvs_len, lw.out]; kernel_rfl)
                    · rw [hw2.out]; exact below_setRow bel.out (Nat.le_succ _) _
end Go.Proofs.YtcmkmnidnapabaaGreat

/-! Il: Plain: the answer's way to the last words: all bytes padded, block by block. -/
namespace Go.Proofs.YtcmkmnidnapabaaGreat
open Go.RowKit Go.Lib

/-- How many bytes there are with the zeros behind them. -/
def fillM (n : Nat) : Nat := 64 * aheadL n + 64
theorem fillM_ge (n : Nat) : n ≤ fillM n := by unfold fillM aheadL; omega
theorem fillM_le (n : Nat) : fillM n ≤ n + 64 := by unfold fillM aheadL; omega
theorem fillM_go {n k : Nat} (h : n ≤ k) (hk : k < fillM n) : k = 0 ∨ k % 64 ≠ 0 := by
  unfold fillM aheadL at hk
  omega
theorem fillM_end (n : Nat) : fillM n ≠ 0 ∧ fillM n % 64 = 0 := by unfold fillM; omega
def allL (L : List Nat) (k : Nat) : List Nat := L ++ List.replicate (k - L.length) 0
theorem allL_len (L : List Nat) {k : Nat} (h : L.length ≤ k) : (allL L k).length = k := by unfold allL; simp; omega
theorem allL_start (L : List Nat) : allL L L.length = L := by unfold allL; simp
theorem allL_more (L : List Nat) {k : Nat} (h : L.length ≤ k) : allL L k ++ [0] = allL L (k + 1) := by
  unfold allL
  rw [List.append_assoc, show k + 1 - L.length = (k - L.length) + 1 by omega, List.replicate_succ']
theorem allL_bytes {L : List Nat} (h : ∀ x ∈ L, x < 256) (k : Nat) : ∀ x ∈ allL L k, x < 256 := by
  intro x hx
  unfold allL at hx
  rcases List.mem_append.1 hx with hx | hx
  · exact h x hx
  · rw [(List.mem_replicate.1 hx).2]; decide
/-- Block k. -/
def blkL (L : List Nat) (k : Nat) : List Nat := ((allL L (fillM L.length)).drop (64 * k)).take 64
theorem blkL_bytes {L : List Nat} (h : ∀ x ∈ L, x < 256) {k : Nat} (hk : k ≤ aheadL L.length) : Bytes 64 (blkL L k) := by
  refine ⟨?_, fun x hx => allL_bytes h _ x (List.mem_of_mem_drop (List.mem_of_mem_take hx))⟩
  unfold blkL
  rw [List.length_take, List.length_drop, allL_len L (fillM_ge _)]
  unfold fillM; omega
theorem blkL_full {L : List Nat} {k : Nat} (hk : k < aheadL L.length) : blkL L k = (L.drop (64 * k)).take 64 := by
  have h1 : 64 * (k + 1) ≤ L.length := by unfold aheadL at hk; omega
  unfold blkL allL
  rw [List.drop_append_of_le_length (by omega), List.take_append_of_le_length (by rw [List.length_drop]; omega)]
theorem blkL_last (L : List Nat) : blkL L (aheadL L.length) = padL (tailL L) := by
  have h1 : 64 * aheadL L.length ≤ L.length := by unfold aheadL; omega
  have h2 := tailL_len L
  have h3 := filledN_le L.length
  have h4 : (tailL L).length = L.length - 64 * aheadL L.length := by unfold tailL; rw [List.length_drop]
  unfold blkL allL
  rw [List.drop_append_of_le_length h1]
  show (tailL L ++ _).take 64 = _
  unfold padL
  rw [List.take_of_length_le (by rw [List.length_append, List.length_replicate]; unfold fillM; omega)]
  congr 2
  unfold fillM
  omega
/-- The words behind k blocks. -/
def hN (L : List Nat) (k : Nat) : List Nat := if k ≤ aheadL L.length then fullL L k else lastL L
theorem hN_zero (L : List Nat) : hN L 0 = startL := by unfold hN; rw [if_pos (Nat.zero_le _)]; rfl
theorem hN_end (L : List Nat) : hN L (aheadL L.length + 1) = lastL L := by unfold hN; rw [if_neg (by omega)]
theorem hN_words (L : List Nat) (k : Nat) : Words 8 (hN L k) := by
  unfold hN; split
  · exact fullL_words _ _
  · exact lastL_words _
theorem hN_step (L : List Nat) {k : Nat} (hk : k ≤ aheadL L.length) : blockL (hN L k) (wordsL (blkL L k)) (min L.length (64 * k + 64)) (markL (decide (64 * k + 64 = fillM L.length))) = hN L (k + 1) := by
  by_cases h : k < aheadL L.length
  · have h1 : 64 * (k + 1) ≤ L.length := by unfold aheadL at h; omega
    have h2 : ¬ 64 * k + 64 = fillM L.length := by unfold fillM; omega
    unfold hN
    rw [if_pos hk, if_pos (by omega), blkL_full h, decide_eq_false h2, show min L.length (64 * k + 64) = 64 * (k + 1) by omega]
    rfl
  · have h0 : k = aheadL L.length := by omega
    subst h0
    have h2 : 64 * aheadL L.length + 64 = fillM L.length := rfl
    rw [hN_end, blkL_last, decide_eq_true h2, wordsL_pad, show min L.length (64 * aheadL L.length + 64) = L.length by have := fillM_ge L.length; unfold fillM at this; omega]
    unfold hN
    rw [if_pos (Nat.le_refl _)]
    rfl
theorem start_set : initL.set 0 (xorW 1779033703 16842784) = startL := by decide

/-- The bytes of words, the first i of them. -/
def partO (h : List Nat) (i : Nat) : List Nat := (List.range 32).map fun j => if j < i then byteN (h.getD (j / 4) 0) (j % 4) else 0
theorem partO_len (h : List Nat) (i : Nat) : (partO h i).length = 32 := by unfold partO; simp
theorem partO_zero (h : List Nat) : partO h 0 = List.replicate 32 0 := by unfold partO; rfl
theorem partO_all (h : List Nat) : partO h 32 = bytesL h := by
  unfold partO bytesL byteN
  apply List.map_congr_left
  intro j hj
  rw [if_pos (by simpa using hj)]
theorem partO_set (h : List Nat) {i : Nat} (hi : i < 32) : (partO h i).set i (byteN (h.getD (i / 4) 0) (i % 4)) = partO h (i + 1) := by
  apply List.ext_getElem?
  intro n
  unfold partO
  rw [List.getElem?_set]
  by_cases h : i = n
  · subst h; simp [hi]
  · simp only [h, if_false, List.getElem?_map]
    by_cases hn : n < 32
    · simp only [List.getElem?_range, hn, Option.map_some]
      by_cases h2 : n < i
      · rw [if_pos h2, if_pos (by omega)]
      · rw [if_neg h2, if_neg (by omega)]
    · rw [List.getElem?_eq_none (by simp; omega)]; rfl
/-- A row of one's own, read. -/
theorem own_bytes {w : World} {base n : Nat} {v : Value} {A : List Nat} (h : w.ownsRow base 5 1 v n (bvs A)) (hn : A.length = n) (h0 : 0 < n) : ∃ g cap, v = .slice (some ⟨g, 0, none⟩) n cap ∧ base ≤ g ∧ n ≤ cap ∧ g < w.heap.size ∧ BytesAt w g 0 A := by
  subst hn
  rcases h.2 with ⟨_, h2⟩ | ⟨g, cap, cur, h1, h2, h3, h4, _, h6, h7⟩
  · omega
  · rw [Nat.mul_one] at h7
    have hb : Blk w g (bvs A ++ cur.toList.drop A.length) 5 := by unfold Blk; rw [h3, ← h7, List.take_append_drop]
    refine ⟨g, cap, h1, h2, h4, hb.lt, fun i hi => ?_⟩
    rw [Nat.zero_add, hb.cell i, List.getElem?_append_left (by rw [bvs_len]; exact hi)]
    exact bvs_get hi
theorem blkL_at (L : List Nat) (k : Nat) {i : Nat} (hi : i < 64) : (allL L (fillM L.length)).getD (64 * k + i) 0 = (blkL L k).getD i 0 := by
  unfold blkL
  rw [List.getD_eq_getElem?_getD, List.getD_eq_getElem?_getD, List.getElem?_take_of_lt hi, List.getElem?_drop]
end Go.Proofs.YtcmkmnidnapabaaGreat

/-! Im: Contract of the answer's hash: Sum. -/
namespace Go.Proofs.YtcmkmnidnapabaaGreat
open Go.RowKit Go.Maps

def lenOf (x : Value) : Nat := match x with | .slice _ n _ => n | _ => 0
theorem grown_blk {w w' : World} {v : Value} {base n b : Nat} {xs cs : List Value} {T : TypeId} (h : w.grownBy w' v.ownBlock) (ho : w.ownsRow base 5 1 v n xs) (hb : Blk w b cs T) (hlt : b < base) : Blk w' b cs T :=
  (h.block b hb.lt (fun e => by have := (ho.lt b e.symm).1; omega)).trans hb
/-- While zeros are appended. -/
structure SmA (w wr : World) (L : List Nat) (v : Value) (k : Nat) : Prop where
  own : wr.ownsRow (w.heap.size + 1) 5 1 v k (bvs (allL L k))
  res : Blk wr w.heap.size zV32 39
  bel : Below w.heap.size w wr
  siz : w.heap.size + 1 ≤ wr.heap.size
/-- While blocks are put in. -/
structure SmB (w wr : World) (L : List Nat) (g c : Nat) (h : List Nat) : Prop where
  row : Blk wr c (wvs h) 203
  byt : BytesAt wr g 0 (allL L (fillM L.length))
  gl : g < wr.heap.size
  res : Blk wr w.heap.size zV32 39
  bel : Below w.heap.size w wr
  ne : w.heap.size < c ∧ w.heap.size < g ∧ c ≠ g
theorem SmB.drew {w wr : World} {L : List Nat} {g c : Nat} {h : List Nat} (H : SmB w wr L g c h) : SmB w wr.drew L g c h := ⟨H.row.drew, H.byt, H.gl, H.res.drew, H.bel.drew, H.ne⟩
theorem BytesAt.below {w w' : World} {g o : Nat} {A : List Nat} (h : BytesAt w g o A) (hg : g < w.heap.size) (hb : Below w.heap.size w w') : BytesAt w' g o A := fun i hi => (hb.cell (p := ⟨g, o + i, none⟩) hg).trans (h i hi)
theorem SmB.below {w wr w' : World} {L : List Nat} {g c : Nat} {h : List Nat} (H : SmB w wr L g c h) (hb : Below wr.heap.size wr w') : SmB w w' L g c h :=
  ⟨H.row.below hb H.row.lt, H.byt.below H.gl hb, Nat.lt_of_lt_of_le H.gl hb.size, H.res.below hb H.res.lt, btrans H.bel hb, H.ne⟩
theorem But.bytesAt {b g o : Nat} {w w' : World} {A : List Nat} (h : But b w w') (hA : BytesAt w g o A) (hne : g ≠ b) : BytesAt w' g o A := fun i hi => (World.cell?_of_block (a := ⟨g, o + i, none⟩) (h.block g hne)).trans (hA i hi)
theorem SmB.put {w wr w' : World} {L : List Nat} {g c : Nat} {h h' : List Nat} (H : SmB w wr L g c h) (hb : But c wr w') (hr : Blk w' c (wvs h') 203) : SmB w w' L g c h' :=
  ⟨hr, hb.bytesAt H.byt (fun e => H.ne.2.2 e.symm), by rw [hb.size]; exact H.gl, hb.blk H.res (by have := H.ne.1; omega), H.bel.trans (hb.below (by have := H.ne.1; omega)), H.ne⟩

theorem new_one (w : World) : ∀ j u, (bvs [0])[j]? = some u → (w.alloc (.cells (bvs [0]).toArray 5)).cell? ((⟨w.heap.size, 0, none⟩ : Addr).add j) = some u := fun j u hj => by
  rw [show (⟨w.heap.size, 0, none⟩ : Addr).add j = ⟨w.heap.size, j, none⟩ by unfold Addr.add; split <;> simp_all]
  exact ((Blk.new w (bvs [0]) _).cell j).trans hj

set_option maxRecDepth 100000 in
set_option maxHeartbeats 8000000 in
theorem refSum_any {w : World} {a : Option Addr} {cap : Nat} {L : List Nat} (hL : ByS w a cap L) (hn : L.length ≤ 1000) :
    Calls Tryz.prog 85 #[.slice a L.length cap] w fun e w' => e = .returned (.agg (bvs (hashL L)).toArray) ∧ Below w.heap.size w w' := by
  obtain ⟨i0, hi, hz0, hz1, hz2⟩ := info_parts info_byte
  have hB : Hid (Below w.heap.size w ((w.alloc (.cells zV32.toArray 39)).alloc (.cells #[] 5))) := hidp (((Below.refl _ w).alloc (Nat.le_refl _) _).alloc (by simp) _)
  have HS2 := hidp (hL.below (((Below.refl _ w).alloc (Nat.le_refl _) (.cells zV32.toArray 39)).alloc (by simp) (.cells #[] 5)))
  have HN := hidp hn
  have hbt := hidp hL.byte
  have hr0 := hidp ((Blk.new w zV32 39).alloc (.cells #[] 5))
  have hown : Hid (((w.alloc (.cells zV32.toArray 39)).alloc (.cells #[] 5)).ownsRow (w.heap.size + 1) 5 1 (.slice (some ⟨w.heap.size + 1, 0, none⟩) 0 0) 0 []) := by
    have q := own_nothing (w.alloc (.cells zV32.toArray 39))
    rw [show (w.alloc (.cells zV32.toArray 39)).heap.size = w.heap.size + 1 by simp] at q
    exact hidp q
  clear hL hn
  go_enter Tryz.func85, Tryz.ntmps85
  go_wp2_with (at_builtin; refine wpList_append_byS rfl _ _ rfl (w.heap.size + 1) 0 [] _ rfl hown.out a cap L rfl HS2.out (by have := HN.out; omega) (by simp) ?_; intro v' w1 hown' hgrow; have hA := hidp (SmA.mk (L := L) (by rw [allL_start]; simpa using hown') (grown_blk hgrow hown.out hr0.out (by omega)) (hB.out.grown hgrow (by simp; omega) (fun j hj => by have := (hown.out.lt j hj).1; omega)) (by have := hgrow.size; simp at this; omega)); clear hown' hgrow)
  clear hB HS2 hr0 hown
  go_loopw [3] (fun x wr => ∃ k : Nat, L.length ≤ k ∧ k ≤ fillM L.length ∧ Hid (SmA w wr L x k)) (fun x _ => fillM L.length - lenOf x)
  case atStart => exact ⟨L.length, Nat.le_refl _, fillM_ge _, hA⟩
  case round =>
    obtain ⟨k, hk1, hk2, hr⟩ := hrel
    clear hA
    by_cases hk : k < fillM L.length
    · obtain ⟨p, c, rfl⟩ := own_slice hr.out.own
      have HK := hidp (And.intro hk1 hk)
      have hle := fillM_le L.length
      have hor : (((k : Int) == 0) = true) ∨ ((((k : Int) == 0) = false) ∧ ((((k : Int) % 64) == 0) = false) ∧ ((((k : Int) % 64) != 0) = true)) := by
        rcases fillM_go hk1 hk with h | h
        · exact .inl (by rw [beq_iff_eq]; omega)
        · exact .inr ⟨by rw [beq_eq_false_iff_ne]; omega, by rw [beq_eq_false_iff_ne]; omega, by rw [bne_iff_ne]; omega⟩
      have hend : ∀ v2 w2, w2.ownsRow (w.heap.size + 1) 5 1 v2 (k + 1) (bvs (allL L k) ++ bvs [0]) → (wr.alloc (.cells (bvs [0]).toArray 5)).grownBy w2 (Value.slice p k c).ownBlock → Hid (SmA w w2 L v2 (k + 1)) ∧ lenOf v2 = k + 1 := fun v2 w2 h2 hg => by
        have ho := hr.out.own.alloc (.cells (bvs [0]).toArray 5)
        obtain ⟨p2, c2, e2⟩ := own_slice h2
        refine ⟨hidp ⟨?_, grown_blk hg ho (hr.out.res.alloc _) (by omega), (hr.out.bel.alloc hr.out.bel.size _).grown hg (by have := hr.out.bel.size; simp; omega) (fun j hj => by have := (ho.lt j hj).1; omega), by have := hg.size; have := hr.out.siz; simp at *; omega⟩, by rw [e2]; rfl⟩
        rw [← allL_more L hk1]
        unfold bvs at h2 ⊢
        rw [List.map_append]; exact h2
      have hend := hidp hend
      have hle2 := hidp hle
      clear hk1 hk2 hk hle
      rcases hor with h0 | ⟨h0, h1, h2⟩
      · go_wp2_with (at_builtin; refine wpList_append_own _ rfl _ _ 35 rfl (w.heap.size + 1) 5 i0 (.int .u8 0) 1 1 Tryz.underlying35 hi hz0 hz1 hz2 rfl (by decide) _ _ _ rfl (hr.out.own.alloc _) ⟨wr.heap.size, 0, none⟩ 1 1 (bvs [0]) rfl rfl (new_one wr) (bvs_oneL _) (by have := HN.out; have := HK.out.2; have := hle2.out; unfold maxLen; omega) (by have := HN.out; have := HK.out.2; have := hle2.out; omega) (by have := hr.out.siz; simp; omega) ?_; intro v2 w2 hown2 hgrow2 _; have hE := hidp (hend.out v2 w2 hown2 hgrow2); clear hown2 hgrow2)
        have hE := hE.out
        refine ⟨⟨k + 1, by have := HK.out.1; omega, by have := HK.out.2; omega, hE.1⟩, ?_⟩
        have h1 : lenOf v2 = k + 1 := hE.2
        have h2 := HK.out.2
        show fillM L.length - lenOf v2 < fillM L.length - k
        omega
      · go_wp2_with (at_builtin; refine wpList_append_own _ rfl _ _ 35 rfl (w.heap.size + 1) 5 i0 (.int .u8 0) 1 1 Tryz.underlying35 hi hz0 hz1 hz2 rfl (by decide) _ _ _ rfl (hr.out.own.alloc _) ⟨wr.heap.size, 0, none⟩ 1 1 (bvs [0]) rfl rfl (new_one wr) (bvs_oneL _) (by have := HN.out; have := HK.out.2; have := hle2.out; unfold maxLen; omega) (by have := HN.out; have := HK.out.2; have := hle2.out; omega) (by have := hr.out.siz; simp; omega) ?_; intro v2 w2 hown2 hgrow2 _; have hE := hidp (hend.out v2 w2 hown2 hgrow2); clear hown2 hgrow2)
        have hE := hE.out
        refine ⟨⟨k + 1, by have := HK.out.1; omega, by have := HK.out.2; omega, hE.1⟩, ?_⟩
        have h1 : lenOf v2 = k + 1 := hE.2
        have h2 := HK.out.2
        show fillM L.length - lenOf v2 < fillM L.length - k
        omega
    · have hkM : k = fillM L.length := by omega
      have hend := fillM_end L.length
      have hle := fillM_le L.length
      rw [← hkM] at hend hle
      obtain ⟨g, c, rfl, hg1, hg2, hg3, hA⟩ := own_bytes hr.out.own (allL_len L hk1) (by omega)
      have b0 : ((k : Int) == 0) = false := by rw [beq_eq_false_iff_ne]; omega
      have b1 : (((k : Int) % 64) == 0) = true := by rw [beq_iff_eq]; omega
      have b2 : (((k : Int) % 64) != 0) = false := by rw [bne_eq_false_iff_eq]; omega
      have HG := hidp (And.intro hg1 (And.intro hg2 hg3))
      replace hA := hidp hA
      have HE := hidp (And.intro hkM (And.intro hend hle))
      clear hk1 hk2 hk hkM hend hle hg1 hg2 hg3
      go_wp2_with fail
      refine (refBegin_any _).mono ?_
      rintro e w1 ⟨rfl, hB1⟩
      replace hB1 := hidp hB1
      clear b0 b1 b2
      have hz := hidp (Blk.new w1 (wvs (List.replicate 8 0)) 203)
      have e0 := xor_word (a := 1779033703) (b := 16842784) (by decide) (by decide)
      simp only [Int.cast_ofNat_Int] at e0
      go_wp2_with (refine wpList_store_blk rfl 203 _ _ rfl w1.heap.size (wvs initL) (wvs (List.replicate 8 0)) 203 rfl rfl hz.out (by kernel_rfl) rfl (wvs_one _) ?_; intro w2 hw2; have hR := hidp (show Blk w2 w1.heap.size (wvs initL) 203 by rw [hw2.out]; exact hz.out.row); have r0 : w2.cell? ⟨w1.heap.size, 0, none⟩ = some (.int .u32 1779033703) := hR.out.cell 0; have f0 := hR.out.free 0)
      have hBN : Hid (SmB w (w2.setCell ⟨w1.heap.size, 0, none⟩ (.int .u32 (xorW 1779033703 16842784 : Nat))) L g w1.heap.size (hN L 0)) := by
        have hsz := hB1.out.size
        have hgl := HG.out.2.2
        have hgw := HG.out.1
        have h1 := hB1.out.alloc hsz (.cells (wvs (List.replicate 8 0)).toArray 203)
        have hbt : But w1.heap.size (w1.alloc (.cells (wvs (List.replicate 8 0)).toArray 203)) w2 := hw2.out ▸ (But.refl _ _).setRow _
        have hA2 : BytesAt wr g 0 (allL L (fillM L.length)) := HE.out.1 ▸ hA.out
        have H2 : SmB w w2 L g w1.heap.size initL := ⟨hR.out, hbt.bytesAt (hA2.below hgl h1) (by omega), by rw [hbt.size]; simp; omega, hbt.blk (hr.out.res.below h1 hr.out.res.lt) (by have := hr.out.res.lt; omega), (btrans hr.out.bel h1).trans (hbt.below (by have := hr.out.bel.size; omega)), by omega⟩
        rw [hN_zero, ← start_set]
        exact hidp (H2.put ((But.refl _ w2).setCell 0 _) (wvs_set _ _ _ ▸ hR.out.set 0 _))
      clear hw2 hz r0 f0 e0 hR hr hB1
      go_loopw [5] (fun x wr => ∃ t j : Nat, x = .int .i64 t ∧ Hid (t = 64 * j ∧ j ≤ aheadL L.length + 1) ∧ Hid (SmB w wr L g w1.heap.size (hN L j))) (fun x _ => fillM L.length - (Go.RowKit.intOf x).toNat)
      case atStart => exact ⟨0, 0, rfl, hidp ⟨rfl, Nat.zero_le _⟩, hBN⟩
      case round =>
        obtain ⟨t, j, rfl, ht, hr⟩ := hrel
        clear hBN
        by_cases htk : t < k
        · have hj : j ≤ aheadL L.length := by have h1 := ht.out; have h2 := HE.out.1; unfold fillM at h2; omega
          obtain ⟨k2, hk2⟩ : ∃ k2, k2 = t + 64 := ⟨_, rfl⟩
          have hle2 : k2 ≤ k := by have h1 := ht.out; have h2 := HE.out.1; unfold fillM at h2; omega
          have hsl := fun w => run_part_lh (some ⟨g, 0, none⟩) k c t 64 k2 (by omega) (by have := HG.out.2.1; omega) w
          have hpa : partA (some ⟨g, 0, none⟩) c t = some ⟨g, t, none⟩ := by
            unfold partA
            have := HG.out.2.1
            rw [if_neg (by omega)]
            simp [Addr.add_mid]
          rw [hpa] at hsl
          have u1 : (t : Int) + 64 = (k2 : Int) := by omega
          have u2 : IntKind.i64.wrap (k2 : Int) = (k2 : Int) := by have := HE.out.2.2; have := HN.out; rw [IntKind.wrap_i64]; omega
          have u3 : wrap64 (k2 : Int) = (k2 : Int) := by have := HE.out.2.2; have := HN.out; rw [w64 _ (by omega)]
          obtain ⟨mn, hmn⟩ : ∃ mn, mn = min L.length k2 := ⟨_, rfl⟩
          have u4 : min (L.length : Int) (k2 : Int) = (mn : Int) := by omega
          obtain ⟨lb, hlb⟩ : ∃ lb, lb = ((k2 : Int) == (k : Int)) := ⟨_, rfl⟩
          have u5 : ((k2 : Int) == (k : Int)) = lb := hlb.symm
          have hlb2 : lb = decide (64 * j + 64 = fillM L.length) := by
            rw [hlb]
            have h1 := ht.out; have h2 := HE.out.1
            by_cases hq : 64 * j + 64 = fillM L.length
            · rw [decide_eq_true hq, beq_iff_eq]; omega
            · rw [decide_eq_false hq, beq_eq_false_iff_ne]; omega
          have hmn2 : mn = min L.length (64 * j + 64) := by have h1 := ht.out; omega
          have hstep := hN_step L hj
          rw [← hlb2, ← hmn2] at hstep
          have HSt := hidp hstep
          have hmn3 : mn ≤ 100000 := by have := HN.out; omega
          have hcall := fun (wd : World) (H : SmB w wd L g w1.heap.size (hN L j)) => refBlock_any (hN L j) (blkL L j) g t (c - t) mn lb wd (hN_words L j) (blkL_bytes hbt.out hj) hmn3 H.gl (fun i hi => by
            have hi : i < 64 := by rw [(blkL_bytes hbt.out hj).1] at hi; exact hi
            have h1 := ht.out.1
            have h2 := H.byt (64 * j + i) (by rw [allL_len L (fillM_ge _)]; have := HE.out.1; omega)
            rw [Nat.zero_add, blkL_at L j hi] at h2
            rw [h1]; exact h2)
          replace hcall := hidp hcall
          have HT := hidp (And.intro htk (And.intro hk2 hj))
          have hwN := hidp (hN_words L (j + 1))
          have hwO := hidp (hN_words L j)
          clear hstep hlb hlb2 hmn hmn2 hmn3 hle2 hk2 hj hpa
          go_wp2_with fail
          refine region_tail 16 (by kernel_rfl) (by kernel_rfl) ?_
          intro wd hwd
          have hd := hidp (show SmB w wd L g w1.heap.size (hN L j) by rw [hwd.out]; exact hr.out.drew)
          clear hr hwd
          simp only [List.take_succ_cons, List.take_zero, List.drop_succ_cons, List.drop_zero]
          refine wpStill_load_blk rfl 203 _ rfl w1.heap.size (wvs (hN L j)) 203 rfl hd.out.row _ Tryz.underlying203 rfl (by rw [wvs_len, hwO.out.1]; kernel_rfl) ?_
          repeat still_step
          try refine wpStill_nil ?_
          go_wp2_with fail
          refine (hcall.out _ hd.out).mono ?_
          rintro e w7 ⟨rfl, hB7⟩
          rw [HSt.out]
          have H7 := hidp (hd.out.below hB7)
          clear hd hcall hB7 hsl
          go_wp2_with (refine wpList_store_blk rfl 203 _ _ rfl w1.heap.size (wvs (hN L (j + 1))) (wvs (hN L j)) 203 rfl rfl H7.out.row (by rw [wvs_len, hwN.out.1]; kernel_rfl) (by rw [wvs_len, wvs_len, hwN.out.1, hwO.out.1]) (wvs_one _) ?_; intro w8 hw8)
          have hbt8 : But w1.heap.size w7 w8 := hw8.out ▸ (But.refl _ _).setRow _
          have ht1 := ht.out.1
          refine ⟨⟨k2, j + 1, rfl, hidp ⟨by have := HT.out.2.1; omega, by have := HT.out.2.2; omega⟩, hidp (H7.out.put hbt8 (hw8.out ▸ H7.out.row.row))⟩, ?_⟩
          have h2 := HT.out.2.1
          have h3 := HT.out.1
          have h4 := HE.out.1
          show fillM L.length - (k2 : Int).toNat < fillM L.length - (t : Int).toNat
          omega
        · rename World => wo
          have hj : j = aheadL L.length + 1 := by have h1 := ht.out; have h2 := HE.out.1; unfold fillM at h2; omega
          have htk2 : t = k := by have h1 := ht.out; have h2 := HE.out.1; unfold fillM at h2; omega
          have hW := hidp (lastL_words L)
          have hr : Hid (SmB w wo L g w1.heap.size (lastL L)) := by have := hr.out; rw [hj, hN_end] at this; exact hidp this
          have hlt : ¬ t < k := htk
          have hO : Hid (Blk (wo.alloc (.cells zV32.toArray 39)) wo.heap.size (bvs (partO (lastL L) 0)) 39 ∧ Blk (wo.alloc (.cells zV32.toArray 39)) w1.heap.size (wvs (lastL L)) 203 ∧ Blk (wo.alloc (.cells zV32.toArray 39)) w.heap.size zV32 39 ∧ Below w.heap.size w (wo.alloc (.cells zV32.toArray 39))) := by
            rw [partO_zero]
            exact hidp ⟨Blk.new _ _ _, hr.out.row.alloc _, hr.out.res.alloc _, hr.out.bel.alloc hr.out.bel.size _⟩
          have hne : Hid (w.heap.size < wo.heap.size ∧ w1.heap.size ≠ wo.heap.size ∧ w.heap.size ≠ w1.heap.size) := hidp ⟨by have := hr.out.res.lt; omega, by have := hr.out.row.lt; omega, by have := hr.out.ne.1; omega⟩
          have hkk : decide (t < k) = false := decide_eq_false htk
          clear hr ht hj htk2 htk hlt
          go_wp2
          go_loopw [7] (fun x wt => ∃ i : Nat, i ≤ 32 ∧ x = .int .i64 i ∧ Hid (Blk wt wo.heap.size (bvs (partO (lastL L) i)) 39 ∧ Blk wt w1.heap.size (wvs (lastL L)) 203 ∧ Blk wt w.heap.size zV32 39 ∧ Below w.heap.size w wt)) (fun x _ => 32 - (Go.RowKit.intOf x).toNat)
          case atStart => exact ⟨0, by omega, rfl, hO⟩
          case round =>
            obtain ⟨i, hi, rfl, hr⟩ := hrel
            clear hO
            by_cases h32 : i < 32
            · have HI := hidp h32
              have hset := hidp (partO_set (lastL L) h32)
              have hq8 : i / 4 < 8 := by omega
              have hc := (hr.out.2.1.cell (i / 4)).trans (wvs_get (by rw [hW.out.1]; exact hq8))
              have hx := hW.out.get (i / 4)
              have hfree := hr.out.1.free i
              obtain ⟨vo, ho⟩ : ∃ v, wr.cell? ⟨wo.heap.size, i, none⟩ = some v := ⟨_, (hr.out.1.cell i).trans (bvs_get (by rw [partO_len]; exact h32))⟩
              have hm4 : i % 4 = 0 ∨ i % 4 = 1 ∨ i % 4 = 2 ∨ i % 4 = 3 := by omega
              have hdv : (i : Int) / 4 = ((i / 4 : Nat) : Int) := by omega
              have hmd : (i : Int) % 4 = ((i % 4 : Nat) : Int) := by omega
              have hlt : (i : Int) < 32 := by omega
              generalize i / 4 = q at hset hq8 hc hx hdv
              generalize i % 4 = m at hset hm4 hmd
              generalize (lastL L).getD q 0 = x at hset hc hx
              have hql : (q : Int) < 8 := by omega
              have hX := hidp hx
              clear h32 hx hq8
              rcases hm4 with rfl | rfl | rfl | rfl
              · have e0 : Hid (((x : Int) % 256) = ((byteN x 0 : Nat) : Int)) := hidp (by have := hX.out; unfold W32 at this; unfold byteN; omega)
                simp only [Int.cast_ofNat_Int] at hmd
                go_wp2
                refine ⟨⟨i + 1, by have := HI.out; omega, by go_num, ?_⟩, by have := HI.out; simp [Go.RowKit.intOf]; omega⟩
                rw [← hset.out]
                have hbt : But wo.heap.size wr (wr.setCell ⟨wo.heap.size, i, none⟩ (.int .u8 (byteN x 0 : Nat))) := (But.refl _ wr).setCell _ _
                have hE := e0.out
                try simp only [hE]
                exact hidp ⟨bvs_set _ _ _ ▸ hr.out.1.set i _, hbt.blk hr.out.2.1 hne.out.2.1, hbt.blk hr.out.2.2.1 (by have := hne.out.1; omega), hr.out.2.2.2.trans (hbt.below (by have := hne.out.1; omega))⟩
              · have e0 : Hid (((x : Int) / 256 % 256) = ((byteN x 1 : Nat) : Int)) := hidp (by have := hX.out; unfold W32 at this; unfold byteN; omega)
                simp only [Int.cast_ofNat_Int] at hmd
                go_wp2
                refine ⟨⟨i + 1, by have := HI.out; omega, by go_num, ?_⟩, by have := HI.out; simp [Go.RowKit.intOf]; omega⟩
                rw [← hset.out]
                have hbt : But wo.heap.size wr (wr.setCell ⟨wo.heap.size, i, none⟩ (.int .u8 (byteN x 1 : Nat))) := (But.refl _ wr).setCell _ _
                have hE := e0.out
                try simp only [hE]
                exact hidp ⟨bvs_set _ _ _ ▸ hr.out.1.set i _, hbt.blk hr.out.2.1 hne.out.2.1, hbt.blk hr.out.2.2.1 (by have := hne.out.1; omega), hr.out.2.2.2.trans (hbt.below (by have := hne.out.1; omega))⟩
              · have e0 : Hid (((x : Int) / 65536 % 256) = ((byteN x 2 : Nat) : Int)) := hidp (by have := hX.out; unfold W32 at this; unfold byteN; omega)
                simp only [Int.cast_ofNat_Int] at hmd
                go_wp2
                refine ⟨⟨i + 1, by have := HI.out; omega, by go_num, ?_⟩, by have := HI.out; simp [Go.RowKit.intOf]; omega⟩
                rw [← hset.out]
                have hbt : But wo.heap.size wr (wr.setCell ⟨wo.heap.size, i, none⟩ (.int .u8 (byteN x 2 : Nat))) := (But.refl _ wr).setCell _ _
                have hE := e0.out
                try simp only [hE]
                exact hidp ⟨bvs_set _ _ _ ▸ hr.out.1.set i _, hbt.blk hr.out.2.1 hne.out.2.1, hbt.blk hr.out.2.2.1 (by have := hne.out.1; omega), hr.out.2.2.2.trans (hbt.below (by have := hne.out.1; omega))⟩
              · have e0 : Hid (((x : Int) / 16777216 % 256) = ((byteN x 3 : Nat) : Int)) := hidp (by have := hX.out; unfold W32 at this; unfold byteN; omega)
                simp only [Int.cast_ofNat_Int] at hmd
                go_wp2
                refine ⟨⟨i + 1, by have := HI.out; omega, by go_num, ?_⟩, by have := HI.out; simp [Go.RowKit.intOf]; omega⟩
                rw [← hset.out]
                have hbt : But wo.heap.size wr (wr.setCell ⟨wo.heap.size, i, none⟩ (.int .u8 (byteN x 3 : Nat))) := (But.refl _ wr).setCell _ _
                have hE := e0.out
                try simp only [hE]
                exact hidp ⟨bvs_set _ _ _ ▸ hr.out.1.set i _, hbt.blk hr.out.2.1 hne.out.2.1, hbt.blk hr.out.2.2.1 (by have := hne.out.1; omega), hr.out.2.2.2.trans (hbt.below (by have := hne.out.1; omega))⟩
            · obtain rfl : i = 32 := by omega
              have hb := hidp (partO_all (lastL L) ▸ hr.out.1)
              simp only [Int.cast_ofNat_Int]
              have hl : Hid ((bytesL (lastL L)).length = 32) := hidp (hashL_len L)
              go_wp2_with (first | refine wpList_load_blk rfl 39 _ rfl wo.heap.size (bvs (bytesL (lastL L))) 39 rfl hb.out _ Tryz.underlying39 rfl (by rw [bvs_len, hl.out]; kernel_rfl) ?_ | (refine wpList_store_blk rfl 39 _ _ rfl w.heap.size (bvs (bytesL (lastL L))) zV32 39 rfl rfl hr.out.2.2.1 (by rw [bvs_len, hl.out]; kernel_rfl) (by rw [bvs_len, hl.out]; rfl) (bvs_one _) ?_; intro w6 hw6))
              have b2 : Blk w6 w.heap.size (bvs (hashL L)) 39 := by rw [hw6.out]; exact hr.out.2.2.1.row
              refine bodyPost_ret (v := .agg (bvs (hashL L)).toArray) ?_ rfl ⟨rfl, ?_⟩
              · exact results_cell_row Tryz.results85 _ _ w.heap.size 39 _ (0, 0) _ rfl b2 Tryz.underlying39 rfl (by rw [List.size_toArray, bvs_len, hashL_len]; kernel_rfl)
              · rw [hw6.out]; exact below_setRow hr.out.2.2.2 (Nat.le_refl _) _
end Go.Proofs.YtcmkmnidnapabaaGreat
