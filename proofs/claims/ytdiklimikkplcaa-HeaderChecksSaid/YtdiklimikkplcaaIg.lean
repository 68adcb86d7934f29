/-
  Contracts of the answer's hash: begin, row.
-/
import Derived.Test.YtdiklimikkplcaaIf
import Derived.Deep.MidRow
namespace Go.Proofs.Ytdiklimikkplcaa
open Go.RowKit Go.Lib

theorem refBegin_any (w : World) :
    Calls Try.prog 161 #[] w fun e w' => e = .returned (.agg (wvs initL).toArray) ∧ Below w.heap.size w w' := by
  have hz := hidp (Blk.new w (wvs (List.replicate 8 0)) 136)
  go_enter Try.func161, Try.ntmps161
  go_wp2_with (first | refine wpList_buildTo rfl 136 _ rfl _ rfl (wvs initL).toArray (by kernel_rfl) ?_ | (refine wpList_store_blk rfl 136 _ _ rfl w.heap.size (wvs initL) (wvs (List.replicate 8 0)) 136 rfl rfl hz.out (by kernel_rfl) rfl (wvs_one _) ?_; intro w6 hw6))
  have b2 : Blk w6 w.heap.size (wvs initL) 136 := by rw [hw6.out]; exact hz.out.row
  refine bodyPost_ret (v := .agg (wvs initL).toArray) ?_ rfl ⟨rfl, ?_⟩
  · exact results_cell_row Try.results161 _ _ w.heap.size 136 _ (0, 0) _ rfl b2 Try.underlying136 rfl (by kernel_rfl)
  · rw [hw6.out]; exact below_setRow ((Below.refl _ w).alloc (Nat.le_refl _) _) (Nat.le_refl _) _

/-! The table. -/
def ints (v : List Nat) : List Value := v.map fun x => Value.int .i64 (x : Nat)
theorem ints_len (v : List Nat) : (ints v).length = v.length := by unfold ints; simp
theorem ints_one (v : List Nat) : (ints v).toArray.all (·.oneCell') = true := by
  rw [Array.all_eq_true_iff_forall_mem]
  intro x hx
  simp only [ints, List.mem_toArray, List.mem_map] at hx
  obtain ⟨y, _, rfl⟩ := hx
  rfl
theorem rowL_len {r : Nat} (h : r < 10) : (rowL r).length = 16 := by
  unfold rowL; rw [List.length_take, List.length_drop, show tabL.length = 160 by rfl]; omega
theorem row_range {w : World} {b r : Nat} {T : TypeId} (h : Blk w b (ints tabL) T) : w.rangeAt b (r * 16) (ints (rowL r)) := by
  intro j v hj
  rw [Nat.mul_comm r 16]
  rw [h.cell (16 * r + j), ← hj]
  unfold ints rowL
  rw [List.getElem?_map, List.getElem?_map]
  have hlt : j < 16 := by
    have h1 := (List.getElem?_eq_some_iff.1 hj).1
    rw [ints_len] at h1
    unfold rowL at h1
    rw [List.length_take] at h1
    omega
  rw [List.getElem?_take_of_lt hlt, List.getElem?_drop]

def zTab : List Value := ints (List.replicate 160 0)
theorem zero_tab : (Try.prog.info? 234).map (fun i => (i.zero, i.size)) = some (some (.agg zTab.toArray), 160) := by kernel_rfl
set_option maxRecDepth 20000 in
set_option maxHeartbeats 4000000 in
theorem refRow_any (r : Nat) (w : World) (hr : r < 10) :
    Calls Try.prog 191 #[.int .i64 r] w fun e w' => e = .returned (.agg (ints (rowL r)).toArray) ∧ Below w.heap.size w w' := by
  have hz := hidp (Blk.new w (ints (List.replicate 16 0)) 214)
  have ht := hidp (Blk.new' (w.alloc (.cells (ints (List.replicate 16 0)).toArray 214)) zTab 234 (w.heap.size + 1) (by simp))
  have hlen := hidp (rowL_len hr)
  have hzt : ∀ w, (zeroValue 234).run Try.prog w = .ok (.agg zTab.toArray) w := (zero_of_info (P := Try.prog) zero_tab).1
  have rr : (r : Int) < 10 := by omega
  have R := hidp hr
  clear hr
  go_enter Try.func191, Try.ntmps191
  go_wp2_with (first | refine wpList_buildTo rfl 214 _ rfl (some 4) rfl (ints (rowL 0)).toArray (by kernel_rfl) ?_ | refine wpList_buildTo rfl 214 _ rfl (some 5) rfl (ints (rowL 1)).toArray (by kernel_rfl) ?_ | refine wpList_buildTo rfl 214 _ rfl (some 6) rfl (ints (rowL 2)).toArray (by kernel_rfl) ?_ | refine wpList_buildTo rfl 214 _ rfl (some 7) rfl (ints (rowL 3)).toArray (by kernel_rfl) ?_ | refine wpList_buildTo rfl 214 _ rfl (some 8) rfl (ints (rowL 4)).toArray (by kernel_rfl) ?_ | refine wpList_buildTo rfl 214 _ rfl (some 9) rfl (ints (rowL 5)).toArray (by kernel_rfl) ?_ | refine wpList_buildTo rfl 214 _ rfl (some 10) rfl (ints (rowL 6)).toArray (by kernel_rfl) ?_ | refine wpList_buildTo rfl 214 _ rfl (some 11) rfl (ints (rowL 7)).toArray (by kernel_rfl) ?_ | refine wpList_buildTo rfl 214 _ rfl (some 12) rfl (ints (rowL 8)).toArray (by kernel_rfl) ?_ | refine wpList_buildTo rfl 214 _ rfl (some 13) rfl (ints (rowL 9)).toArray (by kernel_rfl) ?_ | refine wpList_buildTo rfl 234 _ rfl _ rfl (ints tabL).toArray (by kernel_rfl) ?_ | (refine wpList_store_blk rfl 234 _ _ rfl (w.heap.size + 1) (ints tabL) zTab 234 rfl rfl ht.out (by kernel_rfl) rfl (ints_one _) ?_; intro w6 hw6; have h6 := hidp (show Blk w6 (w.heap.size + 1) (ints tabL) 234 by rw [hw6.out]; exact ht.out.row); have hZ := hidp (show Blk w6 w.heap.size (ints (List.replicate 16 0)) 214 by rw [hw6.out]; exact ((But.refl (w.heap.size + 1) _).setRow _).blk (hz.out.alloc _) (by omega)); have hE := hidp (show Below w.heap.size w w6 by rw [hw6.out]; exact below_setRow (((Below.refl _ w).alloc (Nat.le_refl _) _).alloc (by simp) _) (Nat.le_succ _) _)) | refine wpList_load_mid rfl 214 _ rfl (w.heap.size + 1) (r * 16) rfl (ints (rowL r)) _ (row_range h6.out) Try.underlying214 rfl (by rw [ints_len, hlen.out]; kernel_rfl) ?_ | (refine wpList_store_blk rfl 214 _ _ rfl w.heap.size (ints (rowL r)) (ints (List.replicate 16 0)) 214 rfl rfl hZ.out (by rw [ints_len, hlen.out]; kernel_rfl) (by rw [ints_len, ints_len, hlen.out]; rfl) (ints_one _) ?_; intro w9 hw9))
  have b2 : Blk w9 w.heap.size (ints (rowL r)) 214 := by rw [hw9.out]; exact hZ.out.row
  refine bodyPost_ret (v := .agg (ints (rowL r)).toArray) ?_ rfl ⟨rfl, ?_⟩
  · exact results_cell_row Try.results191 _ _ w.heap.size 214 _ (0, 0) _ rfl b2 Try.underlying214 rfl (by rw [List.size_toArray, ints_len, hlen.out]; kernel_rfl)
  · rw [hw9.out]; exact below_setRow hE.out (Nat.le_refl _) _
end Go.Proofs.Ytdiklimikkplcaa
