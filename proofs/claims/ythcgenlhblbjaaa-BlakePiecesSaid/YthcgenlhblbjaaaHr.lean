/-
  Contracts: a state's hash; states that New did not return.
-/
import Derived.Test.YthcgenlhblbjaaaHm
import Derived.Test.YthcgenlhblbjaaaHo
namespace Go.Proofs.Ythcgenlhblbjaaa
open Go.RowKit Go.Lib

set_option maxHeartbeats 2000000 in
theorem sumM_any (g : Nat) (all : List Nat) (w : World) (hs : So w g (ptrV g) all) (hn : all.length ≤ 9223372036854775807) :
    Calls Try.prog 20 #[ptrV g] w fun e w' => e = .returned (.tuple #[.agg (bvs (hashL all)).toArray, .int .i64 0]) ∧ Below w.heap.size w w' := by
  have hs1 : So (w.alloc (.cells z32.toArray 26)) g (ptrV g) all := hs.alloc _
  have HV := hidp (valid_yes g _ _ _ _ hs1)
  have HH := hidp (hash_any g (ptrV g) all _ rfl hs1 hn)
  have hr0 := hidp (Blk.new w z32 26)
  have hbel0 : Hid (Below w.heap.size w (w.alloc (.cells z32.toArray 26))) := hidp ((Below.refl _ w).alloc (Nat.le_refl _) _)
  have hsz0 : Hid (w.heap.size < (w.alloc (.cells z32.toArray 26)).heap.size) := hidp (by simp)
  clear hs hs1 hn
  unfold ptrV at *
  go_enter Try.func20, Try.ntmps20
  go_wp2_with fail
  refine HV.out.mono ?_
  rintro e wx ⟨rfl, hx⟩
  rw [hx]
  clear hx wx
  go_wp2_with fail
  refine HH.out.mono ?_
  rintro e w4 ⟨rfl, hB4⟩
  have h4 : Hid (Blk w4 w.heap.size z32 26 ∧ Below w.heap.size w w4) := hidp ⟨hr0.out.below hB4 hsz0.out, hbel0.out.trans (hB4.mono (Nat.le_of_lt hsz0.out))⟩
  clear hB4
  go_wp2_with ((refine wpList_store_blk rfl 26 _ _ rfl w.heap.size (bvs (hashL all)) z32 26 rfl rfl h4.out.1 (by rw [bvs_len, hashL_len]; kernel_rfl) (by rw [bvs_len, hashL_len]; rfl) (bvs_one _) ?_; intro w6 hw6))
  have b2 : Blk w6 w.heap.size (bvs (hashL all)) 26 := by rw [hw6.out]; exact h4.out.1.row
  refine bodyPost_ret (v := .tuple #[.agg (bvs (hashL all)).toArray, .int .i64 0]) ?_ rfl ⟨rfl, ?_⟩
  · exact results_row2 Try.results20 _ _ w.heap.size 26 _ _ rfl b2 Try.underlying26 rfl (by rw [bvs_len, hashL_len]; kernel_rfl)
  · rw [hw6.out]; exact below_setRow h4.out.2 (Nat.le_refl _) _

/-- A pointer that is nil, or to a state that nobody made. -/
def BadP (w : World) (v : Value) : Prop := v = .pointer none ∨ ∃ g n h bl, v = ptrV g ∧ St w g (.pointer none) n h bl
theorem BadP.below {w w' : World} {v : Value} (h : BadP w v) (hB : Below w.heap.size w w') : BadP w' v := by
  rcases h with h | ⟨g, n, h, bl, h1, h2⟩
  · exact .inl h
  · exact .inr ⟨g, n, h, bl, h1, h2.below hB⟩
theorem valid_bad (v : Value) (w : World) (h : BadP w v) : Calls Try.prog 36 #[v] w fun e w' => e = .returned (.bool false) ∧ w' = w := by
  rcases h with rfl | ⟨g, n, h, bl, rfl, h2⟩
  · exact valid_nil w
  · exact valid_no g n h bl w h2
set_option maxHeartbeats 2000000 in
theorem sumM_bad (v : Value) (w : World) (h : BadP w v) :
    Calls Try.prog 20 #[v] w fun e w' => e = .returned (.tuple #[.agg z32.toArray, .int .i64 1]) ∧ Below w.heap.size w w' := by
  have hbel0 : Below w.heap.size w (w.alloc (.cells z32.toArray 26)) := (Below.refl _ w).alloc (Nat.le_refl _) _
  have HV := hidp (valid_bad v _ (h.below hbel0))
  have hbel0 := hidp hbel0
  have hr0 := hidp (Blk.new w z32 26)
  clear h
  go_enter Try.func20, Try.ntmps20
  go_wp2_with fail
  refine HV.out.mono ?_
  rintro e wx ⟨rfl, hx⟩
  rw [hx]
  clear hx wx
  go_wp2_with (first | refine wpList_buildTo rfl 26 _ rfl _ rfl z32.toArray (by kernel_rfl) ?_ | (refine wpList_store_blk rfl 26 _ _ rfl w.heap.size z32 z32 26 rfl rfl hr0.out (by kernel_rfl) rfl (bvs_one _) ?_; intro w6 hw6))
  have b2 : Blk w6 w.heap.size z32 26 := by rw [hw6.out]; exact hr0.out.row
  refine bodyPost_ret (v := .tuple #[.agg z32.toArray, .int .i64 1]) ?_ rfl ⟨rfl, ?_⟩
  · exact results_row2 Try.results20 _ _ w.heap.size 26 _ _ rfl b2 Try.underlying26 rfl (by kernel_rfl)
  · rw [hw6.out]; exact below_setRow hbel0.out (Nat.le_refl _) _
theorem write_bad (v b : Value) (w : World) (h : BadP w v) : Calls Try.prog 21 #[v, b] w fun e w' => e = .returned (.int .i64 1) ∧ w' = w := by
  have HV := hidp (valid_bad v w h)
  clear h
  go_enter Try.func21, Try.ntmps21
  go_wp2_with (go_at_call 36; refine HV.out.mono ?_; rintro e wx ⟨rfl, rfl⟩)
  go_ret
  exact ⟨rfl, rfl⟩
theorem len_bad (v : Value) (w : World) (h : BadP w v) : Calls Try.prog 22 #[v] w fun e w' => e = .returned (.int .i64 0) ∧ w' = w := by
  have HV := hidp (valid_bad v w h)
  clear h
  go_enter Try.func22, Try.ntmps22
  go_wp2_with (go_at_call 36; refine HV.out.mono ?_; rintro e wx ⟨rfl, rfl⟩)
  go_ret
  exact ⟨rfl, rfl⟩
end Go.Proofs.Ythcgenlhblbjaaa
