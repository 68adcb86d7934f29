/-
  Contracts: the hash of bytes; a state's methods.
-/
import Derived.Test.YtdiklimikkplcaaHl
import Derived.LaidEqlPtr
namespace Go.Proofs.Ytdiklimikkplcaa
open Go.RowKit Go.Lib

theorem Bsl.other {w : World} {p : Option Addr} {bb bo cap : Nat} {bs : List Nat} (h : Bsl w p bb bo bs cap) (g : Nat) (hg : w.heap.size ≤ g) : ∃ b', Bsl w p b' bo bs cap ∧ b' ≠ g := by
  by_cases h0 : 0 < bs.length
  · exact ⟨bb, h, by have := (h.ptr h0).2; omega⟩
  · exact ⟨g + 1, ⟨h.byte, h.le, fun h1 => absurd h1 h0, fun i hi => absurd hi (by omega)⟩, by omega⟩
theorem Bsl.below {w w' : World} {p : Option Addr} {bb bo cap : Nat} {bs : List Nat} (h : Bsl w p bb bo bs cap) (hB : Below w.heap.size w w') : Bsl w' p bb bo bs cap :=
  ⟨h.byte, h.le, fun h1 => ⟨(h.ptr h1).1, Nat.lt_of_lt_of_le (h.ptr h1).2 hB.size⟩, fun i hi => (hB.cell (p := ⟨bb, bo + i, none⟩) (h.ptr (by omega)).2).trans (h.here i hi)⟩
theorem Bsl.bex {g : Nat} {w w' : World} {p : Option Addr} {bb bo cap : Nat} {bs : List Nat} (h : Bsl w p bb bo bs cap) (hB : Bex g w w') (hne : bb ≠ g) : Bsl w' p bb bo bs cap := by
  refine ⟨h.byte, h.le, fun h1 => ⟨(h.ptr h1).1, Nat.lt_of_lt_of_le (h.ptr h1).2 hB.size⟩, fun i hi => ?_⟩
  rw [← h.here i hi]
  simp only [World.cell?]
  rw [hB.block bb (h.ptr (by omega)).2 hne]

/-- A new state laid behind 'start'. -/
theorem new_mid {w w1 w2 : World} (hB : Below w.heap.size w w1) (hw2 : w2 = (w1.alloc (.cells stZ.toArray 139)).setRow w1.heap.size stS.toArray) :
    So w2 w1.heap.size (.pointer none) [] ∧ Below w.heap.size w w2 ∧ w2.heap.size = w1.heap.size + 1 := by
  have hbt : But w1.heap.size (w1.alloc (.cells stZ.toArray 139)) w2 := hw2 ▸ (But.refl _ _).setRow _
  exact ⟨So_nil (hw2 ▸ Blk.row (Blk.new w1 stZ _)), (hB.alloc hB.size _).trans (hbt.below hB.size), by rw [hbt.size]; simp⟩
theorem sum_mid {w w1 w2 w3 : World} (hB : Below (w.alloc (.cells zV32.toArray 34)).heap.size (w.alloc (.cells zV32.toArray 34)) w1)
    (h2 : Below (w.alloc (.cells zV32.toArray 34)).heap.size (w.alloc (.cells zV32.toArray 34)) w2) (hs : w2.heap.size = w1.heap.size + 1) (hbx : Bex w1.heap.size w2 w3) : Below (w.heap.size + 1) (w.alloc (.cells zV32.toArray 34)) w3 ∧ w.heap.size + 1 ≤ w3.heap.size := by
  have hsz : (w.alloc (.cells zV32.toArray 34)).heap.size = w.heap.size + 1 := by simp
  rw [hsz] at hB h2
  have h1 := hB.size
  rw [hsz] at h1
  have h3 := hbx.size
  exact ⟨h2.trans (hbx.below h1 (by omega)), by omega⟩

set_option maxRecDepth 20000 in
set_option maxHeartbeats 8000000 in
theorem sum_any (bs : List Nat) (p : Option Addr) (bb bo cap : Nat) (w : World) (hb : Bsl w p bb bo bs cap) (hn : bs.length ≤ 9223372036854775807) :
    Calls Try.prog 55 #[.slice p bs.length cap] w fun e w' => e = .returned (.agg (bvs (hashL bs)).toArray) ∧ Below w.heap.size w w' := by
  have HB := hidp hb
  have HN := hidp hn
  have hz : ∀ w, (zeroValue 139).run Try.prog w = .ok (.agg stZ.toArray) w := (zero_of_info (P := Try.prog) zero_state).1
  have hr0 := hidp (Blk.new w zV32 34)
  have hbel0 : Hid (Below w.heap.size w (w.alloc (.cells zV32.toArray 34))) := hidp ((Below.refl _ w).alloc (Nat.le_refl _) _)
  have hsz0 : Hid ((w.alloc (.cells zV32.toArray 34)).heap.size = w.heap.size + 1) := hidp (by simp)
  clear hb hn
  go_enter Try.func55, Try.ntmps55
  go_wp2_with fail
  refine (start_any _).mono ?_
  rintro e w1 ⟨rfl, hB1⟩
  have hB1 := hidp hB1
  have hB1 : Hid (Below (w.alloc (.cells zV32.toArray 34)).heap.size (w.alloc (.cells zV32.toArray 34)) w1) := hB1
  have hz1 := hidp (Blk.new w1 stZ 139)
  go_wp2_with ((refine wpList_store_blk rfl 139 _ _ rfl w1.heap.size stS stZ 139 rfl rfl hz1.out (by kernel_rfl) rfl (stL_one _ rfl _ _ _) ?_; intro w2 hw2; have h2 := hidp (new_mid hB1.out hw2.out)))
  have hw2 : Hid (Below w.heap.size w w2 ∧ w.heap.size + 1 ≤ w1.heap.size) := by
    have h1 := hB1.out.size
    rw [hsz0.out] at h1
    exact hidp ⟨hbel0.out.trans (h2.out.2.1.mono (by rw [hsz0.out]; omega)), h1⟩
  obtain ⟨b', hb', hne⟩ := HB.out.other w1.heap.size (by have := hw2.out.2; omega)
  refine (take_any w1.heap.size (.pointer none) [] bs p b' bo cap w2 h2.out.1 (hb'.below hw2.out.1) hne (by simp) (by have := HN.out; simpa using this)).mono ?_
  rintro e w3 ⟨rfl, hso, hbx⟩
  rw [List.nil_append] at hso
  have h3 := hidp (sum_mid hB1.out h2.out.2.1 h2.out.2.2 hbx)
  have hso := hidp hso
  clear hbx hb' hne
  go_wp2_with fail
  refine (hash_any w1.heap.size (.pointer none) bs w3 rfl hso.out HN.out).mono ?_
  rintro e w4 ⟨rfl, hB4⟩
  have h4 : Hid (Blk w4 w.heap.size zV32 34 ∧ Below w.heap.size w w4) := hidp ⟨(hr0.out.below h3.out.1 (by omega)).below hB4 (by have := h3.out.2; omega), (hbel0.out.trans (h3.out.1.mono (by omega))).trans (hB4.mono (by have := h3.out.2; omega))⟩
  clear hB4
  go_wp2_with ((refine wpList_store_blk rfl 34 _ _ rfl w.heap.size (bvs (hashL bs)) zV32 34 rfl rfl h4.out.1 (by rw [bvs_len, hashL_len]; kernel_rfl) (by rw [bvs_len, hashL_len]; rfl) (bvs_one _) ?_; intro w6 hw6))
  have b2 : Blk w6 w.heap.size (bvs (hashL bs)) 34 := by rw [hw6.out]; exact h4.out.1.row
  refine bodyPost_ret (v := .agg (bvs (hashL bs)).toArray) ?_ rfl ⟨rfl, ?_⟩
  · exact results_cell_row Try.results55 _ _ w.heap.size 34 _ (0, 0) _ rfl b2 Try.underlying34 rfl (by rw [List.size_toArray, bvs_len, hashL_len]; kernel_rfl)
  · rw [hw6.out]; exact below_setRow h4.out.2 (Nat.le_refl _) _

/-! States that New returned. -/
def ptrV (g : Nat) : Value := .pointer (some ⟨g, 0, none⟩)
theorem run_ptr_same (g : Nat) (w : World) : (binOp .eql 132 (.pointer (some ⟨g, 0, none⟩)) (.pointer (some ⟨g, 0, none⟩))).run Try.prog w = .ok (.bool true) w := by
  obtain ⟨j, hj⟩ : ∃ j, Try.prog.info? 139 = some j := Option.isSome_iff_exists.1 (by kernel_rfl)
  exact run_eql_ptr_same w _ Try.underlying132 hj
theorem run_nil_ptr (a : Addr) (w : World) : (binOp .eql 132 (.pointer none) (.pointer (some a))).run Try.prog w = .ok (.bool false) w := by
  have h : ∀ d : Nat, (Op.equalIn (d + 1) 132 (.pointer none) (.pointer (some a))).run Try.prog w = .ok false w := fun d => by
    simp [Op.equalIn, run_underlying Try.underlying132]
  simp only [binOp]
  simp [Op.equal, Op.maxDepth, h 9999]
end Go.Proofs.Ytdiklimikkplcaa
