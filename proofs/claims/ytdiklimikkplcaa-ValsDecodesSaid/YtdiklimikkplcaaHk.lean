/-
  Contracts: a new state; a word's bytes.
-/
import Derived.Test.YtdiklimikkplcaaHj
import Derived.Deep.WholeRow
namespace Go.Proofs.Ytdiklimikkplcaa
open Go.RowKit Go.Lib

def byteN (x i : Nat) : Nat := x / 256 ^ i % 256
/-- A row in which the first i bytes of a word lie from o on. -/
def putL (old : List Value) (o x : Nat) : Nat → List Value
  | 0 => old
  | i + 1 => (putL old o x i).set (o + i) (.int .u8 (byteN x i : Nat))
theorem putL_len (old : List Value) (o x i : Nat) : (putL old o x i).length = old.length := by
  induction i with
  | zero => rfl
  | succ i ih => rw [putL, List.length_set, ih]

set_option maxHeartbeats 2000000 in
theorem putWord_any (b o c x : Nat) (old : List Value) (T : TypeId) (w : World) (hw : Blk w b old T) (ho : o + 4 ≤ old.length) (hx : x < W32) :
    Calls Try.prog 168 #[.slice (some ⟨b, o, none⟩) 4 c, .int .u32 (x : Nat)] w fun e w' => e = .returned (.tuple #[]) ∧ Blk w' b (putL old o x 4) T ∧ But b w w' := by
  have HW := hidp hw
  have HO := hidp ho
  have hb0 : byteN x 0 = x % 256 := by unfold byteN; omega
  have hb1 : byteN x 1 = x / 256 % 256 := by unfold byteN; omega
  have hb2 : byteN x 2 = x / 65536 % 256 := by unfold byteN; omega
  have hb3 : byteN x 3 = x / 16777216 % 256 := by unfold byteN; omega
  have HB := hidp (And.intro hb0 (And.intro hb1 (And.intro hb2 hb3)))
  have HX := hidp hx
  clear hw ho hb0 hb1 hb2 hb3 hx
  go_enter Try.func168, Try.ntmps168
  go_wp2
  go_loopw [7] (fun i wr => ∃ n : Nat, n ≤ 4 ∧ i = .int .i64 n ∧ Hid (Blk wr b (putL old o x n) T ∧ But b w wr)) (fun i _ => 4 - (intOf i).toNat)
  case atStart => exact ⟨0, by omega, rfl, HW.out, But.refl b w⟩
  case round =>
    obtain ⟨n, hn, rfl, hr⟩ := hrel
    have hf := hr.out.1.free (o + n)
    have hc : n < 4 → ∃ ov, wr.cell? ⟨b, o + n, none⟩ = some ov := fun h => ⟨_, (hr.out.1.cell _).trans (List.getElem?_eq_getElem (by rw [putL_len]; have := HO.out; omega))⟩
    have hcl := HX.out
    unfold W32 at hcl
    rcases (show n = 4 ∨ n = 0 ∨ n = 1 ∨ n = 2 ∨ n = 3 by omega) with rfl | rfl | rfl | rfl | rfl
    · clear hc hf hcl
      go_wp2
      go_end0
      exact ⟨rfl, hr.out⟩
    · obtain ⟨ov, hc⟩ := hc (by decide)
      have e : (x : Int) % 256 = ((byteN x 0 : Nat) : Int) := by rw [HB.out.1]; omega
      clear hn hcl
      simp only [Nat.add_zero] at hc hf
      go_wp2
      refine ⟨⟨1, by decide, rfl, hidp ⟨?_, hr.out.2.setCell _ _⟩⟩, by decide⟩
      exact hr.out.1.set _ _
    · obtain ⟨ov, hc⟩ := hc (by decide)
      have e : (x : Int) / 256 % 256 = ((byteN x 1 : Nat) : Int) := by rw [HB.out.2.1]; omega
      clear hn hcl
      go_wp2
      refine ⟨⟨2, by decide, rfl, hidp ⟨?_, hr.out.2.setCell _ _⟩⟩, by decide⟩
      exact hr.out.1.set _ _
    · obtain ⟨ov, hc⟩ := hc (by decide)
      have e : (x : Int) / 65536 % 256 = ((byteN x 2 : Nat) : Int) := by rw [HB.out.2.2.1]; omega
      clear hn hcl
      go_wp2
      refine ⟨⟨3, by decide, rfl, hidp ⟨?_, hr.out.2.setCell _ _⟩⟩, by decide⟩
      exact hr.out.1.set _ _
    · obtain ⟨ov, hc⟩ := hc (by decide)
      have e : (x : Int) / 16777216 % 256 = ((byteN x 3 : Nat) : Int) := by rw [HB.out.2.2.2]; omega
      clear hn hcl
      go_wp2
      refine ⟨⟨4, by decide, rfl, hidp ⟨?_, hr.out.2.setCell _ _⟩⟩, by decide⟩
      exact hr.out.1.set _ _

/-! A new state. -/
theorem zero_state : (Try.prog.info? 139).map (fun i => (i.zero, i.size)) = some (some (.agg (stL (.pointer none) 0 (List.replicate 8 0) (padL [])).toArray), 74) := by kernel_rfl
theorem built_state : Try.prog.built 139 [(2, .agg (wvs initL).toArray)] = some (stL (.pointer none) 0 initL (padL [])).toArray := by kernel_rfl
theorem stL_one (sf : Value) (hs : sf.oneCell' = true) (n : Nat) (h bl : List Nat) : (stL sf n h bl).toArray.all (·.oneCell') = true := by
  rw [Array.all_eq_true_iff_forall_mem]
  intro x hx
  unfold stL at hx
  simp only [List.mem_toArray, List.mem_cons, List.mem_append] at hx
  rcases hx with rfl | rfl | hx | hx
  · exact hs
  · rfl
  · exact wvs_oneL _ x hx
  · exact bvs_oneL _ x hx
theorem So_nil {w : World} {g : Nat} {sf : Value} (h : Blk w g (stL sf 0 startL (padL [])) 139) : So w g sf [] := ⟨h, startL_words, padL_bytes (by decide) (fun x hx => absurd hx List.not_mem_nil)⟩

def stZ : List Value := stL (.pointer none) 0 (List.replicate 8 0) (padL [])
def stI : List Value := stL (.pointer none) 0 initL (padL [])
def stS : List Value := stL (.pointer none) 0 startL (padL [])
theorem start_mid (w w1 w2 : World) (hB1 : Below (w.alloc (.cells stZ.toArray 139)).heap.size (w.alloc (.cells stZ.toArray 139)) w1) (hw2 : w2 = (w1.alloc (.cells stZ.toArray 139)).setRow w1.heap.size stI.toArray) :
    w2.cell? ⟨w1.heap.size, 2, none⟩ = some (.int .u32 1779033703) ∧ w2.frozen? ⟨w1.heap.size, 2, none⟩ = false ∧ Blk (w2.setCell ⟨w1.heap.size, 2, none⟩ (.int .u32 1795745351)) w1.heap.size stS 139 ∧ Blk (w2.setCell ⟨w1.heap.size, 2, none⟩ (.int .u32 1795745351)) w.heap.size stZ 139 ∧ Below w.heap.size w (w2.setCell ⟨w1.heap.size, 2, none⟩ (.int .u32 1795745351)) := by
  have hs1 : (w.alloc (.cells stZ.toArray 139)).heap.size = w.heap.size + 1 := by simp
  have hB : Below (w.heap.size + 1) (w.alloc (.cells stZ.toArray 139)) w1 := hs1 ▸ hB1
  have hlt : w.heap.size < w1.heap.size := by have := hB.size; rw [hs1] at this; omega
  have hbt : But w1.heap.size (w1.alloc (.cells stZ.toArray 139)) w2 := hw2 ▸ (But.refl _ _).setRow _
  have h1 : Blk w2 w1.heap.size stI 139 := hw2 ▸ Blk.row (Blk.new w1 stZ _)
  have h2 : Blk w2 w.heap.size stZ 139 := hbt.blk (((Blk.new w _ _).below hB (by omega)).alloc _) (by omega)
  have h3 : Below w.heap.size w w2 := (((((Below.refl _ w).alloc (Nat.le_refl _) _).trans (hB.mono (by omega))).alloc (by omega) _)).trans (hbt.below (by omega))
  exact ⟨(h1.cell 2).trans rfl, h1.free 2, h1.set 2 (.int .u32 1795745351), h2.other _ _ (by show w.heap.size ≠ w1.heap.size; omega), h3.setCell (p := ⟨w1.heap.size, 2, none⟩) (Nat.le_of_lt hlt) _⟩

set_option maxRecDepth 20000 in
set_option maxHeartbeats 4000000 in
theorem start_any (w : World) : Calls Try.prog 111 #[] w fun e w' => e = .returned (.agg stS.toArray) ∧ Below w.heap.size w w' := by
  have hz : ∀ w, (zeroValue 139).run Try.prog w = .ok (.agg stZ.toArray) w := (zero_of_info (P := Try.prog) zero_state).1
  have hx : bits .xor .u32 1779033703 16842784 = 1795745351 := by decide
  go_enter Try.func111, Try.ntmps111
  go_wp2_with fail
  refine (initial_any _).mono ?_
  rintro e w1 ⟨rfl, hB1⟩
  have hB1 := hidp hB1
  have hz1 := hidp (Blk.new w1 stZ 139)
  go_wp2_with (first | refine wpList_buildTo rfl 139 _ rfl _ rfl stI.toArray (by kernel_rfl) ?_ | (refine wpList_store_blk rfl 139 _ _ rfl w1.heap.size stI stZ 139 rfl rfl hz1.out (by kernel_rfl) rfl (stL_one _ rfl _ _ _) ?_; intro w2 hw2; have hm := hidp (start_mid w w1 w2 hB1.out hw2.out); have hc := hm.out.1; have hf := hm.out.2.1) | refine wpList_load_blk rfl 139 _ rfl w1.heap.size stS 139 rfl hm.out.2.2.1 _ Try.underlying139 rfl (by kernel_rfl) ?_ | (refine wpList_store_blk rfl 139 _ _ rfl w.heap.size stS _ 139 rfl rfl hm.out.2.2.2.1 (by kernel_rfl) rfl (stL_one _ rfl _ _ _) ?_; intro w3 hw3))
  have b2 : Blk w3 w.heap.size stS 139 := by rw [hw3.out]; exact hm.out.2.2.2.1.row
  refine bodyPost_ret (v := .agg stS.toArray) ?_ rfl ⟨rfl, ?_⟩
  · exact results_cell_row Try.results111 _ _ w.heap.size 139 _ (0, 0) _ rfl b2 Try.underlying139 rfl (by kernel_rfl)
  · rw [hw3.out]; exact below_setRow hm.out.2.2.2.2 (Nat.le_refl _) _
end Go.Proofs.Ytdiklimikkplcaa
