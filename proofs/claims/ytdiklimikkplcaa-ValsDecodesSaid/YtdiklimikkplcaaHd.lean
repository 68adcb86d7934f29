/-
  Contracts: the words of a block.
-/
import Derived.Test.YtdiklimikkplcaaHb
import Derived.Deep.QuietTactic
import Derived.Deep.MidRow
import Derived.Laws.CopyOwn
namespace Go.Proofs.Ytdiklimikkplcaa
open Go.RowKit

theorem or_wordL {a b : Nat} (ha : a < 4294967296) (hb : b < 4294967296) : bits .or .u32 (a : Int) (b : Int) = ((a ||| b : Nat) : Int) := or_word ha hb
theorem or_step {a b k c : Nat} (hb : b < 2 ^ k) (hc : a * 2 ^ k = c) : b ||| c = c + b := by
  subst hc; rw [Nat.or_comm, or_add hb]
theorem or_bytes {x0 x1 x2 x3 : Nat} (h0 : x0 < 256) (h1 : x1 < 256) (h2 : x2 < 256) (h3 : x3 < 256) :
    bits .or .u32 (bits .or .u32 (bits .or .u32 (x0 : Int) ((x1 : Int) * 256 % 4294967296)) ((x2 : Int) * 65536 % 4294967296)) ((x3 : Int) * 16777216 % 4294967296) = ((x0 + 256 * x1 + 65536 * x2 + 16777216 * x3 : Nat) : Int) := by
  have e1 : ((x1 : Int) * 256 % 4294967296) = ((x1 * 256 : Nat) : Int) := by omega
  have e2 : ((x2 : Int) * 65536 % 4294967296) = ((x2 * 65536 : Nat) : Int) := by omega
  have e3 : ((x3 : Int) * 16777216 % 4294967296) = ((x3 * 16777216 : Nat) : Int) := by omega
  have s1 : x0 ||| x1 * 256 = x1 * 256 + x0 := or_step (a := x1) (k := 8) h0 rfl
  have s2 : (x1 * 256 + x0) ||| x2 * 65536 = x2 * 65536 + (x1 * 256 + x0) := or_step (a := x2) (k := 16) (by show _ < 65536; omega) rfl
  have s3 : (x2 * 65536 + (x1 * 256 + x0)) ||| x3 * 16777216 = x3 * 16777216 + (x2 * 65536 + (x1 * 256 + x0)) := or_step (a := x3) (k := 24) (by show _ < 16777216; omega) rfl
  have t1 := or_wordL (a := x0) (b := x1 * 256) (by omega) (by omega)
  have t2 := or_wordL (a := x1 * 256 + x0) (b := x2 * 65536) (by omega) (by omega)
  have t3 := or_wordL (a := x2 * 65536 + (x1 * 256 + x0)) (b := x3 * 16777216) (by omega) (by omega)
  rw [s1] at t1; rw [s2] at t2; rw [s3] at t3
  rw [e1, e2, e3, t1, t2, t3]
  omega

theorem word_any (b o c : Nat) (x0 x1 x2 x3 : Nat) (w : World) (h0 : w.cell? ⟨b, o, none⟩ = some (.int .u8 (x0 : Nat))) (h1 : w.cell? ⟨b, o + 1, none⟩ = some (.int .u8 (x1 : Nat))) (h2 : w.cell? ⟨b, o + 2, none⟩ = some (.int .u8 (x2 : Nat))) (h3 : w.cell? ⟨b, o + 3, none⟩ = some (.int .u8 (x3 : Nat)))
    (l0 : x0 < 256) (l1 : x1 < 256) (l2 : x2 < 256) (l3 : x3 < 256) :
    Calls Try.prog 206 #[.slice (some ⟨b, o, none⟩) 4 c] w fun e w' => e = .returned (.int .u32 (x0 + 256 * x1 + 65536 * x2 + 16777216 * x3 : Nat)) ∧ ∃ n, w' = w.drewN n := by
  have hr := hidp (or_bytes l0 l1 l2 l3)
  have s0 : (x0 : Int) % 4294967296 = x0 := by omega
  have s1 : (x1 : Int) % 4294967296 = x1 := by omega
  have s2 : (x2 : Int) % 4294967296 = x2 := by omega
  have s3 : (x3 : Int) % 4294967296 = x3 := by omega
  clear l0 l1 l2 l3
  go_enter Try.func206, Try.ntmps206
  go_wp2
  go_quiet (fail)
  go_wp2
  go_ret
  exact ⟨ret_int hr.out, _, rfl⟩

/-- The words of the first i fours of a block. -/
def partW (bl : List Nat) (i : Nat) : List Nat := (List.range 16).map fun j => if j < i then wordL bl j else 0
theorem partW_len (bl : List Nat) (i : Nat) : (partW bl i).length = 16 := by unfold partW; simp
theorem partW_zero (bl : List Nat) : partW bl 0 = List.replicate 16 0 := by unfold partW; rfl
theorem partW_all (bl : List Nat) : partW bl 16 = wordsL bl := by
  unfold partW wordsL
  apply List.map_congr_left
  intro j hj
  rw [if_pos (by simpa using hj)]
theorem partW_set (bl : List Nat) {i : Nat} (hi : i < 16) : (partW bl i).set i (wordL bl i) = partW bl (i + 1) := by
  apply List.ext_getElem?
  intro n
  unfold partW
  rw [List.getElem?_set]
  by_cases h : i = n
  · subst h; simp [hi]
  · simp only [h, if_false, List.getElem?_map]
    by_cases hn : n < 16
    · simp only [List.getElem?_range, hn, Option.map_some]
      by_cases h2 : n < i
      · rw [if_pos h2, if_pos (by omega)]
      · rw [if_neg h2, if_neg (by omega)]
    · rw [List.getElem?_eq_none (by simp; omega)]; rfl

theorem wvs_one (v : List Nat) : (wvs v).toArray.all (·.oneCell') = true := by
  rw [Array.all_eq_true_iff_forall_mem]
  intro x hx
  simp only [wvs, List.mem_toArray, List.mem_map] at hx
  obtain ⟨n, _, rfl⟩ := hx; rfl
theorem wvs_len (v : List Nat) : (wvs v).length = v.length := by unfold wvs; simp
theorem wordsL_len (b : List Nat) : (wordsL b).length = 16 := by unfold wordsL; simp

set_option maxHeartbeats 2000000 in
theorem wordsOf_any (g o : Nat) (bl : List Nat) (w : World) (hg : g < w.heap.size) (hb : Bytes 64 bl) (hw : BytesAt w g o bl) :
    Calls Try.prog 194 #[.pointer (some ⟨g, o, none⟩)] w fun e w' => e = .returned (.agg (wvs (wordsL bl)).toArray) ∧ Below w.heap.size w w' := by
  have HG := hidp hg
  have HB := hidp hb
  have HW := hidp hw
  clear hg hb hw
  go_enter Try.func194, Try.ntmps194
  go_wp2
  go_loopw [5] (fun x wr => ∃ i : Nat, i ≤ 16 ∧ x = .int .i64 i ∧ Hid (Blk wr (w.heap.size + 1) (wvs (partW bl i)) 213 ∧ Blk wr w.heap.size (wvs (List.replicate 16 0)) 213 ∧ Below w.heap.size w wr)) (fun x _ => 16 - (intOf x).toNat)
  case atStart =>
    refine ⟨0, by omega, rfl, ?_, ?_, by (repeat' (first | (with_reducible exact Below.refl _ _) | (with_reducible refine Below.alloc ?_ ?_ _) | (with_reducible refine Below.drew ?_) | (with_reducible refine Below.drewN ?_ _) | (with_reducible refine Below.setCell ?_ ?_ _) | go_size))⟩
    · rw [partW_zero]; exact Blk.new' _ (wvs (List.replicate 16 0)) _ _ (by simp)
    · exact (Blk.new w (wvs (List.replicate 16 0)) _).alloc _
  case round =>
    obtain ⟨i, hi, rfl, hr⟩ := hrel
    by_cases h : i < 16
    · have hsl := run_slice_arr (P := Try.prog) (t := 137) (e := 5) (n := 64) Try.underlying137 (by kernel_rfl) g o (l := 4 * i) (h := 4 * i + 4) (by omega) (by omega) (by omega)
      rw [show 4 * i + 4 - 4 * i = 4 by omega] at hsl
      have q : ∀ k, k < 64 → wr.cell? ⟨g, o + k, none⟩ = some (.int .u8 (bl.getD k 0 : Nat)) := fun k hk => (hr.out.2.2.cell (p := ⟨g, o + k, none⟩) HG.out).trans (HW.out k (HB.out.1.symm ▸ hk))
      have c0 := q (4 * i) (by omega)
      have c1 := q (4 * i + 1) (by omega)
      have c2 := q (4 * i + 2) (by omega)
      have c3 := q (4 * i + 3) (by omega)
      have HC := hidp (word_any g (o + 4 * i) (64 - 4 * i) _ _ _ _ wr c0 c1 c2 c3 (HB.out.get _) (HB.out.get _) (HB.out.get _) (HB.out.get _))
      clear q c0 c1 c2 c3
      have hlt : (i : Int) < 16 := by omega
      have hcell := (hr.out.1.cell i).trans (wvs_get (by rw [partW_len]; exact h))
      have hfree := hr.out.1.free i
      have hI := hidp h
      clear h
      simp only [Int.natCast_mul, Int.natCast_add, Int.cast_ofNat_Int] at hsl
      go_wp2_with (go_at_call 206; refine HC.out.mono ?_; rintro e w1 ⟨rfl, n, rfl⟩)
      refine ⟨⟨i + 1, by omega, by go_num, ?_, ?_, ?_⟩, by simp [intOf]; omega⟩
      · rw [← partW_set bl hI.out]
        exact wvs_set _ _ _ ▸ hr.out.1.set i _
      · exact (hr.out.2.1.drewN n).other _ _ (by simp)
      · exact (hr.out.2.2.drewN n).setCell (by simp) _
    · obtain rfl : i = 16 := by omega
      have b1 := hidp hr.out.1
      have b0 := hidp hr.out.2.1
      go_wp2_with (first | refine wpList_load_blk rfl 213 _ rfl _ _ _ rfl b1.out _ Try.underlying213 rfl (by rw [wvs_len, partW_len]; kernel_rfl) ?_ | (refine wpList_store_blk rfl 213 _ _ rfl _ _ _ _ rfl rfl b0.out (by rw [wvs_len, partW_len]; kernel_rfl) (by rw [wvs_len, wvs_len, partW_len]; rfl) (wvs_one _) ?_; intro w2 hw2))
      have b2 : Blk w2 w.heap.size (wvs (wordsL bl)) 213 := by rw [hw2.out, ← partW_all]; exact b0.out.row
      refine bodyPost_ret (v := .agg (wvs (wordsL bl)).toArray) ?_ rfl ⟨rfl, ?_⟩
      · exact results_cell_row Try.results194 _ _ w.heap.size 213 _ (0, 0) _ rfl b2 Try.underlying213 rfl (by rw [List.size_toArray, wvs_len, wordsL_len]; kernel_rfl)
      · rw [hw2.out]; exact below_setRow hr.out.2.2 (Nat.le_refl _) _
end Go.Proofs.Ytdiklimikkplcaa
