/-
  Contracts: the hash of what a state took; of bytes.
-/
import Derived.Test.YtdiklimikkplcaaHk
namespace Go.Proofs.Ytdiklimikkplcaa
open Go.RowKit Go.Lib

/-- The bytes of the first i words. -/
def partB (h : List Nat) (i : Nat) : List Nat := (List.range 32).map fun j => if j < 4 * i then byteN (h.getD (j / 4) 0) (j % 4) else 0
theorem partB_len (h : List Nat) (i : Nat) : (partB h i).length = 32 := by unfold partB; simp
theorem partB_zero (h : List Nat) : partB h 0 = List.replicate 32 0 := by unfold partB; rfl
theorem partB_all (h : List Nat) : partB h 8 = bytesL h := by
  unfold partB bytesL byteN
  apply List.map_congr_left
  intro j hj
  have : j < 32 := by simpa using hj
  rw [if_pos (by omega)]
theorem partB_put (h : List Nat) {i : Nat} (hi : i < 8) : putL (bvs (partB h i)) (4 * i) (h.getD i 0) 4 = bvs (partB h (i + 1)) := by
  simp only [putL, Nat.add_zero, bvs_set]
  congr 1
  apply List.ext_getElem?
  intro n
  simp only [List.getElem?_set, List.length_set, partB_len]
  unfold partB
  simp only [List.getElem?_map]
  by_cases hn : n < 32
  · rw [List.getElem?_range hn]
    simp only [Option.map_some]
    by_cases h3 : 4 * i + 3 = n
    · subst h3
      have e1 : (4 * i + 3) / 4 = i := by omega
      have e2 : (4 * i + 3) % 4 = 3 := by omega
      have e3 : 4 * i + 3 < 4 * (i + 1) := by omega
      have e4 : 4 * i + 3 < 32 := by omega
      simp only [e1, e2, e3, e4, if_true]
    · by_cases h2 : 4 * i + 2 = n
      · subst h2
        have e1 : (4 * i + 2) / 4 = i := by omega
        have e2 : (4 * i + 2) % 4 = 2 := by omega
        have e3 : 4 * i + 2 < 4 * (i + 1) := by omega
        have e4 : 4 * i + 2 < 32 := by omega
        simp only [h3, if_false, e1, e2, e3, e4, if_true]
      · by_cases h1 : 4 * i + 1 = n
        · subst h1
          have e1 : (4 * i + 1) / 4 = i := by omega
          have e2 : (4 * i + 1) % 4 = 1 := by omega
          have e3 : 4 * i + 1 < 4 * (i + 1) := by omega
          have e4 : 4 * i + 1 < 32 := by omega
          simp only [h3, h2, if_false, e1, e2, e3, e4, if_true]
        · by_cases h0 : 4 * i = n
          · subst h0
            have e1 : 4 * i / 4 = i := by omega
            have e2 : 4 * i % 4 = 0 := by omega
            have e3 : 4 * i < 4 * (i + 1) := by omega
            have e4 : 4 * i < 32 := by omega
            simp only [h3, h2, h1, if_false, e1, e2, e3, e4, if_true]
          · simp only [h3, h2, h1, h0, if_false]
            by_cases hl : n < 4 * i
            · rw [if_pos hl, if_pos (by omega)]
            · rw [if_neg hl, if_neg (by omega)]
  · have e : (List.range 32)[n]? = none := List.getElem?_eq_none (by simp; omega)
    have h3 : ¬ 4 * i + 3 = n := by omega
    have h2 : ¬ 4 * i + 2 = n := by omega
    have h1 : ¬ 4 * i + 1 = n := by omega
    have h0 : ¬ 4 * i = n := by omega
    simp only [h3, h2, h1, h0, if_false, e, Option.map_none]
theorem hashL_len (b : List Nat) : (hashL b).length = 32 := by unfold hashL bytesL; simp
theorem lastL_words (b : List Nat) : Words 8 (lastL b) := blockL_words (fullL_words _ _) (by decide)

theorem run_index_word (h : List Nat) (h8 : h.length = 8) (i : Nat) (hi : i < 8) (w : World) : (Instr.index 136 (.agg (wvs h).toArray) (.int .i64 (i : Nat))).run Try.prog w = .ok (.int .u32 (h.getD i 0 : Nat)) w := by
  match h, h8 with
  | [a0, a1, a2, a3, a4, a5, a6, a7], _ =>
    rcases (show i = 0 ∨ i = 1 ∨ i = 2 ∨ i = 3 ∨ i = 4 ∨ i = 5 ∨ i = 6 ∨ i = 7 by omega) with rfl | rfl | rfl | rfl | rfl | rfl | rfl | rfl
    all_goals (show _ = _; kernel_rfl)

def zV32 : List Value := bvs (List.replicate 32 0)
theorem z32_len : zV32.length = 32 := rfl
/-- The copy that is ended: the state laid into the second new block. -/
theorem hash_mid {g : Nat} {sf : Value} {all : List Nat} {w w2 : World} (hs : So w g sf all) (hw2 : w2 = ((w.alloc (.cells zV32.toArray 34)).alloc (.cells stZ.toArray 139)).setRow (w.heap.size + 1) (stL sf all.length (hOf all) (padL (tailL all))).toArray) :
    St w2 (w.heap.size + 1) sf all.length (hOf all) (padL (tailL all)) ∧ Blk w2 w.heap.size zV32 34 ∧ Below w.heap.size w w2 ∧ w2.heap.size = w.heap.size + 2 := by
  have hz : Blk ((w.alloc (.cells zV32.toArray 34)).alloc (.cells stZ.toArray 139)) (w.heap.size + 1) stZ 139 := Blk.new' _ _ _ _ (by simp)
  have hr : Blk ((w.alloc (.cells zV32.toArray 34)).alloc (.cells stZ.toArray 139)) w.heap.size zV32 34 := (Blk.new w _ _).alloc _
  have hb : Below w.heap.size w ((w.alloc (.cells zV32.toArray 34)).alloc (.cells stZ.toArray 139)) := ((Below.refl _ w).alloc (Nat.le_refl _) _).alloc (by simp) _
  have hbt : But (w.heap.size + 1) ((w.alloc (.cells zV32.toArray 34)).alloc (.cells stZ.toArray 139)) w2 := hw2 ▸ (But.refl _ _).setRow _
  exact ⟨⟨hw2 ▸ hz.row, hs.words, hs.bytes⟩, hbt.blk hr (by omega), hb.trans (hbt.below (by omega)), by rw [hbt.size]; simp⟩
/-- Behind the last block: what is known of the world with the hash's own array. -/
theorem hash_mid2 {w w2 w3 : World} {sf : Value} {n : Nat} {h bl : List Nat} (h2 : Blk w2 w.heap.size zV32 34 ∧ Below w.heap.size w w2 ∧ w2.heap.size = w.heap.size + 2) (hst : St w3 (w.heap.size + 1) sf n h bl) (hbx : Bex (w.heap.size + 1) w2 w3) :
    (w3.alloc (.cells zV32.toArray 34)).rangeAt (w.heap.size + 1) 2 (wvs h) ∧ Blk (w3.alloc (.cells zV32.toArray 34)) w3.heap.size zV32 34 ∧ Blk (w3.alloc (.cells zV32.toArray 34)) w.heap.size zV32 34 ∧ Below w.heap.size w (w3.alloc (.cells zV32.toArray 34)) ∧ w.heap.size < w3.heap.size := by
  have hsz := hbx.size
  refine ⟨?_, Blk.new _ _ _, (hbx.blk h2.1 (by omega)).alloc _, (h2.2.1.trans (hbx.below (by omega) (by omega))).alloc (by omega) _, by omega⟩
  intro j v hj
  have hj8 : j < 8 := by have := (List.getElem?_eq_some_iff.1 hj).1; rwa [wvs_len, hst.words.1] at this
  rw [(hst.alloc _).ch hj8, ← hj, wvs_get (by rw [hst.words.1]; exact hj8)]

set_option maxRecDepth 20000 in
set_option maxHeartbeats 8000000 in
theorem hash_any (g : Nat) (sf : Value) (all : List Nat) (w : World) (hsf : sf.oneCell' = true) (hs : So w g sf all) (hn : all.length ≤ 9223372036854775807) :
    Calls Try.prog 113 #[.pointer (some ⟨g, 0, none⟩)] w fun e w' => e = .returned (.agg (bvs (hashL all)).toArray) ∧ Below w.heap.size w w' := by
  have HS := hidp hs
  have HN := hidp hn
  have hz : ∀ w, (zeroValue 139).run Try.prog w = .ok (.agg stZ.toArray) w := (zero_of_info (P := Try.prog) zero_state).1
  have hz2 := hidp (Blk.new' (w.alloc (.cells zV32.toArray 34)) stZ 139 (w.heap.size + 1) (by simp))
  have hl := hidp ((hs.alloc (.cells zV32.toArray 34)).blk)
  have hlen : Hid ((stL sf all.length (hOf all) (padL (tailL all))).length = 74) := hidp (by rw [stL_len, hs.words.1, hs.bytes.1])
  have hone := hidp (stL_one sf hsf all.length (hOf all) (padL (tailL all)))
  clear hs hn hsf
  go_enter Try.func113, Try.ntmps113
  go_wp2_with (first | refine wpList_load_blk rfl 139 _ rfl g _ 139 rfl hl.out _ Try.underlying139 rfl (by rw [hlen.out]; kernel_rfl) ?_ | (refine wpList_store_blk rfl 139 _ _ rfl (w.heap.size + 1) (stL sf all.length (hOf all) (padL (tailL all))) stZ 139 rfl rfl hz2.out (by rw [hlen.out]; kernel_rfl) (by rw [hlen.out]; rfl) hone.out ?_; intro w2 hw2; have h2 := hidp (hash_mid HS.out hw2.out)) | (go_at_call 166; refine (compress_any (w.heap.size + 1) sf all.length _ _ 0xffffffff w2 h2.out.1 HN.out (by decide)).mono ?_; rintro e w3 ⟨rfl, hst, hbx⟩; rw [last_eq] at hst; have h3 := hidp (hash_mid2 h2.out.2 hst hbx); have hw := hidp hst.words; clear hst hbx) | refine wpList_load_mid rfl 136 _ rfl (w.heap.size + 1) 2 rfl _ _ h3.out.1 Try.underlying136 rfl (by rw [wvs_len, hw.out.1]; kernel_rfl) ?_)
  go_loopw [13] (fun x wr => ∃ i : Nat, i ≤ 8 ∧ x = .int .i64 i ∧ Hid (Blk wr w3.heap.size (bvs (partB (lastL all) i)) 34 ∧ Blk wr w.heap.size zV32 34 ∧ Below w.heap.size w wr)) (fun x _ => 8 - (intOf x).toNat)
  case atStart => exact ⟨0, by omega, rfl, by rw [partB_zero]; exact h3.out.2.1, h3.out.2.2.1, h3.out.2.2.2.1⟩
  case round =>
    obtain ⟨i, hi, rfl, hr⟩ := hrel
    have hlt2 := hidp h3.out.2.2.2.2
    by_cases h : i < 8
    · have hix := run_index_word (lastL all) (lastL_words all).1 i h
      have hsl := run_slice_arr (P := Try.prog) (t := 34) (e := 5) (n := 32) Try.underlying34 (by kernel_rfl) w3.heap.size 0 (l := 4 * i) (h := 4 * i + 4) (by omega) (by omega) (by omega)
      rw [show 4 * i + 4 - 4 * i = 4 by omega, Nat.zero_add] at hsl
      have HP := hidp (putWord_any w3.heap.size (4 * i) (32 - 4 * i) ((lastL all).getD i 0) _ 34 wr hr.out.1 (by rw [bvs_len, partB_len]; omega) ((lastL_words all).get i))
      have hpp := hidp (partB_put (lastL all) h)
      generalize (lastL all).getD i 0 = x at hix HP hpp
      have h := hidp h
      clear h3
      simp only [Int.natCast_mul, Int.natCast_add, Int.cast_ofNat_Int] at hsl
      go_wp2_with (go_at_call 168; refine HP.out.mono ?_; rintro e w5 ⟨rfl, hp1, hp2⟩; have hp := hidp (And.intro hp1 hp2); clear hp1 hp2)
      have h8 := h.out
      refine ⟨⟨i + 1, by omega, by go_num, hidp ⟨?_, hp.out.2.blk hr.out.2.1 ?_, hr.out.2.2.trans (hp.out.2.below ?_)⟩⟩, by simp [intOf]; omega⟩
      · rw [← hpp.out]; exact hp.out.1
      · have := hlt2.out; omega
      · have := hlt2.out; omega
    · obtain rfl : i = 8 := by omega
      clear h3 hl
      have hb := hidp (partB_all (lastL all) ▸ hr.out.1)
      go_wp2_with (first | refine wpList_load_blk rfl 34 _ rfl w3.heap.size (bvs (hashL all)) 34 rfl hb.out _ Try.underlying34 rfl (by rw [bvs_len, hashL_len]; kernel_rfl) ?_ | (refine wpList_store_blk rfl 34 _ _ rfl w.heap.size (bvs (hashL all)) zV32 34 rfl rfl hr.out.2.1 (by rw [bvs_len, hashL_len]; kernel_rfl) (by rw [bvs_len, hashL_len]; rfl) (bvs_one _) ?_; intro w6 hw6))
      have b2 : Blk w6 w.heap.size (bvs (hashL all)) 34 := by rw [hw6.out]; exact hr.out.2.1.row
      refine bodyPost_ret (v := .agg (bvs (hashL all)).toArray) ?_ rfl ⟨rfl, ?_⟩
      · exact results_cell_row Try.results113 _ _ w.heap.size 34 _ (0, 0) _ rfl b2 Try.underlying34 rfl (by rw [List.size_toArray, bvs_len, hashL_len]; kernel_rfl)
      · rw [hw6.out]; exact below_setRow hr.out.2.2 (Nat.le_refl _) _
end Go.Proofs.Ytdiklimikkplcaa
