/-
  Contract: a text read as a hash.
-/
import Derived.Test.YthcgenlhblbjaaaHn
import Derived.Lib.OthersKept
import Derived.Laws.RangeAny
namespace Go.Proofs.Ythcgenlhblbjaaa
open Go.RowKit Go.Lib

def byteAt (s : ByteArray) (j : Nat) : Nat := (s.data.toList.getD j 0).toNat
theorem byteAt_eq {s : ByteArray} {j : Nat} (h : j < s.size) : (s[j]'h).toNat = byteAt s j := by
  have h2 : j < s.data.toList.length := by simpa using h
  unfold byteAt
  rw [List.getD_eq_getElem?_getD, List.getElem?_eq_getElem h2]; rfl
theorem byteAt_lt (s : ByteArray) (j : Nat) : byteAt s j < 256 := UInt8.toNat_lt _
/-- The number of the digit at place j; 16: it is none. -/
def dgV (s : ByteArray) (j : Nat) : Nat := hexV (byteAt s j)
theorem hexV_le (c : Nat) : hexV c ≤ 16 := by unfold hexV; split <;> (try split) <;> omega
theorem hexV_high {c : Nat} (h : 128 ≤ c) : hexV c = 16 := by unfold hexV; rw [if_neg (by omega), if_neg (by omega)]
theorem hexV_low {c : Nat} (h : hexV c < 16) : c < 128 := by
  rcases Nat.lt_or_ge c 128 with h1 | h1
  · exact h1
  · rw [hexV_high h1] at h; omega
/-- The bytes behind k digits. -/
def partR (s : ByteArray) (k : Nat) : List Nat := (List.range 32).map fun j => if 2 * j + 1 < k then 16 * dgV s (2 * j) + dgV s (2 * j + 1) else if 2 * j < k then dgV s (2 * j) else 0
def readL (s : ByteArray) : List Nat := (List.range 32).map fun j => 16 * dgV s (2 * j) + dgV s (2 * j + 1)
theorem partR_len (s : ByteArray) (k : Nat) : (partR s k).length = 32 := by unfold partR; simp
theorem readL_len (s : ByteArray) : (readL s).length = 32 := by unfold readL; simp
theorem partR_zero (s : ByteArray) : partR s 0 = List.replicate 32 0 := by unfold partR; rfl
theorem partR_all (s : ByteArray) : partR s 64 = readL s := by
  unfold partR readL
  apply List.map_congr_left
  intro j hj
  have : j < 32 := by simpa using hj
  rw [if_pos (by omega)]
theorem partR_get (s : ByteArray) {k : Nat} (hk : k < 64) : (partR s k).getD (k / 2) 0 = if k % 2 = 0 then 0 else dgV s (k - 1) := by
  unfold partR
  rw [List.getD_eq_getElem?_getD, List.getElem?_map, List.getElem?_range (by omega)]
  simp only [Option.map_some, Option.getD_some]
  by_cases h : k % 2 = 0
  · rw [if_pos h, if_neg (by omega), if_neg (by omega)]
  · rw [if_neg h, if_neg (by omega), if_pos (by omega), show 2 * (k / 2) = k - 1 by omega]
/-- What the byte is behind the digit at k. -/
def stepR (s : ByteArray) (k : Nat) : Nat := if k % 2 = 0 then dgV s k else 16 * dgV s (k - 1) + dgV s k
theorem partR_set (s : ByteArray) {k : Nat} (hk : k < 64) : (partR s k).set (k / 2) (stepR s k) = partR s (k + 1) := by
  apply List.ext_getElem?
  intro n
  simp only [List.getElem?_set, partR_len]
  unfold partR stepR
  simp only [List.getElem?_map]
  by_cases hn : n < 32
  · rw [List.getElem?_range hn]
    simp only [Option.map_some]
    by_cases h : k / 2 = n
    · subst h
      rw [if_pos rfl, if_pos hn]
      by_cases h2 : k % 2 = 0
      · rw [if_pos h2, if_neg (by omega), if_pos (by omega), show 2 * (k / 2) = k by omega]
      · rw [if_neg h2, if_pos (by omega), show 2 * (k / 2) = k - 1 by omega, show k - 1 + 1 = k by omega]
    · rw [if_neg h]
      by_cases h2 : 2 * n + 1 < k
      · rw [if_pos h2, if_pos (by omega)]
      · rw [if_neg h2]
        by_cases h3 : 2 * n < k
        · rw [if_pos h3, if_neg (by omega), if_pos (by omega)]
        · rw [if_neg h3, if_neg (by omega), if_neg (by omega)]
  · rw [if_neg (by omega), List.getElem?_eq_none (by simp; omega)]; rfl
theorem or_nib {s : ByteArray} {k : Nat} (h1 : dgV s (k - 1) < 16) (h2 : dgV s k < 16) : bits .or .u8 (((if k % 2 = 0 then 0 else dgV s (k - 1) : Nat) : Int) * 16 % 256) ((dgV s k : Nat) : Int) = ((stepR s k : Nat) : Int) := by
  unfold stepR
  by_cases h : k % 2 = 0
  · rw [if_pos h, if_pos h]
    have q := (bits_nat .u8 8 (by decide) wraps_u8 0 (dgV s k) (by decide) (by show _ < 256; omega)).2
    rw [Nat.zero_or] at q
    exact q
  · rw [if_neg h, if_neg h]
    have e : ((dgV s (k - 1) : Nat) : Int) * 16 % 256 = ((dgV s (k - 1) * 16 : Nat) : Int) := by omega
    have q := (bits_nat .u8 8 (by decide) wraps_u8 (dgV s (k - 1) * 16) (dgV s k) (by show _ < 256; omega) (by show _ < 256; omega)).2
    have q2 : dgV s (k - 1) * 16 ||| dgV s k = dgV s (k - 1) * 16 + dgV s k := or_add (k := 4) (show dgV s k < 2 ^ 4 from h2)
    rw [e, q, q2, Nat.mul_comm]

/-- What 'Read' knows between its statements. -/
structure RdS (w wr : World) (s : ByteArray) (k : Nat) : Prop where
  h : Blk wr (w.heap.size + 1) (bvs (partR s k)) 26
  r : Blk wr w.heap.size z32 26
  it : wr.heap[w.heap.size + 2]? = some (.stringIter s k)
  bel : Below w.heap.size w wr
theorem RdS.iter {w wr : World} {s : ByteArray} {k : Nat} (H : RdS w wr s k) (k' : Nat) : Blk (wr.iterAt (w.heap.size + 2) s k') (w.heap.size + 1) (bvs (partR s k)) 26 ∧ Blk (wr.iterAt (w.heap.size + 2) s k') w.heap.size z32 26 ∧ (wr.iterAt (w.heap.size + 2) s k').heap[w.heap.size + 2]? = some (.stringIter s k') ∧ Below w.heap.size w (wr.iterAt (w.heap.size + 2) s k') := by
  have hb := (But.refl (w.heap.size + 2) wr).iterAt s k'
  exact ⟨hb.blk H.h (by omega), hb.blk H.r (by omega), iterAt_heap _ _ _ _ _ H.it, below_iterAt H.bel (by omega) _ _⟩
theorem RdS.start (w : World) (s : ByteArray) : RdS w (((w.alloc (.cells z32.toArray 26)).alloc (.cells (bvs (List.replicate 32 0)).toArray 26)).iter s 0) s 0 := by
  have e : ((w.alloc (.cells z32.toArray 26)).alloc (.cells (bvs (List.replicate 32 0)).toArray 26)).heap.size = w.heap.size + 2 := by simp
  refine ⟨?_, ((Blk.new w _ _).alloc _).alloc _, ?_, (((Below.refl _ w).alloc (Nat.le_refl _) _).alloc (by simp) _).alloc (by rw [e]; omega) _⟩
  · rw [partR_zero]
    exact (Blk.new' _ _ _ _ (by simp)).alloc _
  · rw [← e]; exact World.iter_heap _ _ _

theorem results_row2 {P : Program} {fn : Func} {p u : Tmp} {ty : TypeId} (h : fn.results = #[.cell p ty, .tmp u]) (tmps : Array Value) (w : World) (g : Nat) (t : TypeId) (cs : List Value) (d : TypeDesc)
    (hp : tmps.getD p undef = .pointer (some ⟨g, 0, none⟩)) (hb : Blk w g cs t) (hu : P.underlying ty = some d) (hd : (match d with | .struct _ | .array _ _ => true | _ => false) = true) (hi : (P.info? ty).map (·.size) = some cs.length) :
    (results fn tmps).run P w = .ok (.tuple #[.agg cs.toArray, tmps.getD u undef]) w := by
  have hr := run_loadVar_row (P := P) w g t ty cs.toArray (0, 0) d hb hu hd (by simpa using hi)
  rw [results_cell_tmp h, hp]
  simp [asAddr, hr, Result.andThen]

set_option maxHeartbeats 2000000 in
theorem read_len (s : ByteArray) (w : World) (hs : ¬ s.size = 64) : Calls Try.prog 14 #[.string s] w fun e w' => e = .returned (.tuple #[.agg z32.toArray, .int .i64 5]) ∧ Below w.heap.size w w' := by
  have hne : (((s.size : Nat) : Int) != 64) = true := by rw [bne_iff_ne]; omega
  have hr0 := hidp (Blk.new w z32 26)
  clear hs
  go_enter Try.func14, Try.ntmps14
  go_wp2_with (first | refine wpList_buildTo rfl 26 _ rfl _ rfl z32.toArray (by kernel_rfl) ?_ | (refine wpList_store_blk rfl 26 _ _ rfl w.heap.size z32 z32 26 rfl rfl hr0.out (by kernel_rfl) rfl (bvs_one _) ?_; intro w6 hw6))
  have b2 : Blk w6 w.heap.size z32 26 := by rw [hw6.out]; exact hr0.out.row
  refine bodyPost_ret (v := .tuple #[.agg z32.toArray, .int .i64 5]) ?_ rfl ⟨rfl, ?_⟩
  · exact results_row2 Try.results14 _ _ w.heap.size 26 _ _ rfl b2 Try.underlying26 rfl (by kernel_rfl)
  · rw [hw6.out]; exact below_setRow ((Below.refl _ w).alloc (Nat.le_refl _) _) (Nat.le_refl _) _

set_option maxRecDepth 20000 in
set_option maxHeartbeats 8000000 in
theorem read_ok (s : ByteArray) (w : World) (hs : s.size = 64) (hg : ∀ j, j < 64 → dgV s j < 16) : Calls Try.prog 14 #[.string s] w fun e w' => e = .returned (.tuple #[.agg (bvs (readL s)).toArray, .int .i64 0]) ∧ Below w.heap.size w w' := by
  have hne : (((s.size : Nat) : Int) != 64) = false := by rw [bne_eq_false_iff_eq]; omega
  have H0 := hidp (RdS.start w s)
  have HS := hidp hs
  have HG := hidp hg
  clear hs hg
  go_enter Try.func14, Try.ntmps14
  go_wp2
  go_loopw [15] (fun _ wr => ∃ k : Nat, k ≤ 64 ∧ Hid (RdS w wr s k)) (fun _ wr => 64 - wr.iterPos (w.heap.size + 2))
  case atStart => exact ⟨0, by omega, H0⟩
  case round =>
    obtain ⟨k, hk, hr⟩ := hrel
    clear H0
    by_cases h64 : k < 64
    · have hks : k < s.size := by rw [HS.out]; exact h64
      have hdk := HG.out k h64
      have hasc : (s[k]'hks).toNat < 128 := by rw [byteAt_eq hks]; exact hexV_low hdk
      have hnx := fun ty => run_next_ascii_at (P := Try.prog) wr (w.heap.size + 2) s k ty hr.out.it hks hasc
      have Hn := hidp (hr.out.iter (k + 1))
      rw [byteAt_eq hks] at hnx
      clear hks hasc
      generalize hwn : wr.iterAt (w.heap.size + 2) s (k + 1) = wn at hnx Hn
      have hvl := value_all (byteAt s k) wn
      have e1 : hexV (byteAt s k) = dgV s k := rfl
      rw [e1, if_pos hdk, decide_eq_true hdk] at hvl
      have hvl := hidp hvl
      have hor := or_nib (HG.out (k - 1) (by omega)) hdk
      have hset := partR_set s h64
      have hpc := (Hn.out.1.cell (k / 2)).trans (bvs_get (by rw [partR_len]; omega))
      rw [partR_get s h64] at hpc
      have hpf := Hn.out.1.free (k / 2)
      have hq : ((k : Int)).tdiv 2 = ((k / 2 : Nat) : Int) := by rw [Int.tdiv_eq_ediv_of_nonneg (by omega)]; omega
      have hw2 : wrap64 (((k / 2 : Nat) : Int)) = ((k / 2 : Nat) : Int) := w64 _ (by omega)
      have hq32 : ((k / 2 : Nat) : Int) < 32 := by omega
      generalize (if k % 2 = 0 then 0 else dgV s (k - 1)) = old at hor hpc
      generalize stepR s k = new at hor hset
      generalize dgV s k = d at hvl hor
      generalize byteAt s k = c at hnx hvl
      have hset := hidp hset
      clear e1 hdk hwn
      generalize hkk : k / 2 = q at hpc hpf hq hw2 hq32 hset
      have h64 := hidp h64
      have hkk := hidp hkk
      go_wp2_with (go_at_call 33; refine hvl.out.mono ?_; rintro e wx ⟨rfl, rfl⟩)
      have e : RdS w (wx.setCell ⟨w.heap.size + 1, q, none⟩ (.int .u8 (new : Nat))) s (k + 1) := by
        have hb := (But.refl (w.heap.size + 1) wx).setCell q (.int .u8 (new : Nat))
        refine ⟨?_, hb.blk Hn.out.2.1 (by omega), (hb.block _ (by omega)).trans Hn.out.2.2.1, Hn.out.2.2.2.trans (hb.below (by omega))⟩
        rw [← hset.out, ← bvs_set]
        exact Hn.out.1.set _ _
      refine ⟨⟨k + 1, by have := h64.out; omega, hidp e⟩, ?_⟩
      have e1 : wr.iterPos (w.heap.size + 2) = k := by unfold World.iterPos; rw [hr.out.it]
      have e2 := e.it
      have e2 : (wx.setCell ⟨w.heap.size + 1, q, none⟩ (.int .u8 (new : Nat))).iterPos (w.heap.size + 2) = k + 1 := by unfold World.iterPos; rw [e2]
      have := h64.out
      rw [e1, e2]; omega
    · obtain rfl : k = 64 := by omega
      have hnx := fun ty => run_next_end_at (P := Try.prog) wr (w.heap.size + 2) s 64 ty hr.out.it (by rw [HS.out]; omega)
      have hb := hidp (partR_all s ▸ hr.out.h)
      go_wp2_with (first | refine wpList_load_blk rfl 26 _ rfl (w.heap.size + 1) (bvs (readL s)) 26 rfl hb.out _ Try.underlying26 rfl (by rw [bvs_len, readL_len]; kernel_rfl) ?_ | (refine wpList_store_blk rfl 26 _ _ rfl w.heap.size (bvs (readL s)) z32 26 rfl rfl hr.out.r (by rw [bvs_len, readL_len]; kernel_rfl) (by rw [bvs_len, readL_len]; rfl) (bvs_one _) ?_; intro w6 hw6))
      have b2 : Blk w6 w.heap.size (bvs (readL s)) 26 := by rw [hw6.out]; exact hr.out.r.row
      refine bodyPost_ret (v := .tuple #[.agg (bvs (readL s)).toArray, .int .i64 0]) ?_ rfl ⟨rfl, ?_⟩
      · exact results_row2 Try.results14 _ _ w.heap.size 26 _ _ rfl b2 Try.underlying26 rfl (by rw [bvs_len, readL_len]; kernel_rfl)
      · rw [hw6.out]; exact below_setRow hr.out.bel (Nat.le_refl _) _

set_option maxRecDepth 20000 in
set_option maxHeartbeats 8000000 in
theorem read_bad (s : ByteArray) (i : Nat) (w : World) (hs : s.size = 64) (hi : i < 64) (hb : ¬ dgV s i < 16) (hg : ∀ j, j < i → dgV s j < 16) : Calls Try.prog 14 #[.string s] w fun e w' => e = .returned (.tuple #[.agg z32.toArray, .int .i64 5]) ∧ Below w.heap.size w w' := by
  have hne : (((s.size : Nat) : Int) != 64) = false := by rw [bne_eq_false_iff_eq]; omega
  have H0 := hidp (RdS.start w s)
  have HS := hidp hs
  have HG := hidp hg
  have HI := hidp hi
  have HBD := hidp hb
  clear hs hg hi hb
  go_enter Try.func14, Try.ntmps14
  go_wp2
  go_loopw [15] (fun _ wr => ∃ k : Nat, k ≤ i ∧ Hid (RdS w wr s k)) (fun _ wr => 64 - wr.iterPos (w.heap.size + 2))
  case atStart => exact ⟨0, Nat.zero_le _, H0⟩
  case round =>
    obtain ⟨k, hk, hr⟩ := hrel
    clear H0
    by_cases hki : k < i
    · have h64 : k < 64 := by have := HI.out; omega
      have hks : k < s.size := by rw [HS.out]; exact h64
      have hdk := HG.out k hki
      have hasc : (s[k]'hks).toNat < 128 := by rw [byteAt_eq hks]; exact hexV_low hdk
      have hnx := fun ty => run_next_ascii_at (P := Try.prog) wr (w.heap.size + 2) s k ty hr.out.it hks hasc
      have Hn := hidp (hr.out.iter (k + 1))
      rw [byteAt_eq hks] at hnx
      clear hks hasc
      generalize hwn : wr.iterAt (w.heap.size + 2) s (k + 1) = wn at hnx Hn
      have hvl := value_all (byteAt s k) wn
      have e1 : hexV (byteAt s k) = dgV s k := rfl
      rw [e1, if_pos hdk, decide_eq_true hdk] at hvl
      have hvl := hidp hvl
      have hor := or_nib (HG.out (k - 1) (by omega)) hdk
      have hki := hidp hki
      have hset := partR_set s h64
      have hpc := (Hn.out.1.cell (k / 2)).trans (bvs_get (by rw [partR_len]; omega))
      rw [partR_get s h64] at hpc
      have hpf := Hn.out.1.free (k / 2)
      have hq : ((k : Int)).tdiv 2 = ((k / 2 : Nat) : Int) := by rw [Int.tdiv_eq_ediv_of_nonneg (by omega)]; omega
      have hw2 : wrap64 (((k / 2 : Nat) : Int)) = ((k / 2 : Nat) : Int) := w64 _ (by omega)
      have hq32 : ((k / 2 : Nat) : Int) < 32 := by omega
      generalize (if k % 2 = 0 then 0 else dgV s (k - 1)) = old at hor hpc
      generalize stepR s k = new at hor hset
      generalize dgV s k = d at hvl hor
      generalize byteAt s k = c at hnx hvl
      have hset := hidp hset
      clear e1 hdk hwn
      generalize hkk : k / 2 = q at hpc hpf hq hw2 hq32 hset
      have h64 := hidp h64
      have hkk := hidp hkk
      go_wp2_with (go_at_call 33; refine hvl.out.mono ?_; rintro e wx ⟨rfl, rfl⟩)
      have e : RdS w (wx.setCell ⟨w.heap.size + 1, q, none⟩ (.int .u8 (new : Nat))) s (k + 1) := by
        have hb := (But.refl (w.heap.size + 1) wx).setCell q (.int .u8 (new : Nat))
        refine ⟨?_, hb.blk Hn.out.2.1 (by omega), (hb.block _ (by omega)).trans Hn.out.2.2.1, Hn.out.2.2.2.trans (hb.below (by omega))⟩
        rw [← hset.out, ← bvs_set]
        exact Hn.out.1.set _ _
      refine ⟨⟨k + 1, by have := hki.out; omega, hidp e⟩, ?_⟩
      have e1 : wr.iterPos (w.heap.size + 2) = k := by unfold World.iterPos; rw [hr.out.it]
      have e2 := e.it
      have e2 : (wx.setCell ⟨w.heap.size + 1, q, none⟩ (.int .u8 (new : Nat))).iterPos (w.heap.size + 2) = k + 1 := by unfold World.iterPos; rw [e2]
      have := h64.out
      rw [e1, e2]; omega
    · obtain rfl : k = i := by omega
      have hks : k < s.size := by rw [HS.out]; exact HI.out
      have hnx := fun ty => run_next_any_at (P := Try.prog) wr (w.heap.size + 2) s k ty hr.out.it hks
      have Hn := hidp (hr.out.iter (k + (Utf8.decode s k).2))
      have hc : hexV (Utf8.decode s k).1 = 16 := by
        rcases Nat.lt_or_ge (s[k]'hks).toNat 128 with h1 | h1
        · rw [decode_ascii s k hks h1, byteAt_eq hks]
          have h2 := hexV_le (byteAt s k)
          have h3 := HBD.out
          unfold dgV at h3
          show hexV (byteAt s k) = 16
          omega
        · exact hexV_high (decode_high s k hks h1).1
      generalize (Utf8.decode s k).1 = c at hnx hc
      generalize wr.iterAt (w.heap.size + 2) s (k + (Utf8.decode s k).2) = wn at hnx Hn
      have hvl := value_all c wn
      rw [hc, if_neg (by decide), decide_eq_false (by decide)] at hvl
      have hvl := hidp hvl
      clear hc hks
      go_wp2_with (first | (go_at_call 33; refine hvl.out.mono ?_; rintro e wx ⟨rfl, rfl⟩) | refine wpList_buildTo rfl 26 _ rfl _ rfl z32.toArray (by kernel_rfl) ?_ | (refine wpList_store_blk rfl 26 _ _ rfl w.heap.size z32 z32 26 rfl rfl Hn.out.2.1 (by kernel_rfl) rfl (bvs_one _) ?_; intro w6 hw6))
      have b2 : Blk w6 w.heap.size z32 26 := by rw [hw6.out]; exact Hn.out.2.1.row
      refine bodyPost_ret (v := .tuple #[.agg z32.toArray, .int .i64 5]) ?_ rfl ⟨rfl, ?_⟩
      · exact results_row2 Try.results14 _ _ w.heap.size 26 _ _ rfl b2 Try.underlying26 rfl (by kernel_rfl)
      · rw [hw6.out]; exact below_setRow Hn.out.2.2.2 (Nat.le_refl _) _
end Go.Proofs.Ythcgenlhblbjaaa
