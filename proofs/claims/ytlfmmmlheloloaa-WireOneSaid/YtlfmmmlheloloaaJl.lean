/-
  Contracts: a number's bytes.
-/
import Derived.Test.YtlfmmmlheloloaaJb
import Derived.Test.YtlfmmmlheloloaaJk
import Derived.Test.YtlfmmmlheloloaaJc
namespace Go.Proofs.Ytlfmmmlheloloaa
open Go.RowKit Go.Lib Go.Maps

/-- The nine bytes, the last i of them laid. -/
def formL (n i : Nat) : List Nat := (List.range 9).map fun j => if 9 - i ≤ j then n / 256 ^ (8 - j) % 256 else 0
theorem formL_len (n i : Nat) : (formL n i).length = 9 := by unfold formL; simp
theorem formL_zero (n : Nat) : formL n 0 = List.replicate 9 0 := by unfold formL; rfl
theorem formL_set (n : Nat) {i : Nat} (hi : i < 8) : (formL n i).set (8 - i) (n / 256 ^ i % 256) = formL n (i + 1) := by
  apply List.ext_getElem?
  intro j
  unfold formL
  rw [List.getElem?_set]
  by_cases h : 8 - i = j
  · subst h
    rw [if_pos rfl, if_pos (by simp; omega), List.getElem?_map, List.getElem?_range (by omega), Option.map_some, if_pos (by omega), show 8 - (8 - i) = i by omega]
  · rw [if_neg h, List.getElem?_map, List.getElem?_map]
    by_cases hj : j < 9
    · rw [List.getElem?_range hj, Option.map_some, Option.map_some]
      by_cases h2 : 9 - i ≤ j
      · rw [if_pos h2, if_pos (by omega)]
      · rw [if_neg h2, if_neg (by omega)]
    · rw [List.getElem?_eq_none (by simp; omega)]; rfl
def numF (n k : Nat) : List Nat := (formL n k).set (8 - k) k
theorem numF_len (n k : Nat) : (numF n k).length = 9 := by unfold numF; rw [List.length_set, formL_len]
/-- A number's bytes. -/
def numB (n k : Nat) : List Nat := (numF n k).drop (8 - k)
theorem numB_len (n : Nat) {k : Nat} (hk : k ≤ 8) : (numB n k).length = k + 1 := by unfold numB; rw [List.length_drop, numF_len]; omega
theorem numB_byte (n : Nat) {k : Nat} (hk : k ≤ 8) : ∀ x ∈ numB n k, x < 256 := by
  intro x hx
  have hx2 := List.mem_of_mem_drop hx
  unfold numF at hx2
  rcases List.mem_or_eq_of_mem_set hx2 with h | h
  · unfold formL at h
    simp only [List.mem_map] at h
    obtain ⟨j, _, rfl⟩ := h
    split
    · exact Nat.mod_lt _ (by decide)
    · decide
  · omega
theorem numF_bs {w : World} {B n k : Nat} (hk : k ≤ 8) (h : Blk w B (bvs (numF n k)) 184) : Bs w (some ⟨B, 8 - k, none⟩) B (8 - k) (numB n k) (k + 1) := by
  refine ⟨numB_byte n hk, by rw [numB_len n hk]; exact Nat.le_refl _, fun _ => ⟨rfl, h.lt⟩, fun i hi => ?_⟩
  rw [numB_len n hk] at hi
  unfold numB
  rw [getD_drop, h.cell]
  exact bvs_get (by rw [numF_len]; omega)

set_option maxRecDepth 20000 in
set_option maxHeartbeats 8000000 in
theorem numForm_any (n k : Nat) (w : World) (hn : n < 9223372036854775808) (hd : Digs n k) :
    Calls Try.prog 127 #[.int .i64 (n : Nat)] w fun e w' => e = .returned (.slice (some ⟨w.heap.size, 8 - k, none⟩) (k + 1) (k + 1)) ∧ Blk w' w.heap.size (bvs (numF n k)) 184 ∧ Below w.heap.size w w' := by
  have hk8 := hd.2.2
  have HL := hidp (fun w => len_digs n k w hn hd)
  have HN := hidp (And.intro hn hd)
  have hcv : (n : Int) % 18446744073709551616 = (n : Int) := by omega
  have hcv2 : IntKind.u64.wrap (n : Int) = (n : Int) := by rw [IntKind.wrap_u64]; omega
  have h0 := hidp (Blk.new w (bvs (formL n 0)) 184)
  have hB := hidp ((Below.refl _ w).alloc (Nat.le_refl _) (.cells (bvs (formL n 0)).toArray 184))
  rw [formL_zero] at h0 hB
  clear hn hd
  go_enter Try.func127, Try.ntmps127
  go_wp2_with fail
  refine (HL.out _).mono ?_
  rintro e w1 ⟨r, rfl, rfl, hr⟩
  have hr64 : wrap64 ((r : Int) + 7) = (r : Int) + 7 := w64 _ (by omega)
  have hdv : ((r : Int) + 7).tdiv 8 = (k : Int) := by rw [Int.tdiv_eq_ediv_of_nonneg (by omega)]; omega
  have hdv2 : ((r : Int) + 7) / 8 = (k : Int) := by omega
  have hrk : (r : Int) ≤ 64 := by omega
  have HK := hidp hk8
  clear hr
  go_wp2
  go_loopw [13] (fun x wr => ∃ i : Nat, i ≤ k ∧ x = .int .i64 i ∧ Hid (Blk wr w.heap.size (bvs (formL n i)) 184 ∧ Below w.heap.size w wr)) (fun x _ => k - (Go.RowKit.intOf x).toNat)
  case atStart => exact ⟨0, by omega, rfl, by rw [formL_zero]; exact hidp ⟨h0.out, hB.out⟩⟩
  case round =>
    obtain ⟨i, hi, rfl, hr⟩ := hrel
    by_cases hik : i < k
    · have hset := hidp (formL_set n (i := i) (by omega))
      have HI := hidp hik
      have hii : decide (i < k) = true := decide_eq_true hik
      have hij : decide ((i : Int) < (k : Int)) = true := decide_eq_true (by omega)
      have hnn := HN.out.1
      have hsh : Hid (∀ j, j < 8 → i = j → ((n / 256 ^ j % 256 : Nat) : Int) = (n : Int) / 256 ^ j % 256) := hidp (fun j _ _ => by rw [Int.natCast_emod, Int.natCast_ediv, Int.natCast_pow]; rfl)
      obtain ⟨vo, ho⟩ : ∃ v, wr.cell? ⟨w.heap.size, 8 - i, none⟩ = some v := ⟨_, (hr.out.1.cell (8 - i)).trans (bvs_get (by rw [formL_len]; omega))⟩
      have hfree := hr.out.1.free (8 - i)
      have h8 : i = 0 ∨ i = 1 ∨ i = 2 ∨ i = 3 ∨ i = 4 ∨ i = 5 ∨ i = 6 ∨ i = 7 := by omega
      clear h0 hB hi hik hr64 hdv hdv2 hcv hcv2
      rcases h8 with rfl | rfl | rfl | rfl | rfl | rfl | rfl | rfl
      · simp only [Int.cast_ofNat_Int]
        have hv : Hid (((n / 256 ^ 0 % 256 : Nat) : Int) = (n : Int) % 256) := hidp (by omega)
        try simp only [Int.cast_ofNat_Int] at hij
        go_wp2
        refine ⟨⟨0 + 1, HI.out, rfl, ?_⟩, by have := HI.out; simp [Go.RowKit.intOf]; omega⟩
        rw [← hset.out]
        have hE := hv.out
        try rw [← hE]
        exact hidp ⟨bvs_set _ _ _ ▸ hr.out.1.set _ _, hr.out.2.setCell (by simp) _⟩
      · simp only [Int.cast_ofNat_Int]
        have hv : Hid (((n / 256 ^ 1 % 256 : Nat) : Int) = (n : Int) / 256 % 256) := hidp (by omega)
        try simp only [Int.cast_ofNat_Int] at hij
        go_wp2
        refine ⟨⟨1 + 1, HI.out, rfl, ?_⟩, by have := HI.out; simp [Go.RowKit.intOf]; omega⟩
        rw [← hset.out]
        have hE := hv.out
        try rw [← hE]
        exact hidp ⟨bvs_set _ _ _ ▸ hr.out.1.set _ _, hr.out.2.setCell (by simp) _⟩
      · simp only [Int.cast_ofNat_Int]
        have hv : Hid (((n / 256 ^ 2 % 256 : Nat) : Int) = (n : Int) / 65536 % 256) := hidp (by omega)
        try simp only [Int.cast_ofNat_Int] at hij
        go_wp2
        refine ⟨⟨2 + 1, HI.out, rfl, ?_⟩, by have := HI.out; simp [Go.RowKit.intOf]; omega⟩
        rw [← hset.out]
        have hE := hv.out
        try rw [← hE]
        exact hidp ⟨bvs_set _ _ _ ▸ hr.out.1.set _ _, hr.out.2.setCell (by simp) _⟩
      · simp only [Int.cast_ofNat_Int]
        have hv : Hid (((n / 256 ^ 3 % 256 : Nat) : Int) = (n : Int) / 16777216 % 256) := hidp (by omega)
        try simp only [Int.cast_ofNat_Int] at hij
        go_wp2
        refine ⟨⟨3 + 1, HI.out, rfl, ?_⟩, by have := HI.out; simp [Go.RowKit.intOf]; omega⟩
        rw [← hset.out]
        have hE := hv.out
        try rw [← hE]
        exact hidp ⟨bvs_set _ _ _ ▸ hr.out.1.set _ _, hr.out.2.setCell (by simp) _⟩
      · simp only [Int.cast_ofNat_Int]
        have hv : Hid (((n / 256 ^ 4 % 256 : Nat) : Int) = (n : Int) / 4294967296 % 256) := hidp (by omega)
        try simp only [Int.cast_ofNat_Int] at hij
        go_wp2
        refine ⟨⟨4 + 1, HI.out, rfl, ?_⟩, by have := HI.out; simp [Go.RowKit.intOf]; omega⟩
        rw [← hset.out]
        have hE := hv.out
        try rw [← hE]
        exact hidp ⟨bvs_set _ _ _ ▸ hr.out.1.set _ _, hr.out.2.setCell (by simp) _⟩
      · simp only [Int.cast_ofNat_Int]
        have hv : Hid (((n / 256 ^ 5 % 256 : Nat) : Int) = (n : Int) / 1099511627776 % 256) := hidp (by omega)
        try simp only [Int.cast_ofNat_Int] at hij
        go_wp2
        refine ⟨⟨5 + 1, HI.out, rfl, ?_⟩, by have := HI.out; simp [Go.RowKit.intOf]; omega⟩
        rw [← hset.out]
        have hE := hv.out
        try rw [← hE]
        exact hidp ⟨bvs_set _ _ _ ▸ hr.out.1.set _ _, hr.out.2.setCell (by simp) _⟩
      · simp only [Int.cast_ofNat_Int]
        have hv : Hid (((n / 256 ^ 6 % 256 : Nat) : Int) = (n : Int) / 281474976710656 % 256) := hidp (by omega)
        try simp only [Int.cast_ofNat_Int] at hij
        go_wp2
        refine ⟨⟨6 + 1, HI.out, rfl, ?_⟩, by have := HI.out; simp [Go.RowKit.intOf]; omega⟩
        rw [← hset.out]
        have hE := hv.out
        try rw [← hE]
        exact hidp ⟨bvs_set _ _ _ ▸ hr.out.1.set _ _, hr.out.2.setCell (by simp) _⟩
      · simp only [Int.cast_ofNat_Int]
        have hv : Hid (((n / 256 ^ 7 % 256 : Nat) : Int) = (n : Int) / 72057594037927936) := hidp (by omega)
        try simp only [Int.cast_ofNat_Int] at hij
        go_wp2
        refine ⟨⟨7 + 1, HI.out, rfl, ?_⟩, by have := HI.out; simp [Go.RowKit.intOf]; omega⟩
        rw [← hset.out]
        have hE := hv.out
        try rw [← hE]
        exact hidp ⟨bvs_set _ _ _ ▸ hr.out.1.set _ _, hr.out.2.setCell (by simp) _⟩
    · obtain rfl : i = k := by omega
      have hl8 : (8 : Int) - (i : Int) = ((8 - i : Nat) : Int) := by omega
      have h9 : (9 : Int) - (i : Int) - 1 = ((8 - i : Nat) : Int) := by omega
      have hu8 : (i : Int) % 256 = (i : Int) := by omega
      obtain ⟨l, hl⟩ : ∃ l, l = 8 - i := ⟨_, rfl⟩
      rw [← hl] at h9
      have hl9 : l < 9 := by omega
      have hfree := hr.out.1.free l
      obtain ⟨vo, ho⟩ : ∃ v, wr.cell? ⟨w.heap.size, l, none⟩ = some v := ⟨_, (hr.out.1.cell l).trans (bvs_get (by rw [formL_len]; omega))⟩
      have hw1 : wrap64 ((9 : Int) - (i : Int) - 1) = (l : Int) := by rw [h9]; exact w64 _ (by omega)
      have hsl := run_slice_arr_l (P := Try.prog) (t := 184) (e := 5) (n := 9) Try.underlying184 (by kernel_rfl) w.heap.size 0 (l := l) hl9
      rw [Nat.zero_add] at hsl
      have hlt : (l : Int) < 9 := by omega
      have HL2 := hidp hl
      clear hl hr64 hdv hdv2 hcv hcv2 hl8
      go_wp2
      go_ret
      have e1 : 9 - l = i + 1 := by have := HL2.out; have := HK.out; omega
      refine ⟨by rw [e1, HL2.out]; rfl, ?_, hr.out.2.setCell (by simp) _⟩
      unfold numF
      rw [← HL2.out]
      exact bvs_set _ _ _ ▸ hr.out.1.set _ _
end Go.Proofs.Ytlfmmmlheloloaa
