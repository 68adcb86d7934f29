/-
  Contracts: a writer's Word, Bytes, Text, Done; new writers and readers.
-/
import Derived.Test.YtlfmmmlheloloaaJn
import Derived.Lib.ConvBytes
namespace Go.Proofs.Ytlfmmmlheloloaa
open Go.RowKit Go.Lib Go.Maps

/-! Word. -/
def formW (n i : Nat) : List Nat := (List.range 8).map fun j => if 8 - i ≤ j then n / 256 ^ (7 - j) % 256 else 0
theorem formW_len (n i : Nat) : (formW n i).length = 8 := by unfold formW; simp
theorem formW_zero (n : Nat) : formW n 0 = List.replicate 8 0 := by unfold formW; rfl
theorem formW_set (n : Nat) {i : Nat} (hi : i < 8) : (formW n i).set (7 - i) (n / 256 ^ i % 256) = formW n (i + 1) := by
  apply List.ext_getElem?
  intro j
  unfold formW
  rw [List.getElem?_set]
  by_cases h : 7 - i = j
  · subst h
    rw [if_pos rfl, if_pos (by simp; omega), List.getElem?_map, List.getElem?_range (by omega), Option.map_some, if_pos (by omega), show 7 - (7 - i) = i by omega]
  · rw [if_neg h, List.getElem?_map, List.getElem?_map]
    by_cases hj : j < 8
    · rw [List.getElem?_range hj, Option.map_some, Option.map_some]
      by_cases h2 : 8 - i ≤ j
      · rw [if_pos h2, if_pos (by omega)]
      · rw [if_neg h2, if_neg (by omega)]
    · rw [List.getElem?_eq_none (by simp; omega)]; rfl
def wordB (n : Nat) : List Nat := formW n 8
theorem wordB_len (n : Nat) : (wordB n).length = 8 := formW_len n 8
theorem formW_byte (n i : Nat) : ∀ x ∈ formW n i, x < 256 := by
  intro x hx
  unfold formW at hx
  simp only [List.mem_map] at hx
  obtain ⟨j, _, rfl⟩ := hx
  split
  · exact Nat.mod_lt _ (by decide)
  · decide
theorem arr_bs {w : World} {B : Nat} {X : List Nat} {T : TypeId} (hX : ∀ x ∈ X, x < 256) (h : Blk w B (bvs X) T) : Bs w (some ⟨B, 0, none⟩) B 0 X X.length :=
  ⟨hX, Nat.le_refl _, fun _ => ⟨rfl, h.lt⟩, fun i hi => by rw [Nat.zero_add, h.cell i]; exact bvs_get hi⟩

set_option maxRecDepth 20000 in
set_option maxHeartbeats 4000000 in
theorem wWord_ok {w : World} {g lim : Nat} {v : Value} {L : List Nat} (H : Wr w g lim v L 0) (n : Nat) (hn : n < 18446744073709551616) (hs : L.length + 8 ≤ lim) :
    Calls Try.prog 67 #[.pointer (some ⟨g, 0, none⟩), .int .u64 (n : Nat)] w (PutP w g lim v (L ++ wordB n)) := by
  have HH := hidp H
  have HS := hidp hs
  have h0 := hidp (Blk.new w (bvs (formW n 0)) 171)
  have hB := hidp ((Below.refl _ w).alloc (Nat.le_refl _) (.cells (bvs (formW n 0)).toArray 171))
  rw [formW_zero] at h0 hB
  clear H hs
  go_enter Try.func67, Try.ntmps67
  go_wp2
  go_loopw [7] (fun x wr => ∃ i : Nat, i ≤ 8 ∧ x = .int .i64 i ∧ Hid (Blk wr w.heap.size (bvs (formW n i)) 171 ∧ Below w.heap.size w wr)) (fun x _ => 8 - (Go.RowKit.intOf x).toNat)
  case atStart => exact ⟨0, by omega, rfl, by rw [formW_zero]; exact hidp ⟨h0.out, hB.out⟩⟩
  case round =>
    obtain ⟨i, hi, rfl, hr⟩ := hrel
    by_cases hik : i < 8
    · have hset := hidp (formW_set n hik)
      obtain ⟨vo, ho⟩ : ∃ v, wr.cell? ⟨w.heap.size, 7 - i, none⟩ = some v := ⟨_, (hr.out.1.cell (7 - i)).trans (bvs_get (by rw [formW_len]; omega))⟩
      have hfree := hr.out.1.free (7 - i)
      have h8 : i = 0 ∨ i = 1 ∨ i = 2 ∨ i = 3 ∨ i = 4 ∨ i = 5 ∨ i = 6 ∨ i = 7 := by omega
      clear h0 hB hi hik
      rcases h8 with rfl | rfl | rfl | rfl | rfl | rfl | rfl | rfl
      · simp only [Int.cast_ofNat_Int]
        have hv : Hid (((n / 256 ^ 0 % 256 : Nat) : Int) = (n : Int) % 256) := hidp (by omega)
        go_wp2
        refine ⟨⟨0 + 1, by omega, rfl, ?_⟩, by simp [Go.RowKit.intOf]⟩
        rw [← hset.out]
        have hE := hv.out
        try rw [← hE]
        exact hidp ⟨bvs_set _ _ _ ▸ hr.out.1.set _ _, hr.out.2.setCell (by simp) _⟩
      · simp only [Int.cast_ofNat_Int]
        have hv : Hid (((n / 256 ^ 1 % 256 : Nat) : Int) = (n : Int) / 256 % 256) := hidp (by omega)
        go_wp2
        refine ⟨⟨1 + 1, by omega, rfl, ?_⟩, by simp [Go.RowKit.intOf]⟩
        rw [← hset.out]
        have hE := hv.out
        try rw [← hE]
        exact hidp ⟨bvs_set _ _ _ ▸ hr.out.1.set _ _, hr.out.2.setCell (by simp) _⟩
      · simp only [Int.cast_ofNat_Int]
        have hv : Hid (((n / 256 ^ 2 % 256 : Nat) : Int) = (n : Int) / 65536 % 256) := hidp (by omega)
        go_wp2
        refine ⟨⟨2 + 1, by omega, rfl, ?_⟩, by simp [Go.RowKit.intOf]⟩
        rw [← hset.out]
        have hE := hv.out
        try rw [← hE]
        exact hidp ⟨bvs_set _ _ _ ▸ hr.out.1.set _ _, hr.out.2.setCell (by simp) _⟩
      · simp only [Int.cast_ofNat_Int]
        have hv : Hid (((n / 256 ^ 3 % 256 : Nat) : Int) = (n : Int) / 16777216 % 256) := hidp (by omega)
        go_wp2
        refine ⟨⟨3 + 1, by omega, rfl, ?_⟩, by simp [Go.RowKit.intOf]⟩
        rw [← hset.out]
        have hE := hv.out
        try rw [← hE]
        exact hidp ⟨bvs_set _ _ _ ▸ hr.out.1.set _ _, hr.out.2.setCell (by simp) _⟩
      · simp only [Int.cast_ofNat_Int]
        have hv : Hid (((n / 256 ^ 4 % 256 : Nat) : Int) = (n : Int) / 4294967296 % 256) := hidp (by omega)
        go_wp2
        refine ⟨⟨4 + 1, by omega, rfl, ?_⟩, by simp [Go.RowKit.intOf]⟩
        rw [← hset.out]
        have hE := hv.out
        try rw [← hE]
        exact hidp ⟨bvs_set _ _ _ ▸ hr.out.1.set _ _, hr.out.2.setCell (by simp) _⟩
      · simp only [Int.cast_ofNat_Int]
        have hv : Hid (((n / 256 ^ 5 % 256 : Nat) : Int) = (n : Int) / 1099511627776 % 256) := hidp (by omega)
        go_wp2
        refine ⟨⟨5 + 1, by omega, rfl, ?_⟩, by simp [Go.RowKit.intOf]⟩
        rw [← hset.out]
        have hE := hv.out
        try rw [← hE]
        exact hidp ⟨bvs_set _ _ _ ▸ hr.out.1.set _ _, hr.out.2.setCell (by simp) _⟩
      · simp only [Int.cast_ofNat_Int]
        have hv : Hid (((n / 256 ^ 6 % 256 : Nat) : Int) = (n : Int) / 281474976710656 % 256) := hidp (by omega)
        go_wp2
        refine ⟨⟨6 + 1, by omega, rfl, ?_⟩, by simp [Go.RowKit.intOf]⟩
        rw [← hset.out]
        have hE := hv.out
        try rw [← hE]
        exact hidp ⟨bvs_set _ _ _ ▸ hr.out.1.set _ _, hr.out.2.setCell (by simp) _⟩
      · simp only [Int.cast_ofNat_Int]
        have hv : Hid (((n / 256 ^ 7 % 256 : Nat) : Int) = (n : Int) / 72057594037927936) := hidp (by omega)
        go_wp2
        refine ⟨⟨7 + 1, by omega, rfl, ?_⟩, by simp [Go.RowKit.intOf]⟩
        rw [← hset.out]
        have hE := hv.out
        try rw [← hE]
        exact hidp ⟨bvs_set _ _ _ ▸ hr.out.1.set _ _, hr.out.2.setCell (by simp) _⟩
    · obtain rfl : i = 8 := by omega
      simp only [Int.cast_ofNat_Int]
      have hsl := fun w' => run_sliceAt_all (P := Try.prog) (t := 171) (e := 5) (n := 8) Try.underlying171 (by kernel_rfl) (by decide) w.heap.size 0 w'
      clear h0 hB hi hik
      go_wp2_with fail
      have hsz := hr.out.2.size
      have hlt := hr.out.1.lt
      have hb := (arr_bs (formW_byte n 8) hr.out.1)
      rw [formW_len] at hb
      have hlw : (formW n 8).length = 8 := formW_len n 8
      refine (put1 (X := wordB n) HH.out (hr.out.2.alloc hsz _) (hb.below ((Below.refl _ wr).alloc (Nat.le_refl _) _)) (fun _ => Nat.le_refl _) (fun h => by cases h) hsz (by rw [wordB_len]; exact Blk.new _ _ _) (by rw [wordB_len]; exact HS.out) _).mono ?_
      rintro e w2 ⟨rfl, h⟩
      replace h := hidp h
      clear hsz hlt hb hsl
      go_wp2
      go_ret
      exact ⟨rfl, h.out⟩

set_option maxRecDepth 20000 in
set_option maxHeartbeats 4000000 in
theorem wWord_long {w : World} {g lim : Nat} {v : Value} {L : List Nat} (H : Wr w g lim v L 0) (n : Nat) (hn : n < 18446744073709551616) (hs : lim < L.length + 8) :
    Calls Try.prog 67 #[.pointer (some ⟨g, 0, none⟩), .int .u64 (n : Nat)] w (LongP w g lim) := by
  have HH := hidp H
  have HS := hidp hs
  have h0 := hidp (Blk.new w (bvs (formW n 0)) 171)
  have hB := hidp ((Below.refl _ w).alloc (Nat.le_refl _) (.cells (bvs (formW n 0)).toArray 171))
  rw [formW_zero] at h0 hB
  clear H hs
  go_enter Try.func67, Try.ntmps67
  go_wp2
  go_loopw [7] (fun x wr => ∃ i : Nat, i ≤ 8 ∧ x = .int .i64 i ∧ Hid (Blk wr w.heap.size (bvs (formW n i)) 171 ∧ Below w.heap.size w wr)) (fun x _ => 8 - (Go.RowKit.intOf x).toNat)
  case atStart => exact ⟨0, by omega, rfl, by rw [formW_zero]; exact hidp ⟨h0.out, hB.out⟩⟩
  case round =>
    obtain ⟨i, hi, rfl, hr⟩ := hrel
    by_cases hik : i < 8
    · have hset := hidp (formW_set n hik)
      obtain ⟨vo, ho⟩ : ∃ v, wr.cell? ⟨w.heap.size, 7 - i, none⟩ = some v := ⟨_, (hr.out.1.cell (7 - i)).trans (bvs_get (by rw [formW_len]; omega))⟩
      have hfree := hr.out.1.free (7 - i)
      have h8 : i = 0 ∨ i = 1 ∨ i = 2 ∨ i = 3 ∨ i = 4 ∨ i = 5 ∨ i = 6 ∨ i = 7 := by omega
      clear h0 hB hi hik
      rcases h8 with rfl | rfl | rfl | rfl | rfl | rfl | rfl | rfl
      · simp only [Int.cast_ofNat_Int]
        have hv : Hid (((n / 256 ^ 0 % 256 : Nat) : Int) = (n : Int) % 256) := hidp (by omega)
        go_wp2
        refine ⟨⟨0 + 1, by omega, rfl, ?_⟩, by simp [Go.RowKit.intOf]⟩
        rw [← hset.out]
        have hE := hv.out
        try rw [← hE]
        exact hidp ⟨bvs_set _ _ _ ▸ hr.out.1.set _ _, hr.out.2.setCell (by simp) _⟩
      · simp only [Int.cast_ofNat_Int]
        have hv : Hid (((n / 256 ^ 1 % 256 : Nat) : Int) = (n : Int) / 256 % 256) := hidp (by omega)
        go_wp2
        refine ⟨⟨1 + 1, by omega, rfl, ?_⟩, by simp [Go.RowKit.intOf]⟩
        rw [← hset.out]
        have hE := hv.out
        try rw [← hE]
        exact hidp ⟨bvs_set _ _ _ ▸ hr.out.1.set _ _, hr.out.2.setCell (by simp) _⟩
      · simp only [Int.cast_ofNat_Int]
        have hv : Hid (((n / 256 ^ 2 % 256 : Nat) : Int) = (n : Int) / 65536 % 256) := hidp (by omega)
        go_wp2
        refine ⟨⟨2 + 1, by omega, rfl, ?_⟩, by simp [Go.RowKit.intOf]⟩
        rw [← hset.out]
        have hE := hv.out
        try rw [← hE]
        exact hidp ⟨bvs_set _ _ _ ▸ hr.out.1.set _ _, hr.out.2.setCell (by simp) _⟩
      · simp only [Int.cast_ofNat_Int]
        have hv : Hid (((n / 256 ^ 3 % 256 : Nat) : Int) = (n : Int) / 16777216 % 256) := hidp (by omega)
        go_wp2
        refine ⟨⟨3 + 1, by omega, rfl, ?_⟩, by simp [Go.RowKit.intOf]⟩
        rw [← hset.out]
        have hE := hv.out
        try rw [← hE]
        exact hidp ⟨bvs_set _ _ _ ▸ hr.out.1.set _ _, hr.out.2.setCell (by simp) _⟩
      · simp only [Int.cast_ofNat_Int]
        have hv : Hid (((n / 256 ^ 4 % 256 : Nat) : Int) = (n : Int) / 4294967296 % 256) := hidp (by omega)
        go_wp2
        refine ⟨⟨4 + 1, by omega, rfl, ?_⟩, by simp [Go.RowKit.intOf]⟩
        rw [← hset.out]
        have hE := hv.out
        try rw [← hE]
        exact hidp ⟨bvs_set _ _ _ ▸ hr.out.1.set _ _, hr.out.2.setCell (by simp) _⟩
      · simp only [Int.cast_ofNat_Int]
        have hv : Hid (((n / 256 ^ 5 % 256 : Nat) : Int) = (n : Int) / 1099511627776 % 256) := hidp (by omega)
        go_wp2
        refine ⟨⟨5 + 1, by omega, rfl, ?_⟩, by simp [Go.RowKit.intOf]⟩
        rw [← hset.out]
        have hE := hv.out
        try rw [← hE]
        exact hidp ⟨bvs_set _ _ _ ▸ hr.out.1.set _ _, hr.out.2.setCell (by simp) _⟩
      · simp only [Int.cast_ofNat_Int]
        have hv : Hid (((n / 256 ^ 6 % 256 : Nat) : Int) = (n : Int) / 281474976710656 % 256) := hidp (by omega)
        go_wp2
        refine ⟨⟨6 + 1, by omega, rfl, ?_⟩, by simp [Go.RowKit.intOf]⟩
        rw [← hset.out]
        have hE := hv.out
        try rw [← hE]
        exact hidp ⟨bvs_set _ _ _ ▸ hr.out.1.set _ _, hr.out.2.setCell (by simp) _⟩
      · simp only [Int.cast_ofNat_Int]
        have hv : Hid (((n / 256 ^ 7 % 256 : Nat) : Int) = (n : Int) / 72057594037927936) := hidp (by omega)
        go_wp2
        refine ⟨⟨7 + 1, by omega, rfl, ?_⟩, by simp [Go.RowKit.intOf]⟩
        rw [← hset.out]
        have hE := hv.out
        try rw [← hE]
        exact hidp ⟨bvs_set _ _ _ ▸ hr.out.1.set _ _, hr.out.2.setCell (by simp) _⟩
    · obtain rfl : i = 8 := by omega
      simp only [Int.cast_ofNat_Int]
      have hsl := fun w' => run_sliceAt_all (P := Try.prog) (t := 171) (e := 5) (n := 8) Try.underlying171 (by kernel_rfl) (by decide) w.heap.size 0 w'
      clear h0 hB hi hik
      go_wp2_with fail
      have hsz := hr.out.2.size
      have hlt := hr.out.1.lt
      have hb := (arr_bs (formW_byte n 8) hr.out.1)
      rw [formW_len] at hb
      have hlw : (formW n 8).length = 8 := formW_len n 8
      refine (put1_long (X := wordB n) HH.out (hr.out.2.alloc hsz _) (hb.below ((Below.refl _ wr).alloc (Nat.le_refl _) _)) (fun _ => Nat.le_refl _) (fun h => by cases h) hsz (by rw [wordB_len]; exact Blk.new _ _ _) (by rw [wordB_len]; exact HS.out) (by rw [wordB_len]; decide) _).mono ?_
      rintro e w2 ⟨rfl, h⟩
      replace h := hidp h
      clear hsz hlt hb hsl
      go_wp2
      go_ret
      exact ⟨rfl, h.out⟩

end Go.Proofs.Ytlfmmmlheloloaa
