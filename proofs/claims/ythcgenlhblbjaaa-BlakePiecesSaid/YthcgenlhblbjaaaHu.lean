/-
  Contract: BlakeKnown.
-/
import Derived.Test.YthcgenlhblbjaaaHr
import Derived.Test.YthcgenlhblbjaaaHs
import Derived.Test.YthcgenlhblbjaaaHt
namespace Go.Proofs.Ythcgenlhblbjaaa
open Go.RowKit Go.Lib

def aS (n : Nat) : ByteArray := ⟨(List.replicate n 65).toArray⟩
theorem aS_size (n : Nat) : (aS n).size = n := by
  show ((List.replicate n (65 : UInt8)).toArray).size = n
  simp
theorem aS_succ (n : Nat) : aS n ++ ⟨#[65]⟩ = aS (n + 1) := by
  apply ByteArray.ext
  apply Array.toList_inj.1
  unfold aS
  simp [List.replicate_succ']
set_option maxHeartbeats 1000000 in
theorem times_any (w : World) : Calls Try.prog 24 #[.string ⟨#[65]⟩, .int .i64 64] w fun e w' => e = .returned (.string (aS 64)) ∧ w' = w := by
  have h0 : (⟨#[]⟩ : ByteArray) = aS 0 := rfl
  have H0 := hidp h0
  clear h0
  go_enter Try.func24, Try.ntmps24
  go_wp2
  go_loopw [5, 6] (fun s x wr => ∃ i : Nat, i ≤ 64 ∧ x = .int .i64 i ∧ s = .string (aS i) ∧ Hid (wr = w)) (fun _ x _ => 64 - (RowKit.intOf x).toNat)
  case atStart => exact ⟨0, by omega, rfl, by rw [← H0.out], hidp rfl⟩
  case round =>
    obtain ⟨i, hi, rfl, rfl, hw⟩ := hrel
    by_cases h : i < 64
    · have hc := aS_succ i
      have hsz := aS_size i
      have HC := hidp hc
      have H := hidp h
      clear hc
      go_wp2
      exact ⟨⟨i + 1, by have := H.out; omega, by go_num, by rw [← HC.out], hw⟩, by have := H.out; simp [RowKit.intOf]; omega⟩
    · obtain rfl : i = 64 := by omega
      go_wp2
      go_ret
      exact ⟨rfl, hw.out⟩
theorem bad_A : ¬ goodR (aS 64) := by
  intro h
  have := h.2 0 (by decide)
  revert this
  decide +kernel
theorem kr_A (w : World) : Calls Try.prog 14 #[.string (aS 64)] w fun e w' => e = .returned (.tuple #[.agg z32.toArray, .int .i64 5]) ∧ Below w.heap.size w w' := by
  have h := read_any (aS 64) w
  rw [readO_no bad_A] at h
  exact h
theorem kr_none (w : World) : Calls Try.prog 14 #[.string ⟨#[]⟩] w fun e w' => e = .returned (.tuple #[.agg z32.toArray, .int .i64 5]) ∧ Below w.heap.size w w' := by
  have h := read_len ⟨#[]⟩ w (by decide)
  exact h
theorem kc_one (w : World) : Calls Try.prog 18 #[.agg #[.int .u8 1, .int .u8 0, .int .u8 0, .int .u8 0, .int .u8 0, .int .u8 0, .int .u8 0, .int .u8 0, .int .u8 0, .int .u8 0, .int .u8 0, .int .u8 0, .int .u8 0, .int .u8 0, .int .u8 0, .int .u8 0, .int .u8 0, .int .u8 0, .int .u8 0, .int .u8 0, .int .u8 0, .int .u8 0, .int .u8 0, .int .u8 0, .int .u8 0, .int .u8 0, .int .u8 0, .int .u8 0, .int .u8 0, .int .u8 0, .int .u8 0, .int .u8 0], .agg #[.int .u8 0, .int .u8 9, .int .u8 0, .int .u8 0, .int .u8 0, .int .u8 0, .int .u8 0, .int .u8 0, .int .u8 0, .int .u8 0, .int .u8 0, .int .u8 0, .int .u8 0, .int .u8 0, .int .u8 0, .int .u8 0, .int .u8 0, .int .u8 0, .int .u8 0, .int .u8 0, .int .u8 0, .int .u8 0, .int .u8 0, .int .u8 0, .int .u8 0, .int .u8 0, .int .u8 0, .int .u8 0, .int .u8 0, .int .u8 0, .int .u8 0, .int .u8 0]] w fun e w' => e = .returned (.int .i64 1) ∧ Below w.heap.size w w' := by
  have h := compare_any (1 :: List.replicate 31 0) (0 :: 9 :: List.replicate 30 0) w ⟨rfl, by decide⟩ ⟨rfl, by decide⟩
  rw [show cmpL (1 :: List.replicate 31 0) (0 :: 9 :: List.replicate 30 0) = 1 by decide] at h
  exact h
/-- A constant's bytes, where the row was laid. -/
theorem const_here (w : World) (l : List Nat) (fz : Nat × Nat) (hl : ∀ x ∈ l, x < 256) : Bsl (w.alloc (.cells (bvs l).toArray 5 fz)) (some ⟨w.heap.size, 0, none⟩) w.heap.size 0 l l.length := by
  refine ⟨hl, Nat.le_refl _, fun _ => ⟨rfl, by simp⟩, fun i hi => ?_⟩
  have hg : (w.alloc (.cells (bvs l).toArray 5 fz)).heap[w.heap.size]? = some (.cells (bvs l).toArray 5 fz) := by
    show (w.heap.push _)[w.heap.size]? = _
    simp
  rw [Nat.zero_add]
  simp only [World.cell?, hg]
  rw [List.getElem?_toArray]
  exact bvs_get hi
/-- Behind New and both Writes. -/
theorem kw_1 (w1 : World) (g : Nat) (hs : So w1 g (ptrV g) []) : Calls Try.prog 21 #[.pointer (some ⟨g, 0, none⟩), .slice (some ⟨w1.heap.size, 0, none⟩) 1 1] (w1.alloc (.cells #[.int .u8 97] 5 (1, 2))) fun e w' => e = .returned (.int .i64 0) ∧ So w' g (ptrV g) [97] ∧ Bex g w1 w' := by
  have h := write_any g [] [97] _ w1.heap.size 0 1 (w1.alloc (.cells #[.int .u8 97] 5 (1, 2))) (hs.alloc _) (const_here w1 [97] (1, 2) (by decide)) (by have := hs.lt; omega) (by simp) (by decide)
  refine h.mono ?_
  rintro e w' ⟨h1, h2, h3⟩
  exact ⟨h1, h2, ((Bex.refl g w1).alloc _).trans h3⟩
theorem kw_2 (w1 : World) (g : Nat) (hs : So w1 g (ptrV g) [97]) : Calls Try.prog 21 #[.pointer (some ⟨g, 0, none⟩), .slice (some ⟨w1.heap.size, 0, none⟩) 2 2] (w1.alloc (.cells #[.int .u8 98, .int .u8 99] 5 (2, 3))) fun e w' => e = .returned (.int .i64 0) ∧ So w' g (ptrV g) abcL ∧ Bex g w1 w' := by
  have h := write_any g [97] [98, 99] _ w1.heap.size 0 2 (w1.alloc (.cells #[.int .u8 98, .int .u8 99] 5 (2, 3))) (hs.alloc _) (const_here w1 [98, 99] (2, 3) (by decide)) (by have := hs.lt; omega) (by decide) (by decide)
  refine h.mono ?_
  rintro e w' ⟨h1, h2, h3⟩
  exact ⟨h1, h2, ((Bex.refl g w1).alloc _).trans h3⟩
/-- A hash laid into a box of its own. -/
theorem box_mid {w w1 w2 : World} {h : List Nat} (hB : Below w.heap.size w w1) (hw2 : w2 = (w1.alloc (.cells z32.toArray 26)).setRow w1.heap.size (bvs h).toArray) : Below w.heap.size w w2 ∧ Below w1.heap.size w1 w2 ∧ Blk w2 w1.heap.size (bvs h) 26 := by
  have hbt : But w1.heap.size (w1.alloc (.cells z32.toArray 26)) w2 := hw2 ▸ (But.refl _ _).setRow _
  have h1 : Below w1.heap.size w1 w2 := ((Below.refl _ w1).alloc (Nat.le_refl _) _).trans (hbt.below (Nat.le_refl _))
  exact ⟨hB.trans (h1.mono hB.size), h1, hw2 ▸ Blk.row (Blk.new w1 z32 _)⟩

set_option maxRecDepth 20000 in
set_option maxHeartbeats 8000000 in
theorem known_any (w : World) : Calls Try.prog 6 #[] w fun e w' => e = .returned (.bool true) ∧ Below w.heap.size w w' := by
  have hgd := guard_hash
  have hc1 := fun w n c => run_convert_bytes_const (P := Try.prog) w 22 5 #[.int .u8 97] n c Try.underlying22 Try.underlying5
  have hc2 := fun w n c => run_convert_bytes_const (P := Try.prog) w 22 5 #[.int .u8 98, .int .u8 99] n c Try.underlying22 Try.underlying5
  go_enter Try.func6, Try.ntmps6
  go_wp2_with fail
  refine (new_any _).mono ?_
  rintro e w1 ⟨g, rfl, hg, hs1, hB1⟩
  have hs1 := hidp hs1
  have hB1 := hidp hB1
  have hg := hidp hg
  unfold ptrV
  go_wp2_with fail
  refine (kw_1 w1 g hs1.out).mono ?_
  rintro e w2 ⟨rfl, hs2, hx2⟩
  have hs2 := hidp hs2
  have hx2 := hidp hx2
  go_wp2_with fail
  refine (kw_2 w2 g hs2.out).mono ?_
  rintro e w3 ⟨rfl, hs3, hx3⟩
  have hs3 := hidp hs3
  have hx3 := hidp hx3
  have hB3 := hidp (hB1.out.trans ((hx2.out.trans hx3.out).below hg.out hB1.out.size))
  have hl := hidp (len_any g abcL w3 hs3.out)
  unfold ptrV at hl
  clear hs1 hs2 hx2 hx3 hB1
  go_wp2_with (go_at_call 22; refine hl.out.mono ?_; rintro e wx ⟨rfl, hx⟩; rw [hx]; clear hx wx)
  refine (sumM_any g abcL w3 hs3.out (by decide)).mono ?_
  rintro e w4 ⟨rfl, hB4⟩
  have hB4 := hidp (hB3.out.trans (hB4.mono hB3.out.size))
  have hz4 := hidp (Blk.new w4 z32 26)
  clear hl hs3 hB3
  go_wp2_with (refine wpList_store_blk rfl 26 _ _ rfl w4.heap.size (bvs abcH) z32 26 rfl rfl hz4.out (by rw [bvs_len, abcH_len]; kernel_rfl) (by rw [bvs_len, abcH_len]; rfl) (bvs_one _) ?_; intro w5 hw5)
  have h5 := hidp (box_mid hB4.out hw5.out)
  clear hz4 hw5 hB4
  refine (kr_none w5).mono ?_
  rintro e w6 ⟨rfl, hB6⟩
  have h6 : Hid (Below w.heap.size w w6 ∧ Blk w6 w4.heap.size (bvs abcH) 26) := hidp ⟨h5.out.1.trans (hB6.mono h5.out.1.size), h5.out.2.2.below hB6 h5.out.2.2.lt⟩
  have hz6 := hidp (Blk.new w6 z32 26)
  clear h5 hB6
  go_wp2_with (refine wpList_store_blk rfl 26 _ _ rfl w6.heap.size z32 z32 26 rfl rfl hz6.out (by kernel_rfl) rfl (bvs_one _) ?_; intro w7 hw7)
  have h7 : Hid (Below w.heap.size w w7 ∧ Blk w7 w4.heap.size (bvs abcH) 26) := by
    have q := box_mid (h := List.replicate 32 0) h6.out.1 hw7.out
    exact hidp ⟨q.1, h6.out.2.below q.2.1 h6.out.2.lt⟩
  clear hz6 hw7 h6
  refine (times_any w7).mono ?_
  rintro e wx ⟨rfl, hx⟩
  rw [hx]
  clear hx wx
  go_wp2_with fail
  refine (kr_A w7).mono ?_
  rintro e w8 ⟨rfl, hB8⟩
  have h8 : Hid (Below w.heap.size w w8 ∧ Blk w8 w4.heap.size (bvs abcH) 26) := hidp ⟨h7.out.1.trans (hB8.mono h7.out.1.size), h7.out.2.below hB8 h7.out.2.lt⟩
  have hz8 := hidp (Blk.new w8 z32 26)
  clear h7 hB8
  go_wp2_with (refine wpList_store_blk rfl 26 _ _ rfl w8.heap.size z32 z32 26 rfl rfl hz8.out (by kernel_rfl) rfl (bvs_one _) ?_; intro w9 hw9)
  have h9 : Hid (Below w.heap.size w w9 ∧ Blk w9 w4.heap.size (bvs abcH) 26) := by
    have q := box_mid (h := List.replicate 32 0) h8.out.1 hw9.out
    exact hidp ⟨q.1, h8.out.2.below q.2.1 h8.out.2.lt⟩
  clear hz8 hw9 h8
  refine (awake_any w9).mono ?_
  rintro e w10 ⟨rfl, hB10⟩
  have h10 : Hid (Below w.heap.size w w10 ∧ Blk w10 w4.heap.size (bvs abcH) 26) := hidp ⟨h9.out.1.trans (hB10.mono h9.out.1.size), h9.out.2.below hB10 h9.out.2.lt⟩
  clear h9 hB10
  go_wp2_with (first | refine wpList_load_blkG rfl 26 _ rfl w4.heap.size (bvs abcH) 26 rfl h10.out.2 _ Try.underlying26 rfl (by rw [bvs_len, abcH_len]; kernel_rfl) ?_ | (go_at_call 16; refine (kt_abc w10).mono ?_; rintro e w11 ⟨rfl, hB11⟩; have h11 := hidp (h10.out.1.trans (hB11.mono h10.out.1.size)); clear hB11) | (go_at_call 18; refine (kc_one w11).mono ?_; rintro e w12 ⟨rfl, hB12⟩; have h12 := hidp (h11.out.trans (hB12.mono h11.out.size)); clear hB12))
  go_ret
  exact ⟨rfl, h12.out⟩
end Go.Proofs.Ythcgenlhblbjaaa
