/-
  Contracts of package wide: Of, Plus, Sum (as those of layer 1's texts).
-/
import Derived.Test.YtdiklimikkplcaaQa
import Derived.Test.YtdiklimikkplcaaMa
import Derived.WalkKit
import Derived.WalkSpells
import Derived.WalkLawsBesides
namespace Go.Proofs.Ytdiklimikkplcaa
open Go.RowKit

/-- A wide as a value: both of its words. -/
abbrev wv (x : Nat) : Value := .agg #[.int .u64 (hiw x), .int .u64 (low x)]
/-- The wide 0, as the walk writes it. -/
abbrev wz : Value := .agg #[.int .u64 0, .int .u64 0]
theorem Of_neg (n : Int) (w : World) (h : n < 0) :
    Calls Try.prog 186 #[.int .i64 n] w fun e w' => e = .returned (.tuple #[wz, .int .i64 3]) ∧ Below w.heap.size w w' := by
  go_enter Try.func186, Try.ntmps186
  go_wp2
  exact bodyPost_ret (v := .tuple #[wz, .int .i64 3]) (by simp [results, Try.results186, go_sem]) rfl ⟨rfl, (Below.refl _ _).alloc (Nat.le_refl _) _⟩
/-- bits.Add64, with 2^64 behind its name. -/
theorem Add64_law (x y c : Nat) (hc : c ≤ 1) (w : World) :
    (callFunc 199 #[.int .u64 x, .int .u64 y, .int .u64 c]).run Try.prog w =
      .ok (.value (.tuple #[.int .u64 (((x + y + c) % B64 : Nat) : Int), .int .u64 (((x + y + c) / B64 : Nat) : Int)])) w := by
  rw [run_callFunc_extern Try.func199 (by kernel_rfl) (by kernel_rfl) (by kernel_rfl) (e := add64Entry) (by kernel_rfl), run_add64 x y c (by omega) (by omega) (by omega) (by omega)]
  simp only [Result.andThen, B64]
  congr 5 <;> omega
theorem Add64_lo (a b : Nat) (w : World) :
    (callFunc 199 #[.int .u64 (low a), .int .u64 (low b), .int .u64 0]).run Try.prog w = .ok (.value (.tuple #[.int .u64 (low (a + b)), .int .u64 (carry a b)])) w := by
  have h := Add64_law (low a) (low b) 0 (by omega) w
  rw [Nat.add_zero, add_low] at h
  exact h
theorem Add64_hi (a b : Nat) (w : World) :
    (callFunc 199 #[.int .u64 (hiw a), .int .u64 (hiw b), .int .u64 (carry a b)]).run Try.prog w = .ok (.value (.tuple #[.int .u64 (hi2 a b), .int .u64 (full a b)])) w :=
  Add64_law (hiw a) (hiw b) (carry a b) (carry_le a b) w
set_option maxHeartbeats 400000 in
theorem Plus_ok (a b : Nat) (w : World) (h : a + b < W128) :
    Calls Try.prog 187 #[wv a, wv b] w fun e w' => e = .returned (.tuple #[wv (a + b), .int .i64 0]) ∧ Below w.heap.size w w' := by
  have k1 := Add64_lo a b
  have k2 := Add64_hi a b
  rw [hi2_eq h, full_no h] at k2
  go_enter Try.func187, Try.ntmps187
  go_wp2
  exact bodyPost_ret (v := .tuple #[wv (a + b), .int .i64 0]) (by simp [results, Try.results187, go_sem]) rfl ⟨rfl, by (repeat' (first | (with_reducible exact Below.refl _ _) | (with_reducible refine Below.alloc ?_ ?_ _) | (with_reducible refine Below.drew ?_) | (with_reducible refine Below.drewN ?_ _) | (with_reducible refine Below.setCell ?_ ?_ _) | go_size))⟩
set_option maxHeartbeats 400000 in
theorem Plus_full (a b : Nat) (w : World) (ha : a < W128) (hb : b < W128) (h : ¬ a + b < W128) :
    Calls Try.prog 187 #[wv a, wv b] w fun e w' => e = .returned (.tuple #[wz, .int .i64 7]) ∧ Below w.heap.size w w' := by
  have k1 := Add64_lo a b
  have k2 := Add64_hi a b
  rw [full_yes ha hb h] at k2
  go_enter Try.func187, Try.ntmps187
  go_wp2
  exact bodyPost_ret (v := .tuple #[wz, .int .i64 7]) (by simp [results, Try.results187, go_sem]) rfl ⟨rfl, by (repeat' (first | (with_reducible exact Below.refl _ _) | (with_reducible refine Below.alloc ?_ ?_ _) | (with_reducible refine Below.drew ?_) | (with_reducible refine Below.drewN ?_ _) | (with_reducible refine Below.setCell ?_ ?_ _) | go_size))⟩
theorem Of_ok (n : Int) (w : World) (h : 0 ≤ n) (hn : n ≤ 9223372036854775807) :
    Calls Try.prog 186 #[.int .i64 n] w fun e w' => e = .returned (.tuple #[.agg #[.int .u64 0, .int .u64 n], .int .i64 0]) ∧ Below w.heap.size w w' := by
  go_enter Try.func186, Try.ntmps186
  go_wp2
  exact bodyPost_ret (v := .tuple #[.agg #[.int .u64 0, .int .u64 n], .int .i64 0]) (by simp [results, Try.results186, go_sem]) rfl ⟨rfl, by (repeat' (first | (with_reducible exact Below.refl _ _) | (with_reducible refine Below.alloc ?_ ?_ _) | (with_reducible refine Below.drew ?_) | (with_reducible refine Below.drewN ?_ _) | (with_reducible refine Below.setCell ?_ ?_ _) | go_size))⟩
theorem wv_nat {n : Nat} (h : n ≤ 9223372036854775807) : wv n = .agg #[.int .u64 0, .int .u64 n] := by
  have h1 : hiw n = 0 := by unfold hiw B64; omega
  have h2 : low n = n := by unfold low B64; omega
  unfold wv; rw [h1, h2]; rfl
theorem Of_nat (n : Nat) (w : World) (hn : n ≤ 9223372036854775807) :
    Calls Try.prog 186 #[.int .i64 n] w fun e w' => e = .returned (.tuple #[wv n, .int .i64 0]) ∧ Below w.heap.size w w' := by
  rw [wv_nat hn]; exact Of_ok n w (by omega) (by omega)
set_option maxHeartbeats 400000 in
theorem step_neg (s : Nat) (z : Int) (w : World) (hz : z < 0) :
    Calls Try.prog 185 #[wv s, .int .i64 z] w fun e w' => e = .returned (.tuple #[wz, .int .i64 3]) ∧ Below w.heap.size w w' := by
  go_enter Try.func185, Try.ntmps185
  go_wp2_with fail
  refine (Of_neg z _ hz).mono ?_
  rintro e w1 ⟨rfl, hB⟩
  obtain ⟨hc, hf⟩ := bcell hB
  have HB := hidp hB; have hs := hB.size; clear hB
  simp only [World.size_alloc] at hs
  have hz : w.heap.size + 1 < w1.heap.size := by omega
  go_wp2
  exact bodyPost_ret (v := .tuple #[wz, .int .i64 3]) (by simp [results, Try.results185, go_sem, hc, hz]) rfl ⟨rfl, by (repeat' (first | (with_reducible exact Below.refl _ _) | (with_reducible refine Below.alloc ?_ ?_ _) | (with_reducible refine Below.drew ?_) | (with_reducible refine Below.drewN ?_ _) | (with_reducible refine Below.setCell ?_ ?_ _) | (with_reducible refine Below.trans ?_ (Below.mono HB.out ?_)) | go_size | (have i0_ := HB.out.size; (try simp at i0_); (try simp); omega)))⟩
set_option maxHeartbeats 400000 in
theorem step_ok (s n : Nat) (w : World) (hn : n ≤ 9223372036854775807) (h : s + n < W128) :
    Calls Try.prog 185 #[wv s, .int .i64 n] w fun e w' => e = .returned (.tuple #[wv (s + n), .int .i64 0]) ∧ Below w.heap.size w w' := by
  have H := hidp h; clear h
  go_enter Try.func185, Try.ntmps185
  go_wp2_with fail
  refine (Of_nat n _ hn).mono ?_
  rintro e w1 ⟨rfl, hB⟩
  obtain ⟨hc, hf⟩ := bcell hB
  have HB := hidp hB; have hs := hB.size; clear hB
  simp only [World.size_alloc] at hs
  have hz0 : w.heap.size < w1.heap.size := by omega
  have hz : w.heap.size + 1 < w1.heap.size := by omega
  go_wp2_with fail
  refine (Plus_ok s n _ H.out).mono ?_
  rintro e w2 ⟨rfl, hB2⟩
  obtain ⟨hc2, hf2⟩ := bcell hB2
  have HB2 := hidp hB2; have hs2 := hB2.size; clear hB2
  simp only [World.size_alloc] at hs2
  have hz2 : w.heap.size + 1 < w2.heap.size := by omega
  go_wp2
  exact bodyPost_ret (v := .tuple #[wv (s + n), .int .i64 0]) (by simp [results, Try.results185, go_sem, hc2, hc, hz0, hz]) rfl ⟨rfl, by (repeat' (first | (with_reducible exact Below.refl _ _) | (with_reducible refine Below.alloc ?_ ?_ _) | (with_reducible refine Below.drew ?_) | (with_reducible refine Below.drewN ?_ _) | (with_reducible refine Below.setCell ?_ ?_ _) | (with_reducible refine Below.trans ?_ (Below.mono HB.out ?_)) | (with_reducible refine Below.trans ?_ (Below.mono HB2.out ?_)) | go_size | (have i0_ := HB.out.size; (try simp at i0_); (try simp); omega) | (have i0_ := HB.out.size; (try simp at i0_); have i1_ := HB2.out.size; (try simp at i1_); (try simp); omega)))⟩
/-- The sum of numbers from 0 on. -/
def sumN (zs : List Int) : Nat := (zs.map Int.toNat).sum
theorem sumN_snoc (zs : List Int) (k : Nat) (h : k < zs.length) : sumN (zs.take (k + 1)) = sumN (zs.take k) + (zs[k]?.getD 0).toNat := by
  unfold sumN
  rw [List.take_succ_eq_append_getElem h, List.map_append, List.sum_append, List.getElem?_eq_getElem h]
  simp
theorem sumN_le (zs : List Int) (h : ∀ z ∈ zs, z ≤ 9223372036854775807) : sumN zs ≤ zs.length * 9223372036854775807 := by
  unfold sumN
  induction zs with
  | nil => simp
  | cons z r ih =>
    have h1 := h z (by simp)
    have h2 := ih fun y hy => h y (by simp [hy])
    simp only [List.map_cons, List.sum_cons, List.length_cons]
    omega
theorem sumN_lt (zs : List Int) (k : Nat) (hl : zs.length ≤ 1000) (h : ∀ z ∈ zs, z ≤ 9223372036854775807) : sumN (zs.take k) < W128 := by
  have h1 := sumN_le (zs.take k) fun z hz => h z (List.mem_of_mem_take hz)
  have h2 : (zs.take k).length ≤ 1000 := by rw [List.length_take]; omega
  have h3 : (zs.take k).length * 9223372036854775807 ≤ 1000 * 9223372036854775807 := Nat.mul_le_mul_right _ h2
  unfold W128; omega
/-- What Sum answers. -/
def sumV (zs : List Int) : Value := if ∀ z ∈ zs, 0 ≤ z then .tuple #[wv (sumN zs), .int .i64 0] else .tuple #[wz, .int .i64 3]
theorem sumV_neg {zs : List Int} {z : Int} (hin : z ∈ zs) (hz : z < 0) : sumV zs = .tuple #[wz, .int .i64 3] := by
  unfold sumV; rw [if_neg]; intro h; have := h z hin; omega
theorem sumV_ok {zs : List Int} (h : ∀ z ∈ zs, 0 ≤ z) : sumV zs = .tuple #[wv (sumN zs), .int .i64 0] := by
  unfold sumV; rw [if_pos h]
theorem take_snoc_ok {zs : List Int} {k : Nat} (h : k < zs.length) (h1 : ∀ z ∈ zs.take k, 0 ≤ z) (h2 : 0 ≤ zs[k]?.getD 0) : ∀ z ∈ zs.take (k + 1), 0 ≤ z := by
  intro z hz
  rw [List.take_succ_eq_append_getElem h, List.mem_append, List.mem_singleton] at hz
  rw [List.getElem?_eq_getElem h] at h2
  rcases hz with hz | rfl
  · exact h1 z hz
  · exact h2
/-- Whole numbers that lie behind a slice's address, one a cell. -/
def IntsAt (w : World) (a : Option Addr) (zs : List Int) : Prop := ∀ k, k < zs.length → ∃ b off, a = some ⟨b, off, none⟩ ∧ w.cell? ⟨b, off + k, none⟩ = some (.int .i64 (zs[k]?.getD 0))
theorem IntsAt.below {B : Nat} {w w' : World} {a : Option Addr} {zs : List Int} (h : IntsAt w a zs) (hB : Below B w w') (hs : w.heap.size ≤ B) : IntsAt w' a zs := by
  intro k hk
  obtain ⟨b, off, ha, hc⟩ := h k hk
  exact ⟨b, off, ha, (hB.cell (p := ⟨b, off + k, none⟩) (Nat.lt_of_lt_of_le (World.block_lt_of_cell? w _ hc) hs)).trans hc⟩
set_option maxHeartbeats 1000000 in
theorem fold_any (a : Option Addr) (n cap : Nat) (zs : List Int) (w : World) (hl : zs.length ≤ 1000) (hm : ∀ z ∈ zs, z ≤ 9223372036854775807) (hn : zs.length = n) (hc : IntsAt w a zs) :
    Calls Try.prog 184 #[.slice a n cap, .func (.func 185) #[] #[]] w fun e w' => e = .returned (sumV zs) ∧ Below w.heap.size w w' := by
  have HL := hidp hl; have HM := hidp hm; have HN := hidp hn; have HC := hidp hc
  have hn1 : n ≤ 1000 := by omega
  clear hl hm hn hc
  go_enter Try.func184, Try.ntmps184
  go_wp2
  go_loopw [14] (fun i wr => ∃ k : Nat, k ≤ n ∧ i = .int .i64 k ∧ Hid ((∀ z ∈ zs.take k, 0 ≤ z) ∧ Blk wr (w.heap.size + 1) [.int .u64 (hiw (sumN (zs.take k))), .int .u64 (low (sumN (zs.take k)))] 114 ∧ Blk wr (w.heap.size + 2) [.int .u64 0, .int .u64 0] 114 ∧ Blk wr w.heap.size [.int .u64 0, .int .u64 0] 114 ∧ Below w.heap.size w wr)) (fun i _ => n - (intOf i).toNat)
  case atStart =>
    refine ⟨0, by omega, rfl, ?_, ?_, ?_, ?_, by (repeat' (first | (with_reducible exact Below.refl _ _) | (with_reducible refine Below.alloc ?_ ?_ _) | (with_reducible refine Below.drew ?_) | (with_reducible refine Below.drewN ?_ _) | (with_reducible refine Below.setCell ?_ ?_ _) | go_size))⟩
    · intro z hz; rw [List.take_zero] at hz; cases hz
    · have e1 : ((hiw (sumN (zs.take 0)) : Nat) : Int) = 0 := by rw [List.take_zero]; rfl
      have e2 : ((low (sumN (zs.take 0)) : Nat) : Int) = 0 := by rw [List.take_zero]; rfl
      rw [e1, e2]
      exact (Blk.new' _ [.int .u64 0, .int .u64 0] _ _ (by simp)).alloc _
    · exact (Blk.new' _ [.int .u64 0, .int .u64 0] _ _ (by simp))
    · exact ((Blk.new' _ [.int .u64 0, .int .u64 0] _ _ (by simp)).alloc _).alloc _
  case round =>
    obtain ⟨k, hk, rfl, hr⟩ := hrel
    have bs := hr.out.2.1
    have s0 := bs.cell 0
    have s1 := bs.cell 1
    have g0 := bs.free 0
    have g1 := bs.free 1
    have br := hr.out.2.2.2.1
    have r0 := br.cell 0
    have r1 := br.cell 1
    have f0 := br.free 0
    have f1 := br.free 1
    simp only [List.getElem?_cons_zero, List.getElem?_cons_succ] at s0 s1 r0 r1
    have BS := hidp bs; have BR := hidp br; clear bs br
    by_cases hlt : k < n
    · obtain ⟨b, off, ha, hc0⟩ := HC.out k (by rw [HN.out]; exact hlt)
      subst ha
      have c := (hr.out.2.2.2.2.cell (p := ⟨b, off + k, none⟩) (World.block_lt_of_cell? w _ hc0)).trans hc0
      clear hc0
      have hin : zs[k]?.getD 0 ∈ zs := by rw [List.getElem?_eq_getElem (by rw [HN.out]; exact hlt)]; exact List.getElem_mem _
      have hz1 := HM.out _ hin
      by_cases hz : zs[k]?.getD 0 < 0
      · go_wp2_with fail
        refine (step_neg _ _ _ hz).mono ?_
        rintro e w1 ⟨rfl, hB1⟩
        have br := BR.out.below hB1 BR.out.lt
        have k0 := br.cell 0
        have k1 := br.cell 1
        have q0 := br.free 0
        have q1 := br.free 1
        have bz := hr.out.2.2.1.below hB1 hr.out.2.2.1.lt
        have z0 := bz.cell 0
        have z1 := bz.cell 1
        simp only [List.getElem?_cons_zero, List.getElem?_cons_succ] at k0 k1 z0 z1
        have HB1 := hidp hB1; have hs := hr.out.2.2.1.lt; have hs1 := hB1.size; clear hB1 br bz c
        have hlt1 : w.heap.size + 2 < w1.heap.size := by omega
        have hlt0 : w.heap.size < w1.heap.size := by omega
        go_wp2
        exact bodyPost_ret (v := .tuple #[wz, .int .i64 3]) (by simp [results, Try.results184, go_sem, k0, k1, hlt0]) rfl ⟨by rw [sumV_neg hin hz], (hr.out.2.2.2.2.trans (HB1.out.mono hr.out.2.2.2.2.size)).trans (by (repeat' (first | (with_reducible exact Below.refl _ _) | (with_reducible refine Below.alloc ?_ ?_ _) | (with_reducible refine Below.drew ?_) | (with_reducible refine Below.drewN ?_ _) | (with_reducible refine Below.setCell ?_ ?_ _) | go_size)))⟩
      · obtain ⟨z, hzz⟩ := Int.eq_ofNat_of_zero_le (show 0 ≤ zs[k]?.getD 0 by omega)
        have hkl : k < zs.length := by rw [HN.out]; exact hlt
        have hsn := sumN_snoc zs k hkl
        rw [hzz, Int.toNat_natCast] at hsn
        have hbd := sumN_lt zs (k + 1) HL.out HM.out
        rw [hsn] at hbd
        have HSN := hidp hsn; have HBD := hidp hbd; have HZZ := hidp hzz
        rw [hzz] at c hz1
        clear hsn hbd hzz hin hz
        go_wp2_with fail
        refine (step_ok _ z _ (by omega) HBD.out).mono ?_
        rintro e w1 ⟨rfl, hB1⟩
        have b1 := BS.out.below hB1 BS.out.lt
        have k0 := b1.cell 0
        have k1 := b1.cell 1
        have q0 := b1.free 0
        have q1 := b1.free 1
        simp only [List.getElem?_cons_zero, List.getElem?_cons_succ] at k0 k1
        have B1 := hidp b1
        have hs := hr.out.2.2.1.lt; have hs1 := hB1.size
        have hlt1 : w.heap.size + 1 < w1.heap.size := by omega
        have HB1 := hidp hB1
        clear b1 hB1 c
        go_wp2
        go_roundw
        case rel =>
          refine ⟨k + 1, by omega, by go_num, take_snoc_ok hkl hr.out.1 (by rw [HZZ.out]; omega), ?_, ?_, ?_, ?_⟩
          · rw [HSN.out]
            exact ((B1.out.set 0 _).set 1 _).alloc _
          · exact (((hr.out.2.2.1.below HB1.out hr.out.2.2.1.lt).other _ _ (by simp)).other _ _ (by simp)).alloc _
          · exact (((hr.out.2.2.2.1.below HB1.out hr.out.2.2.2.1.lt).other _ _ (by simp)).other _ _ (by simp)).alloc _
          · exact (hr.out.2.2.2.2.trans (HB1.out.mono hr.out.2.2.2.2.size)).trans (by (repeat' (first | (with_reducible exact Below.refl _ _) | (with_reducible refine Below.alloc ?_ ?_ _) | (with_reducible refine Below.drew ?_) | (with_reducible refine Below.drewN ?_ _) | (with_reducible refine Below.setCell ?_ ?_ _) | go_size)))
        case measure => simp [intOf]; omega
    · obtain rfl : k = n := by omega
      go_wp2
      exact bodyPost_ret (v := .tuple #[wv (sumN (zs.take k)), .int .i64 0]) (by simp [results, Try.results184, go_sem, r0, r1]) rfl ⟨by have hk2 : zs.take k = zs := List.take_of_length_le (by rw [HN.out]; omega); have h := hr.out.1; rw [hk2] at h ⊢; rw [sumV_ok h], hr.out.2.2.2.2.trans (by (repeat' (first | (with_reducible exact Below.refl _ _) | (with_reducible refine Below.alloc ?_ ?_ _) | (with_reducible refine Below.drew ?_) | (with_reducible refine Below.drewN ?_ _) | (with_reducible refine Below.setCell ?_ ?_ _) | go_size)))⟩
theorem Sum_any (a : Option Addr) (n cap : Nat) (zs : List Int) (w : World) (hl : zs.length ≤ 1000) (hm : ∀ z ∈ zs, z ≤ 9223372036854775807) (hn : zs.length = n) (hc : IntsAt w a zs) :
    Calls Try.prog 156 #[.slice a n cap] w fun e w' => e = .returned (sumV zs) ∧ Below w.heap.size w w' := by
  have HC := hidp (hc.below (w' := w.alloc (.cells #[.int .u64 0, .int .u64 0] 114)) (B := w.heap.size) (by (repeat' (first | (with_reducible exact Below.refl _ _) | (with_reducible refine Below.alloc ?_ ?_ _) | (with_reducible refine Below.drew ?_) | (with_reducible refine Below.drewN ?_ _) | (with_reducible refine Below.setCell ?_ ?_ _) | go_size))) (Nat.le_refl _))
  have HN := hidp hn; have HL := hidp hl; have HM := hidp hm
  have hv : (∃ v x, sumV zs = .tuple #[.agg #[.int .u64 (hiw v), .int .u64 (low v)], .int .i64 x]) := by
    unfold sumV; split
    · exact ⟨_, _, rfl⟩
    · exact ⟨0, 3, rfl⟩
  obtain ⟨v, x, hv⟩ := hv
  have hf := fold_any a n cap zs (w.alloc (.cells #[.int .u64 0, .int .u64 0] 114)) HL.out HM.out HN.out HC.out
  rw [hv] at hf ⊢
  have HF := hidp hf
  clear hf hv hc hn hl hm
  go_enter Try.func156, Try.ntmps156
  go_wp2_with fail
  refine HF.out.mono ?_
  rintro e w1 ⟨rfl, hB⟩
  obtain ⟨hc, hf⟩ := bcell hB
  have HB := hidp hB; have hs := hB.size; clear hB
  simp only [World.size_alloc] at hs
  have hz0 : w.heap.size < w1.heap.size := by omega
  go_wp2
  exact bodyPost_ret (v := .tuple #[.agg #[.int .u64 (hiw v), .int .u64 (low v)], .int .i64 x]) (by simp [results, Try.results156, go_sem, hc]) rfl ⟨rfl, by (repeat' (first | (with_reducible exact Below.refl _ _) | (with_reducible refine Below.alloc ?_ ?_ _) | (with_reducible refine Below.drew ?_) | (with_reducible refine Below.drewN ?_ _) | (with_reducible refine Below.setCell ?_ ?_ _) | (with_reducible refine Below.trans ?_ (Below.mono HB.out ?_)) | go_size | (have i0_ := HB.out.size; (try simp at i0_); (try simp); omega)))⟩
end Go.Proofs.Ytdiklimikkplcaa
