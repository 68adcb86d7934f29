/-
  Contracts: fold over digits' bytes.
-/
import Derived.Test.YtbldmenaaedffaaWr
namespace Go.Proofs.Ytbldmenaaedffaa
open Go.RowKit

/-- The number of some digits. -/
def numN (ds : List Nat) : Nat := ds.foldl (fun n d => n * 10 + d) 0
theorem numN_snoc (ds : List Nat) (k : Nat) (h : k < ds.length) : numN (ds.take (k + 1)) = numN (ds.take k) * 10 + ds[k]?.getD 0 := by
  unfold numN
  rw [List.take_succ_eq_append_getElem h, List.foldl_append, List.getElem?_eq_getElem h]
  rfl
theorem foldl_ge (ds : List Nat) : ∀ n, n ≤ ds.foldl (fun n d => n * 10 + d) n := by
  induction ds with
  | nil => intro n; exact Nat.le_refl _
  | cons d r ih => intro n; rw [List.foldl_cons]; exact Nat.le_trans (by omega) (ih _)
theorem numN_take_le (ds : List Nat) (k : Nat) : numN (ds.take k) ≤ numN ds := by
  have h : numN ds = (ds.drop k).foldl (fun n d => n * 10 + d) (numN (ds.take k)) := by
    unfold numN
    rw [← List.foldl_append, List.take_append_drop]
  rw [h]; exact foldl_ge _ _
/-- What is answered for digits. -/
def numV (ds : List Nat) : Value := if numN ds < W128 then .tuple #[wv (numN ds), .int .i64 0] else .tuple #[wz, .int .i64 7]
theorem numV_ok {ds : List Nat} (h : numN ds < W128) : numV ds = .tuple #[wv (numN ds), .int .i64 0] := by unfold numV; rw [if_pos h]
theorem numV_full {ds : List Nat} (h : ¬ numN ds < W128) : numV ds = .tuple #[wz, .int .i64 7] := by unfold numV; rw [if_neg h]
/-- Bytes of digits that lie behind a slice's address. -/
def DigsAt (w : World) (a : Option Addr) (ds : List Nat) : Prop := ∀ k, k < ds.length → ∃ b off, a = some ⟨b, off, none⟩ ∧ w.cell? ⟨b, off + k, none⟩ = some (.int .u8 ((48 + ds[k]?.getD 0 : Nat) : Int))

theorem wz_wv : wz = wv 0 := rfl
theorem push_ok (a d : Nat) (w : World) (ha : a < W128) (hd : d ≤ 9) (h : a * 10 + d < W128) :
    Calls Try.prog 49 #[wv a, .int .u8 ((48 + d : Nat) : Int)] w fun e w' => e = .returned (.tuple #[wv (a * 10 + d), .int .i64 0]) ∧ Below w.heap.size w w' :=
  push_any a d w ha hd (by omega) _ _ fun w => Plus_ok (a * 10) d w h
theorem push_full (a d : Nat) (w : World) (ha : a < W128) (hd : d ≤ 9) (h : ¬ a * 10 + d < W128) :
    Calls Try.prog 49 #[wv a, .int .u8 ((48 + d : Nat) : Int)] w fun e w' => e = .returned (.tuple #[wz, .int .i64 7]) ∧ Below w.heap.size w w' := by
  by_cases h1 : a * 10 < W128
  · rw [wz_wv]
    exact push_any a d w ha hd h1 0 7 fun w => by rw [← wz_wv]; exact Plus_full (a * 10) d w h1 (Nat.lt_of_le_of_lt hd (by decide)) h
  · exact push_full1 a d w ha h1

set_option maxHeartbeats 1000000 in
theorem foldB_any (a : Option Addr) (n cap : Nat) (ds : List Nat) (w : World) (hl : ds.length ≤ 1000) (hm : ∀ d ∈ ds, d ≤ 9) (hn : ds.length = n) (hc : DigsAt w a ds) :
    Calls Try.prog 48 #[.slice a n cap, .func (.func 49) #[] #[]] w fun e w' => e = .returned (numV ds) ∧ Below w.heap.size w w' := by
  have HL := hidp hl; have HM := hidp hm; have HN := hidp hn; have HC := hidp hc
  have hn1 : n ≤ 1000 := by omega
  clear hl hm hn hc
  go_enter Try.func48, Try.ntmps48
  go_wp2
  go_loopw [14] (fun i wr => ∃ k : Nat, k ≤ n ∧ i = .int .i64 k ∧ Hid (numN (ds.take k) < W128 ∧ Blk wr (w.heap.size + 1) [.int .u64 (hiw (numN (ds.take k))), .int .u64 (low (numN (ds.take k)))] 24 ∧ Blk wr (w.heap.size + 2) [.int .u64 0, .int .u64 0] 24 ∧ Blk wr w.heap.size [.int .u64 0, .int .u64 0] 24 ∧ Below w.heap.size w wr)) (fun i _ => n - (intOf i).toNat)
  case atStart =>
    refine ⟨0, by omega, rfl, ?_, ?_, ?_, ?_, by (repeat' (first | (with_reducible exact Below.refl _ _) | (with_reducible refine Below.alloc ?_ ?_ _) | (with_reducible refine Below.drew ?_) | (with_reducible refine Below.drewN ?_ _) | (with_reducible refine Below.setCell ?_ ?_ _) | go_size))⟩
    · rw [List.take_zero]; decide
    · have e1 : ((hiw (numN (ds.take 0)) : Nat) : Int) = 0 := by rw [List.take_zero]; rfl
      have e2 : ((low (numN (ds.take 0)) : Nat) : Int) = 0 := by rw [List.take_zero]; rfl
      rw [e1, e2]
      exact (Blk.new' _ [.int .u64 0, .int .u64 0] _ _ (by simp)).alloc _
    · exact (Blk.new' _ [.int .u64 0, .int .u64 0] _ _ (by simp))
    · exact ((Blk.new' _ [.int .u64 0, .int .u64 0] _ _ (by simp)).alloc _).alloc _
  case round =>
    obtain ⟨k, hk, rfl, hr⟩ := hrel
    have bs := hr.out.2.1
    have s0 := bs.cell 0
    have s1 := bs.cell 1
    have g0 := bs.free 0
    have g1 := bs.free 1
    have br := hr.out.2.2.2.1
    have r0 := br.cell 0
    have r1 := br.cell 1
    have f0 := br.free 0
    have f1 := br.free 1
    simp only [List.getElem?_cons_zero, List.getElem?_cons_succ] at s0 s1 r0 r1
    have BS := hidp bs; have BR := hidp br; clear bs br
    by_cases hlt : k < n
    · obtain ⟨b, off, ha, hc0⟩ := HC.out k (by rw [HN.out]; exact hlt)
      subst ha
      have c := (hr.out.2.2.2.2.cell (p := ⟨b, off + k, none⟩) (World.block_lt_of_cell? w _ hc0)).trans hc0
      clear hc0
      have hkl : k < ds.length := by rw [HN.out]; exact hlt
      have hin : ds[k]?.getD 0 ∈ ds := by rw [List.getElem?_eq_getElem hkl]; exact List.getElem_mem _
      have hd := HM.out _ hin
      have hsn := numN_snoc ds k hkl
      generalize hdd : ds[k]?.getD 0 = d at *
      have HSN := hidp hsn; clear hsn hdd hin
      by_cases hfull : numN (ds.take k) * 10 + d < W128
      · have HF := hidp hfull; clear hfull
        go_wp2_with fail
        refine (push_ok _ d _ hr.out.1 hd HF.out).mono ?_
        rintro e w1 ⟨rfl, hB1⟩
        have b1 := BS.out.below hB1 BS.out.lt
        have k0 := b1.cell 0
        have k1 := b1.cell 1
        have q0 := b1.free 0
        have q1 := b1.free 1
        simp only [List.getElem?_cons_zero, List.getElem?_cons_succ] at k0 k1
        have B1 := hidp b1
        have hs := hr.out.2.2.1.lt; have hs1 := hB1.size
        have hlt1 : w.heap.size + 1 < w1.heap.size := by omega
        have HB1 := hidp hB1
        clear b1 hB1 c
        go_wp2
        go_roundw
        case rel =>
          refine ⟨k + 1, by omega, by go_num, by rw [HSN.out]; exact HF.out, ?_, ?_, ?_, ?_⟩
          · rw [HSN.out]
            exact ((B1.out.set 0 _).set 1 _).alloc _
          · exact (((hr.out.2.2.1.below HB1.out hr.out.2.2.1.lt).other _ _ (by simp)).other _ _ (by simp)).alloc _
          · exact (((hr.out.2.2.2.1.below HB1.out hr.out.2.2.2.1.lt).other _ _ (by simp)).other _ _ (by simp)).alloc _
          · exact (hr.out.2.2.2.2.trans (HB1.out.mono hr.out.2.2.2.2.size)).trans (by (repeat' (first | (with_reducible exact Below.refl _ _) | (with_reducible refine Below.alloc ?_ ?_ _) | (with_reducible refine Below.drew ?_) | (with_reducible refine Below.drewN ?_ _) | (with_reducible refine Below.setCell ?_ ?_ _) | go_size)))
        case measure => simp [intOf]; omega
      · have HF := hidp hfull; clear hfull
        go_wp2_with fail
        refine (push_full _ d _ hr.out.1 hd HF.out).mono ?_
        rintro e w1 ⟨rfl, hB1⟩
        have br := BR.out.below hB1 BR.out.lt
        have k0 := br.cell 0
        have k1 := br.cell 1
        have q0 := br.free 0
        have q1 := br.free 1
        have bz := hr.out.2.2.1.below hB1 hr.out.2.2.1.lt
        have z0 := bz.cell 0
        have z1 := bz.cell 1
        simp only [List.getElem?_cons_zero, List.getElem?_cons_succ] at k0 k1 z0 z1
        have HB1 := hidp hB1; have hs := hr.out.2.2.1.lt; have hs1 := hB1.size; clear hB1 br bz c
        have hlt1 : w.heap.size + 2 < w1.heap.size := by omega
        have hlt0 : w.heap.size < w1.heap.size := by omega
        go_wp2
        exact bodyPost_ret (v := .tuple #[wz, .int .i64 7]) (by simp [results, Try.results48, go_sem, k0, k1, hlt0]) rfl ⟨by rw [numV_full (fun h => HF.out (by have h1 := numN_take_le ds (k + 1); rw [HSN.out] at h1; omega))], (hr.out.2.2.2.2.trans (HB1.out.mono hr.out.2.2.2.2.size)).trans (by (repeat' (first | (with_reducible exact Below.refl _ _) | (with_reducible refine Below.alloc ?_ ?_ _) | (with_reducible refine Below.drew ?_) | (with_reducible refine Below.drewN ?_ _) | (with_reducible refine Below.setCell ?_ ?_ _) | go_size)))⟩
    · obtain rfl : k = n := by omega
      go_wp2
      exact bodyPost_ret (v := .tuple #[wv (numN (ds.take k)), .int .i64 0]) (by simp [results, Try.results48, go_sem, r0, r1]) rfl ⟨by have hk2 : ds.take k = ds := List.take_of_length_le (by rw [HN.out]; omega); have h := hr.out.1; rw [hk2] at h ⊢; rw [numV_ok h], hr.out.2.2.2.2.trans (by (repeat' (first | (with_reducible exact Below.refl _ _) | (with_reducible refine Below.alloc ?_ ?_ _) | (with_reducible refine Below.drew ?_) | (with_reducible refine Below.drewN ?_ _) | (with_reducible refine Below.setCell ?_ ?_ _) | go_size)))⟩
end Go.Proofs.Ytbldmenaaedffaa
