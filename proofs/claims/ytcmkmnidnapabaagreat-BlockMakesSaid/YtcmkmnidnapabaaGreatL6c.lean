/-
  Header: the bytes of a header.
-/
import Derived.Test.YtcmkmnidnapabaaGreatLA
import Derived.Test.YtcmkmnidnapabaaGreatUb
import Derived.Deep.MidRow
namespace Go.Proofs.YtcmkmnidnapabaaGreat
open Go.RowKit Go.Lib

set_option maxRecDepth 100000 in
theorem hashes_any (g : Nat) (w : World) :
    Calls Tryz.prog 180 #[.pointer (some ⟨g, 0, none⟩)] w fun e w' => e = .returned (.agg #[.pointer (some ⟨g, 3, none⟩), .pointer (some ⟨g, 35, none⟩), .pointer (some ⟨g, 67, none⟩), .pointer (some ⟨g, 99, none⟩)]) ∧ Below w.heap.size w w' := by
  go_enter Tryz.func180, Tryz.ntmps180
  go_wp2_with fail
  refine region_tail 13 (by kernel_rfl) (by kernel_rfl) ?_
  intro wd hwd
  have hb : Below w.heap.size w wd := by rw [hwd.out]; exact ((Below.refl w.heap.size w).alloc (Nat.le_refl _) _).drew
  have hk : Blk wd w.heap.size [.pointer none, .pointer none, .pointer none, .pointer none] 236 := by rw [hwd.out]; exact (Blk.new w _ _).drew
  clear hwd
  simp only [List.take_succ_cons, List.take_zero, List.drop_succ_cons, List.drop_zero]
  repeat still_step
  try refine wpStill_nil ?_
  have hB := hidp hb
  have hK := hidp hk
  have c0 : wd.cell? ⟨w.heap.size, 0, none⟩ = some (.pointer none) := hk.cell 0
  have c1 : wd.cell? ⟨w.heap.size, 1, none⟩ = some (.pointer none) := hk.cell 1
  have c2 : wd.cell? ⟨w.heap.size, 2, none⟩ = some (.pointer none) := hk.cell 2
  have c3 : wd.cell? ⟨w.heap.size, 3, none⟩ = some (.pointer none) := hk.cell 3
  have f0 := hk.free 0
  have f1 := hk.free 1
  have f2 := hk.free 2
  have f3 := hk.free 3
  clear hb hk
  go_wp2_with fail
  have hb := (((hK.out.set 0 (.pointer (some ⟨g, 3, none⟩))).set 1 (.pointer (some ⟨g, 35, none⟩))).set 2 (.pointer (some ⟨g, 67, none⟩))).set 3 (.pointer (some ⟨g, 99, none⟩))
  have hX := ((((hB.out.setCell (p := ⟨w.heap.size, 0, none⟩) (Nat.le_refl _) (.pointer (some ⟨g, 3, none⟩)))).setCell (p := ⟨w.heap.size, 1, none⟩) (Nat.le_refl _) (.pointer (some ⟨g, 35, none⟩))).setCell (p := ⟨w.heap.size, 2, none⟩) (Nat.le_refl _) (.pointer (some ⟨g, 67, none⟩))).setCell (p := ⟨w.heap.size, 3, none⟩) (Nat.le_refl _) (.pointer (some ⟨g, 99, none⟩))
  generalize (World.setCell _ _ _) = W at hb hX ⊢
  have d0 : W.cell? ⟨w.heap.size, 0, none⟩ = some (.pointer (some ⟨g, 3, none⟩)) := hb.cell 0
  have d1 : W.cell? ⟨w.heap.size, 1, none⟩ = some (.pointer (some ⟨g, 35, none⟩)) := hb.cell 1
  have d2 : W.cell? ⟨w.heap.size, 2, none⟩ = some (.pointer (some ⟨g, 67, none⟩)) := hb.cell 2
  have d3 : W.cell? ⟨w.heap.size, 3, none⟩ = some (.pointer (some ⟨g, 99, none⟩)) := hb.cell 3
  exact bodyPost_ret (v := .agg #[.pointer (some ⟨g, 3, none⟩), .pointer (some ⟨g, 35, none⟩), .pointer (some ⟨g, 67, none⟩), .pointer (some ⟨g, 99, none⟩)]) (by simp [results, Tryz.results180, go_sem, d0, d1, d2, d3]) rfl ⟨rfl, hX⟩

theorem idx4_0 (a b c d : Value) (w : World) : (Instr.index 236 (.agg #[a, b, c, d]) (.int .i64 0)).run Tryz.prog w = .ok a w := by kernel_rfl
theorem idx4_1 (a b c d : Value) (w : World) : (Instr.index 236 (.agg #[a, b, c, d]) (.int .i64 1)).run Tryz.prog w = .ok b w := by kernel_rfl
theorem idx4_2 (a b c d : Value) (w : World) : (Instr.index 236 (.agg #[a, b, c, d]) (.int .i64 2)).run Tryz.prog w = .ok c w := by kernel_rfl
theorem idx4_3 (a b c d : Value) (w : World) : (Instr.index 236 (.agg #[a, b, c, d]) (.int .i64 3)).run Tryz.prog w = .ok d w := by kernel_rfl
attribute [local go_sem] idx4_0 idx4_1 idx4_2 idx4_3
/-- A header's bytes. -/
def encH (x : Hdr) : List Nat := [] ++ (nB x.s.size ++ strL x.s) ++ nB x.h.toNat ++ nB x.t.toNat ++ x.p ++ x.v ++ x.n ++ x.a
theorem chkH_ok {x : Hdr} (h : chkH x = 0) : nmS x.s = true ∧ (1 ≤ x.h ∧ x.h ≤ 1073741824) ∧ 0 ≤ x.t ∧ x.t ≤ 1099511627776 := by
  unfold chkH at h
  by_cases h1 : chk1 x = 0
  · by_cases h2 : inR x.h 1 1073741824 = 0
    · rw [if_neg (by omega), if_neg (by omega)] at h
      refine ⟨?_, ?_, ?_⟩
      · unfold chk1 at h1; cases hn : nmS x.s
        · rw [hn] at h1; simp at h1
        · rfl
      · unfold inR at h2; split at h2 <;> omega
      · unfold inR at h; split at h <;> omega
    · rw [if_neg (by omega), if_pos h2] at h; exact absurd h h2
  · rw [if_pos h1] at h; exact absurd h h1
theorem nmS_size {s : ByteArray} (h : nmS s = true) : 1 ≤ s.size ∧ s.size ≤ 32 := by
  unfold nmS at h
  simp only [Bool.and_eq_true, decide_eq_true_eq] at h
  exact ⟨h.1, h.2.1⟩
theorem wText_n {w : World} {g lim : Nat} {v : Value} {L : List Nat} (H : Wr w g lim v L 0) (s : ByteArray) (hn : s.size < 65536) (hs : L.length + 9 + s.size ≤ lim) :
    Calls Tryz.prog 179 #[.pointer (some ⟨g, 0, none⟩), .string s] w (PutP w g lim v (L ++ (nB s.size ++ strL s))) := by
  have q := wText_ok H s (dg s.size) (dg_digs (by omega)) (by have := dg_le s.size; omega)
  rw [nB_num (by omega)] at q
  exact q
theorem hC_p {x : Hdr} (j : Nat) (v : Value) (hj : (bvs x.p)[j]? = some v) : (hC x)[3 + j]? = some v := by
  have hlt := (List.getElem?_eq_some_iff.1 hj).1
  rw [show 3 + j = j + 1 + 1 + 1 by omega]
  unfold hC
  rw [List.getElem?_cons_succ, List.getElem?_cons_succ, List.getElem?_cons_succ, List.getElem?_append_left hlt]
  exact hj
theorem hC_v {x : Hdr} (hx : HdrOk x) (j : Nat) (v : Value) (hj : (bvs x.v)[j]? = some v) : (hC x)[35 + j]? = some v := by
  have hlt := (List.getElem?_eq_some_iff.1 hj).1
  have l1 : (bvs x.p).length = 32 := by rw [bvs_len, hx.p.1]
  rw [show 35 + j = (32 + j) + 1 + 1 + 1 by omega]
  unfold hC
  rw [List.getElem?_cons_succ, List.getElem?_cons_succ, List.getElem?_cons_succ, List.getElem?_append_right (by omega), l1, show 32 + j - 32 = j by omega, List.getElem?_append_left hlt]
  exact hj
theorem hC_n {x : Hdr} (hx : HdrOk x) (j : Nat) (v : Value) (hj : (bvs x.n)[j]? = some v) : (hC x)[67 + j]? = some v := by
  have hlt := (List.getElem?_eq_some_iff.1 hj).1
  have l1 : (bvs x.p).length = 32 := by rw [bvs_len, hx.p.1]
  have l2 : (bvs x.v).length = 32 := by rw [bvs_len, hx.v.1]
  rw [show 67 + j = (32 + (32 + j)) + 1 + 1 + 1 by omega]
  unfold hC
  rw [List.getElem?_cons_succ, List.getElem?_cons_succ, List.getElem?_cons_succ, List.getElem?_append_right (by omega), l1, show 32 + (32 + j) - 32 = 32 + j by omega, List.getElem?_append_right (by omega), l2, show 32 + j - 32 = j by omega, List.getElem?_append_left hlt]
  exact hj
theorem hC_a {x : Hdr} (hx : HdrOk x) (j : Nat) (v : Value) (hj : (bvs x.a)[j]? = some v) : (hC x)[99 + j]? = some v := by
  have l1 : (bvs x.p).length = 32 := by rw [bvs_len, hx.p.1]
  have l2 : (bvs x.v).length = 32 := by rw [bvs_len, hx.v.1]
  have l3 : (bvs x.n).length = 32 := by rw [bvs_len, hx.n.1]
  rw [show 99 + j = (32 + (32 + (32 + j))) + 1 + 1 + 1 by omega]
  unfold hC
  rw [List.getElem?_cons_succ, List.getElem?_cons_succ, List.getElem?_cons_succ, List.getElem?_append_right (by omega), l1, show 32 + (32 + (32 + j)) - 32 = 32 + (32 + j) by omega, List.getElem?_append_right (by omega), l2, show 32 + (32 + j) - 32 = 32 + j by omega, List.getElem?_append_right (by omega), l3, show 32 + j - 32 = j by omega]
  exact hj
/-- A writer under way, and the header that it writes. -/
structure HEnc (w wr : World) (g : Nat) (x : Hdr) (v : Value) (X : List Nat) : Prop where
  wri : Wr wr g 1048576 v X 0
  kh : Blk wr w.heap.size (hC x) 79
  bel : Below w.heap.size w wr
  hA : w.heap.size < g
theorem HEnc.put {w wr w1 : World} {g : Nat} {x : Hdr} {v v1 : Value} {X Y : List Nat} (H : HEnc w wr g x v X) (h1 : Wr w1 g 1048576 v1 Y 0) (hf : Wfr g v wr w1 v1) : HEnc w w1 g x v1 Y := by
  have b1 := hf.toBelow H.wri
  exact ⟨h1, H.kh.below b1 H.hA, H.bel.trans (b1.mono (Nat.le_of_lt H.hA)), H.hA⟩
theorem HEnc.below {w wr w1 : World} {g : Nat} {x : Hdr} {v : Value} {X : List Nat} (H : HEnc w wr g x v X) (h : Below wr.heap.size wr w1) : HEnc w w1 g x v X :=
  ⟨H.wri.below h, h.blk' H.kh, H.bel.trans (h.mono H.bel.size), H.hA⟩
theorem HEnc.rp {w wr : World} {g : Nat} {x : Hdr} {v : Value} {X : List Nat} (H : HEnc w wr g x v X) : wr.rangeAt w.heap.size 3 (bvs x.p) := fun j v hj => (H.kh.cell _).trans (hC_p j v hj)
theorem HEnc.rv {w wr : World} {g : Nat} {x : Hdr} {v : Value} {X : List Nat} (H : HEnc w wr g x v X) (hx : HdrOk x) : wr.rangeAt w.heap.size 35 (bvs x.v) := fun j v hj => (H.kh.cell _).trans (hC_v hx j v hj)
theorem HEnc.rn {w wr : World} {g : Nat} {x : Hdr} {v : Value} {X : List Nat} (H : HEnc w wr g x v X) (hx : HdrOk x) : wr.rangeAt w.heap.size 67 (bvs x.n) := fun j v hj => (H.kh.cell _).trans (hC_n hx j v hj)
theorem HEnc.ra {w wr : World} {g : Nat} {x : Hdr} {v : Value} {X : List Nat} (H : HEnc w wr g x v X) (hx : HdrOk x) : wr.rangeAt w.heap.size 99 (bvs x.a) := fun j v hj => (H.kh.cell _).trans (hC_a hx j v hj)

set_option maxRecDepth 100000 in
set_option maxHeartbeats 1000000 in
theorem hencode_bad (x : Hdr) (hx : HdrOk x) (w : World) (hc : chkH x ≠ 0) :
    Calls Tryz.prog 114 #[.agg (hC x).toArray] w fun e w' => e = .returned (.tuple #[.slice none 0 0, .int .i64 (chkH x : Nat)]) ∧ Below w.heap.size w w' := by
  have HC := hidp (fun W => hcheck_any x hx W)
  have ht : (((chkH x : Nat) : Int) != 0) = true := by rw [bne_iff_ne]; omega
  have hl := hidp (hC_len hx)
  have hA := hidp (Blk.new w (hC x) 79)
  have hBB := hidp ((Below.refl w.heap.size w).alloc (Nat.le_refl _) (.cells (hC x).toArray 79))
  clear hc hx
  generalize chkH x = n at *
  go_enter Tryz.func114, Tryz.ntmps114
  go_wp2_with (with_reducible refine (?_ : wpList _ _ _ _ _ _); refine wpList_load_blk rfl 79 _ rfl w.heap.size (hC x) 79 rfl hA.out _ Tryz.underlying79 rfl (by rw [hl.out]; kernel_rfl) ?_)
  refine (HC.out _).mono ?_
  rintro e w1 ⟨rfl, hb⟩
  have hB := hidp (hBB.out.trans (hb.mono hBB.out.size))
  clear hb HC hBB hA
  go_wp2_with fail
  exact bodyPost_ret (v := .tuple #[.slice none 0 0, .int .i64 (n : Nat)]) (by simp [results, Tryz.results114, go_sem]) rfl ⟨rfl, hB.out⟩
set_option maxRecDepth 100000 in
set_option maxHeartbeats 2000000 in
theorem hencode_ok (x : Hdr) (hx : HdrOk x) (w : World) (hc : chkH x = 0) :
    Calls Tryz.prog 114 #[.agg (hC x).toArray] w (DoneP w (encH x)) := by
  have HC := hidp (hcheck_any x hx)
  rw [hc] at HC
  have HQ := hidp (chkH_ok hc)
  have HS := hidp (nmS_size HQ.out.1)
  have hl := hidp (hC_len hx)
  have HX := hidp hx
  obtain ⟨n, hn⟩ : ∃ n : Nat, x.h = n := ⟨x.h.toNat, by have := HQ.out; omega⟩
  obtain ⟨t, ht⟩ : ∃ t : Nat, x.t = t := ⟨x.t.toNat, by have := HQ.out; omega⟩
  have HN := hidp (show (n ≤ 1073741824 ∧ t ≤ 1099511627776) ∧ x.h.toNat = n ∧ x.t.toNat = t by have := HQ.out; omega)
  have hnn := hidp hn
  have htt := hidp ht
  have hA := hidp (Blk.new w (hC x) 79)
  have hBB := hidp ((Below.refl w.heap.size w).alloc (Nat.le_refl _) (.cells (hC x).toArray 79))
  obtain ⟨Z, hZ⟩ : ∃ Z, Z = encH x := ⟨_, rfl⟩
  rw [← hZ]
  replace hZ := hidp hZ
  clear hc hx hn ht
  go_enter Tryz.func114, Tryz.ntmps114
  go_wp2_with (with_reducible refine (?_ : wpList _ _ _ _ _ _); refine wpList_load_blk rfl 79 _ rfl w.heap.size (hC x) 79 rfl hA.out _ Tryz.underlying79 rfl (by rw [hl.out]; kernel_rfl) ?_)
  refine (HC.out _).mono ?_
  rintro e w1 ⟨rfl, hb⟩
  have hB := hidp (hBB.out.trans (hb.mono hBB.out.size))
  have hK := hidp (hb.blk' hA.out)
  clear hb HC hBB hA
  go_wp2_with fail
  refine (newWriter_mx w1).mono ?_
  rintro e w2 ⟨rfl, hw, hb⟩
  have E0 : Hid (HEnc w w2 w1.heap.size x (.slice none 0 0) []) := hidp ⟨hw, hb.blk' hK.out, hB.out.trans (hb.mono hB.out.size), hK.out.lt⟩
  clear hw hb hB hK
  have c0 := E0.out.kh.cell 0
  rw [hC_0] at c0
  go_wp2_with fail
  refine (wText_n E0.out.wri x.s (by have := HS.out; omega) (by have := HS.out; simp; omega)).mono ?_
  rintro e w3 ⟨rfl, v3, hw, hf⟩
  have E1 := hidp (E0.out.put hw hf)
  clear hw hf E0 c0
  have S1 := hidp (show ([] ++ (nB x.s.size ++ strL x.s) : List Nat).length ≤ 41 by rw [List.nil_append, List.length_append, nB_len, strL_len]; have := HS.out; have := dg_le x.s.size; omega)
  obtain ⟨X1, hX1⟩ : ∃ X, X = ([] ++ (nB x.s.size ++ strL x.s) : List Nat) := ⟨_, rfl⟩
  rw [← hX1] at E1 S1
  replace hX1 := hidp hX1
  have c1 := E1.out.kh.cell 1
  rw [hC_1, hnn.out] at c1
  go_wp2_with fail
  refine (wNum_n E1.out.wri n (by have := HN.out; omega) (by have := S1.out; omega)).mono ?_
  rintro e w4 ⟨rfl, v4, hw, hf⟩
  have E2 := hidp (E1.out.put hw hf)
  clear hw hf E1 c1
  have S2 := hidp (show (X1 ++ nB n).length ≤ 50 by rw [List.length_append, nB_len]; have := S1.out; have := dg_le n; omega)
  obtain ⟨X2, hX2⟩ : ∃ X, X = X1 ++ nB n := ⟨_, rfl⟩
  rw [← hX2] at E2 S2
  replace hX2 := hidp hX2
  have c2 := E2.out.kh.cell 2
  rw [hC_2, htt.out] at c2
  go_wp2_with fail
  refine (wNum_n E2.out.wri t (by have := HN.out; omega) (by have := S2.out; omega)).mono ?_
  rintro e w5 ⟨rfl, v5, hw, hf⟩
  have E3 := hidp (E2.out.put hw hf)
  clear hw hf E2 c2
  have S3 := hidp (show (X2 ++ nB t).length ≤ 59 by rw [List.length_append, nB_len]; have := S2.out; have := dg_le t; omega)
  obtain ⟨X3, hX3⟩ : ∃ X, X = X2 ++ nB t := ⟨_, rfl⟩
  rw [← hX3] at E3 S3
  replace hX3 := hidp hX3
  go_wp2_with fail
  refine (hashes_any w.heap.size _).mono ?_
  rintro e w6 ⟨rfl, hb⟩
  replace E3 := hidp (E3.out.below hb)
  clear hb
  go_wp2_with fail
  refine wp_loop_rounds 5 ?_
  rw [rounds_succ]
  go_wp2_with (refine wpList_load_mid rfl 39 _ rfl w.heap.size 3 rfl _ _ (E3.out.rp) Tryz.underlying39 rfl (by rw [bvs_len, HX.out.p.1]; kernel_rfl) ?_)
  refine (wHash_ok E3.out.wri x.p HX.out.p (by have := S3.out; omega)).mono ?_
  rintro e w7 ⟨rfl, v7, hw, hf⟩
  have E4 := hidp (E3.out.put hw hf)
  clear hw hf E3
  have S4 := hidp (show (X3 ++ x.p).length ≤ 91 by rw [List.length_append, HX.out.p.1]; have := S3.out; omega)
  obtain ⟨X4, hX4⟩ : ∃ X, X = X3 ++ x.p := ⟨_, rfl⟩
  rw [← hX4] at E4 S4
  replace hX4 := hidp hX4
  go_wp2_with fail
  rw [rounds_succ]
  go_wp2_with (refine wpList_load_mid rfl 39 _ rfl w.heap.size 35 rfl _ _ (E4.out.rv HX.out) Tryz.underlying39 rfl (by rw [bvs_len, HX.out.v.1]; kernel_rfl) ?_)
  refine (wHash_ok E4.out.wri x.v HX.out.v (by have := S4.out; omega)).mono ?_
  rintro e w8 ⟨rfl, v8, hw, hf⟩
  have E5 := hidp (E4.out.put hw hf)
  clear hw hf E4
  have S5 := hidp (show (X4 ++ x.v).length ≤ 123 by rw [List.length_append, HX.out.v.1]; have := S4.out; omega)
  obtain ⟨X5, hX5⟩ : ∃ X, X = X4 ++ x.v := ⟨_, rfl⟩
  rw [← hX5] at E5 S5
  replace hX5 := hidp hX5
  go_wp2_with fail
  rw [rounds_succ]
  go_wp2_with (refine wpList_load_mid rfl 39 _ rfl w.heap.size 67 rfl _ _ (E5.out.rn HX.out) Tryz.underlying39 rfl (by rw [bvs_len, HX.out.n.1]; kernel_rfl) ?_)
  refine (wHash_ok E5.out.wri x.n HX.out.n (by have := S5.out; omega)).mono ?_
  rintro e w9 ⟨rfl, v9, hw, hf⟩
  have E6 := hidp (E5.out.put hw hf)
  clear hw hf E5
  have S6 := hidp (show (X5 ++ x.n).length ≤ 155 by rw [List.length_append, HX.out.n.1]; have := S5.out; omega)
  obtain ⟨X6, hX6⟩ : ∃ X, X = X5 ++ x.n := ⟨_, rfl⟩
  rw [← hX6] at E6 S6
  replace hX6 := hidp hX6
  go_wp2_with fail
  rw [rounds_succ]
  go_wp2_with (refine wpList_load_mid rfl 39 _ rfl w.heap.size 99 rfl _ _ (E6.out.ra HX.out) Tryz.underlying39 rfl (by rw [bvs_len, HX.out.a.1]; kernel_rfl) ?_)
  refine (wHash_ok E6.out.wri x.a HX.out.a (by have := S6.out; omega)).mono ?_
  rintro e w10 ⟨rfl, v10, hw, hf⟩
  have E7 := hidp (E6.out.put hw hf)
  clear hw hf E6
  have S7 := hidp (show (X6 ++ x.a).length ≤ 187 by rw [List.length_append, HX.out.a.1]; have := S6.out; omega)
  obtain ⟨X7, hX7⟩ : ∃ X, X = X6 ++ x.a := ⟨_, rfl⟩
  rw [← hX7] at E7 S7
  replace hX7 := hidp hX7
  go_wp2_with fail
  rw [rounds_succ]
  go_wp2_with fail
  refine (wDone_ok E7.out.wri).mono ?_
  rintro e w11 ⟨⟨p, pb, pc, rfl, h1, h2, h3⟩, h4⟩
  have HP := hidp (And.intro h1 (And.intro h2 h3))
  have HB := hidp (E7.out.bel.trans (h4.mono E7.out.bel.size))
  have HZ := hidp E7.out.bel.size
  have hZ7 := hidp (show X7 = Z by rw [hX7.out, hX6.out, hX5.out, hX4.out, hX3.out, hX2.out, hX1.out, hZ.out, ← HN.out.2.1, ← HN.out.2.2]; rfl)
  clear h1 h2 h3 h4 E7
  go_wp2_with fail
  refine bodyPost_ret (v := .tuple #[.slice p X7.length pc, .int .i64 0]) (by simp [results, Tryz.results114, go_sem]) rfl ⟨⟨p, pb, pc, ?_, Nat.le_trans HZ.out HP.out.1, HP.out.2.1, ?_⟩, HB.out⟩
  · rw [hZ7.out]
  · rw [← hZ7.out]; exact HP.out.2.2
end Go.Proofs.YtcmkmnidnapabaaGreat
