/-
  Header: which header bytes are.
-/
import Derived.Test.YtcmkmnidnapabaaGreatL6c
import Derived.Test.YtcmkmnidnapabaaGreatLh
import Derived.Test.YtcmkmnidnapabaaGreatQh
import Derived.Deep.WholeRow
import Derived.Deep.RegionHeld
import Derived.Deep.MidRow
namespace Go.Proofs.YtcmkmnidnapabaaGreat
open Go.RowKit Go.Lib
attribute [local go_sem] idx4_0 idx4_1 idx4_2 idx4_3
set_option linter.unusedSimpArgs false

def z32 : List Nat := List.replicate 32 0
theorem z32_bytes : Bytes 32 z32 := ⟨rfl, fun x hx => by rw [List.eq_of_mem_replicate hx]; decide⟩
def hdr0 : Hdr := ⟨⟨#[]⟩, 0, 0, z32, z32, z32, z32⟩
theorem hdr0_ok : HdrOk hdr0 := ⟨by decide, by decide, z32_bytes, z32_bytes, z32_bytes, z32_bytes⟩
theorem zero_hdr : (Tryz.prog.info? 79).map (fun i => (i.zero, i.size)) = some (some (.agg (hC hdr0).toArray), 131) := by kernel_rfl
/-- The states of a reader that reads a header. -/
def hS0 (L : List Nat) : RS := rs0 L
def hS1 (L : List Nat) : RS := rdN (fun R => pText R 32) (hS0 L)
def hS2 (L : List Nat) : RS := rdN pNum (hS1 L)
def hS3 (L : List Nat) : RS := rdN pNum (hS2 L)
def hS4 (L : List Nat) : RS := rdN (pRaw 32) (hS3 L)
def hS5 (L : List Nat) : RS := rdN (pRaw 32) (hS4 L)
def hS6 (L : List Nat) : RS := rdN (pRaw 32) (hS5 L)
def hS7 (L : List Nat) : RS := rdN (pRaw 32) (hS6 L)
/-- What is read, whether it is a header or not. -/
def rdH (L : List Nat) : Hdr := ⟨strB (rdV (fun R => pText R 32) [] (hS0 L)), ((rdV pNum 0 (hS1 L) : Nat) : Int), ((rdV pNum 0 (hS2 L) : Nat) : Int), rdV (pRaw 32) z32 (hS3 L), rdV (pRaw 32) z32 (hS4 L), rdV (pRaw 32) z32 (hS5 L), rdV (pRaw 32) z32 (hS6 L)⟩
/-- What Decode tells: a header, or a fault. -/
def decH (L : List Nat) : Hdr × Nat × Nat := if (endS (hS7 L)).1 ≠ 0 then (hdr0, endS (hS7 L)) else if chkH (rdH L) ≠ 0 then (hdr0, chkH (rdH L), 0) else (rdH L, 0, 0)
theorem decH_end {L : List Nat} (h : (endS (hS7 L)).1 ≠ 0) : decH L = (hdr0, endS (hS7 L)) := by unfold decH; rw [if_pos h]
theorem decH_chk {L : List Nat} (h : (endS (hS7 L)).1 = 0) (hc : chkH (rdH L) ≠ 0) : decH L = (hdr0, chkH (rdH L), 0) := by unfold decH; rw [if_neg (by omega), if_pos hc]
theorem decH_ok {L : List Nat} (h : (endS (hS7 L)).1 = 0) (hc : chkH (rdH L) = 0) : decH L = (rdH L, 0, 0) := by unfold decH; rw [if_neg (by omega), if_neg (by omega)]
theorem rdHash_bytes {s : RS} (h : ∀ x ∈ s.R, x < 256) : Bytes 32 (rdV (pRaw 32) z32 s) := by
  unfold rdV
  split
  · exact z32_bytes
  · split
    · rename_i hp
      obtain ⟨rfl, _, hl⟩ := pRaw_ok hp
      exact ⟨by rw [List.length_take]; omega, fun x hx => h x (List.mem_of_mem_take hx)⟩
    · exact z32_bytes
theorem hS_byte {L : List Nat} (h : ∀ x ∈ L, x < 256) : (∀ x ∈ (hS0 L).R, x < 256) ∧ (∀ x ∈ (hS1 L).R, x < 256) ∧ (∀ x ∈ (hS2 L).R, x < 256) ∧ (∀ x ∈ (hS3 L).R, x < 256) ∧ (∀ x ∈ (hS4 L).R, x < 256) ∧ (∀ x ∈ (hS5 L).R, x < 256) ∧ (∀ x ∈ (hS6 L).R, x < 256) := by
  have h1 : ∀ x ∈ (hS1 L).R, x < 256 := rdN_byte h
  have h2 : ∀ x ∈ (hS2 L).R, x < 256 := rdN_byte h1
  have h3 : ∀ x ∈ (hS3 L).R, x < 256 := rdN_byte h2
  have h4 : ∀ x ∈ (hS4 L).R, x < 256 := rdN_byte h3
  have h5 : ∀ x ∈ (hS5 L).R, x < 256 := rdN_byte h4
  exact ⟨h, h1, h2, h3, h4, h5, rdN_byte h5⟩
theorem rdH_ok {L : List Nat} (h : ∀ x ∈ L, x < 256) : HdrOk (rdH L) := by
  obtain ⟨_, _, _, h3, h4, h5, h6⟩ := hS_byte h
  have b1 := rdNum_lt (hS1 L)
  have b2 := rdNum_lt (hS2 L)
  exact ⟨by show -9223372036854775808 ≤ ((rdV pNum 0 (hS1 L) : Nat) : Int) ∧ ((rdV pNum 0 (hS1 L) : Nat) : Int) ≤ 9223372036854775807; omega, by show -9223372036854775808 ≤ ((rdV pNum 0 (hS2 L) : Nat) : Int) ∧ ((rdV pNum 0 (hS2 L) : Nat) : Int) ≤ 9223372036854775807; omega, rdHash_bytes h3, rdHash_bytes h4, rdHash_bytes h5, rdHash_bytes h6⟩
theorem setH {A B C V : List Value} (n : Nat) (hn : A.length = n) (h : B.length = V.length) : setsL (A ++ (B ++ C)) n V = A ++ (V ++ C) := by subst hn; exact setsL_mid V A B C h
theorem setH_p {x : Hdr} (q : List Nat) (h : x.p.length = q.length) : setsL (hC x) 3 (bvs q) = hC { x with p := q } :=
  setH (A := [.string x.s, .int .i64 x.h, .int .i64 x.t]) 3 rfl (by rw [bvs_len, bvs_len, h])
theorem setH_v {x : Hdr} (q : List Nat) (hp : x.p.length = 32) (h : x.v.length = q.length) : setsL (hC x) 35 (bvs q) = hC { x with v := q } := by
  have e := setH (A := [.string x.s, .int .i64 x.h, .int .i64 x.t] ++ bvs x.p) (B := bvs x.v) (C := bvs x.n ++ bvs x.a) (V := bvs q) 35 (by simp [bvs_len, hp]) (by rw [bvs_len, bvs_len, h])
  simp only [List.append_assoc] at e
  exact e
theorem setH_n {x : Hdr} (q : List Nat) (hp : x.p.length = 32) (hv : x.v.length = 32) (h : x.n.length = q.length) : setsL (hC x) 67 (bvs q) = hC { x with n := q } := by
  have e := setH (A := [.string x.s, .int .i64 x.h, .int .i64 x.t] ++ bvs x.p ++ bvs x.v) (B := bvs x.n) (C := bvs x.a) (V := bvs q) 67 (by simp [bvs_len, hp, hv]) (by rw [bvs_len, bvs_len, h])
  simp only [List.append_assoc] at e
  exact e
theorem setH_a {x : Hdr} (q : List Nat) (hp : x.p.length = 32) (hv : x.v.length = 32) (hn : x.n.length = 32) (h : x.a.length = q.length) : setsL (hC x) 99 (bvs q) = hC { x with a := q } := by
  have e := setH (A := [.string x.s, .int .i64 x.h, .int .i64 x.t] ++ bvs x.p ++ bvs x.v ++ bvs x.n) (B := bvs x.a) (C := []) (V := bvs q) 99 (by simp [bvs_len, hp, hv, hn]) (by rw [bvs_len, bvs_len, h])
  simp only [List.append_assoc, List.append_nil] at e
  exact e

/-- The results' cells while a header is read. -/
structure HRes (w wr : World) (y : Hdr) (e a : Nat) : Prop where
  res : Blk wr w.heap.size (hC y) 79
  flt : Blk wr (w.heap.size + 1) [.int .i64 (e : Nat), .int .i64 (a : Nat)] 52
  bel : Below w.heap.size w wr
theorem HRes.below {w wr w1 : World} {y : Hdr} {e a : Nat} (H : HRes w wr y e a) (h : Below wr.heap.size wr w1) : HRes w w1 y e a :=
  ⟨h.blk' H.res, h.blk' H.flt, H.bel.trans (h.mono H.bel.size)⟩
theorem HRes.drew {w wr : World} {y : Hdr} {e a : Nat} (H : HRes w wr y e a) : HRes w wr.drew y e a := ⟨H.res.drew, H.flt.drew, H.bel.drew⟩
theorem HRes.bex {w wr w1 : World} {y : Hdr} {e a k : Nat} (H : HRes w wr y e a) (h : Bex k wr w1) (hk : w.heap.size + 1 < k) : HRes w w1 y e a :=
  ⟨h.blk H.res (by omega), h.blk H.flt (by omega), H.bel.trans (h.below (by omega) H.bel.size)⟩
theorem HRes.row {w wr : World} {y : Hdr} {e a : Nat} (H : HRes w wr y e a) (x : Hdr) : HRes w (wr.setRow w.heap.size (hC x).toArray) x e a := by
  have b := (But.refl w.heap.size wr).setRow (hC x).toArray
  exact ⟨H.res.row, b.blk H.flt (by omega), H.bel.trans (b.below (Nat.le_refl _))⟩
theorem HRes.fin {w wr : World} {y : Hdr} {e a : Nat} (H : HRes w wr y e a) (e2 a2 : Nat) : HRes w ((wr.setCell ⟨w.heap.size + 1, 0, none⟩ (.int .i64 (e2 : Nat))).setCell ⟨w.heap.size + 1, 1, none⟩ (.int .i64 (a2 : Nat))) y e2 a2 :=
  ⟨(H.res.other _ _ (by show w.heap.size ≠ w.heap.size + 1; omega)).other _ _ (by show w.heap.size ≠ w.heap.size + 1; omega), (H.flt.set 0 _).set 1 _, (H.bel.setCell (p := ⟨w.heap.size + 1, 0, none⟩) (by simp) _).setCell (p := ⟨w.heap.size + 1, 1, none⟩) (by simp) _⟩
theorem HRes.fc {w wr : World} {y : Hdr} {e a : Nat} (H : HRes w wr y e a) : wr.cell? ⟨w.heap.size + 1, 0, none⟩ = some (.int .i64 (e : Nat)) ∧ wr.cell? ⟨w.heap.size + 1, 1, none⟩ = some (.int .i64 (a : Nat)) ∧ wr.frozen? ⟨w.heap.size + 1, 0, none⟩ = false ∧ wr.frozen? ⟨w.heap.size + 1, 1, none⟩ = false :=
  ⟨H.flt.cell 0, H.flt.cell 1, H.flt.free 0, H.flt.free 1⟩
/-- A reader under way, the header that it reads, and the results' cells. -/
structure HDec (w wr : World) (g b H : Nat) (s : RS) (x : Hdr) : Prop where
  rd : RdS wr g b s
  kh : Blk wr H (hC x) 79
  res : HRes w wr hdr0 0 0
  hg : w.heap.size + 1 < g
  gH : g < H
  bH : b < H
theorem HDec.read {w wr w1 : World} {g b H : Nat} {s s1 : RS} {x : Hdr} (D : HDec w wr g b H s x) (h1 : RdS w1 g b s1) (hx : Bex g wr w1) : HDec w w1 g b H s1 x :=
  ⟨h1, hx.blk D.kh (by have := D.gH; omega), D.res.bex hx D.hg, D.hg, D.gH, D.bH⟩
theorem HDec.below {w wr w1 : World} {g b H : Nat} {s : RS} {x : Hdr} (D : HDec w wr g b H s x) (h : Below wr.heap.size wr w1) : HDec w w1 g b H s x :=
  ⟨D.rd.below h, h.blk' D.kh, D.res.below h, D.hg, D.gH, D.bH⟩
theorem HDec.drew {w wr : World} {g b H : Nat} {s : RS} {x : Hdr} (D : HDec w wr g b H s x) : HDec w wr.drew g b H s x :=
  ⟨D.rd.below (Below.refl _ _).drew, D.kh.drew, D.res.drew, D.hg, D.gH, D.bH⟩
theorem HDec.sets {w wr : World} {g b H : Nat} {s : RS} {x y : Hdr} (D : HDec w wr g b H s x) (o : Nat) (vs : List Value) (e : setsL (hC x) o vs = hC y) : HDec w (wr.setCells H o vs) g b H s y :=
  ⟨D.rd.bexA (Bex.sets H vs o wr) (by have := D.gH; omega) (by have := D.bH; omega), e ▸ D.kh.sets vs o wr _, D.res.bex (Bex.sets H vs o wr) (by have := D.hg; have := D.gH; omega), D.hg, D.gH, D.bH⟩
theorem HDec.start {w wr w1 : World} {g b : Nat} {s : RS} {x y : Hdr} (h1 : RdS wr g b s) (hr : HRes w wr hdr0 0 0) (hg : w.heap.size + 1 < g) (hw : w1 = (wr.alloc (.cells (hC y).toArray 79)).setRow wr.heap.size (hC x).toArray) : HDec w w1 g b wr.heap.size s x := by
  subst hw
  have b1 : Below wr.heap.size wr (wr.alloc (.cells (hC y).toArray 79)) := (Below.refl _ _).alloc (Nat.le_refl _) _
  have b2 := (But.refl wr.heap.size (wr.alloc (.cells (hC y).toArray 79))).setRow (hC x).toArray
  have b3 := b1.trans (b2.below (Nat.le_refl _))
  exact ⟨h1.below b3, (Blk.new wr (hC y) _).row, hr.below b3, hg, h1.glt, h1.lt⟩
set_option maxRecDepth 100000 in
set_option maxHeartbeats 4000000 in
theorem hdecode_any (a : Option Addr) (ba oo cap : Nat) (L : List Nat) (w : World) (h : Bs w a ba oo L cap) (hL : L.length ≤ 4000000) :
    Calls Tryz.prog 130 #[.slice a L.length cap] w fun e w' => e = .returned (.tuple #[.agg (hC (decH L).1).toArray, .agg #[.int .i64 ((decH L).2.1 : Nat), .int .i64 ((decH L).2.2 : Nat)]]) ∧ Below w.heap.size w w' := by
  have hz : ∀ w, (zeroValue 79).run Tryz.prog w = .ok (.agg (hC hdr0).toArray) w := (zero_of_info (P := Tryz.prog) zero_hdr).1
  have hl0 := hidp (hC_len hdr0_ok)
  have hby := h.byte
  have HOK := hidp (rdH_ok hby)
  have HA := hidp (fun o : Obj => ((Below.refl w.heap.size w).alloc (Nat.le_refl _) (.cells (hC hdr0).toArray 79)).alloc (by simp) o)
  have HR := hidp (fun o : Obj => newReader_any a ba oo cap L ((w.alloc (.cells (hC hdr0).toArray 79)).alloc o) (h.below (HA.out o)) hL)
  have HZ : Hid (HRes w ((w.alloc (.cells (hC hdr0).toArray 79)).alloc (.cells #[.int .i64 0, .int .i64 0] 52)) hdr0 0 0) := hidp ⟨(Blk.new w (hC hdr0) _).alloc _, Blk.new' _ [.int .i64 ((0 : Nat) : Int), .int .i64 ((0 : Nat) : Int)] _ _ (by simp), HA.out _⟩
  clear h hL
  go_enter Tryz.func130, Tryz.ntmps130
  go_wp2_with fail
  refine (HR.out _).mono ?_
  rintro e w1 ⟨g, b, rfl, hg, hb, hr, hB⟩
  have S0 : Hid (RdS w1 g b (hS0 L) ∧ HRes w w1 hdr0 0 0 ∧ w.heap.size + 1 < g) := hidp ⟨⟨hr, hb, fun _ => rfl⟩, HZ.out.below hB, by simp at hg; omega⟩
  clear hg hb hr hB HR HA HZ
  go_wp2_with fail
  refine (sText S0.out.1 32).mono ?_
  rintro e w2 ⟨rfl, h1, hx⟩
  have S1 : Hid (RdS w2 g b (hS1 L) ∧ HRes w w2 hdr0 0 0 ∧ w.heap.size + 1 < g) := hidp ⟨h1, S0.out.2.1.bex hx S0.out.2.2, S0.out.2.2⟩
  clear h1 hx S0
  obtain ⟨v0, hv0⟩ : ∃ v, v = strB (rdV (fun R => pText R 32) [] (hS0 L)) := ⟨_, rfl⟩
  rw [← hv0]
  replace hv0 := hidp hv0
  go_wp2_with fail
  refine (sNum S1.out.1).mono ?_
  rintro e w3 ⟨rfl, h1, hx⟩
  have S2 : Hid (RdS w3 g b (hS2 L) ∧ HRes w w3 hdr0 0 0 ∧ w.heap.size + 1 < g) := hidp ⟨h1, S1.out.2.1.bex hx S1.out.2.2, S1.out.2.2⟩
  clear h1 hx S1
  obtain ⟨v1, hv1⟩ : ∃ v, v = rdV pNum 0 (hS1 L) := ⟨_, rfl⟩
  rw [← hv1]
  replace hv1 := hidp hv1
  go_wp2_with fail
  refine (sNum S2.out.1).mono ?_
  rintro e w4 ⟨rfl, h1, hx⟩
  have S3 : Hid (RdS w4 g b (hS3 L) ∧ HRes w w4 hdr0 0 0 ∧ w.heap.size + 1 < g) := hidp ⟨h1, S2.out.2.1.bex hx S2.out.2.2, S2.out.2.2⟩
  clear h1 hx S2
  obtain ⟨v2, hv2⟩ : ∃ v, v = rdV pNum 0 (hS2 L) := ⟨_, rfl⟩
  rw [← hv2]
  replace hv2 := hidp hv2
  have hZ1 := hidp (Blk.new w4 (hC hdr0) 79)
  have hl1 : Hid ((hC ⟨v0, v1, v2, z32, z32, z32, z32⟩).length = 131) := hidp (by unfold hC; simp [bvs_len, z32])
  have ho1 := hidp (hC_one ⟨v0, v1, v2, z32, z32, z32, z32⟩)
  go_wp2_with first
    | (with_reducible refine (?_ : wpList _ _ _ _ _ _); refine wpList_buildG (by kernel_rfl) 79 _ rfl (hC ⟨v0, v1, v2, z32, z32, z32, z32⟩).toArray (by kernel_rfl) ?_)
    | (with_reducible refine (?_ : wpList _ _ _ _ _ _); refine wpList_store_blk rfl 79 _ _ rfl w4.heap.size (hC ⟨v0, v1, v2, z32, z32, z32, z32⟩) (hC hdr0) 79 rfl rfl hZ1.out (by rw [hl1.out]; kernel_rfl) (by rw [hl1.out, hl0.out]) ho1.out ?_; intro w5 hw5)
  have D3 := hidp (HDec.start S3.out.1 S3.out.2.1 S3.out.2.2 hw5.out)
  clear hw5 S3 hZ1 hl1 ho1
  refine (hashes_any w4.heap.size _).mono ?_
  rintro e w6 ⟨rfl, hb⟩
  replace D3 := hidp (D3.out.below hb)
  clear hb
  go_wp2_with fail
  refine wp_loop_rounds 5 ?_
  rw [rounds_succ]
  go_wp2_with fail
  refine (sHash D3.out.rd).mono ?_
  rintro e w7 ⟨rfl, h1, hx⟩
  have D3r := hidp (D3.out.read (s1 := hS4 L) h1 hx)
  clear h1 hx D3
  have HB0 := hidp (rdHash_bytes (s := hS3 L) (hS_byte hby).2.2.2.1)
  obtain ⟨q0, hq0⟩ : ∃ v, v = rdV (pRaw 32) z32 (hS3 L) := ⟨_, rfl⟩
  have hq0' : rdV (pRaw 32) (List.replicate 32 0) (hS3 L) = q0 := hq0.symm
  rw [← hq0] at HB0
  rw [hq0']
  clear hq0'
  replace hq0 := hidp hq0
  have HL0 := hidp HB0.out.1
  have HSZ : Hid ((Tryz.prog.info? 39).map (·.size) = some (bvs q0).toArray.size) := hidp (by rw [List.size_toArray, bvs_len, HL0.out]; kernel_rfl)
  have HTH : Hid (w7.there w4.heap.size 3 (bvs q0).toArray.size) := hidp (D3r.out.kh.there 3 _ (by rw [List.size_toArray, bvs_len, HL0.out]; unfold hC; simp [bvs_len, z32]))
  go_wp2_with (with_reducible refine (?_ : wpList _ _ _ _ _ _); refine wpList_store_mid rfl 39 _ _ rfl w4.heap.size 3 (bvs q0).toArray rfl rfl HTH.out HSZ.out (bvs_one _) ?_)
  have D4 := hidp (D3r.out.sets 3 (bvs q0) (setH_p q0  (by rw [HL0.out]; rfl)))
  obtain ⟨W0, hW0⟩ : ∃ W, W = w7.setCells w4.heap.size 3 (bvs q0).toArray.toList := ⟨_, rfl⟩
  have hW0' : w7.setCells w4.heap.size 3 (bvs q0) = W0 := hW0.symm
  rw [hW0'] at D4
  rw [← hW0]
  clear HTH HSZ D3r hW0 hW0'
  go_wp2_with fail
  rw [rounds_succ]
  go_wp2_with fail
  refine (sHash D4.out.rd).mono ?_
  rintro e w8 ⟨rfl, h1, hx⟩
  have D4r := hidp (D4.out.read (s1 := hS5 L) h1 hx)
  clear h1 hx D4
  have HB1 := hidp (rdHash_bytes (s := hS4 L) (hS_byte hby).2.2.2.2.1)
  obtain ⟨q1, hq1⟩ : ∃ v, v = rdV (pRaw 32) z32 (hS4 L) := ⟨_, rfl⟩
  have hq1' : rdV (pRaw 32) (List.replicate 32 0) (hS4 L) = q1 := hq1.symm
  rw [← hq1] at HB1
  rw [hq1']
  clear hq1'
  replace hq1 := hidp hq1
  have HL1 := hidp HB1.out.1
  have HSZ : Hid ((Tryz.prog.info? 39).map (·.size) = some (bvs q1).toArray.size) := hidp (by rw [List.size_toArray, bvs_len, HL1.out]; kernel_rfl)
  have HTH : Hid (w8.there w4.heap.size 35 (bvs q1).toArray.size) := hidp (D4r.out.kh.there 35 _ (by rw [List.size_toArray, bvs_len, HL1.out]; unfold hC; simp [bvs_len, z32, HL0.out]))
  go_wp2_with (with_reducible refine (?_ : wpList _ _ _ _ _ _); refine wpList_store_mid rfl 39 _ _ rfl w4.heap.size 35 (bvs q1).toArray rfl rfl HTH.out HSZ.out (bvs_one _) ?_)
  have D5 := hidp (D4r.out.sets 35 (bvs q1) (setH_v q1 HL0.out (by rw [HL1.out]; rfl)))
  obtain ⟨W1, hW1⟩ : ∃ W, W = w8.setCells w4.heap.size 35 (bvs q1).toArray.toList := ⟨_, rfl⟩
  have hW1' : w8.setCells w4.heap.size 35 (bvs q1) = W1 := hW1.symm
  rw [hW1'] at D5
  rw [← hW1]
  clear HTH HSZ D4r hW1 hW1'
  go_wp2_with fail
  rw [rounds_succ]
  go_wp2_with fail
  refine (sHash D5.out.rd).mono ?_
  rintro e w9 ⟨rfl, h1, hx⟩
  have D5r := hidp (D5.out.read (s1 := hS6 L) h1 hx)
  clear h1 hx D5
  have HB2 := hidp (rdHash_bytes (s := hS5 L) (hS_byte hby).2.2.2.2.2.1)
  obtain ⟨q2, hq2⟩ : ∃ v, v = rdV (pRaw 32) z32 (hS5 L) := ⟨_, rfl⟩
  have hq2' : rdV (pRaw 32) (List.replicate 32 0) (hS5 L) = q2 := hq2.symm
  rw [← hq2] at HB2
  rw [hq2']
  clear hq2'
  replace hq2 := hidp hq2
  have HL2 := hidp HB2.out.1
  have HSZ : Hid ((Tryz.prog.info? 39).map (·.size) = some (bvs q2).toArray.size) := hidp (by rw [List.size_toArray, bvs_len, HL2.out]; kernel_rfl)
  have HTH : Hid (w9.there w4.heap.size 67 (bvs q2).toArray.size) := hidp (D5r.out.kh.there 67 _ (by rw [List.size_toArray, bvs_len, HL2.out]; unfold hC; simp [bvs_len, z32, HL0.out, HL1.out]))
  go_wp2_with (with_reducible refine (?_ : wpList _ _ _ _ _ _); refine wpList_store_mid rfl 39 _ _ rfl w4.heap.size 67 (bvs q2).toArray rfl rfl HTH.out HSZ.out (bvs_one _) ?_)
  have D6 := hidp (D5r.out.sets 67 (bvs q2) (setH_n q2 HL0.out HL1.out (by rw [HL2.out]; rfl)))
  obtain ⟨W2, hW2⟩ : ∃ W, W = w9.setCells w4.heap.size 67 (bvs q2).toArray.toList := ⟨_, rfl⟩
  have hW2' : w9.setCells w4.heap.size 67 (bvs q2) = W2 := hW2.symm
  rw [hW2'] at D6
  rw [← hW2]
  clear HTH HSZ D5r hW2 hW2'
  go_wp2_with fail
  rw [rounds_succ]
  go_wp2_with fail
  refine (sHash D6.out.rd).mono ?_
  rintro e w10 ⟨rfl, h1, hx⟩
  have D6r := hidp (D6.out.read (s1 := hS7 L) h1 hx)
  clear h1 hx D6
  have HB3 := hidp (rdHash_bytes (s := hS6 L) (hS_byte hby).2.2.2.2.2.2)
  obtain ⟨q3, hq3⟩ : ∃ v, v = rdV (pRaw 32) z32 (hS6 L) := ⟨_, rfl⟩
  have hq3' : rdV (pRaw 32) (List.replicate 32 0) (hS6 L) = q3 := hq3.symm
  rw [← hq3] at HB3
  rw [hq3']
  clear hq3'
  replace hq3 := hidp hq3
  have HL3 := hidp HB3.out.1
  have HSZ : Hid ((Tryz.prog.info? 39).map (·.size) = some (bvs q3).toArray.size) := hidp (by rw [List.size_toArray, bvs_len, HL3.out]; kernel_rfl)
  have HTH : Hid (w10.there w4.heap.size 99 (bvs q3).toArray.size) := hidp (D6r.out.kh.there 99 _ (by rw [List.size_toArray, bvs_len, HL3.out]; unfold hC; simp [bvs_len, z32, HL0.out, HL1.out, HL2.out]))
  go_wp2_with (with_reducible refine (?_ : wpList _ _ _ _ _ _); refine wpList_store_mid rfl 39 _ _ rfl w4.heap.size 99 (bvs q3).toArray rfl rfl HTH.out HSZ.out (bvs_one _) ?_)
  have D7 := hidp (D6r.out.sets 99 (bvs q3) (setH_a q3 HL0.out HL1.out HL2.out (by rw [HL3.out]; rfl)))
  obtain ⟨W3, hW3⟩ : ∃ W, W = w10.setCells w4.heap.size 99 (bvs q3).toArray.toList := ⟨_, rfl⟩
  have hW3' : w10.setCells w4.heap.size 99 (bvs q3) = W3 := hW3.symm
  rw [hW3'] at D7
  rw [← hW3]
  clear HTH HSZ D6r hW3 hW3'
  have hX := hidp (show (⟨v0, v1, v2, q0, q1, q2, q3⟩ : Hdr) = rdH L by rw [hv0.out, hv1.out, hv2.out, hq0.out, hq1.out, hq2.out, hq3.out]; rfl)
  obtain ⟨x, hx0⟩ : ∃ x : Hdr, x = ⟨v0, v1, v2, q0, q1, q2, q3⟩ := ⟨_, rfl⟩
  rw [← hx0] at D7 hX
  clear hx0 hv0 hv1 hv2 hq0 hq1 hq2 hq3 HB0 HB1 HB2 HB3 HL0 HL1 HL2 HL3
  rw [← hX.out] at HOK
  have hl := hidp (hC_len HOK.out)
  have hone := hidp (hC_one x)
  have hone0 := hidp (hC_one hdr0)
  go_wp2_with fail
  rw [rounds_succ]
  go_wp2_with fail
  refine (sEnd D7.out.rd).mono ?_
  rintro e w11 ⟨rfl, hB⟩
  have D8 := hidp (fun o : Obj => D7.out.below (hB.trans (((Below.refl _ w11).alloc (Nat.le_refl _) o).mono hB.size)))
  have D8r := hidp (D7.out.below hB)
  clear hB D7
  obtain ⟨ex, ey, hxy⟩ : ∃ x y, endS (hS7 L) = (x, y) := ⟨_, _, rfl⟩
  rw [hxy]
  by_cases h0 : ex = 0
  · subst h0
    have HC := hidp (fun W => hcheck_any x HOK.out W)
    go_wp2_with (with_reducible refine (?_ : wpList _ _ _ _ _ _); refine wpList_load_blk rfl 79 _ rfl w4.heap.size (hC x) 79 rfl (D8.out _).kh _ Tryz.underlying79 rfl (by rw [hl.out]; kernel_rfl) ?_)
    refine (HC.out _).mono ?_
    rintro e w12 ⟨rfl, hB⟩
    have D9 := hidp ((D8.out _).below hB)
    clear hB D8 HC
    by_cases hc : chkH x = 0
    · have hO := hidp (decH_ok (L := L) (by rw [hxy]) (by rw [← hX.out]; exact hc))
      rw [hc]
      go_wp2_with first
        | (with_reducible refine (?_ : wpList _ _ _ _ _ _); refine wpList_load_blk rfl 79 _ rfl w4.heap.size (hC x) 79 rfl D9.out.kh _ Tryz.underlying79 rfl (by rw [hl.out]; kernel_rfl) ?_)
        | (with_reducible refine (?_ : wpList _ _ _ _ _ _); refine wpList_store_blk rfl 79 _ _ rfl w.heap.size (hC x) (hC hdr0) 79 rfl rfl D9.out.res.res (by rw [hl.out]; kernel_rfl) (by rw [hl.out, hl0.out]) hone.out ?_; intro w13 hw13; have F1 := hidp (show HRes w w13 x 0 0 by rw [hw13.out]; exact D9.out.res.row x); obtain ⟨k0, k1, k2, k3⟩ := F1.out.fc)
      have F2 := hidp (F1.out.fin 0 0)
      try rw [show ((0 : Nat) : Int) = 0 from rfl] at F2
      generalize (World.setCell _ _ _) = W at F2 ⊢
      refine bodyPost_ret (v := .tuple #[.agg (hC x).toArray, .agg [.int .i64 ((0 : Nat) : Int), .int .i64 ((0 : Nat) : Int)].toArray]) ?_ rfl ⟨by rw [hO.out, hX.out], F2.out.bel⟩
      exact results_rows2 Tryz.results130 _ _ w.heap.size 79 _ _ (w.heap.size + 1) 52 _ _ rfl F2.out.res Tryz.underlying79 rfl (by rw [hl.out]; kernel_rfl) rfl F2.out.flt Tryz.underlying52 rfl (by kernel_rfl)
    · have hO := hidp (decH_chk (L := L) (by rw [hxy]) (by rw [← hX.out]; exact hc))
      have hbn : (((chkH x : Nat) : Int) != 0) = true := by rw [bne_iff_ne]; omega
      rw [← hX.out] at hO
      generalize chkH x = n at *
      clear hc
      go_wp2_with first
        | (with_reducible refine (?_ : wpList _ _ _ _ _ _); refine wpList_buildG (by kernel_rfl) 79 _ rfl (hC hdr0).toArray (by kernel_rfl) ?_)
        | (with_reducible refine (?_ : wpList _ _ _ _ _ _); refine wpList_store_blk rfl 79 _ _ rfl w.heap.size (hC hdr0) (hC hdr0) 79 rfl rfl D9.out.res.res (by rw [hl0.out]; kernel_rfl) rfl hone0.out ?_; intro w13 hw13; have F1 := hidp (show HRes w w13 hdr0 0 0 by rw [hw13.out]; exact D9.out.res.row hdr0); obtain ⟨k0, k1, k2, k3⟩ := F1.out.fc)
      have F2 := hidp (F1.out.fin n 0)
      try rw [show ((0 : Nat) : Int) = 0 from rfl] at F2
      generalize (World.setCell _ _ _) = W at F2 ⊢
      refine bodyPost_ret (v := .tuple #[.agg (hC hdr0).toArray, .agg [.int .i64 (n : Nat), .int .i64 ((0 : Nat) : Int)].toArray]) ?_ rfl ⟨by rw [hO.out], F2.out.bel⟩
      exact results_rows2 Tryz.results130 _ _ w.heap.size 79 _ _ (w.heap.size + 1) 52 _ _ rfl F2.out.res Tryz.underlying79 rfl (by rw [hl0.out]; kernel_rfl) rfl F2.out.flt Tryz.underlying52 rfl (by kernel_rfl)
  · have hO := hidp (decH_end (L := L) (by rw [hxy]; exact h0))
    rw [hxy] at hO
    have hbn : (((ex : Nat) : Int) != 0) = true := by rw [bne_iff_ne]; omega
    clear h0
    go_wp2_with fail
    have D9 := hidp (D8.out (.cells #[.int .i64 (ex : Nat), .int .i64 (ey : Nat)] 52)).drew
    refine wp_region_held_drew (S := fun w' => Blk w' w11.heap.size [.int .i64 (ex : Nat), .int .i64 (ey : Nat)] 52) (by kernel_rfl) (Blk.new w11 _ _).drew (fun hS0 => ?_)
    refine wpAnyH_takeTo2 (i := 0) (oi := _) (v := .agg (hC hdr0).toArray) (some 33) rfl rfl (by kernel_rfl) (by kernel_rfl) (by kernel_rfl) (fun _ _ _ h => h) (yieldsIf_build rfl 79 _ rfl (hC hdr0).toArray (by kernel_rfl)) hS0 ?_
    try simp only [Act.put, List.setIfInBounds_toArray, List.set_cons_zero, List.set_cons_succ]
    refine wpAnyH_takeTo2 (i := 1) (oi := _) (v := .agg [.int .i64 (ex : Nat), .int .i64 (ey : Nat)].toArray) (some 34) rfl rfl (by kernel_rfl) (by kernel_rfl) (by kernel_rfl) (fun _ _ _ h => h) (yieldsIf_load_mid rfl 52 _ rfl w11.heap.size 0 rfl [.int .i64 (ex : Nat), .int .i64 (ey : Nat)] _ (fun w h j v hj => by rw [Nat.zero_add]; exact (h.cell j).trans hj) Tryz.underlying52 rfl (by kernel_rfl)) hS0 ?_
    try simp only [Act.put, List.setIfInBounds_toArray, List.set_cons_zero, List.set_cons_succ]
    refine wpAnyH_ready (rs := [2]) (by kernel_rfl) (by simp) ?_
    refine AllReadyH.cons (o := _) rfl (fun K hK => ?_) AllReadyH.nil
    refine if_intro (by rfl) ?_
    refine wp_store_row 79 _ _ rfl w.heap.size (hC hdr0).toArray rfl rfl 79 (hC hdr0).toArray D9.out.res.res (by rw [List.size_toArray, hl0.out]; kernel_rfl) rfl hone0.out ?_
    obtain ⟨w13, hw13⟩ : ∃ W, W = ((w11.alloc (.cells #[.int .i64 (ex : Nat), .int .i64 (ey : Nat)] 52)).drew).setRow w.heap.size (hC hdr0).toArray := ⟨_, rfl⟩
    have F1 := hidp (show HRes w w13 hdr0 0 0 by rw [hw13]; exact D9.out.res.row hdr0)
    have S1 := hidp (show Blk w13 w11.heap.size [.int .i64 (ex : Nat), .int .i64 (ey : Nat)] 52 by rw [hw13]; exact ((But.refl w.heap.size _).setRow _).blk hS0 (by have := D8r.out.res.flt.lt; omega))
    have L11 := hidp (show w11.heap.size ≠ w.heap.size + 1 by have := D8r.out.res.flt.lt; omega)
    rw [← hw13]
    clear hw13
    refine hK.out _ _ S1.out (fun _ => ?_)
    clear hK K
    try simp only [Act.put, List.setIfInBounds_toArray, List.set_cons_zero, List.set_cons_succ]
    refine wpAnyH_ready (rs := [3]) (by kernel_rfl) (by simp) ?_
    refine AllReadyH.cons (o := _) rfl (fun K hK => ?_) AllReadyH.nil
    refine if_intro (by rfl) ?_
    obtain ⟨k0, k1, k2, k3⟩ := F1.out.fc
    go_simp
    have F2 := hidp (F1.out.fin ex ey)
    have S2 := hidp (show Blk ((w13.setCell ⟨w.heap.size + 1, 0, none⟩ (.int .i64 (ex : Nat))).setCell ⟨w.heap.size + 1, 1, none⟩ (.int .i64 (ey : Nat))) w11.heap.size [.int .i64 (ex : Nat), .int .i64 (ey : Nat)] 52 from (S1.out.other _ _ L11.out).other _ _ L11.out)
    refine hK.out _ _ S2.out (fun _ => ?_)
    clear hK K
    try simp only [Act.put, List.setIfInBounds_toArray, List.set_cons_zero, List.set_cons_succ]
    refine wpAnyH_done (by kernel_rfl) ?_ _
    clear k0 k1 k2 k3
    generalize (World.setCell _ _ _) = W at F2 ⊢
    go_wp2
    refine bodyPost_ret (v := .tuple #[.agg (hC hdr0).toArray, .agg [.int .i64 (ex : Nat), .int .i64 (ey : Nat)].toArray]) ?_ rfl ⟨by rw [hO.out], F2.out.bel⟩
    exact results_rows2 Tryz.results130 _ _ w.heap.size 79 _ _ (w.heap.size + 1) 52 _ _ rfl F2.out.res Tryz.underlying79 rfl (by rw [hl0.out]; kernel_rfl) rfl F2.out.flt Tryz.underlying52 rfl (by kernel_rfl)
end Go.Proofs.YtcmkmnidnapabaaGreat
