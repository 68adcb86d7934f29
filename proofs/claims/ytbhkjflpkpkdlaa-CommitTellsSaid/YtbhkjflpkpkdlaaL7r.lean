/-
  Commit: its bytes.
-/
import Derived.Test.YtbhkjflpkpkdlaaL7h
import Derived.Test.YtbhkjflpkpkdlaaUb
namespace Go.Proofs.Ytbhkjflpkpkdlaa
open Go.RowKit Go.Lib
set_option linter.unusedSimpArgs false

/-- One vote's bytes, and a commit's. -/
def tB (v : Vt) : List Nat := nB v.a.toNat ++ wordB v.s
def encC (h : Int) (p : List Nat) (l : List Vt) : List Nat := nB h.toNat ++ p ++ nB l.length ++ l.flatMap tB
theorem tB_len (v : Vt) : (tB v).length ≤ 17 := by
  unfold tB
  rw [List.length_append, nB_len, wordB_len]
  have := dg_le v.a.toNat
  omega
theorem flatB_len : ∀ l : List Vt, (l.flatMap tB).length ≤ 17 * l.length
  | [] => by simp
  | v :: l => by
    have := flatB_len l
    have := tB_len v
    simp only [List.flatMap_cons, List.length_append, List.length_cons]
    omega
/-- A writer under way, beside the commit that it writes. -/
structure CEnc (w wr : World) (g : Nat) (cs : List Value) (v : Value) (X : List Nat) : Prop where
  wri : Wr wr g 1048576 v X 0
  kc : Blk wr w.heap.size cs 63
  bel : Below w.heap.size w wr
  hA : w.heap.size < g
theorem CEnc.put {w wr wa w1 : World} {g : Nat} {cs : List Value} {v v1 : Value} {X Y : List Nat} (H : CEnc w wr g cs v X) (ha : Below wr.heap.size wr wa) (h1 : Wr w1 g 1048576 v1 Y 0) (hf : Wfr g v wa w1 v1) : CEnc w w1 g cs v1 Y := by
  have b1 := hf.toBelow (H.wri.below ha)
  exact ⟨h1, (ha.blk' H.kc).below b1 H.hA, (H.bel.trans (ha.mono H.bel.size)).trans (b1.mono (Nat.le_of_lt H.hA)), H.hA⟩
set_option maxRecDepth 100000 in
set_option maxHeartbeats 2000000 in
theorem cencode_bad (h : Int) (p : List Nat) (hp : p.length = 32) (a : Option Addr) (b o cap : Nat) (l : List Vt) (w : World) (hT : Ts w a b o cap l) (hc : chkC h l ≠ 0) :
    Calls Try.prog 38 #[.agg (cC h p (.slice a l.length cap)).toArray] w fun e w' => e = .returned (.tuple #[.slice none 0 0, .int .i64 (chkC h l : Nat)]) ∧ Below w.heap.size w w' := by
  have HC := hidp (fun W (hW : Below w.heap.size w W) => ccheck_any h p hp a b o cap l W (hT.below hW))
  have ht : (((chkC h l : Nat) : Int) != 0) = true := by rw [bne_iff_ne]; omega
  have hl := hidp (cC_len (h := h) (sl := .slice a l.length cap) hp)
  have hA := hidp (Blk.new w (cC h p (.slice a l.length cap)) 63)
  have hBB := hidp ((Below.refl w.heap.size w).alloc (Nat.le_refl _) (.cells (cC h p (.slice a l.length cap)).toArray 63))
  clear hc hT hp
  generalize chkC h l = n at *
  go_enter Try.func38, Try.ntmps38
  go_wp2_with (with_reducible refine (?_ : wpList _ _ _ _ _ _); refine wpList_load_blk rfl 63 _ rfl w.heap.size (cC h p (.slice a l.length cap)) 63 rfl hA.out _ Try.underlying63 rfl (by rw [hl.out]; kernel_rfl) ?_)
  refine (HC.out _ hBB.out).mono ?_
  rintro e w1 ⟨rfl, hb⟩
  have hB := hidp (hBB.out.trans (hb.mono hBB.out.size))
  clear hb HC hBB hA
  go_wp2_with fail
  exact bodyPost_ret (v := .tuple #[.slice none 0 0, .int .i64 (n : Nat)]) (by simp [results, Try.results38, go_sem]) rfl ⟨rfl, hB.out⟩
structure CEncI (w wr : World) (g : Nat) (cs : List Value) (i : Nat) (l : List Vt) (v : Value) (Z X : List Nat) : Prop where
  e : CEnc w wr g cs v X
  hX : X = Z ++ (l.take i).flatMap tB
theorem CEncI.fit {w wr : World} {g : Nat} {cs : List Value} {i : Nat} {l : List Vt} {v : Value} {Z X : List Nat} (H : CEncI w wr g cs i l v Z X) (hl : l.length ≤ 64) (hZ : Z.length ≤ 60) : X.length ≤ 1200 := by
  have h1 := flatB_len (l.take i)
  have h3 : (l.take i).length ≤ l.length := by rw [List.length_take]; omega
  rw [H.hX, List.length_append]
  omega
theorem CEncI.next {w wr wa w1 w2 : World} {g : Nat} {cs : List Value} {i : Nat} {l : List Vt} {v v1 v2 : Value} {Z X : List Nat} {u : Vt} (H : CEncI w wr g cs i l v Z X) (hu : l[i]? = some u) (ha : Below wr.heap.size wr wa)
    (h1 : Wr w1 g 1048576 v1 (X ++ nB u.a.toNat) 0 ∧ Wfr g v wa w1 v1) (h2 : Wr w2 g 1048576 v2 (X ++ nB u.a.toNat ++ wordB u.s) 0 ∧ Wfr g v1 w1 w2 v2) : CEncI w w2 g cs (i + 1) l v2 Z (X ++ nB u.a.toNat ++ wordB u.s) := by
  refine ⟨(H.e.put ha h1.1 h1.2).put (Below.refl _ _) h2.1 h2.2, ?_⟩
  obtain ⟨hlt, rfl⟩ := List.getElem?_eq_some_iff.1 hu
  have e : l.take (i + 1) = l.take i ++ [l[i]] := List.take_succ_eq_append_getElem hlt
  rw [e, H.hX, List.flatMap_append]
  simp [tB, List.append_assoc]
set_option maxRecDepth 100000 in
set_option maxHeartbeats 4000000 in
theorem cencode_ok (h : Int) (p : List Nat) (hp : Bytes 32 p) (a : Option Addr) (b o cap : Nat) (l : List Vt) (w : World) (hT : Ts w a b o cap l) (hc : chkC h l = 0) :
    Calls Try.prog 38 #[.agg (cC h p (.slice a l.length cap)).toArray] w (DoneP w (encC h p l)) := by
  have HC := hidp (fun W (hW : Below w.heap.size w W) => ccheck_any h p hp.1 a b o cap l W (hT.below hW))
  rw [hc] at HC
  have hOK := hidp (chkC_ok hc)
  have hOV := hidp (chkV_ok hOK.out.2.2)
  have hl := hidp (cC_len (h := h) (sl := .slice a l.length cap) hp.1)
  have HT := hidp hT
  have HP := hidp hp
  obtain ⟨n, hn⟩ : ∃ n : Nat, h = n := ⟨h.toNat, by have := hOK.out.1; omega⟩
  have HN := hidp (show n ≤ 1073741824 ∧ h.toNat = n by have := hOK.out.1; omega)
  have hnn := hidp hn
  have hA := hidp (Blk.new w (cC h p (.slice a l.length cap)) 63)
  have hBB := hidp ((Below.refl w.heap.size w).alloc (Nat.le_refl _) (.cells (cC h p (.slice a l.length cap)).toArray 63))
  obtain ⟨E, hE⟩ : ∃ E, E = encC h p l := ⟨_, rfl⟩
  rw [← hE]
  replace hE := hidp hE
  clear hc hT hp hn
  go_enter Try.func38, Try.ntmps38
  go_wp2_with (with_reducible refine (?_ : wpList _ _ _ _ _ _); refine wpList_load_blk rfl 63 _ rfl w.heap.size (cC h p (.slice a l.length cap)) 63 rfl hA.out _ Try.underlying63 rfl (by rw [hl.out]; kernel_rfl) ?_)
  refine (HC.out _ hBB.out).mono ?_
  rintro e w1 ⟨rfl, hb⟩
  have hB := hidp (hBB.out.trans (hb.mono hBB.out.size))
  have hK := hidp (hb.blk' hA.out)
  clear hb HC hBB hA
  go_wp2_with fail
  refine (newWriter_mx w1).mono ?_
  rintro e w2 ⟨rfl, hw, hb⟩
  have E0 : Hid (CEnc w w2 w1.heap.size (cC h p (.slice a l.length cap)) (.slice none 0 0) []) := hidp ⟨hw, hb.blk' hK.out, hB.out.trans (hb.mono hB.out.size), hK.out.lt⟩
  clear hw hb hB hK
  have c0 := E0.out.kc.cell 0
  rw [cC_0, hnn.out] at c0
  go_wp2_with fail
  refine (wNum_n E0.out.wri n (by have := HN.out; omega) (by simp)).mono ?_
  rintro e w3 ⟨rfl, v3, hw, hf⟩
  have E1 := hidp (E0.out.put (Below.refl _ _) hw hf)
  clear hw hf E0 c0
  have S1 := hidp (show ([] ++ nB n).length ≤ 9 by rw [List.nil_append, nB_len]; have := dg_le n; omega)
  have hRA := rangeAt_p E1.out.kc
  have hSZ : (Try.prog.info? 34).map (·.size) = some (bvs p).length := by rw [bvs_len, HP.out.1]; kernel_rfl
  go_wp2_with (refine wpList_load_mid rfl 34 _ rfl w.heap.size 1 rfl (bvs p) _ hRA Try.underlying34 rfl hSZ ?_)
  refine (wHash_ok E1.out.wri p HP.out (by have := S1.out; omega)).mono ?_
  rintro e w4 ⟨rfl, v4, hw, hf⟩
  have E2 := hidp (E1.out.put (Below.refl _ _) hw hf)
  clear hw hf E1
  have S2 := hidp (show ([] ++ nB n ++ p).length ≤ 41 by rw [List.length_append, HP.out.1]; have := S1.out; omega)
  have c33 := E2.out.kc.cell 33
  rw [cC_33 HP.out.1] at c33
  go_wp2_with fail
  refine (wNum_n E2.out.wri l.length (by have := hOK.out.2.1; omega) (by have := S2.out; omega)).mono ?_
  rintro e w5 ⟨rfl, v5, hw, hf⟩
  have E3 := hidp (E2.out.put (Below.refl _ _) hw hf)
  clear hw hf E2 c33
  have S3 := hidp (show ([] ++ nB n ++ p ++ nB l.length).length ≤ 60 by rw [List.length_append, nB_len]; have := S2.out; have := dg_le l.length; omega)
  have H0 : Hid (CEncI w w5 w1.heap.size (cC h p (.slice a l.length cap)) 0 l v5 ([] ++ nB n ++ p ++ nB l.length) ([] ++ nB n ++ p ++ nB l.length)) := hidp ⟨E3.out, by simp⟩
  have hZ := hidp (show ([] ++ nB n ++ p ++ nB l.length) ++ l.flatMap tB = E by rw [hE.out]; unfold encC; rw [HN.out.2]; rfl)
  generalize ([] ++ nB n ++ p ++ nB l.length) = Z at *
  have c33 := E3.out.kc.cell 33
  rw [cC_33 HP.out.1] at c33
  clear E3 S1 S2
  go_wp2_with fail
  clear c33
  go_loopw [37] (fun x wr => ∃ i : Nat, ∃ v X, i ≤ l.length ∧ x = .int .i64 ((i : Nat) : Int) ∧ Hid (CEncI w wr w1.heap.size (cC h p (.slice a l.length cap)) i l v Z X)) (fun x _ => l.length - (Go.RowKit.intOf x).toNat)
  case atStart => exact ⟨0, v5, _, by omega, rfl, H0⟩
  case round =>
    obtain ⟨i, v, X, hi, rfl, hr⟩ := hrel
    clear H0
    by_cases hlt : i < l.length
    · obtain ⟨u, hu, hok, rfl, hbl, c0, c1⟩ := (HT.out.below hr.out.e.bel).at hlt
      have HV := hidp hu
      have HF := hidp (hr.out.fit hOK.out.2.1 S3.out)
      have hp0 := hOV.out.2.2 u (List.mem_of_getElem? hu)
      have hs0 := hidp hok.s
      obtain ⟨m, hm⟩ : ∃ m : Nat, u.a = (m : Int) := ⟨u.a.toNat, by omega⟩
      have HM := hidp (show m < 9223372036854775808 ∧ u.a.toNat = m by omega)
      rw [hm] at c0
      have hadd := w64_nat (n := i) (by have := hOK.out.2.1; omega)
      have hal := hidp (fun o : Obj => (Below.refl wr.heap.size wr).alloc (Nat.le_refl _) o)
      have hbx := hidp (hlt)
      clear hu hok hp0 hm
      go_wp2_with fail
      refine (wNum_n (hr.out.e.wri.below (hal.out _)) m HM.out.1 (by have := HF.out; omega)).mono ?_
      rintro e w6 ⟨rfl, v6, hw6⟩
      have d1 : w6.cell? ⟨wr.heap.size, 1, none⟩ = some (.int .u64 (u.s : Nat)) := (hw6.2.box hr.out.e.wri).cell 1
      have H6 := hidp hw6
      clear hw6
      go_wp2_with fail
      refine (wWord_ok H6.out.1 u.s hs0.out (by have := HF.out; rw [List.length_append, nB_len]; have := dg_le m; omega)).mono ?_
      rintro e w7 ⟨rfl, v7, hw7⟩
      have H7 := hidp (hr.out.next HV.out (hal.out _) (by rw [HM.out.2]; exact H6.out) (by rw [HM.out.2]; exact hw7))
      clear hw7 hr H6 d1
      go_wp2_with fail
      rw [hadd]
      exact ⟨⟨i + 1, _, _, hbx.out, rfl, H7⟩, by have h1 := hbx.out; show l.length - ((i + 1 : Nat) : Int).toNat < l.length - ((i : Nat) : Int).toNat; omega⟩
    · obtain rfl : i = l.length := by omega
      have hX := hidp (show X = E by rw [hr.out.hX, List.take_length]; exact hZ.out)
      clear hlt
      go_wp2_with fail
      refine (wDone_ok hr.out.e.wri).mono ?_
      rintro e w4 ⟨⟨q, pb, pc, rfl, h1, h2, h3⟩, h4⟩
      have HPP := hidp (And.intro h1 (And.intro h2 h3))
      have HB := hidp (hr.out.e.bel.trans (h4.mono hr.out.e.bel.size))
      have HS := hidp hr.out.e.bel.size
      clear h1 h2 h3 h4 hr
      go_wp2_with fail
      refine bodyPost_ret (v := .tuple #[.slice q X.length pc, .int .i64 0]) (by simp [results, Try.results38, go_sem]) rfl ⟨⟨q, pb, pc, ?_, Nat.le_trans HS.out HPP.out.1, HPP.out.2.1, ?_⟩, HB.out⟩
      · rw [hX.out]
      · rw [← hX.out]; exact HPP.out.2.2
end Go.Proofs.Ytbhkjflpkpkdlaa
