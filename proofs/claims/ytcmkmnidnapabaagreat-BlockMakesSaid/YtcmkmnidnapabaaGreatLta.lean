/-
  CommitTells: Encode, whose bytes may be written over; the answer's Encode and Who; OverKeys.
-/
import Derived.Test.YtcmkmnidnapabaaGreatL7r
import Derived.Test.YtcmkmnidnapabaaGreatTE
import Derived.Test.YtcmkmnidnapabaaGreatTC
import Derived.Test.YtcmkmnidnapabaaGreatRX
namespace Go.Proofs.YtcmkmnidnapabaaGreat
open Go.RowKit Go.Lib
set_option linter.unusedSimpArgs false
set_option linter.unusedVariables false

set_option maxRecDepth 100000 in
set_option maxHeartbeats 4000000 in
theorem cencode_own (h : Int) (p : List Nat) (hp : Bytes 32 p) (a : Option Addr) (b o cap : Nat) (l : List Vt) (w : World) (hT : Ts w a b o cap l) (hc : chkC h l = 0) :
    Calls Tryz.prog 115 #[.agg (cC h p (.slice a l.length cap)).toArray] w (DoneO w (encC h p l)) := by
  have HC := hidp (fun W (hW : Below w.heap.size w W) => ccheck_any h p hp.1 a b o cap l W (hT.below hW))
  rw [hc] at HC
  have hOK := hidp (chkC_ok hc)
  have hOV := hidp (chkV_ok hOK.out.2.2)
  have hl := hidp (cC_len (h := h) (sl := .slice a l.length cap) hp.1)
  have HT := hidp hT
  have HP := hidp hp
  obtain ⟨n, hn⟩ : ∃ n : Nat, h = n := ⟨h.toNat, by have := hOK.out.1; omega⟩
  have HN := hidp (show n ≤ 1073741824 ∧ h.toNat = n by have := hOK.out.1; omega)
  have hnn := hidp hn
  have hA := hidp (Blk.new w (cC h p (.slice a l.length cap)) 82)
  have hBB := hidp ((Below.refl w.heap.size w).alloc (Nat.le_refl _) (.cells (cC h p (.slice a l.length cap)).toArray 82))
  obtain ⟨E, hE⟩ : ∃ E, E = encC h p l := ⟨_, rfl⟩
  rw [← hE]
  replace hE := hidp hE
  clear hc hT hp hn
  go_enter Tryz.func115, Tryz.ntmps115
  go_wp2_with (with_reducible refine (?_ : wpList _ _ _ _ _ _); refine wpList_load_blk rfl 82 _ rfl w.heap.size (cC h p (.slice a l.length cap)) 82 rfl hA.out _ Tryz.underlying82 rfl (by rw [hl.out]; kernel_rfl) ?_)
  refine (HC.out _ hBB.out).mono ?_
  rintro e w1 ⟨rfl, hb⟩
  have hB := hidp (hBB.out.trans (hb.mono hBB.out.size))
  have hK := hidp (hb.blk' hA.out)
  clear hb HC hBB hA
  go_wp2_with fail
  refine (newWriter_mx w1).mono ?_
  rintro e w2 ⟨rfl, hw, hb⟩
  have E0 : Hid (CEnc w w2 w1.heap.size (cC h p (.slice a l.length cap)) (.slice none 0 0) []) := hidp ⟨hw, hb.blk' hK.out, hB.out.trans (hb.mono hB.out.size), hK.out.lt⟩
  clear hw hb hB hK
  have c0 := E0.out.kc.cell 0
  rw [cC_0, hnn.out] at c0
  go_wp2_with fail
  refine (wNum_n E0.out.wri n (by have := HN.out; omega) (by simp)).mono ?_
  rintro e w3 ⟨rfl, v3, hw, hf⟩
  have E1 := hidp (E0.out.put (Below.refl _ _) hw hf)
  clear hw hf E0 c0
  have S1 := hidp (show ([] ++ nB n).length ≤ 9 by rw [List.nil_append, nB_len]; have := dg_le n; omega)
  have hRA := rangeAt_p E1.out.kc
  have hSZ : (Tryz.prog.info? 39).map (·.size) = some (bvs p).length := by rw [bvs_len, HP.out.1]; kernel_rfl
  go_wp2_with (refine wpList_load_mid rfl 39 _ rfl w.heap.size 1 rfl (bvs p) _ hRA Tryz.underlying39 rfl hSZ ?_)
  refine (wHash_ok E1.out.wri p HP.out (by have := S1.out; omega)).mono ?_
  rintro e w4 ⟨rfl, v4, hw, hf⟩
  have E2 := hidp (E1.out.put (Below.refl _ _) hw hf)
  clear hw hf E1
  have S2 := hidp (show ([] ++ nB n ++ p).length ≤ 41 by rw [List.length_append, HP.out.1]; have := S1.out; omega)
  have c33 := E2.out.kc.cell 33
  rw [cC_33 HP.out.1] at c33
  go_wp2_with fail
  refine (wNum_n E2.out.wri l.length (by have := hOK.out.2.1; omega) (by have := S2.out; omega)).mono ?_
  rintro e w5 ⟨rfl, v5, hw, hf⟩
  have E3 := hidp (E2.out.put (Below.refl _ _) hw hf)
  clear hw hf E2 c33
  have S3 := hidp (show ([] ++ nB n ++ p ++ nB l.length).length ≤ 60 by rw [List.length_append, nB_len]; have := S2.out; have := dg_le l.length; omega)
  have H0 : Hid (CEncI w w5 w1.heap.size (cC h p (.slice a l.length cap)) 0 l v5 ([] ++ nB n ++ p ++ nB l.length) ([] ++ nB n ++ p ++ nB l.length)) := hidp ⟨E3.out, by simp⟩
  have hZ := hidp (show ([] ++ nB n ++ p ++ nB l.length) ++ l.flatMap tB = E by rw [hE.out]; unfold encC; rw [HN.out.2]; rfl)
  generalize ([] ++ nB n ++ p ++ nB l.length) = Z at *
  have c33 := E3.out.kc.cell 33
  rw [cC_33 HP.out.1] at c33
  clear E3 S1 S2
  go_wp2_with fail
  clear c33
  go_loopw [37] (fun x wr => ∃ i : Nat, ∃ v X, i ≤ l.length ∧ x = .int .i64 ((i : Nat) : Int) ∧ Hid (CEncI w wr w1.heap.size (cC h p (.slice a l.length cap)) i l v Z X)) (fun x _ => l.length - (Go.RowKit.intOf x).toNat)
  case atStart => exact ⟨0, v5, _, by omega, rfl, H0⟩
  case round =>
    obtain ⟨i, v, X, hi, rfl, hr⟩ := hrel
    clear H0
    by_cases hlt : i < l.length
    · obtain ⟨u, hu, hok, rfl, hbl, c0, c1⟩ := (HT.out.below hr.out.e.bel).at hlt
      have HV := hidp hu
      have HF := hidp (hr.out.fit hOK.out.2.1 S3.out)
      have hp0 := hOV.out.2.2 u (List.mem_of_getElem? hu)
      have hs0 := hidp hok.s
      obtain ⟨m, hm⟩ : ∃ m : Nat, u.a = (m : Int) := ⟨u.a.toNat, by omega⟩
      have HM := hidp (show m < 9223372036854775808 ∧ u.a.toNat = m by omega)
      rw [hm] at c0
      have hadd := w64_nat (n := i) (by have := hOK.out.2.1; omega)
      have hal := hidp (fun o : Obj => (Below.refl wr.heap.size wr).alloc (Nat.le_refl _) o)
      have hbx := hidp (hlt)
      clear hu hok hp0 hm
      go_wp2_with fail
      refine (wNum_n (hr.out.e.wri.below (hal.out _)) m HM.out.1 (by have := HF.out; omega)).mono ?_
      rintro e w6 ⟨rfl, v6, hw6⟩
      have d1 : w6.cell? ⟨wr.heap.size, 1, none⟩ = some (.int .u64 (u.s : Nat)) := (hw6.2.box hr.out.e.wri).cell 1
      have H6 := hidp hw6
      clear hw6
      go_wp2_with fail
      refine (wWord_ok H6.out.1 u.s hs0.out (by have := HF.out; rw [List.length_append, nB_len]; have := dg_le m; omega)).mono ?_
      rintro e w7 ⟨rfl, v7, hw7⟩
      have H7 := hidp (hr.out.next HV.out (hal.out _) (by rw [HM.out.2]; exact H6.out) (by rw [HM.out.2]; exact hw7))
      clear hw7 hr H6 d1
      go_wp2_with fail
      rw [hadd]
      exact ⟨⟨i + 1, _, _, hbx.out, rfl, H7⟩, by have h1 := hbx.out; show l.length - ((i + 1 : Nat) : Int).toNat < l.length - ((i : Nat) : Int).toNat; omega⟩
    · obtain rfl : i = l.length := by omega
      have hX := hidp (show X = E by rw [hr.out.hX, List.take_length]; exact hZ.out)
      clear hlt
      go_wp2_with fail
      refine (wDone_own hr.out.e.wri).mono ?_
      rintro e w4 ⟨⟨q, pb, pc, rfl, h1, h2, h3, h5⟩, h4⟩
      have HPP := hidp (And.intro h1 (And.intro h2 (And.intro h3 h5)))
      have HB := hidp (hr.out.e.bel.trans (h4.mono hr.out.e.bel.size))
      have HS := hidp hr.out.e.bel.size
      clear h1 h2 h3 h4 h5 hr
      go_wp2_with fail
      refine bodyPost_ret (v := .tuple #[.slice q X.length pc, .int .i64 0]) (by simp [results, Tryz.results115, go_sem]) rfl ⟨⟨q, pb, pc, ?_, Nat.le_trans HS.out HPP.out.1, HPP.out.2.1, ?_, ?_⟩, HB.out⟩
      · rw [hX.out]
      · rw [← hX.out]; exact HPP.out.2.2.1
      · rw [← hX.out]; exact HPP.out.2.2.2.lower HS.out
theorem encC_le {h : Int} {p : List Nat} {l : List Vt} (hp : p.length = 32) (hc : chkC h l = 0) : (encC h p l).length ≤ 1150 := by
  have h1 := flatB_len l
  have h2 := (chkC_ok hc).2.1
  unfold encC
  simp only [List.length_append, nB_len, hp]
  have := dg_le h.toNat
  have := dg_le l.length
  omega
/-- The answer's writer under way, beside the commit that it writes. -/
structure REnc (w wr : World) (g : Nat) (cs : List Value) (X : List Nat) : Prop where
  wri : WQ wr g 65536 X
  kc : Blk wr w.heap.size cs 82
  bel : Below w.heap.size w wr
  hA : w.heap.size < g
theorem REnc.put {w wr wa w1 : World} {g : Nat} {cs : List Value} {X Y : List Nat} (H : REnc w wr g cs X) (ha : Below wr.heap.size wr wa) (h1 : WQ w1 g 65536 Y) (hf : Bex g wa w1) : REnc w w1 g cs Y :=
  ⟨h1, hf.blk (ha.blk' H.kc) (Nat.ne_of_lt H.hA), (H.bel.trans (ha.mono H.bel.size)).trans (hf.below (Nat.le_of_lt H.hA) (Nat.le_trans H.bel.size ha.size)), H.hA⟩
structure REncI (w wr : World) (g : Nat) (cs : List Value) (i : Nat) (l : List Vt) (Z X : List Nat) : Prop where
  e : REnc w wr g cs X
  hX : X = Z ++ (l.take i).flatMap tB
theorem REncI.fit {w wr : World} {g : Nat} {cs : List Value} {i : Nat} {l : List Vt} {Z X : List Nat} (H : REncI w wr g cs i l Z X) (hl : l.length ≤ 64) (hZ : Z.length ≤ 60) : X.length ≤ 1200 := by
  have h1 := flatB_len (l.take i)
  have h3 : (l.take i).length ≤ l.length := by rw [List.length_take]; omega
  rw [H.hX, List.length_append]
  omega
theorem REncI.next {w wr wa w1 w2 : World} {g : Nat} {cs : List Value} {i : Nat} {l : List Vt} {Z X : List Nat} {u : Vt} (H : REncI w wr g cs i l Z X) (hu : l[i]? = some u) (ha : Below wr.heap.size wr wa)
    (h1 : WQ w1 g 65536 (X ++ nB u.a.toNat)) (f1 : Bex g wa w1) (h2 : WQ w2 g 65536 (X ++ nB u.a.toNat ++ loD 8 u.s)) (f2 : Bex g w1 w2) : REncI w w2 g cs (i + 1) l Z (X ++ nB u.a.toNat ++ loD 8 u.s) := by
  refine ⟨(H.e.put ha h1 f1).put (Below.refl _ _) h2 f2, ?_⟩
  obtain ⟨hlt, rfl⟩ := List.getElem?_eq_some_iff.1 hu
  have e : l.take (i + 1) = l.take i ++ [l[i]] := List.take_succ_eq_append_getElem hlt
  rw [e, H.hX, List.flatMap_append, loD_word]
  simp [tB, List.append_assoc]
end Go.Proofs.YtcmkmnidnapabaaGreat
