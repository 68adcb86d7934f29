/-
  ValsTells: Encode, whose bytes may be written over; the answer's Encode.
-/
import Derived.Test.YtcmkmnidnapabaaGreatRA
import Derived.Test.YtcmkmnidnapabaaGreatRX
namespace Go.Proofs.YtcmkmnidnapabaaGreat
open Go.RowKit Go.Lib
set_option linter.unusedSimpArgs false
set_option linter.unusedVariables false

set_option maxRecDepth 100000 in
set_option maxHeartbeats 1000000 in
theorem vencode_own (a : Option Addr) (b o cap : Nat) (l : List Vd) (w : World) (h : Vs w a b o cap l) (hc : chk l = 0) :
    Calls Tryz.prog 20 #[.slice a l.length cap] w (DoneO w (encB l)) := by
  have HC := hidp (check_any a b o cap l w h)
  rw [hc] at HC
  have H := hidp h
  have HK := hidp (chk_ok hc)
  clear h hc
  go_enter Tryz.func20, Tryz.ntmps20
  go_wp2_with fail
  refine HC.out.mono ?_
  rintro e w1 ⟨rfl, hb⟩
  have hB := hidp hb
  clear hb HC
  go_wp2_with fail
  refine (newWriter_mx w1).mono ?_
  rintro e w2 ⟨rfl, hw, hb⟩
  have hW := hidp hw
  have hB2 := hidp (hB.out.trans (hb.mono hB.out.size))
  have hG := hidp hB.out.size
  clear hw hb hB
  go_wp2_with fail
  refine (wNum_n hW.out l.length (by have := HK.out.2.1; omega) (by simp)).mono ?_
  rintro e w3 ⟨rfl, v, hw3, hf⟩
  have H0 : Hid (EncI w w3 w1.heap.size 0 l v ([] ++ nB l.length)) := hidp ⟨hw3, hB2.out.trans ((hf.toBelow hW.out).mono hG.out), hG.out, by simp⟩
  clear hw3 hf hW hB2
  go_wp2_with fail
  go_loopw [27] (fun x wr => ∃ i : Nat, ∃ v X, i ≤ l.length ∧ x = .int .i64 i ∧ Hid (EncI w wr w1.heap.size i l v X)) (fun x _ => l.length - (Go.RowKit.intOf x).toNat)
  case atStart => exact ⟨0, v, _, by omega, rfl, H0⟩
  case round =>
    obtain ⟨i, v, X, hi, rfl, hr⟩ := hrel
    clear H0
    by_cases hlt : i < l.length
    · obtain ⟨u, hu, hok, rfl, hbl, c0, c1, c2, c3, c4⟩ := (H.out.below hr.out.bel).at hlt
      have HV := hidp hu
      have HL := hidp hlt
      have HF := hidp (hr.out.fit HK.out.2.1)
      have hp0 := HK.out.2.2.2 u (List.mem_of_getElem? hu)
      obtain ⟨n, hn⟩ : ∃ n : Nat, u.p = (n : Int) := ⟨u.p.toNat, by omega⟩
      have HN := hidp (show n < 9223372036854775808 ∧ u.p.toNat = n by omega)
      rw [hn] at c4
      have hadd := w64_nat (n := i) (by have := HK.out.2.1; omega)
      have hA := hidp (fun o : Obj => (Below.refl wr.heap.size wr).alloc (Nat.le_refl _) o)
      clear hu hok hp0 hn
      go_wp2_with fail
      refine (wKey_ok (hr.out.wri.below (hA.out _)) (kb u.k) (kb_bytes _) (by have := HF.out; omega)).mono ?_
      rintro e w4 ⟨rfl, v4, hw4⟩
      have d4 : w4.cell? ⟨wr.heap.size, 4, none⟩ = some (.int .i64 (n : Nat)) := (hw4.2.box hr.out.wri).cell 4
      have H4 := hidp hw4
      clear hw4
      go_wp2_with fail
      refine (wNum_n H4.out.1 n HN.out.1 (by have := HF.out; rw [List.length_append, (kb_bytes u.k).1]; omega)).mono ?_
      rintro e w5 ⟨rfl, v5, hw5⟩
      have H5 := hidp (hr.out.next HV.out (hA.out _) H4.out (by rw [HN.out.2]; exact hw5))
      clear hw5 hr H4 d4
      go_wp2_with fail
      rw [hadd]
      exact ⟨⟨i + 1, _, _, by have := HL.out; omega, rfl, H5⟩, by have h1 := HL.out; show l.length - ((i + 1 : Nat) : Int).toNat < l.length - ((i : Nat) : Int).toNat; omega⟩
    · obtain rfl : i = l.length := by omega
      have hX := hidp (show X = encB l by rw [hr.out.hX, List.take_length]; rfl)
      clear hlt
      go_wp2_with fail
      refine (wDone_own hr.out.wri).mono ?_
      rintro e w4 ⟨⟨p, pb, pc, rfl, h1, h2, h3, h5⟩, h4⟩
      have HP := hidp (And.intro h1 (And.intro h2 (And.intro h3 h5)))
      have HB := hidp (hr.out.bel.trans (h4.mono hr.out.bel.size))
      have HS := hidp hr.out.bel.size
      clear h1 h2 h3 h4 h5 hr
      go_wp2_with fail
      refine bodyPost_ret (v := .tuple #[.slice p X.length pc, .int .i64 0]) (by simp [results, Tryz.results20, go_sem]) rfl ⟨⟨p, pb, pc, ?_, Nat.le_trans HS.out HP.out.1, HP.out.2.1, ?_, ?_⟩, HB.out⟩
      · rw [hX.out]
      · rw [← hX.out]; exact HP.out.2.2.1
      · rw [← hX.out]; exact HP.out.2.2.2.lower HS.out

/-- The answer's writer under way. -/
structure RVE (w wr : World) (g i : Nat) (l : List Vd) (X : List Nat) : Prop where
  wri : WQ wr g 65536 X
  bel : Below w.heap.size w wr
  hg : w.heap.size ≤ g
  hX : X = nB l.length ++ (l.take i).flatMap vB
theorem RVE.fit {w wr : World} {g i : Nat} {l : List Vd} {X : List Nat} (H : RVE w wr g i l X) (hl : l.length ≤ 64) : X.length ≤ 1000 := by
  have h1 := flat_len (l.take i)
  have h2 := dg_le l.length
  have h3 : (l.take i).length ≤ l.length := by rw [List.length_take]; omega
  rw [H.hX, List.length_append, nB_len]
  omega
theorem RVE.next {w wr w1 w2 : World} {g i : Nat} {l : List Vd} {X : List Nat} {u : Vd} (H : RVE w wr g i l X) (hu : l[i]? = some u)
    (f1 : Bex g wr w1) (h2 : WQ w2 g 65536 (X ++ kb u.k ++ nB u.p.toNat)) (f2 : Bex g w1 w2) : RVE w w2 g (i + 1) l (X ++ kb u.k ++ nB u.p.toNat) := by
  refine ⟨h2, (H.bel.trans (f1.below H.hg H.bel.size)).trans (f2.below H.hg (Nat.le_trans H.bel.size f1.size)), H.hg, ?_⟩
  obtain ⟨hlt, rfl⟩ := List.getElem?_eq_some_iff.1 hu
  have e : l.take (i + 1) = l.take i ++ [l[i]] := List.take_succ_eq_append_getElem hlt
  rw [e, H.hX, List.flatMap_append]
  simp [vB, List.append_assoc]
theorem encB_le {l : List Vd} (hc : chk l = 0) : (encB l).length ≤ 900 := by
  have h1 := flat_len l
  have h2 := (chk_ok hc).2.1
  have h3 := dg_le l.length
  unfold encB
  rw [List.length_append, nB_len]
  omega
set_option maxRecDepth 100000 in
set_option maxHeartbeats 2000000 in
theorem rvencode_bad (a : Option Addr) (b o cap : Nat) (l : List Vd) (w : World) (h : Vs w a b o cap l) (hc : chk l ≠ 0) :
    Calls Tryz.prog 21 #[.slice a l.length cap] w fun e w' => e = .returned (.tuple #[.slice none 0 0, .int .i64 (chk l : Nat)]) ∧ Below w.heap.size w w' := by
  have HC := hidp (refcheck_any a b o cap l w h)
  have ht : (((chk l : Nat) : Int) != 0) = true := by rw [bne_iff_ne]; omega
  clear h hc
  generalize chk l = n at *
  go_enter Tryz.func21, Tryz.ntmps21
  go_wp2_with fail
  refine HC.out.mono ?_
  rintro e w1 ⟨rfl, hb⟩
  have hB := hidp hb
  clear hb HC
  go_wp2_with fail
  exact bodyPost_ret (v := .tuple #[.slice none 0 0, .int .i64 (n : Nat)]) (by simp [results, Tryz.results21, go_sem]) rfl ⟨rfl, hB.out⟩
set_option maxRecDepth 100000 in
set_option maxHeartbeats 4000000 in
theorem rvencode_ok (a : Option Addr) (b o cap : Nat) (l : List Vd) (w : World) (h : Vs w a b o cap l) (hc : chk l = 0) :
    Calls Tryz.prog 21 #[.slice a l.length cap] w (DoneP w (encB l)) := by
  have HC := hidp (refcheck_any a b o cap l w h)
  rw [hc] at HC
  have H := hidp h
  have HK := hidp (chk_ok hc)
  clear h hc
  go_enter Tryz.func21, Tryz.ntmps21
  go_wp2_with fail
  refine HC.out.mono ?_
  rintro e w1 ⟨rfl, hb⟩
  have hB := hidp hb
  clear hb HC
  go_wp2_with fail
  refine (rNewW_any w1 65536 (by decide)).mono ?_
  rintro e w2 ⟨g, rfl, hg, hw, hb⟩
  have hW := hidp hw
  have hB2 := hidp (hB.out.trans (hb.mono hB.out.size))
  have hG := hidp (Nat.le_trans hB.out.size hg)
  clear hw hb hB hg
  go_wp2_with fail
  refine (rWNum_any hW.out l.length (by have := HK.out.2.1; omega) (by rw [List.length_nil, nB_len]; have := dg_le l.length; omega) (by decide)).mono ?_
  rintro e w3 ⟨rfl, hw3, hf⟩
  have H0 : Hid (RVE w w3 g 0 l ([] ++ nB l.length)) := hidp ⟨hw3, hB2.out.trans (hf.below hG.out hB2.out.size), hG.out, by simp⟩
  clear hw3 hf hW hB2
  go_wp2_with fail
  go_loopw [7] (fun x wr => ∃ i : Nat, ∃ X, i ≤ l.length ∧ x = .int .i64 ((i : Nat) : Int) ∧ Hid (RVE w wr g i l X)) (fun x _ => l.length - (Go.RowKit.intOf x).toNat)
  case atStart => exact ⟨0, _, by omega, rfl, H0⟩
  case round =>
    obtain ⟨i, X, hi, rfl, hr⟩ := hrel
    clear H0
    by_cases hlt : i < l.length
    · obtain ⟨u, hu, hok, rfl, hbl, c0, c1, c2, c3, c4⟩ := (H.out.below hr.out.bel).at hlt
      have HV := hidp hu
      have HL := hidp hlt
      have HF := hidp (hr.out.fit HK.out.2.1)
      have hp0 := HK.out.2.2.2 u (List.mem_of_getElem? hu)
      obtain ⟨n, hn⟩ : ∃ n : Nat, u.p = (n : Int) := ⟨u.p.toNat, by omega⟩
      have HN := hidp (show n < 9223372036854775808 ∧ u.p.toNat = n by omega)
      have HNN := hidp hn
      have hadd := w64_nat (n := i) (by have := HK.out.2.1; omega)
      have hiz : (0 : Int) ≤ (i : Int) := by omega
      have hlz : (i : Int) < (l.length : Int) := by omega
      clear hu hok hp0 hn c4
      go_wp2_with fail
      refine (rWKey_any hr.out.wri (kb u.k) (kb_bytes _) (by have := HF.out; omega) (by decide)).mono ?_
      rintro e w4 ⟨rfl, hw4, hf4⟩
      obtain ⟨u2, hu2, _, _, _, _, _, _, _, d4⟩ := (H.out.below (hr.out.bel.trans (hf4.below hr.out.hg hr.out.bel.size))).at HL.out
      have e2 : u2 = u := by have := HV.out; rw [hu2] at this; cases this; rfl
      subst e2
      rw [HNN.out] at d4
      have H4 := hidp (And.intro hw4 hf4)
      clear hw4 hf4 hu2 c0 c1 c2 c3
      go_wp2_with fail
      refine (rWNum_any H4.out.1 n HN.out.1 (by rw [nB_len]; have := dg_le n; have := HF.out; rw [List.length_append, (kb_bytes u2.k).1]; omega) (by decide)).mono ?_
      rintro e w5 ⟨rfl, hw5, hf5⟩
      have H5 := hidp (hr.out.next HV.out H4.out.2 (by rw [HN.out.2]; exact hw5) hf5)
      clear hw5 hf5 hr H4 d4
      go_wp2_with fail
      try rw [hadd]
      exact ⟨⟨i + 1, _, HL.out, rfl, H5⟩, by have h1 := HL.out; show l.length - ((i + 1 : Nat) : Int).toNat < l.length - ((i : Nat) : Int).toNat; omega⟩
    · obtain rfl : i = l.length := by omega
      have hX := hidp (show X = encB l by rw [hr.out.hX, List.take_length]; rfl)
      have HF := hidp (hr.out.fit HK.out.2.1)
      clear hlt
      go_wp2_with fail
      refine (rDone_any hr.out.wri (by have := HF.out; omega)).mono ?_
      rintro e w4 ⟨⟨q, pb, pc, rfl, h1, h2, h3⟩, h4⟩
      have HPP := hidp (And.intro h1 (And.intro h2 h3))
      have HB := hidp (hr.out.bel.trans (h4.mono hr.out.bel.size))
      have HS := hidp hr.out.bel.size
      clear h1 h2 h3 h4 hr
      go_wp2_with fail
      refine bodyPost_ret (v := .tuple #[.slice q X.length pc, .int .i64 0]) (by simp [results, Tryz.results21, go_sem]) rfl ⟨⟨q, pb, pc, ?_, Nat.le_trans HS.out HPP.out.1, HPP.out.2.1, ?_⟩, HB.out⟩
      · rw [hX.out]
      · rw [← hX.out]; exact HPP.out.2.2
end Go.Proofs.YtcmkmnidnapabaaGreat
