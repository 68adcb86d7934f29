/-
  The reference of layer 4: its reader over a plain state: Word, Bool, Rest.
-/
import Derived.Test.YtbhkjflpkpkdlaaTr
namespace Go.Proofs.Ytbhkjflpkpkdlaa
set_option linter.unusedSimpArgs false
open Go.RowKit Go.Lib Go.Maps

theorem tk_word {w : World} {g b : Nat} {s : RS} (H : RdQ w g b s) (t : Nat) (ht : s.e = 0 → t = s.t) :
    Calls Try.prog 151 #[.pointer (some ⟨g, 0, none⟩), .int .i64 8, .int .i64 (t : Nat)] w fun e w' => (∃ q qb c X, e = .returned (.slice q X.length c) ∧ w.heap.size ≤ qb ∧ Bsl w' q qb 0 X c ∧ valL X = rdV pWord 0 s ∧ X.length ≤ 8) ∧ RdQ w' g b (rdN pWord s) ∧ Bex g w w' := by
  have hz : valL [] = 0 := rfl
  by_cases he : s.e = 0
  · obtain rfl := ht he
    by_cases hs : s.R.length < 8
    · have hp : pWord s.R = .er 6 := by unfold pWord; rw [if_pos hs]
      refine (tk_short H he 8 s.t hs s.t []).mono ?_
      rintro e w' ⟨h1, h2, h3⟩
      rw [rdV_er he hp, rdN_er he hp]
      exact ⟨⟨none, w.heap.size, 0, [], h1, Nat.le_refl _, Bsl_nil _ _ _ _, hz, by simp⟩, h2, h3⟩
    · have hp : pWord s.R = .ok (valL (s.R.take 8)) 8 := by unfold pWord; rw [if_neg hs]
      have hl : (s.R.take 8).length = 8 := by rw [List.length_take]; omega
      refine (tk_ok H he 8 s.t (by decide) (by omega)).mono ?_
      rintro e w' ⟨⟨q, qb, c, h1, h2, h3⟩, h4, h5⟩
      rw [rdV_ok he hp, rdN_ok he hp]
      exact ⟨⟨q, qb, c, s.R.take 8, by rw [hl]; exact h1, h2, ⟨h3.byte, h3.le, fun h => h3.ptr (by have := h3.le; omega), fun i hi => h3.here i hi⟩, rfl, by omega⟩, h4, h5⟩
  · refine (tk_dead H he 8 t).mono ?_
    rintro e w' ⟨h1, rfl⟩
    have e1 : rdV pWord 0 s = 0 := by unfold rdV; rw [if_pos he]
    have e2 : rdN pWord s = s := by unfold rdN; rw [if_pos he]
    rw [e1, e2]
    exact ⟨⟨none, w.heap.size, 0, [], h1, Nat.le_refl _, Bsl_nil _ _ _ _, hz, by simp⟩, H, Bex.refl _ _⟩
set_option maxRecDepth 100000 in
set_option maxHeartbeats 4000000 in
theorem refWord_any {w : World} {g b : Nat} {s : RS} (H : RdQ w g b s) :
    Calls Try.prog 94 #[.pointer (some ⟨g, 0, none⟩)] w fun e w' => e = .returned (.int .u64 (rdV pWord 0 s : Nat)) ∧ RdQ w' g b (rdN pWord s) ∧ Bex g w w' := by
  obtain ⟨t, c1, _, ht⟩ := H.cells
  have hlt := H.glt
  have HT := hidp (tk_word H t ht)
  generalize rdV pWord 0 s = V at *
  generalize rdN pWord s = S at *
  clear H ht
  go_enter Try.func94, Try.ntmps94
  go_wp2_with fail
  refine HT.out.mono ?_
  rintro e w1 ⟨⟨q, qb, c, L, rfl, hq, hs, hV, h8⟩, h1, h2⟩
  have HS := hidp hs
  have HR := hidp h1
  have HX := hidp h2
  have HV := hidp hV
  have HL8 := hidp h8
  have HLb := hidp hs.byte
  clear h1 h2 hs HT c1 hlt hq hV h8
  go_wp2_with fail
  go_loopw [3, 5] (fun x i wr => ∃ j : Nat, j ≤ L.length ∧ i = .int .i64 j ∧ x = .int .u64 (valL (L.take j) : Nat) ∧ w1 = wr) (fun _ i _ => L.length - (Go.RowKit.intOf i).toNat)
  case atStart => exact ⟨0, by omega, rfl, rfl, rfl⟩
  case round =>
    obtain ⟨j, hj, rfl, rfl, rfl⟩ := hrel
    by_cases hlj : j < L.length
    · obtain ⟨rfl, hq2lt⟩ := HS.out.ptr (by omega)
      have hc := HS.out.here j hlj
      rw [Nat.zero_add] at hc
      have hdd : L.getD j 0 < 256 := by rw [List.getD_eq_getElem?_getD, List.getElem?_eq_getElem hlj]; exact HLb.out _ (List.getElem_mem hlj)
      have hv := valL_take_lt HLb.out hlj HL8.out
      have hss := hidp (valL_step hlj)
      have hor := bits_or_u64_nat (valL (L.take j) * 256) (L.getD j 0) (by omega) (by omega)
      have h256 := or_add (a := valL (L.take j)) (b := L.getD j 0) (k := 8) hdd
      rw [show (2 : Nat) ^ 8 = 256 from rfl] at h256
      generalize L.getD j 0 = d at hc hdd hss hor h256
      generalize valL (L.take j) = v at hv hss hor h256
      have hnew : Hid (bits .or .u64 ((v : Int) * 256) (d : Int) = ((valL (L.take (j + 1)) : Nat) : Int)) := hidp (by
        rw [show (v : Int) * 256 = ((v * 256 : Nat) : Int) by omega, hor, h256, hss.out])
      have hsh : IntKind.u64.wrap ((v : Int) * 256) = (v : Int) * 256 := by rw [IntKind.wrap_u64]; omega
      have hsh2 : (v : Int) * 256 % 18446744073709551616 = (v : Int) * 256 := by omega
      have hl8 := HL8.out
      clear hor h256 hss hv
      go_wp2
      exact ⟨⟨j + 1, by omega, by go_num, by rw [hnew.out], trivial⟩, by simp [Go.RowKit.intOf]; omega⟩
    · obtain rfl : j = L.length := by omega
      rw [List.take_length, HV.out]
      clear hlj
      go_wp2_with fail
      go_ret
      exact ⟨rfl, HR.out, HX.out⟩
set_option maxRecDepth 100000 in
set_option maxHeartbeats 4000000 in
theorem refRest_any {w : World} {g b : Nat} {s : RS} (H : RdQ w g b s) (hz : s.e ≠ 0 → s.R = []) :
    Calls Try.prog 26 #[.pointer (some ⟨g, 0, none⟩)] w fun e w' => e = .returned (.int .i64 (s.R.length : Nat)) ∧ Below w.heap.size w w' := by
  obtain ⟨p, cap, B, t, h1, h2, h3⟩ := H.q
  have hlt := h1.blk.lt
  have c0 := h1.blk.cell 0
  have c1 := h1.blk.cell 1
  have c2 := h1.blk.cell 2
  simp only [List.getElem?_cons_zero, List.getElem?_cons_succ] at c0 c1 c2
  by_cases he : s.e = 0
  · obtain ⟨hf0, hR, hts⟩ := h3 he
    rw [he] at c2
    have hl := h1.le
    have hlen : s.R.length = B.length - t := by rw [← hR, List.length_drop]
    rw [hlen]
    have hw2 : wrap64 ((B.length : Int) - (t : Int)) = ((B.length - t : Nat) : Int) := by rw [w64 _ (by omega)]; omega
    have hw1 : IntKind.i64.wrap ((B.length : Int) - (t : Int)) = ((B.length - t : Nat) : Int) := by rw [IntKind.wrap_i64]; omega
    have hb := hidp (fun n => (Below.refl w.heap.size w).drewN n)
    clear H h1 h2 h3 hz hR hlen hl hf0 hts he
    go_enter Try.func26, Try.ntmps26
    go_wp2_with fail
    go_quiet (fail)
    go_wp2_with fail
    go_ret
    exact ⟨rfl, hb.out _⟩
  · have hbn : (((s.e : Nat) : Int) != 0) = true := by rw [bne_iff_ne]; omega
    rw [hz he]
    clear H h1 h2 h3 hz he c0 c1
    go_enter Try.func26, Try.ntmps26
    go_wp2_with fail
    go_ret
    exact ⟨rfl, Below.refl _ _⟩
set_option maxRecDepth 100000 in
set_option maxHeartbeats 4000000 in
theorem refBool_any {w : World} {g b : Nat} {s : RS} (H : RdQ w g b s) :
    Calls Try.prog 98 #[.pointer (some ⟨g, 0, none⟩)] w fun e w' => e = .returned (.bool (rdV pBool false s)) ∧ RdQ w' g b (rdN pBool s) ∧ Bex g w w' := by
  obtain ⟨t, c1, _, ht⟩ := H.cells
  have hlt := H.glt
  by_cases he : s.e = 0
  · obtain rfl := ht he
    have hby := H.byte he
    cases hR : s.R with
    | nil =>
      have hp : pBool s.R = .er 6 := by rw [hR]; rfl
      have HT := hidp (tk_short H he 1 s.t (by rw [hR]; decide) s.t [])
      rw [rdV_er he hp, rdN_er he hp]
      generalize s.t = t at *
      clear H hR hp he ht hby
      go_enter Try.func98, Try.ntmps98
      go_wp2_with fail
      refine HT.out.mono ?_
      rintro e w1 ⟨rfl, h1, h2⟩
      have HR := hidp (And.intro h1 h2)
      clear h1 h2 HT c1 hlt
      go_wp2
      go_ret
      exact ⟨rfl, HR.out.1, HR.out.2⟩
    | cons x R' =>
      have HT := tk_ok H he 1 s.t (by decide) (by rw [hR]; simp)
      rw [hR] at HT hby
      have hdr : (x :: R').drop 1 = R' := rfl
      rw [hdr] at HT
      replace HT := hidp HT
      have hx : x < 256 := hby x (by simp)
      by_cases hx1 : 1 < x
      · have hp : pBool s.R = .er 5 := by rw [hR, pBool_cons, if_pos hx1]
        rw [rdV_er he hp, rdN_er he hp]
        have hd : decide ((1 : Int) < (x : Int)) = true := decide_eq_true (by omega)
        generalize s.t = t at *
        clear H hR hp he ht hby hdr
        go_enter Try.func98, Try.ntmps98
        go_wp2_with fail
        refine HT.out.mono ?_
        rintro e w1 ⟨⟨q, qb, c, rfl, hq, hs⟩, h1, h2⟩
        obtain ⟨rfl, hqlt⟩ := hs.ptr (by have := hs.le; simp at this; omega)
        have k0 := hs.here 0 (by simp)
        simp only [Nat.zero_add, List.take_succ_cons, List.getD_cons_zero] at k0
        have HF := hidp (fl_ok h1 rfl 5 t (by decide) t [])
        have HX := hidp h2
        clear h1 h2 hs HT c1 hlt
        go_wp2_with fail
        refine HF.out.mono ?_
        rintro e w2 ⟨rfl, k1, k2⟩
        have HR := hidp (And.intro k1 (HX.out.trans k2))
        clear k1 k2 HF HX k0 hqlt
        go_wp2
        go_ret
        exact ⟨rfl, HR.out.1, HR.out.2⟩
      · have hp : pBool s.R = .ok (decide (x = 1)) 1 := by rw [hR, pBool_cons, if_neg hx1]
        have hN : rdN pBool s = ⟨s.t + 1, R', 0, 0⟩ := by rw [rdN_ok he hp, hR]; rfl
        rw [rdV_ok he hp, hN]
        have hd : decide ((1 : Int) < (x : Int)) = false := decide_eq_false (by omega)
        generalize s.t = t at *
        clear H hR hp he ht hby hdr hN
        go_enter Try.func98, Try.ntmps98
        go_wp2_with fail
        refine HT.out.mono ?_
        rintro e w1 ⟨⟨q, qb, c, rfl, hq, hs⟩, h1, h2⟩
        obtain ⟨rfl, hqlt⟩ := hs.ptr (by have := hs.le; simp at this; omega)
        have k0 := hs.here 0 (by simp)
        simp only [Nat.zero_add, List.take_succ_cons, List.getD_cons_zero] at k0
        have HR := hidp (And.intro h1 h2)
        have hbe : ((x : Int) == 1) = decide (x = 1) := by
          by_cases h : x = 1
          · subst h; rfl
          · rw [decide_eq_false h, beq_eq_false_iff_ne]; omega
        clear h1 h2 hs HT c1 hlt
        go_wp2
        go_ret
        exact ⟨by first | rfl | exact congrArg (fun z => Ending.returned (Value.bool z)) hbe, HR.out.1, HR.out.2⟩
  · have e1 : rdV pBool false s = false := by unfold rdV; rw [if_pos he]
    have e2 : rdN pBool s = s := by unfold rdN; rw [if_pos he]
    have HT := hidp (tk_dead H he 1 t)
    have HH := hidp H
    rw [e1, e2]
    clear H he e1 e2 ht
    go_enter Try.func98, Try.ntmps98
    go_wp2_with fail
    refine HT.out.mono ?_
    rintro e w1 ⟨rfl, rfl⟩
    clear HT c1 hlt
    go_wp2
    go_ret
    exact ⟨rfl, HH.out, Bex.refl _ _⟩
set_option maxRecDepth 100000 in
set_option maxHeartbeats 4000000 in
theorem refPace_any {w : World} {g b : Nat} {s : RS} (H : RdQ w g b s) :
    Calls Try.prog 97 #[.pointer (some ⟨g, 0, none⟩)] w fun e w' => e = .returned (.float .f64 (rdV pPace 0 s)) ∧ RdQ w' g b (rdN pPace s) ∧ Bex g w w' := by
  obtain ⟨t, c1, _, ht⟩ := H.cells
  have hlt := H.glt
  have HW := hidp (refWord_any H)
  have hcase : ((rdN pWord s).e ≠ 0 ∧ rdV pPace 0 s = 0 ∧ rdN pPace s = rdN pWord s) ∨ ((rdN pWord s).e = 0 ∧ formN (rdV pWord 0 s) = rdV pWord 0 s ∧ rdV pPace 0 s = rdV pWord 0 s ∧ rdN pPace s = rdN pWord s) ∨ ((rdN pWord s).e = 0 ∧ formN (rdV pWord 0 s) ≠ rdV pWord 0 s ∧ rdV pPace 0 s = 0 ∧ rdN pPace s = ⟨t, [], 5, t⟩) := by
    by_cases he : s.e = 0
    · obtain rfl := ht he
      by_cases hs : s.R.length < 8
      · have h1 : pWord s.R = .er 6 := by unfold pWord; rw [if_pos hs]
        have h2 : pPace s.R = .er 6 := by unfold pPace; rw [if_pos hs]
        left
        rw [rdN_er he h1, rdV_er he h2, rdN_er he h2]
        exact ⟨(by decide : (6 : Nat) ≠ 0), rfl, rfl⟩
      · have h1 : pWord s.R = .ok (valL (s.R.take 8)) 8 := by unfold pWord; rw [if_neg hs]
        by_cases hf : formN (valL (s.R.take 8)) = valL (s.R.take 8)
        · have h2 : pPace s.R = .ok (valL (s.R.take 8)) 8 := by unfold pPace; rw [if_neg hs, if_pos hf]
          right; left
          rw [rdN_ok he h1, rdV_ok he h1, rdV_ok he h2, rdN_ok he h2]
          exact ⟨rfl, hf, rfl, rfl⟩
        · have h2 : pPace s.R = .er 5 := by unfold pPace; rw [if_neg hs, if_neg hf]
          right; right
          rw [rdN_ok he h1, rdV_ok he h1, rdV_er he h2, rdN_er he h2]
          exact ⟨rfl, hf, rfl, rfl⟩
    · left
      have e1 : rdN pWord s = s := by unfold rdN; rw [if_pos he]
      have e2 : rdV pPace 0 s = 0 := by unfold rdV; rw [if_pos he]
      have e3 : rdN pPace s = s := by unfold rdN; rw [if_pos he]
      rw [e1, e2, e3]
      exact ⟨he, rfl, rfl⟩
  generalize rdV pPace 0 s = P at *
  generalize rdN pPace s = N at *
  generalize rdV pWord 0 s = V at *
  generalize rdN pWord s = S at *
  clear H ht
  rcases hcase with ⟨h1, h2, h3⟩ | ⟨h1, h2, h3, h4⟩ | ⟨h1, h2, h3, h4⟩
  · subst h2 h3
    have hbn : (((N.e : Nat) : Int) != 0) = true := by rw [bne_iff_ne]; omega
    clear h1
    go_enter Try.func97, Try.ntmps97
    go_wp2_with fail
    refine HW.out.mono ?_
    rintro e w1 ⟨rfl, k1, k2⟩
    have HR := hidp (And.intro k1 k2)
    obtain ⟨_, _, d2, _⟩ := k1.cells
    have hlt1 := k1.glt
    clear k1 k2 HW c1 hlt
    go_wp2_with fail
    go_ret
    exact ⟨rfl, HR.out.1, HR.out.2⟩
  · subst h3 h4
    have ho := refOf_any P
    unfold ofV ofE at ho
    rw [if_pos h2, if_pos h2] at ho
    have HO := hidp ho
    clear ho
    go_enter Try.func97, Try.ntmps97
    go_wp2_with fail
    refine HW.out.mono ?_
    rintro e w1 ⟨rfl, k1, k2⟩
    have HR := hidp (And.intro k1 k2)
    obtain ⟨_, _, d2, _⟩ := k1.cells
    rw [h1] at d2
    have hlt1 := k1.glt
    clear k1 k2 HW c1 hlt h1 h2
    go_wp2_with fail
    refine (HO.out _).mono ?_
    rintro e w2 ⟨rfl, rfl⟩
    clear HO d2 hlt1
    go_wp2_with fail
    go_ret
    exact ⟨rfl, HR.out.1, HR.out.2⟩
  · subst h3 h4
    have ho := refOf_any V
    unfold ofV ofE at ho
    rw [if_neg h2, if_neg h2] at ho
    have HO := hidp ho
    clear ho
    go_enter Try.func97, Try.ntmps97
    go_wp2_with fail
    refine HW.out.mono ?_
    rintro e w1 ⟨rfl, k1, k2⟩
    have HF := hidp (fl_ok k1 h1 5 t (by decide) t [])
    have HX := hidp k2
    obtain ⟨_, _, d2, _⟩ := k1.cells
    rw [h1] at d2
    have hlt1 := k1.glt
    clear k1 k2 HW c1 hlt h1 h2
    go_wp2_with fail
    refine (HO.out _).mono ?_
    rintro e w2 ⟨rfl, rfl⟩
    clear HO d2 hlt1
    go_wp2_with fail
    refine HF.out.mono ?_
    rintro e w3 ⟨rfl, k1, k2⟩
    have HR := hidp (And.intro k1 (HX.out.trans k2))
    clear k1 k2 HF HX
    go_wp2_with fail
    go_ret
    exact ⟨rfl, HR.out.1, HR.out.2⟩
end Go.Proofs.Ytbhkjflpkpkdlaa
