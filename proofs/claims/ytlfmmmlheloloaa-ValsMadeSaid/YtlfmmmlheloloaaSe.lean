/-
  The walk of ValsMade.
-/
import Derived.Test.YtlfmmmlheloloaaSd
import Derived.Test.YtlfmmmlheloloaaVq
import Derived.Test.YtlfmmmlheloloaaQh
namespace Go.Proofs.Ytlfmmmlheloloaa
open Go.RowKit Go.Lib Go.Maps

set_option maxRecDepth 100000 in
set_option maxHeartbeats 4000000 in
theorem vmade_long1 (a : Option Addr) (cap : Nat) (l : List Vd) (a2 : Option Addr) (cap2 : Nat) (m : List Vd) (x : Int) (w : World) (hl : 30 < l.length) : Calls Try.prog 13 #[.slice a l.length cap, .slice a2 m.length cap2, .int .i64 x] w fun e w' => e = .returned (.bool true) ∧ Below w.heap.size w w' := by
  have hV : Hid (Below w.heap.size w w) := hidp (Below.refl _ _)
  go_enter Try.func13, Try.ntmps13
  go_wp2_with fail
  refine (vknown_any w).mono ?_
  rintro e w1 ⟨rfl, hB⟩
  have hT := hidp (show Below w.heap.size w w1 from hB)
  replace hV := hidp (hV.out.trans (hT.out.mono hV.out.size))
  clear hB hT
  go_wp2_with fail
  go_ret
  exact ⟨rfl, hV.out⟩
set_option maxRecDepth 100000 in
set_option maxHeartbeats 4000000 in
theorem vmade_long2 (a : Option Addr) (cap : Nat) (l : List Vd) (a2 : Option Addr) (cap2 : Nat) (m : List Vd) (x : Int) (w : World) (hl : l.length ≤ 30) (hm : 30 < m.length) : Calls Try.prog 13 #[.slice a l.length cap, .slice a2 m.length cap2, .int .i64 x] w fun e w' => e = .returned (.bool true) ∧ Below w.heap.size w w' := by
  have hV : Hid (Below w.heap.size w w) := hidp (Below.refl _ _)
  go_enter Try.func13, Try.ntmps13
  go_wp2_with fail
  refine (vknown_any w).mono ?_
  rintro e w1 ⟨rfl, hB⟩
  have hT := hidp (show Below w.heap.size w w1 from hB)
  replace hV := hidp (hV.out.trans (hT.out.mono hV.out.size))
  clear hB hT
  go_wp2_with fail
  go_ret
  exact ⟨rfl, hV.out⟩
set_option maxRecDepth 100000 in
set_option maxHeartbeats 16000000 in
theorem vmade_bad1 (a : Option Addr) (b o cap : Nat) (l : List Vd) (a2 : Option Addr) (b2 o2 cap2 : Nat) (m : List Vd) (x : Int) (w : World) (h1 : Vs w a b o cap l) (h2 : Vs w a2 b2 o2 cap2 m) (hl : l.length ≤ 30) (hm : m.length ≤ 30) (hc : chk l ≠ 0) : Calls Try.prog 13 #[.slice a l.length cap, .slice a2 m.length cap2, .int .i64 x] w fun e w' => e = .returned (.bool true) ∧ Below w.heap.size w w' := by
  have hV : Hid (Below w.heap.size w w) := hidp (Below.refl _ _)
  have H1 := hidp h1
  have H2 := hidp h2
  have HC := hidp (fun W (h : Vs W a b o cap l) => check_any a b o cap l W h)
  have ht : (((chk l : Nat) : Int) != 0) = true := by rw [bne_iff_ne]; omega
  clear hc
  generalize chk l = n at *
  clear h1 h2
  go_enter Try.func13, Try.ntmps13
  go_wp2_with fail
  refine (vknown_any w).mono ?_
  rintro e w1 ⟨rfl, hB⟩
  have hT := hidp (show Below w.heap.size w w1 from hB)
  replace H1 := hidp (H1.out.below hT.out)
  replace H2 := hidp (H2.out.below hT.out)
  replace hV := hidp (hV.out.trans (hT.out.mono hV.out.size))
  clear hB hT
  go_wp2_with fail
  refine (HC.out _ H1.out).mono ?_
  rintro e w2 ⟨rfl, hB⟩
  have hT := hidp (show Below w1.heap.size w1 w2 from hB)
  replace H1 := hidp (H1.out.below hT.out)
  replace H2 := hidp (H2.out.below hT.out)
  replace hV := hidp (hV.out.trans (hT.out.mono hV.out.size))
  clear hB hT
  go_wp2_with fail
  go_ret
  exact ⟨rfl, hV.out⟩
set_option maxRecDepth 100000 in
set_option maxHeartbeats 16000000 in
theorem vmade_bad2 (a : Option Addr) (b o cap : Nat) (l : List Vd) (a2 : Option Addr) (b2 o2 cap2 : Nat) (m : List Vd) (x : Int) (w : World) (h1 : Vs w a b o cap l) (h2 : Vs w a2 b2 o2 cap2 m) (hl : l.length ≤ 30) (hm : m.length ≤ 30) (hc1 : chk l = 0) (hc : chk m ≠ 0) : Calls Try.prog 13 #[.slice a l.length cap, .slice a2 m.length cap2, .int .i64 x] w fun e w' => e = .returned (.bool true) ∧ Below w.heap.size w w' := by
  have hV : Hid (Below w.heap.size w w) := hidp (Below.refl _ _)
  have H1 := hidp h1
  have H2 := hidp h2
  have HC1 : ∀ W, Vs W a b o cap l → Calls Try.prog 57 #[.slice a l.length cap] W fun e w' => e = .returned (.int .i64 0) ∧ Below W.heap.size W w' := fun W h => by
    have q := check_any a b o cap l W h
    rw [hc1] at q
    exact q
  replace HC1 := hidp HC1
  have HC := hidp (fun W (h : Vs W a2 b2 o2 cap2 m) => check_any a2 b2 o2 cap2 m W h)
  have ht : (((chk m : Nat) : Int) != 0) = true := by rw [bne_iff_ne]; omega
  clear hc hc1
  generalize chk m = n at *
  clear h1 h2
  go_enter Try.func13, Try.ntmps13
  go_wp2_with fail
  refine (vknown_any w).mono ?_
  rintro e w1 ⟨rfl, hB⟩
  have hT := hidp (show Below w.heap.size w w1 from hB)
  replace H1 := hidp (H1.out.below hT.out)
  replace H2 := hidp (H2.out.below hT.out)
  replace hV := hidp (hV.out.trans (hT.out.mono hV.out.size))
  clear hB hT
  go_wp2_with fail
  refine (HC1.out _ H1.out).mono ?_
  rintro e w2 ⟨rfl, hB⟩
  have hT := hidp (show Below w1.heap.size w1 w2 from hB)
  replace H1 := hidp (H1.out.below hT.out)
  replace H2 := hidp (H2.out.below hT.out)
  replace hV := hidp (hV.out.trans (hT.out.mono hV.out.size))
  clear hB hT
  go_wp2_with fail
  refine (HC.out _ H2.out).mono ?_
  rintro e w3 ⟨rfl, hB⟩
  have hT := hidp (show Below w2.heap.size w2 w3 from hB)
  replace H1 := hidp (H1.out.below hT.out)
  replace H2 := hidp (H2.out.below hT.out)
  replace hV := hidp (hV.out.trans (hT.out.mono hV.out.size))
  clear hB hT
  go_wp2_with fail
  go_ret
  exact ⟨rfl, hV.out⟩
set_option maxRecDepth 100000 in
set_option maxHeartbeats 16000000 in
theorem vmade_ok (a : Option Addr) (b o cap : Nat) (l : List Vd) (a2 : Option Addr) (b2 o2 cap2 : Nat) (m : List Vd) (x : Int) (w : World) (h1 : Vs w a b o cap l) (h2 : Vs w a2 b2 o2 cap2 m) (hl : l.length ≤ 30) (hm : m.length ≤ 30) (hc1 : chk l = 0) (hc2 : chk m = 0) : Calls Try.prog 13 #[.slice a l.length cap, .slice a2 m.length cap2, .int .i64 x] w fun e w' => e = .returned (.bool true) ∧ Below w.heap.size w w' := by
  have hV : Hid (Below w.heap.size w w) := hidp (Below.refl _ _)
  have H1 := hidp h1
  have H2 := hidp h2
  have HC1 : ∀ W, Vs W a b o cap l → Calls Try.prog 57 #[.slice a l.length cap] W fun e w' => e = .returned (.int .i64 0) ∧ Below W.heap.size W w' := fun W h => by
    have q := check_any a b o cap l W h
    rw [hc1] at q
    exact q
  have HC2 : ∀ W, Vs W a2 b2 o2 cap2 m → Calls Try.prog 57 #[.slice a2 m.length cap2] W fun e w' => e = .returned (.int .i64 0) ∧ Below W.heap.size W w' := fun W h => by
    have q := check_any a2 b2 o2 cap2 m W h
    rw [hc2] at q
    exact q
  replace HC1 := hidp HC1
  replace HC2 := hidp HC2
  have sl := (sorted_of (chk_ok hc1).2.2.1).1
  have sm := (sorted_of (chk_ok hc2).2.2.1).1
  have HK := hidp (mdL_ok h1.ok h2.ok sl sm)
  have HK2 := hidp (mdL_ok h2.ok h1.ok sm sl)
  have HP := hidp (parts_of hc1 hc2 hl hm)
  have HN := hidp (show l.length ≤ 30 ∧ m.length ≤ 30 ∧ (mdL l m).length ≤ 60 ∧ (mdL m l).length ≤ 60 from ⟨hl, hm, by have := mdL_len l m; omega, by have := mdL_len m l; omega⟩)
  clear sl sm hc1 hc2
  clear h1 h2
  go_enter Try.func13, Try.ntmps13
  go_wp2_with fail
  refine (vknown_any w).mono ?_
  rintro e w1 ⟨rfl, hB⟩
  have hT := hidp (show Below w.heap.size w w1 from hB)
  replace H1 := hidp (H1.out.below hT.out)
  replace H2 := hidp (H2.out.below hT.out)
  replace hV := hidp (hV.out.trans (hT.out.mono hV.out.size))
  clear hB hT
  go_wp2_with fail
  refine (HC1.out _ H1.out).mono ?_
  rintro e w2 ⟨rfl, hB⟩
  have hT := hidp (show Below w1.heap.size w1 w2 from hB)
  replace H1 := hidp (H1.out.below hT.out)
  replace H2 := hidp (H2.out.below hT.out)
  replace hV := hidp (hV.out.trans (hT.out.mono hV.out.size))
  clear hB hT HC1
  go_wp2_with fail
  refine (HC2.out _ H2.out).mono ?_
  rintro e w3 ⟨rfl, hB⟩
  have hT := hidp (show Below w2.heap.size w2 w3 from hB)
  replace H1 := hidp (H1.out.below hT.out)
  replace H2 := hidp (H2.out.below hT.out)
  replace hV := hidp (hV.out.trans (hT.out.mono hV.out.size))
  clear hB hT HC2
  go_wp2_with fail
  refine (made_any a b o cap l a2 b2 o2 cap2 m _ H1.out H2.out (by omega) (by omega)).mono ?_
  rintro e w4 ⟨v1, rfl, hq, hB⟩
  have hT := hidp (show Below w3.heap.size w3 w4 from hB)
  replace H1 := hidp (H1.out.below hT.out)
  replace H2 := hidp (H2.out.below hT.out)
  replace hV := hidp (hV.out.trans (hT.out.mono hV.out.size))
  obtain ⟨pd, qd, md, rfl, _, hs⟩ := hq.vs HK.out
  have D1 := hidp hs
  clear hB hT hs hq HK
  go_wp2_with fail
  refine (changes_yes a b o cap l pd qd 0 md (mdL l m) a2 b2 o2 cap2 m 0 _ H1.out D1.out H2.out (by omega) (by have := HN.out; omega) (by omega) (HP.out 0).all).mono ?_
  rintro e w5 ⟨rfl, hB⟩
  have hT := hidp (show Below w4.heap.size w4 w5 from hB)
  replace H1 := hidp (H1.out.below hT.out)
  replace H2 := hidp (H2.out.below hT.out)
  replace D1 := hidp (D1.out.below hT.out)
  replace hV := hidp (hV.out.trans (hT.out.mono hV.out.size))
  clear hB hT
  go_wp2_with fail
  refine (made_any a2 b2 o2 cap2 m a b o cap l _ H2.out H1.out (by omega) (by omega)).mono ?_
  rintro e w6 ⟨v2, rfl, hq, hB⟩
  have hT := hidp (show Below w5.heap.size w5 w6 from hB)
  replace H1 := hidp (H1.out.below hT.out)
  replace H2 := hidp (H2.out.below hT.out)
  replace D1 := hidp (D1.out.below hT.out)
  replace hV := hidp (hV.out.trans (hT.out.mono hV.out.size))
  obtain ⟨pe, qe, me, rfl, _, hs⟩ := hq.vs HK2.out
  have E1 := hidp hs
  clear hB hT hs hq HK2
  go_wp2_with fail
  refine (changes_yes a2 b2 o2 cap2 m pe qe 0 me (mdL m l) a b o cap l 0 _ H2.out E1.out H1.out (by omega) (by have := HN.out; omega) (by omega) (HP.out 0).back).mono ?_
  rintro e w7 ⟨rfl, hB⟩
  have hT := hidp (show Below w6.heap.size w6 w7 from hB)
  replace H1 := hidp (H1.out.below hT.out)
  replace H2 := hidp (H2.out.below hT.out)
  replace D1 := hidp (D1.out.below hT.out)
  replace hV := hidp (hV.out.trans (hT.out.mono hV.out.size))
  clear hB hT E1
  go_wp2_with fail
  refine (changes_yes a b o cap l none 0 0 0 [] a b o cap l 0 _ H1.out (Vs.nil _) H1.out (by omega) (by decide) (by omega) (HP.out 0).none).mono ?_
  rintro e w8 ⟨rfl, hB⟩
  have hT := hidp (show Below w7.heap.size w7 w8 from hB)
  replace H1 := hidp (H1.out.below hT.out)
  replace H2 := hidp (H2.out.below hT.out)
  replace D1 := hidp (D1.out.below hT.out)
  replace hV := hidp (hV.out.trans (hT.out.mono hV.out.size))
  clear hB hT
  have hadd := w64_nat (n := (mdL l m).length) (by have := HN.out; omega)
  have hadd2 : wrap64 (((mdL l m).length : Int) + 1) = (((mdL l m).length + 1 : Nat) : Int) := hadd
  go_wp2_with fail
  rw [hadd]
  refine (Pick_any x ((mdL l m).length + 1) _ (by omega) (by have := HN.out; omega)).mono ?_
  rintro e wx ⟨⟨r, hr, rfl⟩, hwx⟩
  rw [hwx]
  clear hwx
  have hrl : r ≤ (mdL l m).length := by omega
  have HR := hidp hrl
  have PT := hidp (HP.out r)
  have hle := D1.out.le
  have kp := fun w => run_part_vh pd (mdL l m).length md r (by omega) w
  have kq := fun w => run_part_vl pd (mdL l m).length md r hrl w
  have htl : ((mdL l m).take r).length = r := by rw [List.length_take]; omega
  have hdl : ((mdL l m).drop r).length = (mdL l m).length - r := by rw [List.length_drop]
  have HX := hidp (fun W (h : Vs W a b o cap l) (hd : Vs W pd qd 0 md (mdL l m)) => change_any a b o cap l pd qd 0 md ((mdL l m).take r) W h (hd.take r) (by rw [htl]; have := HN.out; omega) (by omega))
  have HY := hidp (fun W (h : Vs W a b o cap l) (hd : Vs W pd qd 0 md (mdL l m)) => change_any a b o cap l (partW pd md r) qd (0 + r * 5) (md - r) ((mdL l m).drop r) W h (hd.drop r hrl) (by rw [hdl]; have := HN.out; omega) (by omega))
  have HQ1 : ∀ px bx ox cx (X : List Vd) W, chgO X ((mdL l m).drop r) = (m, 0) → X.length ≤ 1000 → Vs W px bx ox cx X → Vs W pd qd 0 md (mdL l m) → Vs W a2 b2 o2 cap2 m → Calls Try.prog 59 #[.slice px X.length cx, .slice (partW pd md r) ((mdL l m).length - r) (md - r), .slice a2 m.length cap2, .int .i64 0] W fun e w' => e = .returned (.bool true) ∧ Below W.heap.size W w' := fun px bx ox cx X W hO hX hx hd h2 => by
    have q := changes_yes px bx ox cx X (partW pd md r) qd (0 + r * 5) (md - r) ((mdL l m).drop r) a2 b2 o2 cap2 m 0 W hx (hd.drop r hrl) h2 (by omega) (by rw [hdl]; have := HN.out; omega) (by omega) hO
    rw [hdl] at q
    exact q
  have HQ2 : ∀ px bx ox cx (X : List Vd) W, chgO X ((mdL l m).take r) = (m, 0) → X.length ≤ 1000 → Vs W px bx ox cx X → Vs W pd qd 0 md (mdL l m) → Vs W a2 b2 o2 cap2 m → Calls Try.prog 59 #[.slice px X.length cx, .slice pd r md, .slice a2 m.length cap2, .int .i64 0] W fun e w' => e = .returned (.bool true) ∧ Below W.heap.size W w' := fun px bx ox cx X W hO hX hx hd h2 => by
    have q := changes_yes px bx ox cx X pd qd 0 md ((mdL l m).take r) a2 b2 o2 cap2 m 0 W hx (hd.take r) h2 (by omega) (by rw [htl]; have := HN.out; omega) (by omega) hO
    rw [htl] at q
    exact q
  have HXa := HX.out
  have HYa := HY.out
  rw [htl] at HXa
  rw [hdl] at HYa
  replace HX := hidp HXa
  replace HY := hidp HYa
  replace HQ1 := hidp HQ1
  replace HQ2 := hidp HQ2
  have HL : Hid ((chgAll l ((mdL l m).take r)).length ≤ 1000 ∧ (chgAll l ((mdL l m).drop r)).length ≤ 1000) := by
    have q1 := chgAll_len ((mdL l m).take r) l
    have q2 := chgAll_len ((mdL l m).drop r) l
    have q3 : (kept ((mdL l m).take r)).length ≤ ((mdL l m).take r).length := List.length_filter_le _ _
    have q4 : (kept ((mdL l m).drop r)).length ≤ ((mdL l m).drop r).length := List.length_filter_le _ _
    have q5 := HN.out
    exact hidp ⟨by omega, by omega⟩
  clear HXa HYa htl hdl hrl hr hle hadd hadd2 HP
  generalize (mdL l m).take r = P at *
  generalize (mdL l m).drop r = Q at *
  generalize mdL l m = D at *
  rcases PT.out.fst with ⟨h0, hO⟩ | ⟨hne, hO, hO2⟩
  · skip
    have HX6 : ∀ W, Vs W a b o cap l → Vs W pd qd 0 md D → Calls Try.prog 52 #[.slice a l.length cap, .slice pd r md] W fun e w' => (∃ p b c, e = .returned (.tuple #[.slice p 0 c, .int .i64 6]) ∧ W.heap.size ≤ b ∧ Vs w' p b 0 c []) ∧ Below W.heap.size W w' := fun W h hd => by
      have q := HX.out W h hd
      rw [hO] at q
      exact q
    replace HX6 := hidp HX6
    clear h0 hO HX HY HQ1 HQ2 PT
    go_wp2_with fail
    refine (HX6.out _ H1.out D1.out).mono ?_
    rintro e w9 ⟨⟨px, bx, cx, rfl, _, _⟩, hB⟩
    have hT := hidp (show Below w8.heap.size w8 w9 from hB)
    replace H1 := hidp (H1.out.below hT.out)
    replace H2 := hidp (H2.out.below hT.out)
    replace D1 := hidp (D1.out.below hT.out)
    replace hV := hidp (hV.out.trans (hT.out.mono hV.out.size))
    clear hB hT
    go_wp2_with fail
    go_ret
    exact ⟨rfl, hV.out⟩
  · skip
    have HX0 : ∀ W, Vs W a b o cap l → Vs W pd qd 0 md D → Calls Try.prog 52 #[.slice a l.length cap, .slice pd r md] W fun e w' => (∃ p b c, e = .returned (.tuple #[.slice p (chgAll l P).length c, .int .i64 0]) ∧ W.heap.size ≤ b ∧ Vs w' p b 0 c (chgAll l P)) ∧ Below W.heap.size W w' := fun W h hd => by
      have q := HX.out W h hd
      rw [hO] at q
      exact q
    replace HX0 := hidp HX0
    have HO2 := hidp hO2
    clear hne hO hO2 HX
    have HXL := hidp HL.out.1
    generalize chgAll l P = X at *
    go_wp2_with fail
    refine (HX0.out _ H1.out D1.out).mono ?_
    rintro e w9 ⟨⟨px, bx, cx, rfl, _, hs⟩, hB⟩
    have hT := hidp (show Below w8.heap.size w8 w9 from hB)
    replace H1 := hidp (H1.out.below hT.out)
    replace H2 := hidp (H2.out.below hT.out)
    replace D1 := hidp (D1.out.below hT.out)
    replace hV := hidp (hV.out.trans (hT.out.mono hV.out.size))
    have X1 := hidp (hs)
    clear hB hT hs HX0
    rcases PT.out.snd with ⟨h0, hO⟩ | ⟨hne, hO, hO3⟩
    · skip
      have HY6 : ∀ W, Vs W a b o cap l → Vs W pd qd 0 md D → Calls Try.prog 52 #[.slice a l.length cap, .slice (partW pd md r) (D.length - r) (md - r)] W fun e w' => (∃ p b c, e = .returned (.tuple #[.slice p 0 c, .int .i64 6]) ∧ W.heap.size ≤ b ∧ Vs w' p b 0 c []) ∧ Below W.heap.size W w' := fun W h hd => by
        have q := HY.out W h hd
        rw [hO] at q
        exact q
      replace HY6 := hidp HY6
      clear h0 hO HY HQ2 PT
      go_wp2_with fail
      refine (HY6.out _ H1.out D1.out).mono ?_
      rintro e w10 ⟨⟨py, by_, cy, rfl, _, _⟩, hB⟩
      have hT := hidp (show Below w9.heap.size w9 w10 from hB)
      replace H1 := hidp (H1.out.below hT.out)
      replace H2 := hidp (H2.out.below hT.out)
      replace D1 := hidp (D1.out.below hT.out)
      replace X1 := hidp (X1.out.below hT.out)
      replace hV := hidp (hV.out.trans (hT.out.mono hV.out.size))
      clear hB hT HY6
      go_wp2_with fail
      refine (HQ1.out px bx 0 cx X _ HO2.out HXL.out X1.out D1.out H2.out).mono ?_
      rintro e w11 ⟨rfl, hB⟩
      have hT := hidp (show Below w10.heap.size w10 w11 from hB)
      replace H1 := hidp (H1.out.below hT.out)
      replace H2 := hidp (H2.out.below hT.out)
      replace D1 := hidp (D1.out.below hT.out)
      replace X1 := hidp (X1.out.below hT.out)
      replace hV := hidp (hV.out.trans (hT.out.mono hV.out.size))
      clear hB hT
      go_wp2_with fail
      go_ret
      exact ⟨rfl, hV.out⟩
    · skip
      have HY0 : ∀ W, Vs W a b o cap l → Vs W pd qd 0 md D → Calls Try.prog 52 #[.slice a l.length cap, .slice (partW pd md r) (D.length - r) (md - r)] W fun e w' => (∃ p b c, e = .returned (.tuple #[.slice p (chgAll l Q).length c, .int .i64 0]) ∧ W.heap.size ≤ b ∧ Vs w' p b 0 c (chgAll l Q)) ∧ Below W.heap.size W w' := fun W h hd => by
        have q := HY.out W h hd
        rw [hO] at q
        exact q
      replace HY0 := hidp HY0
      have HO3 := hidp hO3
      clear hne hO hO3 HY
      have HYL := hidp HL.out.2
      generalize chgAll l Q = Y at *
      go_wp2_with fail
      refine (HY0.out _ H1.out D1.out).mono ?_
      rintro e w10 ⟨⟨py, by_, cy, rfl, _, hs⟩, hB⟩
      have hT := hidp (show Below w9.heap.size w9 w10 from hB)
      replace H1 := hidp (H1.out.below hT.out)
      replace H2 := hidp (H2.out.below hT.out)
      replace D1 := hidp (D1.out.below hT.out)
      replace X1 := hidp (X1.out.below hT.out)
      replace hV := hidp (hV.out.trans (hT.out.mono hV.out.size))
      have Y1 := hidp (hs)
      clear hB hT hs HY0
      go_wp2_with fail
      refine (HQ1.out px bx 0 cx X _ HO2.out HXL.out X1.out D1.out H2.out).mono ?_
      rintro e w11 ⟨rfl, hB⟩
      have hT := hidp (show Below w10.heap.size w10 w11 from hB)
      replace H1 := hidp (H1.out.below hT.out)
      replace H2 := hidp (H2.out.below hT.out)
      replace D1 := hidp (D1.out.below hT.out)
      replace X1 := hidp (X1.out.below hT.out)
      replace Y1 := hidp (Y1.out.below hT.out)
      replace hV := hidp (hV.out.trans (hT.out.mono hV.out.size))
      clear hB hT HQ1
      go_wp2_with fail
      refine (HQ2.out py by_ 0 cy Y _ HO3.out HYL.out Y1.out D1.out H2.out).mono ?_
      rintro e w12 ⟨rfl, hB⟩
      have hT := hidp (show Below w11.heap.size w11 w12 from hB)
      replace H1 := hidp (H1.out.below hT.out)
      replace H2 := hidp (H2.out.below hT.out)
      replace D1 := hidp (D1.out.below hT.out)
      replace X1 := hidp (X1.out.below hT.out)
      replace Y1 := hidp (Y1.out.below hT.out)
      replace hV := hidp (hV.out.trans (hT.out.mono hV.out.size))
      clear hB hT HQ2
      go_wp2_with fail
      go_ret
      exact ⟨rfl, hV.out⟩
theorem vmade_f (a : Option Addr) (b o cap : Nat) (l : List Vd) (a2 : Option Addr) (b2 o2 cap2 : Nat) (m : List Vd) (x : Int) (w : World) (h1 : Vs w a b o cap l) (h2 : Vs w a2 b2 o2 cap2 m) (_ : -9223372036854775808 ≤ x ∧ x ≤ 9223372036854775807) : Calls Try.prog 13 #[.slice a l.length cap, .slice a2 m.length cap2, .int .i64 x] w fun e w' => e = .returned (.bool true) ∧ Below w.heap.size w w' := by
  by_cases hl : 30 < l.length
  · exact vmade_long1 a cap l a2 cap2 m x w hl
  by_cases hm : 30 < m.length
  · exact vmade_long2 a cap l a2 cap2 m x w (by omega) hm
  by_cases hc1 : chk l = 0
  · by_cases hc2 : chk m = 0
    · exact vmade_ok a b o cap l a2 b2 o2 cap2 m x w h1 h2 (by omega) (by omega) hc1 hc2
    · exact vmade_bad2 a b o cap l a2 b2 o2 cap2 m x w h1 h2 (by omega) (by omega) hc1 hc2
  · exact vmade_bad1 a b o cap l a2 b2 o2 cap2 m x w h1 h2 (by omega) (by omega) hc1
end Go.Proofs.Ytlfmmmlheloloaa
