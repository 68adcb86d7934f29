/-
  WireReads: a reader's Bytes, which may be written over; bytes read by both readers.
-/
import Derived.Test.YtbhkjflpkpkdlaaR4s
import Derived.Test.YtbhkjflpkpkdlaaRo
import Derived.Test.YtbhkjflpkpkdlaaOv
namespace Go.Proofs.Ytbhkjflpkpkdlaa
open Go.RowKit Go.Lib Go.Maps
set_option linter.unusedSimpArgs false
set_option linter.unusedVariables false

/-- Bytes of one's own, that may be written over, in a row from base on. -/
def FO (base : Nat) (T : List Nat) (v : Value) (w : World) : Prop := ∃ p b cap, v = .slice p T.length cap ∧ base ≤ b ∧ (p = none → cap = 0) ∧ Bs w p b 0 T cap ∧ OwnB base w p T cap
theorem FO.bex {base g : Nat} {T : List Nat} {v : Value} {w w' : World} (h : FO base T v w) (hb : Bex g w w') (hg : g < base) : FO base T v w' := by
  obtain ⟨p, b, cap, h1, h2, h3, h4, h5⟩ := h
  exact ⟨p, b, cap, h1, h2, h3, h4.bex hb (fun _ => by omega), h5.1, fun h0 => by obtain ⟨k, rest, k1, k2, k3⟩ := h5.2 h0; exact ⟨k, rest, k1, k2, hb.blk k3 (by omega)⟩⟩
theorem FO.below {base : Nat} {T : List Nat} {v : Value} {w w' : World} (h : FO base T v w) (hb : Below w.heap.size w w') : FO base T v w' := by
  obtain ⟨p, b, cap, h1, h2, h3, h4, h5⟩ := h
  exact ⟨p, b, cap, h1, h2, h3, h4.below hb, h5.below hb⟩
theorem FO.mono {base base' : Nat} {T : List Nat} {v : Value} {w : World} (h : FO base T v w) (hb : base' ≤ base) : FO base' T v w := by
  obtain ⟨p, b, cap, h1, h2, h3, h4, h5⟩ := h
  exact ⟨p, b, cap, h1, Nat.le_trans hb h2, h3, h4, h5.lower hb⟩
theorem FO_nil (base : Nat) (w : World) : FO base [] (.slice none 0 0) w := ⟨none, base, 0, rfl, Nat.le_refl _, fun _ => rfl, ⟨by simp, by simp, fun h => absurd h (by omega), fun i hi => absurd hi (by simp)⟩, OwnB.nil _ _ _⟩
theorem cloneO_any (p : Option Addr) (b o cap : Nat) (L : List Nat) (w : World) (h : Bs w p b o L cap) (hn : L.length ≤ 4000000) :
    Calls Try.prog 85 #[.slice p L.length cap] w fun e w' => (∃ v, e = .returned v ∧ FO w.heap.size L v w') ∧ Below w.heap.size w w' := by
  cases hp : p with
  | some y =>
    rw [hp] at h
    refine (clone_own y cap L w (ByS.of_bs h h.none_cap) hn).mono ?_
    rintro e w' ⟨⟨p', b', c', rfl, h1, h2, h3, h5⟩, h4⟩
    exact ⟨⟨_, rfl, p', b', c', rfl, h1, h2, h3, h5⟩, h4⟩
  | none =>
    have h0 : cap = 0 := h.none_cap hp
    have hL : L = [] := List.eq_nil_of_length_eq_zero (by have := h.le; omega)
    subst h0 hL
    refine (clone_none w).mono ?_
    rintro e w' ⟨rfl, rfl⟩
    exact ⟨⟨_, rfl, none, w.heap.size, 0, rfl, Nat.le_refl _, fun _ => rfl, ⟨by simp, by simp, fun h0 => absurd h0 (by omega), fun i hi => absurd hi (by simp)⟩, OwnB.nil _ _ _⟩, Below.refl _ w⟩
theorem readBytesO (mb c t : Nat) (p : Option Addr) (b o cap : Nat) (R : List Nat) (most : Int) (T : List Nat) (n : Nat) (w : World) (H : Cu w c t p b o cap R) (h4 : R.length ≤ 4000000) (hm : w.cell? ⟨mb, 0, none⟩ = some (.int .i64 most)) (hp : pText R most = .ok T n) :
    Calls Try.prog 154 #[.pointer (some ⟨c, 0, none⟩), .pointer (some ⟨mb, 0, none⟩)] w fun e w' => (∃ v, e = .returned v ∧ FO w.heap.size T v w') ∧ CuX w' c (t + n) b (R.drop n) cap ∧ Bex c w w' := by
  unfold pText at hp
  cases hn : pLen R most with
  | er x => rw [hn] at hp; cases hp
  | ok v n' =>
    rw [hn] at hp
    by_cases hl : R.length - n' < v
    · simp only [hl, if_true] at hp; cases hp
    · simp only [hl, if_false] at hp
      cases hp
      have HN := hidp (length_ok c t p b o cap R most v n' w H hn)
      have HL := hidp hl
      have H4 := hidp h4
      clear H hn hl h4
      go_enter Try.func154, Try.ntmps154
      go_wp2_with fail
      refine HN.out.mono ?_
      rintro e w1 ⟨rfl, ⟨p1, o1, cap1, hc1, hx⟩, hb⟩
      have HX := hidp hx
      have HB := hidp (And.intro hb hc1)
      clear hx hb hc1
      go_wp2_with fail
      refine takeBytes_ok c (t + n') p1 b o1 cap1 (R.drop n') v w1 HX.out (by have := HL.out; rw [List.length_drop]; omega) _ (fun w2 a1 a2 a3 => ?_)
      have hlen : ((R.drop n').take v).length = v := by have := HL.out; rw [List.length_take, List.length_drop]; omega
      have q := cloneO_any p1 b o1 cap1 _ w2 a2 (by rw [hlen]; have := HL.out; have := H4.out; omega)
      rw [hlen] at q
      refine q.mono ?_
      rintro e w3 ⟨⟨y, rfl, hy⟩, hb3⟩
      refine .inl ⟨_, rfl, ?_⟩
      have B1 := hidp (a1.below' hb3)
      have B3 := hidp ((HB.out.1.trans a3).trans (Bex.of_below hb3))
      have HY := hidp (hy.mono (Nat.le_trans HB.out.1.size a3.size))
      clear a1 a2 a3 q hlen hy hb3
      go_wp2
      go_ret
      have hcu : Cu w3 c (t + (n' + v)) (partA p1 cap1 v) b (o1 + v) (cap1 - v) (R.drop (n' + v)) := by
        have := B1.out
        rw [List.drop_drop, Nat.add_assoc] at this
        exact this
      exact ⟨⟨_, rfl, HY.out⟩, ⟨_, _, _, Nat.le_trans (Nat.sub_le _ _) HB.out.2, hcu⟩, B3.out⟩
theorem mBytesO (g t : Nat) (p : Option Addr) (b o cap : Nat) (R : List Nat) (most : Int) (T : List Nat) (n : Nat) (w : World) (H : Rd w g t p b o cap R 0 0) (h4 : R.length ≤ 4000000) (hp : pText R most = .ok T n) :
    Calls Try.prog 88 #[.pointer (some ⟨g, 0, none⟩), .int .i64 most] w fun e w' => (∃ v, e = .returned v ∧ FO w.heap.size T v w') ∧ RdX w' g (t + n) b (R.drop n) 0 0 ∧ Bex g w w' := by
  have hmf : ∀ (fn : Fn) (first cap : Array Value) (w : World), (Instr.makeFunc fn first cap).run Try.prog w = .ok (.func fn first cap) w := fun _ _ _ _ => rfl
  have HB : Hid (Below w.heap.size w (w.alloc (.cells #[.int .i64 most] 3))) := hidp ((Below.refl _ w).alloc (Nat.le_refl _) _)
  have HE := hidp (elemBytes_ok w.heap.size g t p b o cap R (FO w.heap.size T) (fun v w1 w2 hv hb => hv.bex hb H.blk.lt) n _ (H.below HB.out) (fun w1 c hb _ hc => (readBytesO w.heap.size c t p b o cap R most T n w1 hc h4 (box_cell hb) hp).mono fun e w' ⟨⟨v, h1, h2⟩, h3⟩ => ⟨⟨v, h1, h2.mono (Nat.le_trans HB.out.size hb.size)⟩, h3⟩))
  clear H hp h4
  go_enter Try.func88, Try.ntmps88
  go_wp2_with fail
  refine HE.out.mono ?_
  rintro e w1 ⟨⟨v, rfl, hv⟩, h1, h2⟩
  have HV := hidp hv
  have HX := hidp (And.intro h1 ((((Bex.refl g w).alloc _).bex h2)))
  clear h1 h2 HE HB hv
  go_wp2
  go_ret
  exact ⟨⟨_, rfl, HV.out⟩, HX.out⟩
theorem sBytesO {w : World} {g b : Nat} {s : RS} (H : RdS w g b s) (most : Int) (h4 : s.R.length ≤ 4000000) :
    Calls Try.prog 88 #[.pointer (some ⟨g, 0, none⟩), .int .i64 most] w fun e w' => (∃ v, e = .returned v ∧ FO w.heap.size (rdV (fun R => pText R most) [] s) v w') ∧ RdS w' g b (rdN (fun R => pText R most) s) ∧ Bex g w w' := by
  obtain ⟨t, R, e0, f0⟩ := s
  obtain ⟨⟨p, o, cap, hr⟩, hlt, hz⟩ := H
  simp only at hr hz h4
  by_cases h0 : e0 = 0
  · subst h0
    obtain rfl := hz rfl
    cases hp : pText R most with
    | ok v n =>
      refine (mBytesO g t p b o cap R most v n w hr h4 hp).mono ?_
      rintro e w' ⟨he, h1, h2⟩
      have e1 : rdV (fun R => pText R most) [] ⟨t, R, 0, 0⟩ = v := by unfold rdV; simp [hp]
      have e2 : rdN (fun R => pText R most) ⟨t, R, 0, 0⟩ = ⟨t + n, R.drop n, 0, 0⟩ := by unfold rdN; simp [hp]
      rw [e1, e2]
      exact ⟨he, ⟨h1, Nat.lt_of_lt_of_le hlt h2.size, fun _ => rfl⟩, h2⟩
    | er x =>
      refine (mBytes_er g t p b o cap R most x w hr hp).mono ?_
      rintro e w' ⟨he, h1, h2⟩
      have e1 : rdV (fun R => pText R most) [] ⟨t, R, 0, 0⟩ = [] := by unfold rdV; simp [hp]
      have e2 : rdN (fun R => pText R most) ⟨t, R, 0, 0⟩ = ⟨t, [], x, t⟩ := by unfold rdN; simp [hp]
      rw [e1, e2]
      exact ⟨⟨_, he, FO_nil _ _⟩, ⟨h1, Nat.lt_of_lt_of_le hlt h2.size, fun h => absurd h (pText_ne hp)⟩, h2⟩
  · refine (mBytes_dead g t p b o cap R most e0 f0 w hr h0).mono ?_
    rintro e w' ⟨he, h2⟩
    have e1 : rdV (fun R => pText R most) [] ⟨t, R, e0, f0⟩ = [] := by unfold rdV; simp [h0]
    have e2 : rdN (fun R => pText R most) ⟨t, R, e0, f0⟩ = ⟨t, R, e0, f0⟩ := by unfold rdN; simp [h0]
    rw [e1, e2]
    exact ⟨⟨_, he, FO_nil _ _⟩, ⟨(show RdX w g t b R e0 f0 from ⟨p, o, cap, hr⟩).below h2, Nat.lt_of_lt_of_le hlt h2.size, fun h => absurd h h0⟩, Bex.of_below h2⟩
theorem sameBytes_bsl {w : World} {p q : Option Addr} {b o cap b2 cap2 : Nat} {X : List Nat} (h : Bs w p b o X cap) (k : Bsl w q b2 0 X cap2) :
    Calls Try.prog 21 #[.slice p X.length cap, .slice q X.length cap2] w fun e w' => e = .returned (.bool true) ∧ w = w' := by
  have c1 := conv_bs h cap
  have c2 := conv_bsl k
  generalize strB X = s at c1 c2
  clear h k
  go_enter Try.func21, Try.ntmps21
  go_wp2
  go_ret
  exact ⟨by simp, rfl⟩
/-- Both readers have read alike; what lay below them is as it was. -/
def RRL (w : World) (g b g2 b2 : Nat) (s : RS) (e : Ending) (w' : World) : Prop := e = .returned (.bool true) ∧ RR w' g b g2 b2 s ∧ ∀ B, B ≤ g → B ≤ g2 → B ≤ w.heap.size → Below B w w'
theorem RRP.low {w : World} {g b g2 b2 : Nat} {s : RS} {e : Ending} {w' : World} (h : RRP w g b g2 b2 s e w') : RRL w g b g2 b2 s e w' := by
  obtain ⟨h1, h2, w1, h3, h4⟩ := h
  refine ⟨h1, h2, fun B hB hB2 hW => (h3.below hB hW).trans (h4.below hB2 (Nat.le_trans hW h3.size))⟩
set_option maxRecDepth 100000 in
set_option maxHeartbeats 4000000 in
theorem reads_Bytes {w : World} {g b g2 b2 : Nat} {s : RS} (H : RR w g b g2 b2 s) (n : Int) (p : Option Addr) (len cap : Nat) (h k : List Nat) (x : Nat) (is : Bool) (h6 : s.R.length ≤ 3000) :
    Calls Try.prog 24 #[.pointer (some ⟨g, 0, none⟩), .pointer (some ⟨g2, 0, none⟩), .agg (thL 2 n p len cap h k x is).toArray] w (RRL w g b g2 b2 (rdN (fun R => pText R n) s)) := by
  have hA := (Below.refl w.heap.size w).alloc (Nat.le_refl _) (.cells (thL 2 n p len cap h k x is).toArray 39)
  have HH := hidp (H.below hA)
  have hAx := hidp hA
  have hbl := Blk.new w (thL 2 n p len cap h k x is) 39
  have c0 : (w.alloc (.cells (thL 2 n p len cap h k x is).toArray 39)).cell? ⟨w.heap.size, 0, none⟩ = some (.int .i64 2) := hbl.cell 0
  have c1 : (w.alloc (.cells (thL 2 n p len cap h k x is).toArray 39)).cell? ⟨w.heap.size, 1, none⟩ = some (.int .i64 n) := hbl.cell 1
  have HLT := hidp (show g < w.heap.size ∧ g2 < w.heap.size ∧ b < w.heap.size ∧ b2 < w.heap.size from ⟨H.r.glt, H.q.glt, H.r.lt, H.l2⟩)
  have HK := hidp hbl
  have HL20 := hidp HH.out.l2
  have HNE := hidp HH.out.ne
  have HVl := hidp (show (rdV (fun R => pText R n) [] s).length ≤ 3000 from by
    unfold rdV
    by_cases h0 : s.e = 0
    · rw [if_neg (by omega)]
      cases hp : pText s.R n with
      | er y => simp only [hp, List.length_nil]; omega
      | ok v m =>
        simp only [hp]
        unfold pText at hp
        cases hq : pLen s.R n with
        | er y => rw [hq] at hp; cases hp
        | ok v2 m2 =>
          rw [hq] at hp
          by_cases hl : s.R.length - m2 < v2
          · simp only [hl, if_true] at hp; cases hp
          · simp only [hl, if_false] at hp
            cases hp
            simp only [List.length_take, List.length_drop]
            omega
    · rw [if_pos h0]; simp)
  have HA2 := hidp (fun W (hW : RdS W g b s) => sBytesO hW n (by omega))
  have HB := hidp (fun W (hW : RdQ W g2 b2 s) => (show Calls Try.prog 89 #[.pointer (some ⟨g2, 0, none⟩), .int .i64 n] W (fun e w' => (∃ q qb c, e = .returned (.slice q (rdV (fun R => pText R n) [] s).length c) ∧ W.heap.size ≤ qb ∧ Bsl w' q qb 0 (rdV (fun R => pText R n) [] s) c) ∧ RdQ w' g2 b2 (rdN (fun R => pText R n) s) ∧ Bex g2 W w') from refBytes_any hW n))
  generalize rdV (fun R => pText R n) [] s = V at *
  generalize rdN (fun R => pText R n) s = T at *
  clear H hA hbl h6
  go_enter Try.func24, Try.ntmps24
  go_wp2_with fail
  refine (HA2.out _ HH.out.r).mono ?_
  rintro e w1 ⟨⟨v, rfl, hv⟩, h1, h2⟩
  obtain ⟨pv, bv, cv, rfl, hbv, _, hBs, hOw⟩ := hv
  have K1 := hidp (And.intro h1 (HH.out.q.bexA h2 (fun e => HNE.out.1 e.symm) HNE.out.2.2))
  have X1 := hidp h2
  have hsz := hidp (show w.heap.size + 1 ≤ (w.alloc (.cells (thL 2 n p len cap h k x is).toArray 39)).heap.size by simp)
  have BV := hidp (And.intro hBs hOw)
  have KT := h2.blk HK.out (by have := HLT.out; omega)
  have d1 : w1.cell? ⟨w.heap.size, 1, none⟩ = some (.int .i64 n) := KT.cell 1
  clear h1 h2 hBs hOw KT c0 c1
  go_wp2_with fail
  refine (HB.out _ K1.out.2).mono ?_
  rintro e w2 ⟨⟨q, qb, c, rfl, hqb, hqs⟩, h1, h2⟩
  have K2 := hidp (And.intro (K1.out.1.bexA h2 HNE.out.1 HNE.out.2.1) h1)
  have X2 := hidp h2
  have HQ := hidp hqs
  have hng := hidp (show g2 ≠ bv by have := HLT.out; have := hsz.out; omega)
  have BV2 := hidp (show Bs w2 pv bv 0 V cv ∧ OwnB (w.heap.size + 1) w2 pv V cv from ⟨BV.out.1.bex h2 (fun _ => hng.out), by
    have hO := BV.out.2.lower (show w.heap.size + 1 ≤ _ from hsz.out)
    exact ⟨hO.1, fun h0 => by obtain ⟨k, rest, k1, k2, k3⟩ := hO.2 h0; exact ⟨k, rest, k1, k2, h2.blk k3 (by have := HLT.out; omega)⟩⟩⟩)
  clear h1 h2 hqs hqb d1
  go_wp2_with fail
  refine (sameBytes_bsl BV2.out.1 HQ.out).mono ?_
  rintro e w3 ⟨rfl, hw3⟩
  subst hw3
  go_wp2_with fail
  refine (over_but (w.heap.size + 1) V pv cv _ BV2.out.2 HVl.out).mono ?_
  rintro e w4 ⟨rfl, hov⟩
  have HF := hidp (show RR w4 g b g2 b2 T ∧ ∀ B, B ≤ g → B ≤ g2 → B ≤ w.heap.size → Below B w w4 from by
    have hb3 := HL20.out
    have hrr : RR w2 g b g2 b2 T := ⟨K2.out.1, K2.out.2, HNE.out, Nat.lt_of_lt_of_le HL20.out (Nat.le_trans X1.out.size X2.out.size)⟩
    have hbl : ∀ B, B ≤ g → B ≤ g2 → B ≤ w.heap.size → Below B w w2 := fun B h1 h2 h3 => ((hAx.out.mono h3).trans (X1.out.below h1 (Nat.le_trans h3 hAx.out.size))).trans (X2.out.below h2 (Nat.le_trans h3 (Nat.le_trans hAx.out.size X1.out.size)))
    rcases hov with ⟨k, rest, _, hk, _, hbt⟩ | rfl
    · have hx := Bex.of_but hbt
      have := HLT.out
      exact ⟨⟨hrr.r.bexA hx (by omega) (by omega), hrr.q.bexA hx (by omega) (by omega), HNE.out, Nat.lt_of_lt_of_le hrr.l2 hx.size⟩, fun B h1 h2 h3 => (hbl B h1 h2 h3).trans (hbt.below (by omega))⟩
    · exact ⟨hrr, hbl⟩)
  clear hov
  go_wp2_with fail
  go_ret
  exact ⟨rfl, HF.out.1, HF.out.2⟩
end Go.Proofs.Ytbhkjflpkpkdlaa
