/-
  WireReads: the walk.
-/
import Derived.Test.YtbhkjflpkpkdlaaWrc
import Derived.Test.YtbhkjflpkpkdlaaLh
namespace Go.Proofs.Ytbhkjflpkpkdlaa
open Go.RowKit Go.Lib
set_option linter.unusedSimpArgs false
set_option linter.unusedVariables false

theorem rdx_lt {w : World} {g b B : Nat} {L : List Nat} (h : RdX w g 0 b L 0 0) (hb : B ≤ b) (hg : B ≤ g) : ∃ b', B ≤ b' ∧ b' < w.heap.size ∧ RdX w g 0 b' L 0 0 := by
  obtain ⟨p, o, cap, hr⟩ := h
  by_cases h0 : 0 < cap
  · exact ⟨b, hb, (hr.bs.ptr h0).2, p, o, cap, hr⟩
  · have hL : L = [] := List.eq_nil_of_length_eq_zero (by have := hr.bs.le; omega)
    subst hL
    exact ⟨g, hg, hr.blk.lt, p, o, cap, hr.blk, ⟨by simp, by simp, fun h => absurd h h0, fun i hi => absurd hi (by simp)⟩, fun h => absurd h h0, hr.lim⟩
theorem rdq_lt {w : World} {g b B : Nat} {s : RS} (h : RdQ w g b s) (hb : B ≤ b) (hg : B ≤ g) : ∃ b', B ≤ b' ∧ b' < w.heap.size ∧ RdQ w g b' s := by
  obtain ⟨p, cap, D, t, h1, h2, h3⟩ := h.q
  by_cases h0 : 0 < cap
  · exact ⟨b, hb, (h1.bs.ptr h0).2, h⟩
  · have hD : D = [] := List.eq_nil_of_length_eq_zero (by have := h1.bs.le; omega)
    subst hD
    exact ⟨g, hg, h1.blk.lt, p, cap, [], t, ⟨h1.blk, ⟨by simp, by simp, fun h => absurd h h0, fun i hi => absurd hi (by simp)⟩, fun h => absurd h h0, h1.le⟩, h2, h3⟩
theorem Lent.byS {B : Nat} {w : World} {g c : Nat} {L : List Nat} (h : Lent B w g c L) (hb : ∀ x ∈ L, x < 256) : ByS w (some ⟨g, 0, none⟩) c L := by
  obtain ⟨h1, h2, rest, h3, h4⟩ := h
  refine ByS.of_bs (b := g) (o := 0) ⟨hb, by omega, fun _ => ⟨rfl, h3.lt⟩, fun i hi => ?_⟩ (fun h => by cases h)
  rw [Nat.zero_add, h3.cell, List.getElem?_append_left (by rw [bvs_len, List.length_append]; omega), bvs_get (by rw [List.length_append]; omega), List.getD_eq_getElem?_getD, List.getElem?_append_left hi, ← List.getD_eq_getElem?_getD]
theorem Lent.ownB {B : Nat} {w : World} {g c : Nat} {L : List Nat} (h : Lent B w g c L) : OwnB B w (some ⟨g, 0, none⟩) L c := by
  obtain ⟨h1, h2, rest, h3, h4⟩ := h
  refine ⟨by omega, fun _ => ⟨g, bvs lentT ++ rest, rfl, h2, ?_⟩⟩
  have e : bvs (L ++ lentT) ++ rest = bvs L ++ (bvs lentT ++ rest) := by unfold bvs; rw [List.map_append, List.append_assoc]
  rw [← e]
  exact h3
theorem Lent.belowD {B : Nat} {w w' : World} {g c : Nat} {L : List Nat} (h : Lent B w g c L) (hb : Below w.heap.size w w') : Lent B w' g c L := by
  obtain ⟨h1, h2, rest, h3, h4⟩ := h
  exact ⟨h1, h2, rest, hb.blk' h3, h4⟩
theorem r_ne_nil (a : Addr) (w : World) : (binOp .eql 48 (.pointer (some a)) (.pointer none)).run Try.prog w = .ok (.bool false) w := by
  have h : ∀ d : Nat, (Op.equalIn (d + 1) 48 (.pointer (some a)) (.pointer none)).run Try.prog w = .ok false w := fun d => by
    simp [Op.equalIn, run_underlying Try.underlying48]
  simp only [binOp]
  simp [Op.equal, Op.maxDepth, h 9999]
theorem IsRow.nil0 {k : IntKind} {w : World} {a : Option Addr} {len cap : Nat} {zs : List Int} (h : IsRow k w a len cap zs) (ha : a = none) : cap = 0 := by
  rcases h with ⟨_, _, rfl, _⟩ | ⟨x, rfl, _⟩
  · rfl
  · cases ha
/-- Both readers between two rounds. -/
structure WrI (w W : World) (g b g2 b2 : Nat) (s : RS) : Prop where
  r : RR W g b g2 b2 s
  v : Inv s
  bel : Below w.heap.size w W
  lo : w.heap.size ≤ g ∧ w.heap.size ≤ g2
theorem WrI.below {w W W' : World} {g b g2 b2 : Nat} {s : RS} (H : WrI w W g b g2 b2 s) (h : Below W.heap.size W W') : WrI w W' g b g2 b2 s := ⟨H.r.below h, H.v, H.bel.trans (h.mono H.bel.size), H.lo⟩
set_option maxRecDepth 100000 in
set_option maxHeartbeats 4000000 in
theorem wreads_l1 (p : Option Addr) (pb po pc : Nat) (L : List Nat) (a : Option Addr) (b o cap : Nat) (l : List Tg) (w : World) (_ : Bs w p pb po L pc) (hL : ByS w p pc L) (hT : TgS w a b o cap l) (h6 : 600 < L.length) : Calls Try.prog 4 #[.slice p L.length pc, .slice a l.length cap] w fun e w' => e = .returned (.bool true) ∧ Below w.heap.size w w' := by
  have t6 : decide ((600 : Int) < (L.length : Int)) = true := decide_eq_true (by omega)
  clear h6 hL hT
  go_enter Try.func4, Try.ntmps4
  go_wp2_with fail
  refine (awake_any _).mono ?_
  rintro e w1 ⟨rfl, hb⟩
  have HB := hidp hb
  go_wp2
  go_ret
  exact ⟨rfl, HB.out⟩
set_option maxRecDepth 100000 in
set_option maxHeartbeats 4000000 in
theorem wreads_l2 (p : Option Addr) (pb po pc : Nat) (L : List Nat) (a : Option Addr) (b o cap : Nat) (l : List Tg) (w : World) (_ : Bs w p pb po L pc) (hL : ByS w p pc L) (hT : TgS w a b o cap l) (h6 : ¬ 600 < L.length) (hl : longT l = true) : Calls Try.prog 4 #[.slice p L.length pc, .slice a l.length cap] w fun e w' => e = .returned (.bool true) ∧ Below w.heap.size w w' := by
  have t6 : decide ((600 : Int) < (L.length : Int)) = false := decide_eq_false (by omega)
  have HLO := hidp (long_any a b o cap l w hT)
  rw [hl] at HLO
  clear h6 hL hT hl
  go_enter Try.func4, Try.ntmps4
  go_wp2_with fail
  refine HLO.out.mono ?_
  rintro e w0 ⟨rfl, hw0⟩
  rw [hw0]
  clear hw0 w0 HLO
  go_wp2_with fail
  refine (awake_any _).mono ?_
  rintro e w1 ⟨rfl, hb⟩
  have HB := hidp hb
  go_wp2
  go_ret
  exact ⟨rfl, HB.out⟩
set_option maxRecDepth 100000 in
set_option maxHeartbeats 8000000 in
theorem wreads_in (p : Option Addr) (pb po pc : Nat) (L : List Nat) (a : Option Addr) (b o cap : Nat) (l : List Tg) (w : World) (_ : Bs w p pb po L pc) (hL : ByS w p pc L) (hT : TgS w a b o cap l) (h6 : ¬ 600 < L.length) (hl : longT l = false) : Calls Try.prog 4 #[.slice p L.length pc, .slice a l.length cap] w fun e w' => e = .returned (.bool true) ∧ Below w.heap.size w w' := by
  have t6 : decide ((600 : Int) < (L.length : Int)) = false := decide_eq_false (by omega)
  have HLO := hidp (long_any a b o cap l w hT)
  rw [hl] at HLO
  have hlim := hidp (And.intro (show L.length ≤ 600 by omega) (longT_no hl))
  have HL := hidp hL
  have HT := hidp hT
  have hrn := fun a W => r_ne_nil a W
  clear h6 hL hT hl
  go_enter Try.func4, Try.ntmps4
  go_wp2_with fail
  refine HLO.out.mono ?_
  rintro e w0 ⟨rfl, hw0⟩
  rw [hw0]
  clear hw0 w0 HLO
  go_wp2_with fail
  refine (lent_any HL.out (by have := hlim.out.1; omega)).mono ?_
  rintro e w1 ⟨⟨gl, cl, rfl, hlent⟩, hb⟩
  have HLe := hidp hlent
  have hgl := hidp (show gl < w1.heap.size by obtain ⟨_, _, rest, h3, _⟩ := hlent; exact h3.lt)
  have HB := hidp hb
  clear hlent hb
  go_wp2_with fail
  refine (newReader_some _ cl L _ (HLe.out.byS HL.out.byte) (by have := hlim.out.1; omega)).mono ?_
  rintro e w2 ⟨g, b0, rfl, hg, hb0, hrd, hb⟩
  obtain ⟨b1, hb1, hb1s, hrd1⟩ := rdx_lt hrd hb0 hg
  have HR := hidp (show RdS w2 g b1 ⟨0, L, 0, 0⟩ from ⟨hrd1, hb1s, fun _ => rfl⟩)
  have hG := hidp (show w1.heap.size ≤ g ∧ w1.heap.size ≤ b1 from ⟨hg, hb1⟩)
  replace HLe := hidp (HLe.out.belowD hb)
  have hs1 := hidp HB.out.size
  replace HB := hidp (HB.out.trans (hb.mono HB.out.size))
  clear hg hb0 hrd hb hb1 hb1s hrd1 b0
  go_wp2_with fail
  refine (refNew_any p pc L _ (HL.out.below HB.out) (by have := hlim.out.1; omega)).mono ?_
  rintro e w3 ⟨g2, b0, rfl, hg2, hb0, hrq, hb⟩
  obtain ⟨b2, hb2, hb2s, hrq1⟩ := rdq_lt hrq hb0 hg2
  have hRR := hidp (show RR w3 g b1 g2 b2 ⟨0, L, 0, 0⟩ from ⟨HR.out.below hb, hrq1, ⟨by have := HR.out.glt; omega, by have := HR.out.lt; omega, by have := HR.out.glt; omega⟩, hb2s⟩)
  have hG2 := hidp (show w1.heap.size ≤ g2 ∧ w1.heap.size ≤ b2 from ⟨by have := HR.out.glt; have := hG.out; omega, by have := HR.out.glt; have := hG.out; omega⟩)
  replace HLe := hidp (HLe.out.belowD hb)
  replace HB := hidp (HB.out.trans (hb.mono HB.out.size))
  clear hg2 hb0 hrq hb hb2 hb2s hrq1 HR
  go_wp2_with fail
  refine (kept_any HLe.out (HL.out.below HB.out) (by have := hlim.out.1; omega)).mono ?_
  rintro e w4 ⟨rfl, hb⟩
  replace hRR := hidp (hRR.out.below hb)
  replace HLe := hidp (HLe.out.belowD hb)
  replace HB := hidp (HB.out.trans (hb.mono HB.out.size))
  clear hb
  go_wp2_with fail
  refine (over_but w.heap.size L _ cl _ HLe.out.ownB (by have := hlim.out.1; omega)).mono ?_
  rintro e w5 ⟨rfl, hov⟩
  have H0 := hidp (show WrI w w5 g b1 g2 b2 ⟨0, L, 0, 0⟩ from by
    have hI : Inv ⟨0, L, 0, 0⟩ := ⟨fun h => absurd rfl h, by have := hlim.out.1; show L.length ≤ 3000; omega⟩
    have hlo : w.heap.size ≤ g ∧ w.heap.size ≤ g2 := by have := hs1.out; have := hG.out; have := hG2.out; omega
    rcases hov with ⟨k, rest, e1, hk, _, hbt⟩ | rfl
    · have hx := Bex.of_but hbt
      have e2 : gl = k := by cases e1; rfl
      have := hgl.out
      have := hG.out
      have := hG2.out
      exact ⟨⟨hRR.out.r.bexA hx (by omega) (by omega), hRR.out.q.bexA hx (by omega) (by omega), hRR.out.ne, Nat.lt_of_lt_of_le hRR.out.l2 hx.size⟩, hI, HB.out.trans (hbt.below hk), hlo⟩
    · exact ⟨hRR.out, hI, HB.out, hlo⟩)
  clear hov HLe HB hRR hG hG2 hgl hs1
  go_wp2_with fail
  go_loopw [8] (fun x wr => ∃ (i : Nat) (s : RS), i ≤ l.length ∧ x = .int .i64 i ∧ Hid (WrI w wr g b1 g2 b2 s)) (fun x _ => l.length - (Go.RowKit.intOf x).toNat)
  case atStart => exact ⟨0, ⟨0, L, 0, 0⟩, by omega, rfl, H0⟩
  case round =>
    obtain ⟨i, s, hi, rfl, hx⟩ := hrel
    clear H0
    have hiz : (0 : Int) ≤ (i : Int) := by omega
    by_cases hlt : i < l.length
    · obtain ⟨t, ht, htk, rfl, hrg⟩ := (HT.out.below hx.out.bel).at hlt
      have hlz : (i : Int) < (l.length : Int) := by omega
      have HI := hidp hlt
      have hadd := w64_nat (n := i) (by have := hlim.out.2.1; omega)
      have hrg' := hidp hrg
      have htl := hidp (tgL_len htk)
      have nq := fun x y W => neF x y x y W
      clear ht htk hrg hi hlt
      go_wp2_with first
        | (with_reducible refine (?_ : wpList _ _ _ _ _ _); refine wpList_load_midD 44 rfl (by kernel_rfl) 39 _ rfl b (o + i * 41) rfl (tgL t) _ hrg'.out Try.underlying39 rfl (by rw [htl.out]; kernel_rfl) ?_)
      refine (reads_any hx.out.r hx.out.v t).mono ?_
      rintro e w6 ⟨s', hI', rfl, hr', hlow⟩
      replace hx := hidp (show WrI w w6 g b1 g2 b2 s' from ⟨hr', hI', hx.out.bel.trans (hlow _ hx.out.lo.1 hx.out.lo.2 hx.out.bel.size), hx.out.lo⟩)
      clear hI' hr' hlow hrg'
      go_wp2_with fail
      refine (sRest hx.out.r.r).mono ?_
      rintro e w7 ⟨rfl, hw⟩
      subst hw
      go_wp2_with fail
      refine (refRest_any hx.out.r.q hx.out.v.z).mono ?_
      rintro e w7 ⟨rfl, hb⟩
      replace hx := hidp (hx.out.below hb)
      clear hb
      go_wp2_with fail
      refine (sEnd hx.out.r.r).mono ?_
      rintro e w8 ⟨rfl, hb⟩
      replace hx := hidp (hx.out.below hb)
      clear hb
      go_wp2_with fail
      refine (refEnd_any hx.out.r.q).mono ?_
      rintro e w9 ⟨rfl, hb⟩
      replace hx := hidp (hx.out.below hb)
      clear hb
      go_wp2_with fail
      try rw [hadd]
      exact ⟨⟨i + 1, s', by have := HI.out; omega, rfl, hx⟩, by have := HI.out; show l.length - ((i + 1 : Nat) : Int).toNat < l.length - ((i : Nat) : Int).toNat; omega⟩
    · obtain rfl : i = l.length := by omega
      have eq := fun x y W => eqF x y x y W
      have hlz : ¬ ((l.length : Int) < (l.length : Int)) := by omega
      clear hi hlt
      go_wp2_with fail
      refine (sRest hx.out.r.r).mono ?_
      rintro e w7 ⟨rfl, hw⟩
      subst hw
      go_wp2_with fail
      refine (refRest_any hx.out.r.q hx.out.v.z).mono ?_
      rintro e w7 ⟨rfl, hb⟩
      replace hx := hidp (hx.out.below hb)
      clear hb
      go_wp2_with fail
      refine (sEnd hx.out.r.r).mono ?_
      rintro e w8 ⟨rfl, hb⟩
      replace hx := hidp (hx.out.below hb)
      clear hb
      go_wp2_with fail
      refine (refEnd_any hx.out.r.q).mono ?_
      rintro e w9 ⟨rfl, hb⟩
      replace hx := hidp (hx.out.below hb)
      clear hb
      go_wp2_with fail
      refine (awake_any _).mono ?_
      rintro e w10 ⟨rfl, hb⟩
      replace hx := hidp (hx.out.below hb)
      clear hb
      go_wp2
      go_ret
      exact ⟨rfl, hx.out.bel⟩
theorem wreads_any (p : Option Addr) (pb po pc : Nat) (L : List Nat) (a : Option Addr) (b o cap : Nat) (l : List Tg) (w : World) (_ : Bs w p pb po L pc) (hL : ByS w p pc L) (hT : TgS w a b o cap l) : Calls Try.prog 4 #[.slice p L.length pc, .slice a l.length cap] w fun e w' => e = .returned (.bool true) ∧ Below w.heap.size w w' := by
  by_cases h6 : 600 < L.length
  · exact wreads_l1 p pb po pc L a b o cap l w ‹_› hL hT h6
  cases hl : longT l
  · exact wreads_in p pb po pc L a b o cap l w ‹_› hL hT h6 hl
  · exact wreads_l2 p pb po pc L a b o cap l w ‹_› hL hT h6 hl
end Go.Proofs.Ytbhkjflpkpkdlaa
