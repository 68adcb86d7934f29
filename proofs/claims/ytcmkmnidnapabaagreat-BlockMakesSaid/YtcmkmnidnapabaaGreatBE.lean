/-
  Texts Bkd, Bke, one behind the other.
-/
import Derived.Test.YtcmkmnidnapabaaGreatBkc
import Derived.Test.YtcmkmnidnapabaaGreatL6t
import Derived.Test.YtcmkmnidnapabaaGreatLta
import Derived.Test.YtcmkmnidnapabaaGreatCV

/-! Bkd: Block: the bytes of a block. -/
namespace Go.Proofs.YtcmkmnidnapabaaGreat
open Go.RowKit Go.Lib
set_option linter.unusedSimpArgs false
set_option linter.unusedVariables false

theorem Bs.lowN {n₀ : Nat} {w w' : World} {p : Option Addr} {b o cap : Nat} {X : List Nat} (h : Bs w p b o X cap) (hb : Below n₀ w w') (hn : 0 < cap → b < n₀) : Bs w' p b o X cap :=
  ⟨h.byte, h.le, fun h0 => ⟨(h.ptr h0).1, Nat.lt_of_lt_of_le (h.ptr h0).2 hb.size⟩, fun i hi => by
    have h0 : 0 < cap := by have := h.le; omega
    exact (hb.cell (p := ⟨b, o + i, none⟩) (hn h0)).trans (h.here i hi)⟩
theorem Bs.before {w : World} {g lim e : Nat} {v : Value} {L : List Nat} (H : Wr w g lim v L e) {p : Option Addr} {b o cap : Nat} {X : List Nat} (hs : Bs w p b o X cap) (hb : 0 < cap → b < g) : ∀ a, p = some a → 0 < X.length → a.block ≠ g ∧ v.ownBlock ≠ some a.block := by
  intro a ha h0
  have h1 := hs.le
  obtain ⟨h2, _⟩ := hs.ptr (by omega)
  rw [ha] at h2
  cases h2
  have h4 := hb (by omega)
  exact ⟨by simp only; omega, fun e => by have h5 := (H.ownGe e).1; simp only at h5; omega⟩
/-- Bytes made ahead are written. -/
theorem wBytes_n {w : World} {g lim : Nat} {v : Value} {L : List Nat} (H : Wr w g lim v L 0) (p : Option Addr) (b cap : Nat) (X : List Nat) (hX : Bs w p b 0 X cap) (hp : p = none → cap = 0) (hb : 0 < cap → b < g) (hs : L.length + (ctB X).length ≤ lim) :
    Calls Tryz.prog 116 #[.pointer (some ⟨g, 0, none⟩), .slice p X.length cap] w (PutP w g lim v (L ++ ctB X)) := by
  have hl := H.lim
  have hc := ctB_len X
  have q := wBytes_ok H p b 0 cap X hX hp (hX.before H hb) (dg X.length) (dg_digs (by omega)) (by omega)
  rw [nB_num (by omega)] at q
  exact q
/-- Why one of a block's parts may not be; its bytes. -/
def prt (x : Bd) : Nat := if chkH x.h ≠ 0 then chkH x.h else if chk x.s ≠ 0 then chk x.s else chkC x.n x.l
def encK (x : Bd) : List Nat := ctB (encH x.h) ++ ctB (encC x.n x.p x.l) ++ ctB (encB x.s)
def encKO (x : Bd) : List Nat := if prt x = 0 then encK x else []
theorem prt_ok {x : Bd} (h : prt x = 0) : chkH x.h = 0 ∧ chk x.s = 0 ∧ chkC x.n x.l = 0 := by
  unfold prt at h
  by_cases h1 : chkH x.h = 0
  · rw [if_neg (by omega)] at h
    by_cases h2 : chk x.s = 0
    · rw [if_neg (by omega)] at h; exact ⟨h1, h2, h⟩
    · rw [if_pos h2] at h; omega
  · rw [if_pos h1] at h; omega
theorem ctB_le {X : List Nat} {n : Nat} (h : X.length ≤ n) : (ctB X).length ≤ n + 9 := by
  rw [ctB_len]
  have := dg_le X.length
  omega
theorem encK_le {x : Bd} (hS : HdrOk x.h) (hp : x.p.length = 32) (hc : prt x = 0) : (encK x).length ≤ 2400 := by
  obtain ⟨h1, h2, h3⟩ := prt_ok hc
  have e1 := ctB_le (encH_le ⟨hS, h1⟩).2
  have e2 := ctB_le (encB_le h2)
  have e3 := ctB_le (encC_le hp h3)
  unfold encK
  rw [List.length_append, List.length_append]
  omega
/-- The box of a block, what has been made ahead. -/
structure EnB (w W : World) (x : Bd) : Prop where
  k : Blk W w.heap.size (bC x) 84
  bel : Below w.heap.size w W
theorem EnB.below {w W W' : World} {x : Bd} (H : EnB w W x) (hb : Below W.heap.size W W') : EnB w W' x := ⟨hb.blk' H.k, H.bel.trans (hb.mono H.bel.size)⟩
def EKP (w : World) (x : Bd) (e : Ending) (w' : World) : Prop := (∃ p b c, e = .returned (.tuple #[.slice p (encKO x).length c, .int .i64 (prt x : Nat)]) ∧ w.heap.size ≤ b ∧ (p = none → c = 0) ∧ Bs w' p b 0 (encKO x) c ∧ OwnB w.heap.size w' p (encKO x) c) ∧ Below w.heap.size w w'
theorem EKP.bad {w w' : World} {x : Bd} {n : Nat} (h : prt x = n) (hn : n ≠ 0) (hb : Below w.heap.size w w') : EKP w x (.returned (.tuple #[.slice none 0 0, .int .i64 (n : Nat)])) w' := by
  have e : encKO x = [] := by unfold encKO; rw [if_neg (by omega)]
  unfold EKP
  rw [e, h]
  exact ⟨⟨none, w.heap.size, 0, rfl, Nat.le_refl _, fun _ => rfl, Bs.nil _ _ _, OwnB.nil _ _ _⟩, hb⟩
set_option maxRecDepth 100000 in
set_option maxHeartbeats 8000000 in
theorem bencode_any (x : Bd) (w : World) (hS : BdS w x) : Calls Tryz.prog 53 #[.agg (bC x).toArray] w (EKP w x) := by
  have H0 : Hid (EnB w (w.alloc (.cells (bC x).toArray 84)) x) := hidp ⟨Blk.new w (bC x) _, (Below.refl _ w).alloc (Nat.le_refl _) _⟩
  have HS := hidp hS
  have hRA := bk_H H0.out.k
  have hSZ := sz_H (x := x) hS.hh
  by_cases h1 : chkH x.h = 0
  · have HG : Hid (HGood x.h) := hidp ⟨hS.hh, h1⟩
    replace h1 := hidp h1
    clear hS
    go_enter Tryz.func53, Tryz.ntmps53
    go_wp2_with (with_reducible refine (?_ : wpList _ _ _ _ _ _); refine wpList_load_mid rfl 79 _ rfl (w.heap.size) 0 rfl (hC x.h) _ hRA Tryz.underlying79 rfl hSZ ?_)
    refine (hencode_own x.h HS.out.hh _ h1.out).mono ?_
    rintro e w1 ⟨⟨p1, b1, c1, rfl, _, hn1, hs1, _⟩, hb⟩
    have H1 := hidp (H0.out.below hb)
    have P1 := hidp (And.intro hs1 hn1)
    have L1 := hidp (encH_le HG.out).2
    clear hb hs1 hn1 H0 hRA hSZ
    have c0 := bk_s H1.out.k HS.out.hh HS.out.hp.1
    by_cases h2 : chk x.s = 0
    · replace h2 := hidp h2
      go_wp2_with fail
      refine (vencode_own x.va x.vb x.v0 x.vc x.s _ (HS.out.v.below H1.out.bel) h2.out).mono ?_
      rintro e w2 ⟨⟨p2, b2, c2, rfl, _, hn2, hs2, _⟩, hb⟩
      have H2 := hidp (H1.out.below hb)
      replace P1 := hidp (And.intro (P1.out.1.below hb) P1.out.2)
      have P2 := hidp (And.intro hs2 hn2)
      have L2 := hidp (encB_le h2.out)
      clear hb hs2 hn2 H1 c0
      have hRA := bk_C H2.out.k HS.out.hh
      have hSZ := sz_C (x := x) HS.out.hp.1
      by_cases h3 : chkC x.n x.l = 0
      · replace h3 := hidp h3
        go_wp2_with (with_reducible refine (?_ : wpList _ _ _ _ _ _); refine wpList_load_mid rfl 82 _ rfl (w.heap.size) 131 rfl (x.c) _ hRA Tryz.underlying82 rfl hSZ ?_)
        refine (cencode_own x.n x.p HS.out.hp x.a x.tb x.t0 x.tc x.l _ (HS.out.t.below H2.out.bel) h3.out).mono ?_
        rintro e w3 ⟨⟨p3, b3, c3, rfl, _, hn3, hs3, _⟩, hb⟩
        have H3 := hidp (H2.out.bel.trans (hb.mono H2.out.bel.size))
        replace P1 := hidp (And.intro (P1.out.1.below hb) P1.out.2)
        replace P2 := hidp (And.intro (P2.out.1.below hb) P2.out.2)
        have P3 := hidp (And.intro hs3 hn3)
        have L3 := hidp (encC_le HS.out.hp.1 h3.out)
        have hE0 : prt x = 0 := by unfold prt; rw [if_neg (by rw [h1.out]; simp), if_neg (by rw [h2.out]; simp)]; exact h3.out
        have hE := hidp (show encKO x = ctB (encH x.h) ++ ctB (encC x.n x.p x.l) ++ ctB (encB x.s) by unfold encKO; rw [if_pos hE0]; rfl)
        have hP0 := hidp hE0
        clear hb hs3 hn3 H2 hRA hSZ hE0
        generalize encH x.h = Y1 at *
        generalize encB x.s = Y2 at *
        generalize encC x.n x.p x.l = Y3 at *
        have M1 := hidp (ctB_le L1.out)
        have M2 := hidp (ctB_le L2.out)
        have M3 := hidp (ctB_le L3.out)
        go_wp2_with fail
        refine (newWriter_mx w3).mono ?_
        rintro e w4 ⟨rfl, hw, hb⟩
        have B4 := hidp (H3.out.trans (hb.mono H3.out.size))
        have hg := hidp H3.out.size
        have hlt := hidp (And.intro (fun h : 0 < c1 => (P1.out.1.ptr h).2) (And.intro (fun h : 0 < c2 => (P2.out.1.ptr h).2) (fun h : 0 < c3 => (P3.out.1.ptr h).2)))
        replace P1 := hidp (And.intro (P1.out.1.below hb) P1.out.2)
        replace P2 := hidp (And.intro (P2.out.1.below hb) P2.out.2)
        replace P3 := hidp (And.intro (P3.out.1.below hb) P3.out.2)
        have W4 := hidp hw
        clear hw hb H3
        go_wp2_with fail
        refine (wBytes_n W4.out p1 b1 c1 Y1 P1.out.1 P1.out.2 hlt.out.1 (by have := M1.out; rw [List.length_nil]; omega)).mono ?_
        rintro e w5 ⟨rfl, v5, hw, hf⟩
        have b5 := hidp (hf.toBelow W4.out)
        replace P2 := hidp (And.intro (P2.out.1.lowN b5.out hlt.out.2.1) P2.out.2)
        replace P3 := hidp (And.intro (P3.out.1.lowN b5.out hlt.out.2.2) P3.out.2)
        have B5 := hidp (B4.out.trans (b5.out.mono hg.out))
        have W5 := hidp hw
        clear hw hf b5 B4 W4 P1
        go_wp2_with fail
        refine (wBytes_n W5.out p3 b3 c3 Y3 P3.out.1 P3.out.2 hlt.out.2.2 (by have := M1.out; have := M3.out; rw [List.nil_append]; omega)).mono ?_
        rintro e w6 ⟨rfl, v6, hw, hf⟩
        have b6 := hidp (hf.toBelow W5.out)
        replace P2 := hidp (And.intro (P2.out.1.lowN b6.out hlt.out.2.1) P2.out.2)
        have B6 := hidp (B5.out.trans (b6.out.mono hg.out))
        have W6 := hidp hw
        clear hw hf b6 B5 W5 P3
        go_wp2_with fail
        refine (wBytes_n W6.out p2 b2 c2 Y2 P2.out.1 P2.out.2 hlt.out.2.1 (by have := M1.out; have := M3.out; have := M2.out; rw [List.nil_append, List.length_append]; omega)).mono ?_
        rintro e w7 ⟨rfl, v7, hw, hf⟩
        have b7 := hidp (hf.toBelow W6.out)
        have B7 := hidp (B6.out.trans (b7.out.mono hg.out))
        have W7 := hidp hw
        clear hw hf b7 B6 W6 P2
        go_wp2_with fail
        refine (wDone_own W7.out).mono ?_
        rintro e w8 ⟨⟨q, pb, pc, rfl, g1, g2, g3, g4⟩, g5⟩
        have HB := hidp (B7.out.trans (g5.mono B7.out.size))
        have HZ := hidp B7.out.size
        have HP := hidp (And.intro g1 (And.intro g2 (And.intro g3 g4)))
        clear g1 g2 g3 g4 g5 B7 W7
        go_wp2_with fail
        refine bodyPost_ret (v := .tuple #[.slice q (([] ++ ctB Y1) ++ ctB Y3 ++ ctB Y2).length pc, .int .i64 0]) (by simp [results, Tryz.results53, go_sem]) rfl ?_
        unfold EKP
        rw [hP0.out, hE.out]
        exact ⟨⟨q, pb, pc, rfl, Nat.le_trans HZ.out HP.out.1, HP.out.2.1, HP.out.2.2.1, HP.out.2.2.2.lower HZ.out⟩, HB.out⟩
      · have hE := hidp (show prt x = chkC x.n x.l by unfold prt; rw [if_neg (by rw [h1.out]; simp), if_neg (by rw [h2.out]; simp)])
        have ht : (((chkC x.n x.l : Nat) : Int) != 0) = true := by rw [bne_iff_ne]; omega
        have HC := hidp (cencode_bad x.n x.p HS.out.hp.1 x.a x.tb x.t0 x.tc x.l _ (HS.out.t.below H2.out.bel) h3)
        replace h3 := hidp h3
        generalize chkC x.n x.l = n at *
        go_wp2_with (with_reducible refine (?_ : wpList _ _ _ _ _ _); refine wpList_load_mid rfl 82 _ rfl (w.heap.size) 131 rfl (x.c) _ hRA Tryz.underlying82 rfl hSZ ?_)
        refine HC.out.mono ?_
        rintro e w3 ⟨rfl, hb⟩
        have H3 := hidp (H2.out.bel.trans (hb.mono H2.out.bel.size))
        clear hb H2 hRA hSZ HC P1 P2
        go_wp2_with fail
        exact bodyPost_ret (v := .tuple #[.slice none 0 0, .int .i64 (n : Nat)]) (by simp [results, Tryz.results53, go_sem]) rfl (EKP.bad hE.out h3.out H3.out)
    · have hE := hidp (show prt x = chk x.s by unfold prt; rw [if_neg (by rw [h1.out]; simp), if_pos h2])
      have ht : (((chk x.s : Nat) : Int) != 0) = true := by rw [bne_iff_ne]; omega
      have HC := hidp (encode_bad x.va x.vb x.v0 x.vc x.s _ (HS.out.v.below H1.out.bel) h2)
      replace h2 := hidp h2
      generalize chk x.s = n at *
      go_wp2_with fail
      refine HC.out.mono ?_
      rintro e w2 ⟨rfl, hb⟩
      have H3 := hidp (H1.out.bel.trans (hb.mono H1.out.bel.size))
      clear hb H1 HC P1 c0
      go_wp2_with fail
      exact bodyPost_ret (v := .tuple #[.slice none 0 0, .int .i64 (n : Nat)]) (by simp [results, Tryz.results53, go_sem]) rfl (EKP.bad hE.out h2.out H3.out)
  · have hE := hidp (show prt x = chkH x.h by unfold prt; rw [if_pos h1])
    have ht : (((chkH x.h : Nat) : Int) != 0) = true := by rw [bne_iff_ne]; omega
    have HC := hidp (fun W => hencode_bad x.h hS.hh W h1)
    replace h1 := hidp h1
    clear hS
    generalize chkH x.h = n at *
    go_enter Tryz.func53, Tryz.ntmps53
    go_wp2_with (with_reducible refine (?_ : wpList _ _ _ _ _ _); refine wpList_load_mid rfl 79 _ rfl (w.heap.size) 0 rfl (hC x.h) _ hRA Tryz.underlying79 rfl hSZ ?_)
    refine (HC.out _).mono ?_
    rintro e w1 ⟨rfl, hb⟩
    have H3 := hidp (H0.out.bel.trans (hb.mono H0.out.bel.size))
    clear hb H0 HC hRA hSZ
    go_wp2_with fail
    exact bodyPost_ret (v := .tuple #[.slice none 0 0, .int .i64 (n : Nat)]) (by simp [results, Tryz.results53, go_sem]) rfl (EKP.bad hE.out h1.out H3.out)
end Go.Proofs.YtcmkmnidnapabaaGreat

/-! Bke: Block: Make. -/
namespace Go.Proofs.YtcmkmnidnapabaaGreat
open Go.RowKit Go.Lib
set_option linter.unusedSimpArgs false
set_option linter.unusedVariables false

theorem run_nil_nilV (w : World) : (binOp .eql 22 (.slice none 0 0) (.slice none 0 0)).run Tryz.prog w = .ok (.bool true) w := by kernel_rfl
theorem run_sl_nilV (a : Addr) (n c : Nat) (w : World) : (binOp .eql 22 (.slice (some a) n c) (.slice none 0 0)).run Tryz.prog w = .ok (.bool false) w := by
  have h : ∀ d : Nat, (Op.equalIn (d + 1) 22 (.slice (some a) n c) (.slice none 0 0)).run Tryz.prog w = .ok false w := fun d => by
    simp [Op.equalIn, run_underlying Tryz.underlying22]
  simp only [binOp]
  simp [Op.equal, Op.maxDepth, h 9999]
set_option maxRecDepth 20000 in
set_option maxHeartbeats 2000000 in
theorem vclone_any (p : Option Addr) (b o cap : Nat) (l : List Vd) (w : World) (h : Vs w p b o cap l) (hn : l.length ≤ 1000) :
    Calls Tryz.prog 126 #[.slice p l.length cap] w fun e w' => ∃ v, e = .returned v ∧ OwnV w' w.heap.size v l ∧ Below w.heap.size w w' := by
  cases p with
  | none =>
    have hc : cap = 0 := by
      rcases Nat.eq_zero_or_pos cap with h0 | h0
      · exact h0
      · have := (h.ptr h0).1; cases this
    have h2 := h.le
    have hL : l = [] := List.eq_nil_of_length_eq_zero (by omega)
    subst hc hL
    clear h hn h2
    have q := run_nil_nilV w
    go_enter Tryz.func126, Tryz.ntmps126
    go_wp2
    go_ret
    exact ⟨_, rfl, OwnV.nil _ _, Below.refl _ _⟩
  | some q =>
    have hB : Hid (Below w.heap.size w (w.alloc (.cells #[] 111))) := hidp ((Below.refl _ w).alloc (Nat.le_refl _) _)
    have HS := hidp (h.below hB.out)
    have hown := hidp (own_nothingV w)
    have HN := hidp hn
    have qn := fun w => run_sl_nilV q l.length cap w
    clear h hn
    go_enter Tryz.func126, Tryz.ntmps126
    go_wp2_with (at_builtin; refine wpList_append_vs rfl _ _ rfl w.heap.size 0 [] _ rfl hown.out (some q) b o cap l rfl HS.out (by have := HN.out; omega) (by simp) ?_; intro v' w1 hown' hgrow; have hO := hidp hown'; have hB1 := hidp (hB.out.grown hgrow (by simp) (fun j hj => (hown.out.lt j hj).1)); clear hown' hgrow)
    have hO2 := hO.out
    rw [Nat.zero_add, List.nil_append] at hO2
    go_ret
    exact ⟨_, rfl, hO2, hB1.out⟩
theorem struct_blk : Tryz.prog.underlying 84 = some (.struct (Tryz.prog.fieldsOf 84)) := by kernel_rfl
theorem places_blk : (Tryz.prog.fieldsOf 84).toList.mapM (fun f => (Tryz.prog.info? f.type).map fun i => (f.offset, i.size)) = some [(0, 131), (131, 34), (165, 1)] := by kernel_rfl
theorem built_blk (h : Hdr) (n : Int) (p : List Nat) (sv : Value) (va : Option Addr) (vk vc : Nat) (hh : HdrOk h) (hp : p.length = 32) : Tryz.prog.built 84 [(0, .agg (hC h).toArray), (1, .agg (cC n p sv).toArray), (2, .slice va vk vc)] = some (bD h n p sv (.slice va vk vc)).toArray := by
  have hi := zero_blk
  unfold Program.built
  cases hq : Tryz.prog.info? 84 with
  | none => rw [hq] at hi; simp at hi
  | some i =>
    rw [hq] at hi
    simp only [Option.map_some, Option.some.injEq, Prod.mk.injEq] at hi
    rw [struct_blk]
    simp only [hi.1, places_blk]
    have l1 := hC_len hh
    have l2 := cC_len (h := n) (sl := sv) hp
    have z1 := hC_len hdr0_ok
    have z2 := cC_len (h := 0) (sl := .slice none 0 0) (p := zh32) rfl
    show Instr.fill _ (bD hdr0 0 zh32 (.slice none 0 0) (.slice none 0 0)).toArray _ = _
    rw [fill_agg (off := 0) (by rw [l1]; rfl) (by rw [bD_len hdr0_ok zhl, l1]; omega)]
    have e1 := setsL_mid (hC h) [] (hC hdr0) (cC 0 zh32 (.slice none 0 0) ++ [.slice none 0 0]) (by rw [l1, z1])
    rw [show setsL (bD hdr0 0 zh32 (.slice none 0 0) (.slice none 0 0)) 0 (hC h) = bD h 0 zh32 (.slice none 0 0) (.slice none 0 0) from e1]
    rw [fill_agg (off := 131) (by rw [l2]; rfl) (by rw [bD_len hh zhl, l2]; omega)]
    have e2 := setsL_mid (cC n p sv) (hC h) (cC 0 zh32 (.slice none 0 0)) [.slice none 0 0] (by rw [l2, z2])
    rw [l1] at e2
    rw [show setsL (bD h 0 zh32 (.slice none 0 0) (.slice none 0 0)) 131 (cC n p sv) = bD h n p sv (.slice none 0 0) from e2]
    rw [fill_val rfl rfl (by rw [bD_len hh hp]; omega), set_S hh hp]
    rfl
theorem built_comM (h : Int) (p : List Nat) (hp : p.length = 32) : Tryz.prog.built 82 [(0, .int .i64 h), (1, .agg (bvs p).toArray)] = some (cC h p (.slice none 0 0)).toArray := by
  have hi := zero_com
  unfold Program.built
  cases hq : Tryz.prog.info? 82 with
  | none => rw [hq] at hi; simp at hi
  | some i =>
    rw [hq] at hi
    simp only [Option.map_some, Option.some.injEq, Prod.mk.injEq] at hi
    rw [struct_com]
    simp only [hi.1, places_com]
    have l1 : (bvs p).length = 32 := by rw [bvs_len, hp]
    have lz : (bvs zh32).length = 32 := rfl
    show Instr.fill _ (cC 0 zh32 (.slice none 0 0)).toArray _ = _
    rw [fill_val rfl rfl (by rw [cC_len rfl]; omega), show (cC 0 zh32 (.slice none 0 0)).set 0 (.int .i64 h) = cC h zh32 (.slice none 0 0) from rfl]
    rw [fill_agg (off := 1) (by rw [l1]; rfl) (by rw [cC_len rfl, l1]; omega)]
    have e := setsL_mid (bvs p) [.int .i64 h] (bvs zh32) [.slice none 0 0] (by rw [l1, lz])
    rw [show setsL (cC h zh32 (.slice none 0 0)) 1 (bvs p) = cC h p (.slice none 0 0) from e]
    rfl
/-- A header with another set. -/
def setV (h : Hdr) (v : List Nat) : Hdr := { h with v := v }
theorem setV_ok {h : Hdr} {v : List Nat} (hh : HdrOk h) (hv : Bytes 32 v) : HdrOk (setV h v) := ⟨hh.h, hh.t, hh.p, hv, hh.n, hh.a⟩
theorem splice_V {h : Hdr} {v : List Nat} (hh : HdrOk h) (hv : v.length = 32) : splice (hC h) 35 (bvs v) = hC (setV h v) := by
  have l1 : (bvs h.p).length = 32 := by rw [bvs_len, hh.p.1]
  have l2 : (bvs h.v).length = 32 := by rw [bvs_len, hh.v.1]
  have l3 : (bvs v).length = 32 := by rw [bvs_len, hv]
  have e : hC h = (.string h.s :: .int .i64 h.h :: .int .i64 h.t :: bvs h.p) ++ (bvs h.v ++ (bvs h.n ++ bvs h.a)) := by unfold hC; simp
  have e2 : hC (setV h v) = (.string h.s :: .int .i64 h.h :: .int .i64 h.t :: bvs h.p) ++ (bvs v ++ (bvs h.n ++ bvs h.a)) := by unfold hC setV; simp
  have lA : (Value.string h.s :: Value.int .i64 h.h :: Value.int .i64 h.t :: bvs h.p).length = 35 := by simp [l1]
  rw [e, e2]
  generalize (Value.string h.s :: Value.int .i64 h.h :: Value.int .i64 h.t :: bvs h.p) = A at *
  unfold splice
  rw [List.take_append_of_le_length (by omega), List.take_of_length_le (by omega), l3, List.drop_append, List.drop_eq_nil_of_le (by omega), List.nil_append, lA, List.drop_append, List.drop_eq_nil_of_le (by omega), List.nil_append, l2]
  rfl
theorem bytesL_ltM (h : List Nat) : ∀ x ∈ bytesL h, x < 256 := by
  intro x hx
  simp only [bytesL, List.mem_map] at hx
  obtain ⟨i, _, rfl⟩ := hx
  exact Nat.mod_lt _ (by decide)
theorem hashL_b (b : List Nat) : Bytes 32 (hashL b) := ⟨hashL_len b, bytesL_ltM _⟩
theorem hashV_bytes {l : List Vd} : Bytes 32 (hashV l) := ⟨hashV_len l, fun x hx => by
  unfold hashV at hx
  split at hx
  · exact (hashL_b _).2 x hx
  · exact z32_bytes.2 x hx⟩
theorem hashO_bytes {h : Hdr} : Bytes 32 (hashO h) := ⟨hashO_len h, fun x hx => by
  unfold hashO at hx
  split at hx
  · exact (hashL_b _).2 x hx
  · exact z32_bytes.2 x hx⟩
/-- What Make tells: why none, or the block. -/
def mkE (h : Hdr) (s : List Vd) : Nat := if chk s ≠ 0 then chk s else chkH (setV h (hashV s))
theorem chkH_setV (h : Hdr) (v : List Nat) : chkH (setV h v) = chkH h := rfl
structure MkB (w W : World) (h : Hdr) : Prop where
  k : Blk W w.heap.size (hC h) 79
  r : Blk W (w.heap.size + 1) (bD hdr0 0 zh32 (.slice none 0 0) (.slice none 0 0)) 84
  bel : Below w.heap.size w W
theorem MkB.below {w W W' : World} {h : Hdr} (H : MkB w W h) (hb : Below W.heap.size W W') : MkB w W' h := ⟨hb.blk' H.k, hb.blk' H.r, H.bel.trans (hb.mono H.bel.size)⟩
structure MkC (w W : World) (h : Hdr) (g : Nat) (X : List Nat) : Prop where
  b : MkB w W h
  x : Blk W g (bvs X) 39
theorem MkC.below {w W W' : World} {h : Hdr} {g : Nat} {X : List Nat} (H : MkC w W h g X) (hb : Below W.heap.size W W') : MkC w W' h g X := ⟨H.b.below hb, hb.blk' H.x⟩
def MkP (w : World) (h : Hdr) (s : List Vd) (e : Ending) (w' : World) : Prop :=
  (mkE h s ≠ 0 ∧ e = .returned (.tuple #[.agg (bD hdr0 0 zh32 (.slice none 0 0) (.slice none 0 0)).toArray, .int .i64 (mkE h s : Nat)]) ∨
    mkE h s = 0 ∧ ∃ y : Bd, e = .returned (.tuple #[.agg (bC y).toArray, .int .i64 0]) ∧ y.h = setV h (hashV s) ∧ y.n = h.h ∧ y.p = hashO (setV h (hashV s)) ∧ y.l = [] ∧ y.a = none ∧ y.tc = 0 ∧ y.s = s ∧ BdS w' y ∧ OwnBk w.heap.size w' y) ∧ Below w.heap.size w w'
theorem mk_store {w1 w2 : World} {g : Nat} {h : Hdr} {v : List Nat} {T : TypeId} (hh : HdrOk h) (hv : v.length = 32) (hw : Hid (Blk w2 g (splice (hC h) 35 (bvs v)) T ∧ But g w1 w2)) : Blk w2 g (hC (setV h v)) T ∧ But g w1 w2 := by
  have q := hw.out
  rw [splice_V hh hv] at q
  exact q
set_option maxRecDepth 100000 in
set_option maxHeartbeats 8000000 in
theorem make_any (h : Hdr) (a : Option Addr) (b o cap : Nat) (s : List Vd) (w : World) (hh : HdrOk h) (hV : Vs w a b o cap s) (hs : s.length ≤ 1000) : Calls Tryz.prog 59 #[.agg (hC h).toArray, .slice a s.length cap] w (MkP w h s) := by
  have hzz : ∀ w, (zeroValue 84).run Tryz.prog w = .ok (.agg (bD hdr0 0 zh32 (.slice none 0 0) (.slice none 0 0)).toArray) w := (zero_of_info (P := Tryz.prog) zero_blk).1
  have hz : ∀ w, (zeroValue 39).run Tryz.prog w = .ok (.agg (bvs z32).toArray) w := (zero_of_info (P := Tryz.prog) zero_hash).1
  have h1z := hidp (bD_one (h := hdr0) (n := 0) (p := zh32) (a := none) (k := 0) (c := 0) (va := none) (vk := 0) (vc := 0))
  have H0 : Hid (MkB w ((w.alloc (.cells (hC h).toArray 79)).alloc (.cells (bD hdr0 0 zh32 (.slice none 0 0) (.slice none 0 0)).toArray 84)) h) := hidp ⟨(Blk.new w (hC h) _).alloc _, Blk.new' _ _ _ _ (by simp), ((Below.refl _ w).alloc (Nat.le_refl _) _).alloc (by simp) _⟩
  have HS := hidp (And.intro hh (And.intro hV hs))
  have hHl := hidp (hashV_len s)
  have hHb := hidp (hashV_bytes (l := s))
  obtain ⟨X, hX⟩ : ∃ X, X = hashV s := ⟨_, rfl⟩
  have hXX := hidp hX
  have HC := hidp (fun W (hW : Below w.heap.size w W) => vhashO a b o cap s W (hV.below hW))
  rw [← hX] at HC hHl hHb
  clear hX hV hh hs
  go_enter Tryz.func59, Tryz.ntmps59
  go_wp2_with fail
  refine (HC.out _ H0.out.bel).mono ?_
  rintro e w1 ⟨rfl, hb⟩
  have H1 := hidp (H0.out.below hb)
  clear hb HC H0
  have hq := hidp (fun (W : World) (hW : Below w1.heap.size w1 W) => (H1.out.below hW))
  by_cases hc : chk s = 0
  · rw [hc]
    replace hc := hidp hc
    have hst := hidp (fun (W1 W2 : World) (hw : Hid (Blk W2 w.heap.size (splice (hC h) 35 (bvs X)) 79 ∧ But w.heap.size W1 W2)) => mk_store HS.out.1 hHl.out hw)
    have hhl := hidp (hC_len HS.out.1)
    have hhl2 := hidp (hC_len (setV_ok HS.out.1 hHb.out))
    have hlX := hidp (show ∀ v ∈ bvs X, v.oneCell' = true from bvs_oneL X)
    go_wp2_with first
      | (with_reducible refine (?_ : wpList _ _ _ _ _ _); refine wpList_store_blk rfl 39 _ _ rfl w1.heap.size (bvs X) (bvs z32) 39 rfl rfl (Blk.new w1 (bvs z32) _) (by rw [bvs_len, hHl.out]; kernel_rfl) (by simp [bvs_len, hHl.out, z32]) (bvs_one _) ?_; intro t1 ht1; have L1 := hidp (lay_hash ht1.out); clear ht1; have L2 := hidp L1.out.1; have L3 := hq.out t1 L2.out; have L4 := hidp L3.k; have L5 := hidp L1.out.2; have L6 := hidp L3; clear L3)
      | (with_reducible refine (?_ : wpList _ _ _ _ _ _); refine wpList_load_midD 18 rfl (by kernel_rfl) 39 _ rfl w1.heap.size 0 rfl (bvs X) _ (rng0 L5.out) Tryz.underlying39 rfl (sz_S hHl.out) ?_)
      | (with_reducible refine (?_ : wpList _ _ _ _ _ _); refine wpList_store_part rfl 39 _ _ rfl w.heap.size 35 (bvs X) (hC h) 79 rfl rfl L4.out (sz_S hHl.out) (by rw [bvs_len, hHl.out, hhl.out]; decide) hlX.out rfl ?_; intro t2 ht2; obtain ⟨k2, b2⟩ := hst.out t1 t2 ht2; clear ht2; replace k2 := hidp k2; replace b2 := hidp b2)
      | (with_reducible refine (?_ : wpList _ _ _ _ _ _); refine wpList_load_midD 21 rfl (by kernel_rfl) 79 _ rfl w.heap.size 0 rfl (hC (setV h X)) _ (rng0 k2.out) Tryz.underlying79 rfl (by rw [hhl2.out]; kernel_rfl) ?_)
    refine (hhash_any (setV h X) (setV_ok HS.out.1 hHb.out) _).mono ?_
    rintro e w3 ⟨rfl, hb⟩
    have M3 := hidp (show MkB w w3 (setV h X) from MkB.below ⟨k2.out, b2.out.blk L6.out.r (by omega), L6.out.bel.trans (b2.out.below (Nat.le_refl _))⟩ hb)
    clear hb k2 b2 L1 L2 L4 L5 L6 H1 hq hst
    have hq := hidp (fun (W : World) (hW : Below w3.heap.size w3 W) => (M3.out.below hW))
    have hHo := hidp (hashO_len (setV h X))
    have hHob := hidp (hashO_bytes (h := setV h X))
    obtain ⟨Y, hY⟩ : ∃ Y, Y = hashO (setV h X) := ⟨_, rfl⟩
    rw [← hY] at hHo hHob ⊢
    replace hY := hidp hY
    by_cases hm : chkH (setV h X) = 0
    · have hE := hidp (show mkE h s = 0 by unfold mkE; rw [if_neg (by rw [hc.out]; simp), ← hXX.out]; exact hm)
      rw [hm]
      clear hm
      have hbc := built_comM (setV h X).h Y hHo.out
      have hne := hidp (show w3.heap.size ≠ w.heap.size + 1 by have := M3.out.r.lt; omega)
      go_wp2_with (with_reducible refine (?_ : wpList _ _ _ _ _ _); refine wpList_store_blk rfl 39 _ _ rfl w3.heap.size (bvs Y) (bvs z32) 39 rfl rfl (Blk.new w3 (bvs z32) _) (by rw [bvs_len, hHo.out]; kernel_rfl) (by simp [bvs_len, hHo.out, z32]) (bvs_one _) ?_; intro t3 ht3; have L1 := hidp (lay_hash ht3.out); clear ht3; have L2 := hidp L1.out.1; have L3 := hidp (hq.out t3 L2.out); have L5 := hidp L1.out.2)
      have hT := hidp (MkC.below ⟨L3.out, L5.out⟩ (Below.refl _ t3).drew)
      clear L1 L2 L3 L5 M3 hq
      refine wp_region_held_drew (S := fun W => Blk W w.heap.size (hC (setV h X)) 79 ∧ Blk W w3.heap.size (bvs Y) 39) (by kernel_rfl) ⟨hT.out.b.k, hT.out.x⟩ (fun hHeld => ?_)
      try simp only [Act.put, List.setIfInBounds_toArray, List.set_cons_zero, List.set_cons_succ]
      refine wpAnyH_takeTo2 (i := 0) (oi := _) (v := .agg (hC (setV h X)).toArray) (some 29) rfl rfl (by kernel_rfl) (by kernel_rfl) (by kernel_rfl) (fun _ _ _ h => h) (yieldsIf_load_mid (by rfl) 79 _ rfl (w.heap.size) 0 rfl (hC (setV h X)) _ (fun w' hw' => rng0 hw'.1) Tryz.underlying79 rfl (by rw [hhl2.out]; kernel_rfl)) hHeld ?_
      try simp only [Act.put, List.setIfInBounds_toArray, List.set_cons_zero, List.set_cons_succ]
      refine wpAnyH_takeTo2 (i := 1) (oi := _) (v := ?_) (some 30) rfl rfl (by kernel_rfl) (by kernel_rfl) (by kernel_rfl) (fun _ _ _ h => h) (Or.inl ⟨by rfl, ?_⟩) hHeld ?_
      rotate_left
      · intro w' hSw
        go_simp
        try with_reducible rfl
      try simp only [Act.put, List.setIfInBounds_toArray, List.set_cons_zero, List.set_cons_succ]
      refine wpAnyH_takeTo2 (i := 2) (oi := _) (v := ?_) (some 31) rfl rfl (by kernel_rfl) (by kernel_rfl) (by kernel_rfl) (fun _ _ _ h => h) (Or.inl ⟨by rfl, ?_⟩) hHeld ?_
      rotate_left
      · intro w' hSw
        have q := hSw.1.cell 1
        rw [hC_1] at q
        go_simp
        try with_reducible rfl
      try simp only [Act.put, List.setIfInBounds_toArray, List.set_cons_zero, List.set_cons_succ]
      refine wpAnyH_takeTo2 (i := 3) (oi := _) (v := .agg (bvs Y).toArray) (some 32) rfl rfl (by kernel_rfl) (by kernel_rfl) (by kernel_rfl) (fun _ _ _ h => h) (yieldsIf_load_mid (by rfl) 39 _ rfl (w3.heap.size) 0 rfl (bvs Y) _ (fun w' hw' => rng0 hw'.2) Tryz.underlying39 rfl (sz_S hHo.out)) hHeld ?_
      try simp only [Act.put, List.setIfInBounds_toArray, List.set_cons_zero, List.set_cons_succ]
      refine wpAnyH_takeTo2 (i := 4) (oi := _) (v := .agg (cC (setV h X).h Y (.slice none 0 0)).toArray) (some 33) rfl rfl (by kernel_rfl) (by kernel_rfl) (by kernel_rfl) (fun _ _ _ h => h) (yieldsIf_build (by rfl) 82 _ rfl (cC (setV h X).h Y (.slice none 0 0)).toArray (Eq.trans (by kernel_rfl) hbc)) hHeld ?_
      try simp only [Act.put, List.setIfInBounds_toArray, List.set_cons_zero, List.set_cons_succ]
      refine wpAnyH_takeTo2 (i := 5) (oi := _) (v := ?_) (some 34) rfl rfl (by kernel_rfl) (by kernel_rfl) (by kernel_rfl) (fun _ _ _ h => h) (Or.inl ⟨by rfl, ?_⟩) hHeld ?_
      rotate_left
      · intro w' hSw
        go_simp
        try with_reducible rfl
      try simp only [Act.put, List.setIfInBounds_toArray, List.set_cons_zero, List.set_cons_succ]
      refine wpAnyH_ready (rs := [6]) (by kernel_rfl) (by simp) ?_
      refine AllReadyH.cons (o := _) rfl (fun K hK => ?_) AllReadyH.nil
      go_simp
      refine (vclone_any a b o cap s _ (HS.out.2.1.below hT.out.b.bel) HS.out.2.2).mono ?_
      rintro e wN ⟨v, rfl, hv, hN⟩
      obtain ⟨p, g, c, rfl, _, _⟩ := hv.vs HS.out.2.1.ok
      have OV := hidp (hv.mono hT.out.b.bel.size)
      replace hT := hidp (hT.out.below hN)
      clear hv hN
      go_wp2_with fail
      refine hK.out _ _ ⟨hT.out.b.k, hT.out.x⟩ (fun hHeld' => ?_)
      clear hK K hHeld
      have hHeld := hHeld'
      clear hHeld'
      try simp only [Act.put, List.setIfInBounds_toArray, List.set_cons_zero, List.set_cons_succ]
      have hbb := built_blk (setV h X) (setV h X).h Y (.slice none 0 0) p s.length c (setV_ok HS.out.1 hHb.out) hHo.out
      refine wpAnyH_takeTo2 (i := 7) (oi := _) (v := .agg (bD (setV h X) (setV h X).h Y (.slice none 0 0) (.slice p s.length c)).toArray) (some 36) rfl rfl (by kernel_rfl) (by kernel_rfl) (by kernel_rfl) (fun _ _ _ h => h) (yieldsIf_build (by rfl) 84 _ rfl (bD (setV h X) (setV h X).h Y (.slice none 0 0) (.slice p s.length c)).toArray (Eq.trans (by kernel_rfl) hbb)) hHeld ?_
      try simp only [Act.put, List.setIfInBounds_toArray, List.set_cons_zero, List.set_cons_succ]
      have hlB := hidp (bD_len (n := (setV h X).h) (p := Y) (sv := .slice none 0 0) (sw := .slice p s.length c) (setV_ok HS.out.1 hHb.out) hHo.out)
      have hoB := hidp (bD_one (h := setV h X) (n := (setV h X).h) (p := Y) (a := none) (k := 0) (c := 0) (va := p) (vk := s.length) (vc := c))
      have hl0 := hidp (bD_len (n := 0) (sv := .slice none 0 0) (sw := .slice none 0 0) hdr0_ok zhl)
      refine wpAnyH_ready (rs := [8]) (by kernel_rfl) (by simp) ?_
      refine AllReadyH.cons (o := _) rfl (fun K hK => ?_) AllReadyH.nil
      refine if_intro (by rfl) ?_
      refine wp_store_row 84 _ _ rfl (w.heap.size + 1) (bD (setV h X) (setV h X).h Y (.slice none 0 0) (.slice p s.length c)).toArray rfl rfl 84 (bD hdr0 0 zh32 (.slice none 0 0) (.slice none 0 0)).toArray hT.out.b.r (by rw [List.size_toArray, hlB.out]; kernel_rfl) (by rw [List.size_toArray, List.size_toArray, hlB.out, hl0.out]) hoB.out ?_
      obtain ⟨w8, hw8⟩ : ∃ W, W = wN.setRow (w.heap.size + 1) (bD (setV h X) (setV h X).h Y (.slice none 0 0) (.slice p s.length c)).toArray := ⟨_, rfl⟩
      have bt := hidp (show But (w.heap.size + 1) wN w8 by rw [hw8]; exact (But.refl _ _).setRow _)
      have R8 := hidp (show Blk w8 (w.heap.size + 1) (bD (setV h X) (setV h X).h Y (.slice none 0 0) (.slice p s.length c)) 84 by rw [hw8]; exact hT.out.b.r.row)
      rw [← hw8]
      clear hw8
      have S8 := hidp (show Blk w8 w.heap.size (hC (setV h X)) 79 ∧ Blk w8 w3.heap.size (bvs Y) 39 from ⟨bt.out.blk hT.out.b.k (by omega), bt.out.blk hT.out.x (fun e => hne.out (by omega))⟩)
      refine hK.out _ _ S8.out (fun hHeld' => ?_)
      clear hK K hHeld
      have hHeld := hHeld'
      clear hHeld'
      try simp only [Act.put, List.setIfInBounds_toArray, List.set_cons_zero, List.set_cons_succ]
      refine wpAnyH_takeTo2 (i := 9) (oi := _) (v := ?_) (some 5) rfl rfl (by kernel_rfl) (by kernel_rfl) (by kernel_rfl) (fun _ _ _ h => h) (Or.inl ⟨by rfl, ?_⟩) hHeld ?_
      rotate_left
      · intro w' hSw
        go_simp
        try with_reducible rfl
      try simp only [Act.put, List.setIfInBounds_toArray, List.set_cons_zero, List.set_cons_succ]
      refine wpAnyH_done (by kernel_rfl) ?_ _
      clear hHeld
      have OV8 := hidp (OV.out.butK bt.out (OV.out.neK hT.out.b.r))
      have hB8 := hidp (hT.out.b.bel.trans (bt.out.below (by omega)))
      obtain ⟨p', g', c', e', _, hv8⟩ := OV8.out.vs HS.out.2.1.ok
      cases e'
      go_wp2
      refine bodyPost_ret (v := .tuple #[.agg (bD (setV h X) (setV h X).h Y (.slice none 0 0) (.slice p s.length c)).toArray, .int .i64 0]) ?_ rfl ⟨.inr ⟨hE.out, ⟨setV h X, (setV h X).h, Y, none, 0, 0, 0, [], p, g', 0, c, s⟩, rfl, by rw [hXX.out], rfl, by rw [hY.out, hXX.out], rfl, rfl, rfl, rfl, ⟨setV_ok HS.out.1 hHb.out, HS.out.1.h, hHob.out, Ts.nil _ _ _, hv8⟩, ⟨OwnT.nil _ _, OV8.out⟩⟩, hB8.out⟩
      exact results_row2 Tryz.results59 _ _ (w.heap.size + 1) 84 _ _ rfl R8.out Tryz.underlying84 rfl (by rw [hlB.out]; kernel_rfl)
    · have hE := hidp (show mkE h s = chkH (setV h X) by unfold mkE; rw [if_neg (by rw [hc.out]; simp), ← hXX.out])
      have hn0 := hidp hm
      have ht : (((chkH (setV h X) : Nat) : Int) != 0) = true := by rw [bne_iff_ne]; omega
      generalize chkH (setV h X) = n at *
      clear hm
      go_wp2_with first
        | (with_reducible refine (?_ : wpList _ _ _ _ _ _); refine wpList_store_blk rfl 39 _ _ rfl w3.heap.size (bvs Y) (bvs z32) 39 rfl rfl (Blk.new w3 (bvs z32) _) (by rw [bvs_len, hHo.out]; kernel_rfl) (by simp [bvs_len, hHo.out, z32]) (bvs_one _) ?_; intro t3 ht3; have L1 := hidp (lay_hash ht3.out); clear ht3; have L2 := hidp L1.out.1; have L3 := hq.out t3 L2.out; have L4 := L3.r)
        | (with_reducible refine (?_ : wpList _ _ _ _ _ _); refine wpList_buildG (by kernel_rfl) 84 _ rfl (bD hdr0 0 zh32 (.slice none 0 0) (.slice none 0 0)).toArray (by kernel_rfl) ?_)
        | (with_reducible refine (?_ : wpList _ _ _ _ _ _); refine wpList_store_blk rfl 84 _ _ rfl (w.heap.size + 1) (bD hdr0 0 zh32 (.slice none 0 0) (.slice none 0 0)) (bD hdr0 0 zh32 (.slice none 0 0) (.slice none 0 0)) 84 rfl rfl L4 (by kernel_rfl) rfl h1z.out ?_; intro w6 hw6)
      have b2 : Blk w6 (w.heap.size + 1) (bD hdr0 0 zh32 (.slice none 0 0) (.slice none 0 0)) 84 := by rw [hw6.out]; exact (L4).row
      have hB6 : Below w.heap.size w w6 := by rw [hw6.out]; exact (L3.bel).trans (((But.refl (w.heap.size + 1) _).setRow _).below (by omega))
      refine bodyPost_ret (v := .tuple #[.agg (bD hdr0 0 zh32 (.slice none 0 0) (.slice none 0 0)).toArray, .int .i64 (n : Nat)]) ?_ rfl ⟨.inl ⟨by rw [hE.out]; exact hn0.out, by rw [hE.out]⟩, hB6⟩
      exact results_row2 Tryz.results59 _ _ (w.heap.size + 1) 84 _ _ rfl b2 Tryz.underlying84 rfl (by kernel_rfl)
  · have hE := hidp (show mkE h s = chk s by unfold mkE; rw [if_pos hc])
    have hn0 := hidp hc
    have ht : (((chk s : Nat) : Int) != 0) = true := by rw [bne_iff_ne]; omega
    generalize chk s = n at *
    clear hc
    go_wp2_with first
      | (with_reducible refine (?_ : wpList _ _ _ _ _ _); refine wpList_store_blk rfl 39 _ _ rfl w1.heap.size (bvs X) (bvs z32) 39 rfl rfl (Blk.new w1 (bvs z32) _) (by rw [bvs_len, hHl.out]; kernel_rfl) (by simp [bvs_len, hHl.out, z32]) (bvs_one _) ?_; intro t1 ht1; have L1 := hidp (lay_hash ht1.out); clear ht1; have L2 := hidp L1.out.1; have L3 := hq.out t1 L2.out; have L4 := L3.r)
      | (with_reducible refine (?_ : wpList _ _ _ _ _ _); refine wpList_buildG (by kernel_rfl) 84 _ rfl (bD hdr0 0 zh32 (.slice none 0 0) (.slice none 0 0)).toArray (by kernel_rfl) ?_)
      | (with_reducible refine (?_ : wpList _ _ _ _ _ _); refine wpList_store_blk rfl 84 _ _ rfl (w.heap.size + 1) (bD hdr0 0 zh32 (.slice none 0 0) (.slice none 0 0)) (bD hdr0 0 zh32 (.slice none 0 0) (.slice none 0 0)) 84 rfl rfl L4 (by kernel_rfl) rfl h1z.out ?_; intro w6 hw6)
    have b2 : Blk w6 (w.heap.size + 1) (bD hdr0 0 zh32 (.slice none 0 0) (.slice none 0 0)) 84 := by rw [hw6.out]; exact (L4).row
    have hB6 : Below w.heap.size w w6 := by rw [hw6.out]; exact (L3.bel).trans (((But.refl (w.heap.size + 1) _).setRow _).below (by omega))
    refine bodyPost_ret (v := .tuple #[.agg (bD hdr0 0 zh32 (.slice none 0 0) (.slice none 0 0)).toArray, .int .i64 (n : Nat)]) ?_ rfl ⟨.inl ⟨by rw [hE.out]; exact hn0.out, by rw [hE.out]⟩, hB6⟩
    exact results_row2 Tryz.results59 _ _ (w.heap.size + 1) 84 _ _ rfl b2 Tryz.underlying84 rfl (by kernel_rfl)
end Go.Proofs.YtcmkmnidnapabaaGreat
