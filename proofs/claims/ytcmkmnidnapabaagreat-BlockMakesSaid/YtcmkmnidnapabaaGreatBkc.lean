/-
  Block: LongBlock, Hash, CopyBlock, SameBlock.
-/
import Derived.Test.YtcmkmnidnapabaaGreatBka
import Derived.Test.YtcmkmnidnapabaaGreatL7y
import Derived.Test.YtcmkmnidnapabaaGreatCV
import Derived.Test.YtcmkmnidnapabaaGreatTC
import Derived.Test.YtcmkmnidnapabaaGreatLB
namespace Go.Proofs.YtcmkmnidnapabaaGreat
open Go.RowKit Go.Lib
set_option linter.unusedSimpArgs false
set_option linter.unusedVariables false

/-- Which blocks are long. -/
def lngB (x : Bd) : Bool := decide ((70 : Int) < ((x.s.length : Nat) : Int)) || (decide ((70 : Int) < ((x.l.length : Nat) : Int)) || decide ((60 : Int) < ((x.h.s.size : Nat) : Int)))
/-- Other votes, other validators. -/
def Bd.lay (x : Bd) (a : Option Addr) (tb t0 tc : Nat) (l : List Vt) (va : Option Addr) (vb v0 vc : Nat) (s : List Vd) : Bd := ⟨x.h, x.n, x.p, a, tb, t0, tc, l, va, vb, v0, vc, s⟩
def bD (h : Hdr) (n : Int) (p : List Nat) (sv sw : Value) : List Value := hC h ++ (cC n p sv ++ [sw])
theorem bD_eq (x : Bd) : bC x = bD x.h x.n x.p (.slice x.a x.l.length x.tc) (.slice x.va x.s.length x.vc) := rfl
theorem splice_C {h : Hdr} {n n' : Int} {p p' : List Nat} {sv sv' sw : Value} (hh : HdrOk h) (hp : p.length = 32) (hp' : p'.length = 32) : splice (bD h n p sv sw) 131 (cC n' p' sv') = bD h n' p' sv' sw := by
  have e1 := hC_len hh
  have e2 := cC_len (h := n) (sl := sv) hp
  have e3 := cC_len (h := n') (sl := sv') hp'
  unfold splice bD
  rw [List.take_append_of_le_length (by omega), List.take_of_length_le (by omega), e3, List.drop_append, List.drop_eq_nil_of_le (by omega), List.nil_append, e1, List.drop_append, List.drop_eq_nil_of_le (by omega), List.nil_append, e2]
  rfl
theorem set_S {h : Hdr} {n : Int} {p : List Nat} {sv sw sw' : Value} (hh : HdrOk h) (hp : p.length = 32) : (bD h n p sv sw).set 165 sw' = bD h n p sv sw' := by
  have e1 := hC_len hh
  have e2 := cC_len (h := n) (sl := sv) hp
  unfold bD
  rw [List.set_append_right _ _ (by omega), e1, List.set_append_right _ _ (by omega), e2]
  rfl
theorem bD_len {h : Hdr} {n : Int} {p : List Nat} {sv sw : Value} (hh : HdrOk h) (hp : p.length = 32) : (bD h n p sv sw).length = 166 := by
  unfold bD
  rw [List.length_append, List.length_append, hC_len hh, cC_len hp]
  rfl
theorem bD_s {h : Hdr} {n : Int} {p : List Nat} {sv sw : Value} (hh : HdrOk h) (hp : p.length = 32) : (bD h n p sv sw)[165]? = some sw := by
  have hl := hC_len hh
  have hc := cC_len (h := n) (sl := sv) hp
  unfold bD
  rw [List.getElem?_append_right (by omega), hl, List.getElem?_append_right (by omega), hc]
  rfl
theorem bD_one {h : Hdr} {n : Int} {p : List Nat} {a : Option Addr} {k c : Nat} {va : Option Addr} {vk vc : Nat} : (bD h n p (.slice a k c) (.slice va vk vc)).toArray.all (·.oneCell') = true := by
  rw [List.all_toArray, List.all_eq_true]
  intro y hy
  have h1 := hC_one h
  have h2 := cC_one n p a k c
  rw [List.all_toArray, List.all_eq_true] at h1 h2
  unfold bD at hy
  rcases List.mem_append.1 hy with hy | hy
  · exact h1 y hy
  rcases List.mem_append.1 hy with hy | hy
  · exact h2 y hy
  · rw [List.mem_singleton.1 hy]; rfl
def hd0 : Hdr := hdr0
theorem zero_blk : (Tryz.prog.info? 84).map (fun i => (i.zero, i.size)) = some (some (.agg (bD hdr0 0 zh32 (.slice none 0 0) (.slice none 0 0)).toArray), 166) := by kernel_rfl
theorem zhl : zh32.length = 32 := rfl
/-- A copy under way: the argument's box, the result's. -/
structure CpB (w W : World) (A : List Value) : Prop where
  k : Blk W w.heap.size A 84
  r : Blk W (w.heap.size + 1) (bD hdr0 0 zh32 (.slice none 0 0) (.slice none 0 0)) 84
  bel : Below w.heap.size w W
theorem CpB.below {w W W' : World} {A : List Value} (H : CpB w W A) (hb : Below W.heap.size W W') : CpB w W' A := ⟨hb.blk' H.k, hb.blk' H.r, H.bel.trans (hb.mono H.bel.size)⟩
/-- A block of one's own: its votes and validators lie in rows of one's own. -/
structure OwnBk (B : Nat) (W : World) (x : Bd) : Prop where
  t : OwnT W B (.slice x.a x.l.length x.tc) x.l
  v : OwnV W B (.slice x.va x.s.length x.vc) x.s
theorem OwnBk.below {B : Nat} {W W' : World} {x : Bd} (h : OwnBk B W x) (hb : Below W.heap.size W W') : OwnBk B W' x := ⟨h.t.below hb, h.v.below hb⟩
theorem OwnT.mono {W : World} {B C : Nat} {v : Value} {l : List Vt} (h : OwnT W B v l) (hc : C ≤ B) : OwnT W C v l := by
  refine ⟨h.1, ?_⟩
  rcases h.2 with h2 | ⟨g, cap, cur, h1, h2, r⟩
  · exact .inl h2
  · exact .inr ⟨g, cap, cur, h1, Nat.le_trans hc h2, r⟩
theorem OwnV.mono {W : World} {B C : Nat} {v : Value} {l : List Vd} (h : OwnV W B v l) (hc : C ≤ B) : OwnV W C v l := by
  refine ⟨h.1, ?_⟩
  rcases h.2 with h2 | ⟨g, cap, cur, h1, h2, r⟩
  · exact .inl h2
  · exact .inr ⟨g, cap, cur, h1, Nat.le_trans hc h2, r⟩
def CpP (w : World) (x : Bd) (e : Ending) (w' : World) : Prop := (∃ y : Bd, e = .returned (.agg (bC y).toArray) ∧ y.h = x.h ∧ y.n = x.n ∧ y.p = x.p ∧ y.l = x.l ∧ y.s = x.s ∧ BdS w' y ∧ OwnBk w.heap.size w' y) ∧ Below w.heap.size w w'
theorem OwnT.neB {W : World} {B b : Nat} {v : Value} {l : List Vt} {cs : List Value} (h : OwnT W B v l) (hb : Blk W b cs 84) : v.ownBlock ≠ some b := by
  intro e
  rcases h.2 with ⟨h1, _⟩ | ⟨g, cap, cur, h1, h2, h3, _⟩
  · rw [h1] at e; cases e
  · rw [h1] at e
    simp only [Value.ownBlock, Option.some.injEq] at e
    subst e
    rw [show W.heap[g]? = _ from hb] at h3
    cases h3
theorem OwnV.neK {W : World} {B b : Nat} {v : Value} {l : List Vd} {cs : List Value} (h : OwnV W B v l) (hb : Blk W b cs 84) : v.ownBlock ≠ some b := by
  intro e
  rcases h.2 with ⟨h1, _⟩ | ⟨g, cap, cur, h1, h2, h3, _⟩
  · rw [h1] at e; cases e
  · rw [h1] at e
    simp only [Value.ownBlock, Option.some.injEq] at e
    subst e
    rw [show W.heap[g]? = _ from hb] at h3
    cases h3
theorem OwnT.butK {w w' : World} {B g : Nat} {v : Value} {l : List Vt} (h : OwnT w B v l) (hb : But g w w') (hne : v.ownBlock ≠ some g) : OwnT w' B v l := by
  refine ⟨h.1, ?_⟩
  rcases h.2 with h2 | ⟨k, cap, cur, h1, h2, h3, r⟩
  · exact .inl h2
  · exact .inr ⟨k, cap, cur, h1, h2, (hb.block k (fun e => hne (by rw [h1, e]; rfl))).trans h3, r⟩
theorem OwnV.butK {w w' : World} {B g : Nat} {v : Value} {l : List Vd} (h : OwnV w B v l) (hb : But g w w') (hne : v.ownBlock ≠ some g) : OwnV w' B v l := by
  refine ⟨h.1, ?_⟩
  rcases h.2 with h2 | ⟨k, cap, cur, h1, h2, h3, r⟩
  · exact .inl h2
  · exact .inr ⟨k, cap, cur, h1, h2, (hb.block k (fun e => hne (by rw [h1, e]; rfl))).trans h3, r⟩
theorem cp_store {w1 w2 : World} {g : Nat} {h : Hdr} {n : Int} {p : List Nat} {sv sv' sw : Value} (hh : HdrOk h) (hp : p.length = 32) (hw : Hid (Blk w2 g (splice (bD h n p sv sw) 131 (cC n p sv')) 84 ∧ But g w1 w2)) :
    Blk w2 g (bD h n p sv' sw) 84 ∧ But g w1 w2 ∧ w2.cell? ⟨g, 165, none⟩ = some sw := by
  have q := hw.out
  rw [splice_C hh hp hp] at q
  exact ⟨q.1, q.2, (q.1.cell 165).trans (bD_s hh hp)⟩
set_option maxRecDepth 100000 in
set_option maxHeartbeats 4000000 in
theorem copyB_any (x : Bd) (w : World) (hS : BdS w x) (hl : x.l.length ≤ 1000) (hs : x.s.length ≤ 1000) : Calls Tryz.prog 50 #[.agg (bC x).toArray] w (CpP w x) := by
  have hzz : ∀ w, (zeroValue 84).run Tryz.prog w = .ok (.agg (bD hdr0 0 zh32 (.slice none 0 0) (.slice none 0 0)).toArray) w := (zero_of_info (P := Tryz.prog) zero_blk).1
  have H0 : Hid (CpB w ((w.alloc (.cells (bC x).toArray 84)).alloc (.cells (bD hdr0 0 zh32 (.slice none 0 0) (.slice none 0 0)).toArray 84)) (bC x)) := hidp ⟨(Blk.new w (bC x) _).alloc _, Blk.new' _ _ _ _ (by simp), ((Below.refl _ w).alloc (Nat.le_refl _) _).alloc (by simp) _⟩
  have HS := hidp hS
  have HL := hidp (And.intro hl hs)
  have hRA := bk_C H0.out.k hS.hh
  have hSZ := sz_C (x := x) hS.hp.1
  have hok := hidp (And.intro hS.t.ok hS.v.ok)
  clear hS hl hs
  go_enter Tryz.func50, Tryz.ntmps50
  go_wp2_with (with_reducible refine (?_ : wpList _ _ _ _ _ _); refine wpList_load_mid rfl 82 _ rfl (w.heap.size) 131 rfl (x.c) _ hRA Tryz.underlying82 rfl hSZ ?_)
  refine (ccopy_any x.n x.p HS.out.hp.1 x.a x.tb x.t0 x.tc x.l _ (HS.out.t.below H0.out.bel) HL.out.1).mono ?_
  rintro e w1 ⟨⟨sv, rfl, ht⟩, hb⟩
  obtain ⟨p1, c1, rfl, _⟩ := ht.slice
  have H1 := hidp (H0.out.below hb)
  have OT := hidp (ht.mono H0.out.bel.size)
  clear hb ht H0 hRA hSZ
  have hq := hidp (fun (w2 : World) (hw : Hid (Blk w2 w.heap.size (splice (bC x) 131 (cC x.n x.p (.slice p1 x.l.length c1))) 84 ∧ But w.heap.size w1 w2)) => cp_store (h := x.h) (n := x.n) (p := x.p) (sv := .slice x.a x.l.length x.tc) (sv' := .slice p1 x.l.length c1) (sw := .slice x.va x.s.length x.vc) HS.out.hh HS.out.hp.1 hw)
  have hl34 := hidp (cC_len (h := x.n) (sl := .slice p1 x.l.length c1) HS.out.hp.1)
  have hl166 := hidp (bC_len HS.out.hh HS.out.hp.1)
  have h1C := hidp (show ∀ v ∈ cC x.n x.p (.slice p1 x.l.length c1), v.oneCell' = true by have := cC_one x.n x.p p1 x.l.length c1; rw [List.all_toArray, List.all_eq_true] at this; exact this)
  go_wp2_with (with_reducible refine (?_ : wpList _ _ _ _ _ _); refine wpList_store_part rfl 82 _ _ rfl w.heap.size 131 (cC x.n x.p (.slice p1 x.l.length c1)) (bC x) 84 rfl rfl H1.out.k (by rw [hl34.out]; kernel_rfl) (by rw [hl34.out, hl166.out]; decide) h1C.out rfl ?_; intro w2 hw2; obtain ⟨hk2, hb2, c165⟩ := hq.out w2 hw2; clear hw2)
  replace hk2 := hidp hk2
  replace hb2 := hidp hb2
  have hcS := hidp (fun (W : World) (hW : Blk W w.heap.size (bD x.h x.n x.p (.slice p1 x.l.length c1) (.slice x.va x.s.length x.vc)) 84) => (hW.cell 165).trans (bD_s (n := x.n) (sv := .slice p1 x.l.length c1) (sw := .slice x.va x.s.length x.vc) HS.out.hh HS.out.hp.1))
  have HB2 := hidp (H1.out.bel.trans (hb2.out.below (Nat.le_refl w.heap.size)))
  replace OT := hidp (OT.out.butK hb2.out (OT.out.neB H1.out.k))
  have HR2 := hidp (hb2.out.blk H1.out.r (by omega))
  clear hb2 H1
  refine (copyVals_any x.va x.vb x.v0 x.vc x.s w2 (HS.out.v.below HB2.out) HL.out.2).mono ?_
  rintro e w3 ⟨v, rfl, hv, hb⟩
  obtain ⟨p3, b3, c3, rfl, hb3, hvs⟩ := hv.vs hok.out.2
  have hk3 := hidp (hb.blk' hk2.out)
  have HR3 := hidp (hb.blk' HR2.out)
  have HB3 := hidp (HB2.out.trans (hb.mono HB2.out.size))
  replace OT := hidp (OT.out.below hb)
  have OV := hidp (hv.mono HB2.out.size)
  clear hb hv hvs hb3 HR2 HB2 hk2 c165
  have c165 := hcS.out w3 hk3.out
  have f165 := hk3.out.free 165
  have hk4 := hidp (show Blk (w3.setCell ⟨w.heap.size, 165, none⟩ (.slice p3 x.s.length c3)) w.heap.size (bD x.h x.n x.p (.slice p1 x.l.length c1) (.slice p3 x.s.length c3)) 84 from (set_S (sw' := .slice p3 x.s.length c3) HS.out.hh HS.out.hp.1) ▸ hk3.out.set 165 (.slice p3 x.s.length c3))
  have HR4 := hidp (show Blk (w3.setCell ⟨w.heap.size, 165, none⟩ (.slice p3 x.s.length c3)) (w.heap.size + 1) _ 84 from HR3.out.other _ _ (by simp))
  have bt4 := hidp ((But.refl w.heap.size w3).setCell 165 (.slice p3 x.s.length c3))
  have hlD := hidp (bD_len (n := x.n) (sv := .slice p1 x.l.length c1) (sw := .slice p3 x.s.length c3) HS.out.hh HS.out.hp.1)
  have hl0 := hidp (bD_len (n := 0) (sv := .slice none 0 0) (sw := .slice none 0 0) hdr0_ok zhl)
  have h1D := hidp (bD_one (h := x.h) (n := x.n) (p := x.p) (a := p1) (k := x.l.length) (c := c1) (va := p3) (vk := x.s.length) (vc := c3))
  go_wp2_with first
    | (with_reducible refine (?_ : wpList _ _ _ _ _ _); refine wpList_load_blk rfl 84 _ rfl w.heap.size (bD x.h x.n x.p (.slice p1 x.l.length c1) (.slice p3 x.s.length c3)) 84 rfl hk4.out _ Tryz.underlying84 rfl (by rw [hlD.out]; kernel_rfl) ?_)
    | (with_reducible refine (?_ : wpList _ _ _ _ _ _); refine wpList_store_blk rfl 84 _ _ rfl (w.heap.size + 1) (bD x.h x.n x.p (.slice p1 x.l.length c1) (.slice p3 x.s.length c3)) (bD hdr0 0 zh32 (.slice none 0 0) (.slice none 0 0)) 84 rfl rfl HR4.out (by rw [hlD.out]; kernel_rfl) (by rw [hlD.out, hl0.out]) h1D.out ?_; intro w5 hw5)
  have b5 : Blk w5 (w.heap.size + 1) (bD x.h x.n x.p (.slice p1 x.l.length c1) (.slice p3 x.s.length c3)) 84 := by rw [hw5.out]; exact HR4.out.row
  have bt5 : But (w.heap.size + 1) (w3.setCell ⟨w.heap.size, 165, none⟩ (.slice p3 x.s.length c3)) w5 := by rw [hw5.out]; exact (But.refl _ _).setRow _
  have hB5 : Below w.heap.size w w5 := (HB3.out.trans (bt4.out.below (Nat.le_refl _))).trans (bt5.below (by omega))
  have OT4 := OT.out.butK bt4.out (OT.out.neB hk3.out)
  have OV4 := OV.out.butK bt4.out (OV.out.neK hk3.out)
  have OT5 := OT4.butK bt5 (OT4.neB HR4.out)
  have OV5 := OV4.butK bt5 (OV4.neK HR4.out)
  obtain ⟨q1, g1, k1, e1, _, ht5, _⟩ := OT5.ts hok.out.1
  obtain ⟨q3, g3, k3, e3, _, hv5⟩ := OV5.vs hok.out.2
  cases e1
  cases e3
  refine bodyPost_ret (v := .agg (bC (x.lay p1 g1 0 c1 x.l p3 g3 0 c3 x.s)).toArray) ?_ rfl ⟨⟨x.lay p1 g1 0 c1 x.l p3 g3 0 c3 x.s, rfl, rfl, rfl, rfl, rfl, rfl, ⟨HS.out.hh, HS.out.hn, HS.out.hp, ht5, hv5⟩, ⟨OT5, OV5⟩⟩, hB5⟩
  exact results_row0 Tryz.results50 _ _ (w.heap.size + 1) 84 _ _ rfl b5 Tryz.underlying84 rfl (show (Tryz.prog.info? 84).map (·.size) = some (bD x.h x.n x.p (.slice p1 x.l.length c1) (.slice p3 x.s.length c3)).length by rw [hlD.out]; kernel_rfl)
/-- Is everything in two blocks equal? -/
def sameB (x y : Bd) : Bool := decide (x.h = y.h) && (sameC x.n x.p x.l y.n y.p y.l && decide (x.s = y.s))
set_option maxRecDepth 100000 in
set_option maxHeartbeats 4000000 in
theorem sameB_any (x y : Bd) (w : World) (hx : BdS w x) (hy : BdS w y) (hl : x.l.length ≤ 1000000) (hs : x.s.length ≤ 1000000) : Calls Tryz.prog 58 #[.agg (bC x).toArray, .agg (bC y).toArray] w fun e w' => e = .returned (.bool (sameB x y)) ∧ Below w.heap.size w w' := by
  have K1 := hidp ((Blk.new w (bC x) 84).alloc (.cells (bC y).toArray 84))
  have K2 := hidp (Blk.new' (w.alloc (.cells (bC x).toArray 84)) (bC y) 84 (w.heap.size + 1) (by simp))
  have BB := hidp (((Below.refl w.heap.size w).alloc (Nat.le_refl _) (.cells (bC x).toArray 84)).alloc (by simp) (.cells (bC y).toArray 84))
  have HX := hidp hx
  have HY := hidp hy
  have HL := hidp (And.intro hl hs)
  have hpx := hidp hx.hp.1
  have hpy := hidp hy.hp.1
  have hgd := guard_hdr
  have eh := eqH x.h y.h hx.hh hy.hh
  have hSC := hidp (fun W (hW : Below w.heap.size w W) => sameCommit_any x.n x.p hx.hp.1 x.a x.tb x.t0 x.tc x.l y.n y.p hy.hp.1 y.a y.tb y.t0 y.tc y.l W (hx.t.below hW) (hy.t.below hW) hl)
  have hSV := hidp (fun W (hW : Below w.heap.size w W) => sameVals_any x.va x.vb x.v0 x.vc x.s y.va y.vb y.v0 y.vc y.s W (hx.v.below hW) (hy.v.below hW) hs)
  obtain ⟨r, hr⟩ : ∃ r, r = sameB x y := ⟨_, rfl⟩
  rw [← hr]
  replace hr := hidp hr
  clear hx hy hl hs
  cases h1 : decide (x.h = y.h)
  · have hR := hidp (show r = false by rw [hr.out]; unfold sameB; rw [h1]; rfl)
    rw [h1] at eh
    clear h1 hr
    go_enter Tryz.func58, Tryz.ntmps58
    go_wp2_with first
      | (with_reducible refine (?_ : wpList _ _ _ _ _ _); refine wpList_load_midD 6 rfl (by kernel_rfl) 79 _ rfl (w.heap.size) 0 rfl (hC x.h) _ (bk_H K1.out) Tryz.underlying79 rfl (sz_H (x := x) HX.out.hh) ?_)
      | (with_reducible refine (?_ : wpList _ _ _ _ _ _); refine wpList_load_midD 8 rfl (by kernel_rfl) 79 _ rfl (w.heap.size + 1) 0 rfl (hC y.h) _ (bk_H K2.out) Tryz.underlying79 rfl (sz_H (x := y) HY.out.hh) ?_)
      | (with_reducible refine (?_ : wpList _ _ _ _ _ _); refine wpList_load_midD 12 rfl (by kernel_rfl) 82 _ rfl (w.heap.size) 131 rfl (x.c) _ (bk_C K1.out HX.out.hh) Tryz.underlying82 rfl (sz_C (x := x) hpx.out) ?_)
      | (with_reducible refine (?_ : wpList _ _ _ _ _ _); refine wpList_load_midD 14 rfl (by kernel_rfl) 82 _ rfl (w.heap.size + 1) 131 rfl (y.c) _ (bk_C K2.out HY.out.hh) Tryz.underlying82 rfl (sz_C (x := y) hpy.out) ?_)
    go_ret
    rw [hR.out]
    exact ⟨rfl, BB.out⟩
  · rw [h1] at eh
    replace h1 := hidp h1
    go_enter Tryz.func58, Tryz.ntmps58
    go_wp2_with first
      | (with_reducible refine (?_ : wpList _ _ _ _ _ _); refine wpList_load_midD 6 rfl (by kernel_rfl) 79 _ rfl (w.heap.size) 0 rfl (hC x.h) _ (bk_H K1.out) Tryz.underlying79 rfl (sz_H (x := x) HX.out.hh) ?_)
      | (with_reducible refine (?_ : wpList _ _ _ _ _ _); refine wpList_load_midD 8 rfl (by kernel_rfl) 79 _ rfl (w.heap.size + 1) 0 rfl (hC y.h) _ (bk_H K2.out) Tryz.underlying79 rfl (sz_H (x := y) HY.out.hh) ?_)
      | (with_reducible refine (?_ : wpList _ _ _ _ _ _); refine wpList_load_midD 12 rfl (by kernel_rfl) 82 _ rfl (w.heap.size) 131 rfl (x.c) _ (bk_C K1.out HX.out.hh) Tryz.underlying82 rfl (sz_C (x := x) hpx.out) ?_)
      | (with_reducible refine (?_ : wpList _ _ _ _ _ _); refine wpList_load_midD 14 rfl (by kernel_rfl) 82 _ rfl (w.heap.size + 1) 131 rfl (y.c) _ (bk_C K2.out HY.out.hh) Tryz.underlying82 rfl (sz_C (x := y) hpy.out) ?_)
    refine (hSC.out _ BB.out).mono ?_
    rintro e w1 ⟨rfl, hb⟩
    have B1 := hidp (BB.out.trans (hb.mono BB.out.size))
    replace K1 := hidp (hb.blk' K1.out)
    replace K2 := hidp (hb.blk' K2.out)
    clear hb hSC BB
    cases h2 : sameC x.n x.p x.l y.n y.p y.l
    · have hR := hidp (show r = false by rw [hr.out]; unfold sameB; rw [h1.out, h2]; rfl)
      clear h2 hr eh
      go_wp2
      go_ret
      rw [hR.out]
      exact ⟨rfl, B1.out⟩
    · have c1 := bk_s K1.out HX.out.hh HX.out.hp.1
      have c2 := bk_s K2.out HY.out.hh HY.out.hp.1
      have hR := hidp (show r = decide (x.s = y.s) by rw [hr.out]; unfold sameB; rw [h1.out, h2]; rfl)
      clear h2 hr eh
      go_wp2_with fail
      refine (hSV.out _ B1.out).mono ?_
      rintro e w2 ⟨rfl, hb⟩
      have B2 := hidp (B1.out.trans (hb.mono B1.out.size))
      rw [← hR.out]
      clear hb hSV B1 c1 c2 hR K1 K2
      go_wp2
      go_ret
      exact ⟨rfl, B2.out⟩
end Go.Proofs.YtcmkmnidnapabaaGreat
