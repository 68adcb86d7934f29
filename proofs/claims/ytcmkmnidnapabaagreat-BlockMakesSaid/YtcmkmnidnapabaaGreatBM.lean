/-
  Texts Bkj, Bkl, Bkm, Bkn, Bkb, Bko, one behind the other.
-/
import Derived.Test.YtcmkmnidnapabaaGreatBI
import Derived.Test.YtcmkmnidnapabaaGreatBE
import Derived.Deep.CutRange
import Derived.Test.YtcmkmnidnapabaaGreatTE
import Derived.Test.YtcmkmnidnapabaaGreatBka
import Derived.Test.YtcmkmnidnapabaaGreatVl
import Derived.Maps.AppendAt
import Derived.Deep.RegionHeld3
import Derived.Test.YtcmkmnidnapabaaGreatUj

/-! Bkj: Block: which block bytes are, or where and why none. -/
namespace Go.Proofs.YtcmkmnidnapabaaGreat
open Go.RowKit Go.Lib
set_option linter.unusedSimpArgs false
set_option linter.unusedVariables false

def eH (L : List Nat) : Nat := (decH L).2.1
def eC (L : List Nat) : Nat := (decC L).e
def eV (L : List Nat) : Nat := (decO L).2.1
def b1F (L : List Nat) : Nat × Nat := itF eH L.length (rs0 L) 0 0
def b1S (L : List Nat) : RS := itS (rs0 L) 0
def b2F (L : List Nat) : Nat × Nat := itF eC L.length (b1S L) (b1F L).1 (b1F L).2
def b2S (L : List Nat) : RS := itS (b1S L) (b1F L).1
def b3F (L : List Nat) : Nat × Nat := itF eV L.length (b2S L) (b2F L).1 (b2F L).2
def b3S (L : List Nat) : RS := itS (b2S L) (b2F L).1
/-- The fault of a block's bytes; its parts. -/
def bFin (L : List Nat) : Nat × Nat := lastF (b3S L) (b3F L).1 (b3F L).2
def bH (L : List Nat) : Hdr := vH (rs0 L) 0
def bCm (L : List Nat) : DC := vC (b1S L) (b1F L).1
def bV (L : List Nat) : List Vd := vV (b2S L) (b2F L).1
theorem itS_le (s : RS) (fe : Nat) : (itS s fe).R.length ≤ s.R.length := by
  unfold itS itN
  split
  · exact Nat.le_refl _
  · exact rdN_le s
theorem itS_byte {s : RS} {fe : Nat} (h : ∀ x ∈ s.R, x < 256) : ∀ x ∈ (itS s fe).R, x < 256 := by
  unfold itS itN
  split
  · exact h
  · exact rdN_byte h
theorem itB_byte {s : RS} (h : ∀ x ∈ s.R, x < 256) : ∀ x ∈ itB s, x < 256 := by
  unfold itB rdV
  split
  · simp
  · split
    · rename_i v n hp
      change pText s.R 65536 = .ok v n at hp
      unfold pText at hp
      cases hk : pLen s.R 65536 with
      | er m => rw [hk] at hp; cases hp
      | ok k m =>
        rw [hk] at hp
        simp only at hp
        by_cases hl : s.R.length - m < k
        · rw [if_pos hl] at hp; cases hp
        · rw [if_neg hl] at hp
          cases hp
          exact fun x hx => h x (List.mem_of_mem_drop (List.mem_of_mem_take hx))
    · simp
/-- Decode under way: the results' blocks. -/
structure DbB (w W : World) (k g b : Nat) (s : RS) (n fe ff : Nat) : Prop where
  it : ItW W k g b s n fe ff
  r : Blk W w.heap.size (bD hdr0 0 zh32 (.slice none 0 0) (.slice none 0 0)) 84
  f : Blk W (w.heap.size + 1) [.int .i64 0, .int .i64 0] 52
  bel : Below w.heap.size w W
  kg : w.heap.size + 1 < k ∧ w.heap.size + 1 < g
theorem DbB.below {w W W' : World} {k g b n fe ff : Nat} {s : RS} (H : DbB w W k g b s n fe ff) (hb : Below W.heap.size W W') : DbB w W' k g b s n fe ff := ⟨H.it.below hb, hb.blk' H.r, hb.blk' H.f, H.bel.trans (hb.mono H.bel.size), H.kg⟩
theorem DbB.step {w W W' : World} {k g b n fe ff fe' ff' : Nat} {s s' : RS} (H : DbB w W k g b s n fe ff) (h1 : ItW W' k g b s' n fe' ff') (h2 : F2 k g W W') : DbB w W' k g b s' n fe' ff' :=
  ⟨h1, h2.blk H.r (by have := H.kg; omega) (by have := H.kg; omega), h2.blk H.f (by have := H.kg; omega) (by have := H.kg; omega), H.bel.trans (h2.toBelow (by have := H.kg; omega) (by have := H.kg; omega) H.bel.size), H.kg⟩
theorem DbB.gl {w W : World} {k g b n fe ff : Nat} {s : RS} (H : DbB w W k g b s n fe ff) : g < W.heap.size := H.it.rd.glt
theorem OwnT.f2 {B k g : Nat} {w w' : World} {v : Value} {l : List Vt} (h : OwnT w B v l) (hb : F2 k g w w') (hk : k < B) (hg : g < B) : OwnT w' B v l := by
  refine ⟨h.1, ?_⟩
  rcases h.2 with h2 | ⟨j, cap, cur, h1, h2, h3, r⟩
  · exact .inl h2
  · exact .inr ⟨j, cap, cur, h1, h2, (hb.block j (Array.getElem?_eq_some_iff.1 h3).1 (by omega) (by omega)).trans h3, r⟩
theorem bH_ok {L : List Nat} (h : ∀ x ∈ L, x < 256) : HdrOk (bH L) := by
  unfold bH vH
  split
  · exact decH_hok (itB_byte h)
  · exact hdr0_ok
structure DcOk (c : DC) : Prop where
  h : -9223372036854775808 ≤ c.h ∧ c.h ≤ 9223372036854775807
  p : Bytes 32 c.p
  l : ∀ v ∈ c.l, VtOk v
theorem decC_h (L : List Nat) : -9223372036854775808 ≤ (decC L).h ∧ (decC L).h ≤ 9223372036854775807 := by
  unfold decC
  have := rdNum_lt (rs0 L)
  repeat' split
  · exact ⟨show (-9223372036854775808 : Int) ≤ 0 by decide, show (0 : Int) ≤ 9223372036854775807 by decide⟩
  · exact ⟨show (-9223372036854775808 : Int) ≤ 0 by decide, show (0 : Int) ≤ 9223372036854775807 by decide⟩
  · exact ⟨show (-9223372036854775808 : Int) ≤ 0 by decide, show (0 : Int) ≤ 9223372036854775807 by decide⟩
  · show -9223372036854775808 ≤ ((rdV pNum 0 (rs0 L) : Nat) : Int) ∧ ((rdV pNum 0 (rs0 L) : Nat) : Int) ≤ 9223372036854775807
    omega
theorem bCm_ok {L : List Nat} (h : ∀ x ∈ L, x < 256) : DcOk (bCm L) := by
  unfold bCm vC
  have hb := itB_byte (itS_byte (fe := 0) (s := rs0 L) h)
  split
  · exact ⟨decC_h _, (decC_ok' hb).2.1, (decC_ok' hb).1⟩
  · exact ⟨⟨by decide, by decide⟩, ⟨by decide, by decide⟩, by simp [dc0]⟩
/-- The results' blocks. -/
structure BRes (w W : World) (A : List Value) (e f : Nat) : Prop where
  r : Blk W w.heap.size A 84
  f : Blk W (w.heap.size + 1) [.int .i64 (e : Nat), .int .i64 (f : Nat)] 52
  bel : Below w.heap.size w W
theorem BRes.drew {w W : World} {A : List Value} {e f : Nat} (H : BRes w W A e f) : BRes w W.drew A e f := ⟨H.r.drew, H.f.drew, H.bel.drew⟩
theorem BRes.row {w W : World} {A : List Value} {e f : Nat} (H : BRes w W A e f) (X : List Value) : BRes w (W.setRow w.heap.size X.toArray) X e f := by
  have b := (But.refl w.heap.size W).setRow X.toArray
  exact ⟨H.r.row, b.blk H.f (by omega), H.bel.trans (b.below (Nat.le_refl _))⟩
theorem BRes.fin {w W : World} {A : List Value} {e f : Nat} (H : BRes w W A e f) (e2 f2 : Nat) : BRes w ((W.setCell ⟨w.heap.size + 1, 0, none⟩ (.int .i64 (e2 : Nat))).setCell ⟨w.heap.size + 1, 1, none⟩ (.int .i64 (f2 : Nat))) A e2 f2 :=
  ⟨(H.r.other _ _ (by show w.heap.size ≠ w.heap.size + 1; omega)).other _ _ (by show w.heap.size ≠ w.heap.size + 1; omega), (H.f.set 0 _).set 1 _, (H.bel.setCell (p := ⟨w.heap.size + 1, 0, none⟩) (by simp) _).setCell (p := ⟨w.heap.size + 1, 1, none⟩) (by simp) _⟩
theorem BRes.fc {w W : World} {A : List Value} {e f : Nat} (H : BRes w W A e f) : W.cell? ⟨w.heap.size + 1, 0, none⟩ = some (.int .i64 (e : Nat)) ∧ W.cell? ⟨w.heap.size + 1, 1, none⟩ = some (.int .i64 (f : Nat)) ∧ W.frozen? ⟨w.heap.size + 1, 0, none⟩ = false ∧ W.frozen? ⟨w.heap.size + 1, 1, none⟩ = false := ⟨H.f.cell 0, H.f.cell 1, H.f.free 0, H.f.free 1⟩
/-- What is left as it was while the results are laid. -/
structure BKeep (r : Nat) (W W' : World) : Prop where
  f : F2 r (r + 1) W W'
  v : ∀ a b c l, Vs W a b 0 c l → r + 1 < b → Vs W' a b 0 c l
  o : ∀ b n, Ow W b n → r + 1 < b → Ow W' b n
theorem BKeep.row (W : World) (r : Nat) (X : List Value) : BKeep r W (W.setRow r X.toArray) := by
  have b := Bex.of_but ((But.refl r W).setRow X.toArray)
  exact ⟨(F2.refl _ _ W).bexK b, fun _ _ _ _ h hb => h.bex b (fun _ => by omega), fun _ _ h hb => h.bex b (fun _ => by omega)⟩
theorem BKeep.fin (W : World) (r : Nat) (x y : Value) : BKeep r W ((W.setCell ⟨r + 1, 0, none⟩ x).setCell ⟨r + 1, 1, none⟩ y) := by
  have b : Bex (r + 1) W ((W.setCell ⟨r + 1, 0, none⟩ x).setCell ⟨r + 1, 1, none⟩ y) := ((Bex.refl (r + 1) W).setCell 0 _).setCell 1 _
  exact ⟨(F2.refl _ _ W).bexG b, fun _ _ _ _ h hb => h.bex b (fun _ => by omega), fun _ _ h hb => h.bex b (fun _ => by omega)⟩
theorem BKeep.trans {r : Nat} {W1 W2 W3 : World} (h : BKeep r W1 W2) (q : BKeep r W2 W3) : BKeep r W1 W3 :=
  ⟨h.f.trans q.f, fun _ _ _ _ z hb => q.v _ _ _ _ (h.v _ _ _ _ z hb) hb, fun _ _ z hb => q.o _ _ (h.o _ _ z hb) hb⟩
def DbP (w : World) (L : List Nat) (e : Ending) (w' : World) : Prop :=
  ((bFin L).1 ≠ 0 ∧ e = .returned (.tuple #[.agg (bD hdr0 0 zh32 (.slice none 0 0) (.slice none 0 0)).toArray, .agg #[.int .i64 ((bFin L).1 : Nat), .int .i64 ((bFin L).2 : Nat)]]) ∨
    (bFin L).1 = 0 ∧ ∃ y : Bd, e = .returned (.tuple #[.agg (bC y).toArray, .agg #[.int .i64 0, .int .i64 0]]) ∧ y.h = bH L ∧ y.n = (bCm L).h ∧ y.p = (bCm L).p ∧ y.l = (bCm L).l ∧ y.s = bV L ∧ BdS w' y ∧ OwnT w' w.heap.size (.slice y.a y.l.length y.tc) y.l ∧ w.heap.size ≤ y.vb ∧ y.v0 = 0 ∧ Ow w' y.vb y.s.length) ∧ Below w.heap.size w w'
set_option maxRecDepth 100000 in
set_option maxHeartbeats 8000000 in
theorem bdecode_any (a : Option Addr) (ba oo cap : Nat) (L : List Nat) (w : World) (h : Bs w a ba oo L cap) (hL : L.length ≤ 1000000) : Calls Tryz.prog 62 #[.slice a L.length cap] w (DbP w L) := by
  have hzb : ∀ w, (zeroValue 84).run Tryz.prog w = .ok (.agg (bD hdr0 0 zh32 (.slice none 0 0) (.slice none 0 0)).toArray) w := (zero_of_info (P := Tryz.prog) zero_blk).1
  have hzh : ∀ w, (zeroValue 79).run Tryz.prog w = .ok (.agg (hC hdr0).toArray) w := (zero_of_info (P := Tryz.prog) zero_hdr).1
  have hzc : ∀ w, (zeroValue 82).run Tryz.prog w = .ok (.agg (cC 0 zh32 (.slice none 0 0)).toArray) w := (zero_of_info (P := Tryz.prog) zero_com).1
  have hlh0 := hidp (hC_len hdr0_ok)
  have hlc0 := hidp (cC_len (h := 0) (sl := .slice none 0 0) (p := zh32) rfl)
  have hb0 : Hid (Below w.heap.size w ((w.alloc (.cells (bD hdr0 0 zh32 (.slice none 0 0) (.slice none 0 0)).toArray 84)).alloc (.cells #[.int .i64 0, .int .i64 0] 52))) := hidp (((Below.refl _ w).alloc (Nat.le_refl _) _).alloc (by simp) _)
  have hr0 := hidp ((Blk.new w (bD hdr0 0 zh32 (.slice none 0 0) (.slice none 0 0)) 84).alloc (.cells #[.int .i64 0, .int .i64 0] 52))
  have hf0 := hidp (Blk.new' (w.alloc (.cells (bD hdr0 0 zh32 (.slice none 0 0) (.slice none 0 0)).toArray 84)) [.int .i64 0, .int .i64 0] 52 (w.heap.size + 1) (by simp))
  have HNR := hidp (newReader_any a ba oo cap L _ (h.below hb0.out) (by omega))
  have HBY := hidp h.byte
  have HL := hidp hL
  clear h hL
  go_enter Tryz.func62, Tryz.ntmps62
  go_wp2_with fail
  refine HNR.out.mono ?_
  rintro e w1 ⟨g, b, rfl, hg, hb, hrd, hB⟩
  have hRD := hidp (show RdS w1 g b (rs0 L) from ⟨hrd, hb, fun _ => rfl⟩)
  replace hr0 := hidp (hB.blk' hr0.out)
  replace hf0 := hidp (hB.blk' hf0.out)
  have hb1 := hidp (hb0.out.trans (hB.mono hb0.out.size))
  have hgg := hidp (show w.heap.size + 1 < g by simp at hg; omega)
  clear hg hb hrd hB hb0 HNR
  have hgl : g < w1.heap.size := hRD.out.glt
  have hbl : b < w1.heap.size := hRD.out.lt
  have HN1 := hidp ((Below.refl w1.heap.size w1).alloc (Nat.le_refl _) (.cells #[.pointer (some ⟨g, 0, none⟩), .int .i64 (L.length : Nat), .int .i64 ((0 : Nat) : Int), .int .i64 ((0 : Nat) : Int)] 176))
  have D1 := hidp (show DbB w _ w1.heap.size g b (rs0 L) L.length 0 0 from ⟨⟨Blk.new w1 [.pointer (some ⟨g, 0, none⟩), .int .i64 (L.length : Nat), .int .i64 ((0 : Nat) : Int), .int .i64 ((0 : Nat) : Int)] 176, hRD.out.below HN1.out, by omega, by omega⟩, HN1.out.blk' hr0.out, HN1.out.blk' hf0.out, hb1.out.trans (HN1.out.mono hb1.out.size), by have := hgg.out; omega, hgg.out⟩)
  have C1 := hidp (itemH_any D1.out.it D1.out.gl (Nat.le_refl _) HL.out)
  go_wp2_with fail
  refine C1.out.mono ?_
  rintro e w2 ⟨rfl, h1, h2⟩
  have D2 := hidp (show DbB w w2 w1.heap.size g b (b1S L) L.length (b1F L).1 (b1F L).2 from D1.out.step h1 h2)
  clear h1 h2 C1 D1 HN1 hgl hbl hgg hb1 hr0 hf0 hRD
  generalize w1.heap.size = k at D2 ⊢
  obtain ⟨x, hx⟩ : ∃ x, x = bH L := ⟨_, rfl⟩
  have hxk := hidp (show HdrOk x by rw [hx]; exact bH_ok HBY.out)
  have hX := hidp hx
  rw [show vH (rs0 L) 0 = x from hx.symm]
  clear hx
  have hlx := hidp (hC_len hxk.out)
  have hox := hidp (hC_one x)
  go_wp2_with first
    | (with_reducible refine (?_ : wpList _ _ _ _ _ _); refine wpList_store_blk rfl 79 _ _ rfl w2.heap.size (hC x) (hC hdr0) 79 rfl rfl (Blk.new w2 (hC hdr0) 79) (by rw [hlx.out]; kernel_rfl) (by rw [hlx.out, hlh0.out]) hox.out ?_; intro w3 hw3; have hN3 := hidp (new_row hw3.out rfl); have D3 := hidp (D2.out.below hN3.out.1))
  have C1 := hidp (itemC_any D3.out.it D3.out.gl (itS_le (rs0 L) 0) HL.out)
  refine C1.out.mono ?_
  rintro e w4 ⟨⟨sv, rfl, hO⟩, h1, h2⟩
  have D4 := hidp (show DbB w w4 k g b (b2S L) L.length (b2F L).1 (b2F L).2 from D3.out.step h1 h2)
  have hkl : k < w2.heap.size := D2.out.it.kt.lt
  have hgl : g < w2.heap.size := D2.out.gl
  have P5 := hidp (h2.blk hN3.out.2 (by omega) (by omega))
  have hs3 := hN3.out.1.size
  have hk3 := hidp (show k < w3.heap.size ∧ g < w3.heap.size ∧ w.heap.size ≤ w3.heap.size ∧ w2.heap.size < w4.heap.size ∧ k < w2.heap.size ∧ g < w2.heap.size by have := D3.out.bel.size; have := P5.out.lt; omega)
  clear h1 h2 C1 D3 hN3 hw3 D2 hkl hgl hs3 hox hlx
  obtain ⟨c, hc⟩ : ∃ c, c = bCm L := ⟨_, rfl⟩
  have hck := hidp (show DcOk c by rw [hc]; exact bCm_ok HBY.out)
  rw [show vC (b1S L) (b1F L).1 = c from hc.symm] at hO ⊢
  have hCm := hidp hc
  clear hc
  obtain ⟨ta, tc, rfl, -⟩ := hO.slice
  have OT := hidp hO
  clear hO
  have hlc := hidp (cC_len (h := c.h) (sl := .slice ta c.l.length tc) hck.out.p.1)
  have hoc := hidp (cC_one c.h c.p ta c.l.length tc)
  go_wp2_with first
    | (with_reducible refine (?_ : wpList _ _ _ _ _ _); refine wpList_store_blk rfl 82 _ _ rfl w4.heap.size (cC c.h c.p (.slice ta c.l.length tc)) (cC 0 zh32 (.slice none 0 0)) 82 rfl rfl (Blk.new w4 (cC 0 zh32 (.slice none 0 0)) 82) (by rw [hlc.out]; kernel_rfl) (by rw [hlc.out, hlc0.out]) hoc.out ?_; intro w5 hw5; have hN5 := hidp (new_row hw5.out rfl); have D5 := hidp (D4.out.below hN5.out.1))
  have C1 := hidp (itemV_any D5.out.it D5.out.gl (Nat.le_trans (itS_le (b1S L) (b1F L).1) (itS_le (rs0 L) 0)) HL.out)
  refine C1.out.mono ?_
  rintro e w6 ⟨⟨va, vb, vc, rfl, hq, hV, hW⟩, h1, h2⟩
  have D6 := hidp (show DbB w w6 k g b (b3S L) L.length (b3F L).1 (b3F L).2 from D5.out.step h1 h2)
  have P6 := hidp (h2.blk hN5.out.2 (by have := hk3.out; omega) (by have := hk3.out; omega))
  replace P5 := hidp (h2.blk (hN5.out.1.blk' P5.out) (by have := hk3.out; omega) (by have := hk3.out; omega))
  replace OT := hidp ((OT.out.below hN5.out.1).f2 h2 hk3.out.1 hk3.out.2.1)
  have hq' := hidp (show w.heap.size + 1 < vb by have := D5.out.bel.size; have := D5.out.kg; have := D5.out.it.kt.lt; omega)
  have hr3 := hidp (show w.heap.size + 1 < w3.heap.size by have := D5.out.kg; have := hk3.out; omega)
  clear h1 h2 C1 D5 hN5 hw5 D4 hk3 hoc hlc hq
  obtain ⟨vs, hvs⟩ : ∃ vs, vs = bV L := ⟨_, rfl⟩
  rw [show vV (b2S L) (b2F L).1 = vs from hvs.symm] at hV hW ⊢
  have HVS := hidp hvs
  clear hvs
  have HV := hidp hV
  have HW := hidp hW
  clear hV hW
  have C1 := hidp (itend_any D6.out.it)
  go_wp2_with fail
  refine C1.out.mono ?_
  rintro e w7 ⟨rfl, hB⟩
  obtain ⟨f, hf⟩ : ∃ f, f = bFin L := ⟨_, rfl⟩
  rw [show lastF (b3S L) (b3F L).1 (b3F L).2 = f from hf.symm]
  obtain ⟨ex, ey⟩ := f
  have HF := hidp hf
  clear hf C1
  have hB8 := hidp (hB.trans (((Below.refl w7.heap.size w7).alloc (Nat.le_refl _) (.cells #[.int .i64 (ex : Nat), .int .i64 (ey : Nat)] 52)).mono hB.size))
  have D8 := hidp (D6.out.below hB8.out)
  have hk7 := hidp (show k < w7.heap.size by have := hB.size; have := D6.out.it.kt.lt; omega)
  have Q5 := hidp (hB8.out.blk' P5.out)
  have Q6 := hidp (hB8.out.blk' P6.out)
  have OQ := hidp (OT.out.below hB8.out)
  have HV8 := hidp (HV.out.below hB8.out)
  have HW8 := hidp (HW.out.below hB8.out)
  have HZ := hidp (Blk.new w7 [.int .i64 (ex : Nat), .int .i64 (ey : Nat)] 52)
  have c0 := HZ.out.cell 0
  simp only [List.getElem?_cons_zero] at c0
  clear D6 P5 P6 OT HV HW hB
  by_cases h0 : ex = 0
  · subst h0
    rw [show ((0 : Nat) : Int) = 0 from rfl] at D8 Q5 Q6 OQ HV8 HW8 hB8 c0 ⊢
    have HR := hidp (show BRes w _ (bD hdr0 0 zh32 (.slice none 0 0) (.slice none 0 0)) 0 0 from ⟨D8.out.r, D8.out.f, D8.out.bel⟩)
    have hlB := hidp (bD_len (n := c.h) (sv := .slice ta c.l.length tc) (sw := .slice va vs.length vc) hxk.out hck.out.p.1)
    have hoB := hidp (bD_one (h := x) (n := c.h) (p := c.p) (a := ta) (k := c.l.length) (c := tc) (va := va) (vk := vs.length) (vc := vc))
    have hlZ := hidp (bD_len (n := 0) (sv := .slice none 0 0) (sw := .slice none 0 0) hdr0_ok zhl)
    have hbb := hidp (built_blk x c.h c.p (.slice ta c.l.length tc) va vs.length vc hxk.out hck.out.p.1)
    have hlx := hidp (hC_len hxk.out)
    have hlc := hidp (cC_len (h := c.h) (sl := .slice ta c.l.length tc) hck.out.p.1)
    go_wp2_with first
    | (with_reducible refine (?_ : wpList _ _ _ _ _ _); refine wpList_load_blk rfl 79 _ rfl w2.heap.size (hC x) 79 rfl Q5.out _ Tryz.underlying79 rfl (by rw [hlx.out]; kernel_rfl) ?_)
    | (with_reducible refine (?_ : wpList _ _ _ _ _ _); refine wpList_load_blk rfl 82 _ rfl w4.heap.size (cC c.h c.p (.slice ta c.l.length tc)) 82 rfl Q6.out _ Tryz.underlying82 rfl (by rw [hlc.out]; kernel_rfl) ?_)
    | (with_reducible refine (?_ : wpList _ _ _ _ _ _); refine wpList_buildG (by kernel_rfl) 84 _ rfl (bD x c.h c.p (.slice ta c.l.length tc) (.slice va vs.length vc)).toArray (Eq.trans (by kernel_rfl) hbb.out) ?_)
    | (with_reducible refine (?_ : wpList _ _ _ _ _ _); refine wpList_store_blk rfl 84 _ _ rfl w.heap.size (bD x c.h c.p (.slice ta c.l.length tc) (.slice va vs.length vc)) (bD hdr0 0 zh32 (.slice none 0 0) (.slice none 0 0)) 84 rfl rfl HR.out.r (by rw [hlB.out]; kernel_rfl) (by rw [hlB.out, hlZ.out]) hoB.out ?_; intro w9 hw9; have F1 := hidp (show BRes w w9 (bD x c.h c.p (.slice ta c.l.length tc) (.slice va vs.length vc)) 0 0 by rw [hw9.out]; exact HR.out.row _); have G1 := hidp (show BKeep w.heap.size _ w9 by rw [hw9.out]; exact BKeep.row _ _ _); obtain ⟨k0, k1, k2, k3⟩ := F1.out.fc)
    have F2 := hidp (F1.out.fin 0 0)
    have G2 := hidp (G1.out.trans (BKeep.fin w9 w.heap.size (.int .i64 ((0 : Nat) : Int)) (.int .i64 ((0 : Nat) : Int))))
    try rw [show ((0 : Nat) : Int) = 0 from rfl] at F2 G2
    generalize (World.setCell _ _ _) = W at F2 G2 ⊢
    have OF := (OQ.out.f2 G2.out.f (by have := hr3.out; omega) (by have := hr3.out; omega)).mono (C := w.heap.size) (by have := hr3.out; omega)
    obtain ⟨tb, _, hTs, _, _⟩ := OF.tsz hck.out.l
    have VF := G2.out.v _ _ _ _ HV8.out hq'.out
    have WF := G2.out.o _ _ HW8.out hq'.out
    refine bodyPost_ret (v := .tuple #[.agg (bD x c.h c.p (.slice ta c.l.length tc) (.slice va vs.length vc)).toArray, .agg [.int .i64 0, .int .i64 0].toArray]) ?_ rfl ⟨.inr ⟨by rw [← HF.out], ⟨x, c.h, c.p, ta, tb, 0, tc, c.l, va, vb, 0, vc, vs⟩, rfl, hX.out, by rw [← hCm.out], by rw [← hCm.out], by rw [← hCm.out], HVS.out, ⟨hxk.out, hck.out.h, hck.out.p, hTs, VF⟩, OF, by have := hq'.out; show w.heap.size ≤ vb; omega, rfl, WF⟩, F2.out.bel⟩
    exact results_rows2 Tryz.results62 _ _ w.heap.size 84 _ _ (w.heap.size + 1) 52 _ _ rfl F2.out.r Tryz.underlying84 rfl (by rw [hlB.out]; kernel_rfl) rfl F2.out.f Tryz.underlying52 rfl (by kernel_rfl)
  · have hbn : (((ex : Nat) : Int) != 0) = true := by rw [bne_iff_ne]; omega
    have HR := hidp (show BRes w _ (bD hdr0 0 zh32 (.slice none 0 0) (.slice none 0 0)) 0 0 from ⟨D8.out.r, D8.out.f, D8.out.bel⟩).drew
    have hlZ := hidp (bD_len (n := 0) (sv := .slice none 0 0) (sw := .slice none 0 0) hdr0_ok zhl)
    have hoZ := hidp (bD_one (h := hdr0) (n := 0) (p := zh32) (a := none) (k := 0) (c := 0) (va := none) (vk := 0) (vc := 0))
    go_wp2_with fail
    refine wp_region_held_drew (S := fun w' => Blk w' w7.heap.size [.int .i64 (ex : Nat), .int .i64 (ey : Nat)] 52) (by kernel_rfl) HZ.out.drew (fun hS0 => ?_)
    try simp only [Act.put, List.setIfInBounds_toArray, List.set_cons_zero, List.set_cons_succ]
    refine wpAnyH_takeTo2 (i := 0) (oi := _) (v := .agg (bD hdr0 0 zh32 (.slice none 0 0) (.slice none 0 0)).toArray) (some 26) rfl rfl (by kernel_rfl) (by kernel_rfl) (by kernel_rfl) (fun _ _ _ h => h) (yieldsIf_build rfl 84 _ rfl (bD hdr0 0 zh32 (.slice none 0 0) (.slice none 0 0)).toArray (by kernel_rfl)) hS0 ?_
    try simp only [Act.put, List.setIfInBounds_toArray, List.set_cons_zero, List.set_cons_succ]
    refine wpAnyH_takeTo2 (i := 1) (oi := _) (v := .agg [.int .i64 (ex : Nat), .int .i64 (ey : Nat)].toArray) (some 27) rfl rfl (by kernel_rfl) (by kernel_rfl) (by kernel_rfl) (fun _ _ _ h => h) (yieldsIf_load_mid rfl 52 _ rfl w7.heap.size 0 rfl [.int .i64 (ex : Nat), .int .i64 (ey : Nat)] _ (fun w h j v hj => by rw [Nat.zero_add]; exact (h.cell j).trans hj) Tryz.underlying52 rfl (by kernel_rfl)) hS0 ?_
    try simp only [Act.put, List.setIfInBounds_toArray, List.set_cons_zero, List.set_cons_succ]
    refine wpAnyH_ready (rs := [2]) (by kernel_rfl) (by simp) ?_
    refine AllReadyH.cons (o := _) rfl (fun K hK => ?_) AllReadyH.nil
    refine if_intro (by rfl) ?_
    refine wp_store_row 84 _ _ rfl w.heap.size (bD hdr0 0 zh32 (.slice none 0 0) (.slice none 0 0)).toArray rfl rfl 84 (bD hdr0 0 zh32 (.slice none 0 0) (.slice none 0 0)).toArray HR.out.r (by rw [List.size_toArray, hlZ.out]; kernel_rfl) rfl hoZ.out ?_
    obtain ⟨w9, hw9⟩ : ∃ W, W = ((w7.alloc (.cells #[.int .i64 (ex : Nat), .int .i64 (ey : Nat)] 52)).drew).setRow w.heap.size (bD hdr0 0 zh32 (.slice none 0 0) (.slice none 0 0)).toArray := ⟨_, rfl⟩
    have F1 := hidp (show BRes w w9 (bD hdr0 0 zh32 (.slice none 0 0) (.slice none 0 0)) 0 0 by rw [hw9]; exact HR.out.row _)
    have L7 := hidp (show w7.heap.size ≠ w.heap.size + 1 ∧ w7.heap.size ≠ w.heap.size by have := D8.out.kg; have := D8.out.it.kt.lt; have := hk7.out; omega)
    have S1 := hidp (show Blk w9 w7.heap.size [.int .i64 (ex : Nat), .int .i64 (ey : Nat)] 52 by rw [hw9]; exact ((But.refl w.heap.size _).setRow _).blk hS0 L7.out.2)
    rw [← hw9]
    clear hw9
    refine hK.out _ _ S1.out (fun _ => ?_)
    clear hK K
    try simp only [Act.put, List.setIfInBounds_toArray, List.set_cons_zero, List.set_cons_succ]
    refine wpAnyH_ready (rs := [3]) (by kernel_rfl) (by simp) ?_
    refine AllReadyH.cons (o := _) rfl (fun K hK => ?_) AllReadyH.nil
    refine if_intro (by rfl) ?_
    obtain ⟨k0, k1, k2, k3⟩ := F1.out.fc
    go_simp
    have F2 := hidp (F1.out.fin ex ey)
    have S2 := hidp (show Blk ((w9.setCell ⟨w.heap.size + 1, 0, none⟩ (.int .i64 (ex : Nat))).setCell ⟨w.heap.size + 1, 1, none⟩ (.int .i64 (ey : Nat))) w7.heap.size [.int .i64 (ex : Nat), .int .i64 (ey : Nat)] 52 from (S1.out.other _ _ L7.out.1).other _ _ L7.out.1)
    refine hK.out _ _ S2.out (fun _ => ?_)
    clear hK K
    try simp only [Act.put, List.setIfInBounds_toArray, List.set_cons_zero, List.set_cons_succ]
    refine wpAnyH_done (by kernel_rfl) ?_ _
    clear k0 k1 k2 k3
    generalize (World.setCell _ _ _) = W at F2 ⊢
    go_wp2
    refine bodyPost_ret (v := .tuple #[.agg (bD hdr0 0 zh32 (.slice none 0 0) (.slice none 0 0)).toArray, .agg [.int .i64 (ex : Nat), .int .i64 (ey : Nat)].toArray]) ?_ rfl ⟨.inl ⟨by rw [← HF.out]; exact h0, by rw [← HF.out]⟩, F2.out.bel⟩
    exact results_rows2 Tryz.results62 _ _ w.heap.size 84 _ _ (w.heap.size + 1) 52 _ _ rfl F2.out.r Tryz.underlying84 rfl (by rw [hlZ.out]; kernel_rfl) rfl F2.out.f Tryz.underlying52 rfl (by kernel_rfl)
end Go.Proofs.YtcmkmnidnapabaaGreat

/-! Bkl: Block, plain: the bytes of a block are that block. -/
namespace Go.Proofs.YtcmkmnidnapabaaGreat
open Go.RowKit Go.Lib
set_option linter.unusedSimpArgs false
set_option linter.unusedVariables false

theorem pText_okM {T : List Nat} (h : T.length ≤ 65536) (Z : List Nat) : pText (ctB T ++ Z) 65536 = .ok T (ctB T).length := by
  have hn := pNum_nB (n := T.length) (by omega) (T ++ Z)
  unfold pText pLen ctB
  rw [List.append_assoc, hn]
  simp only
  rw [if_neg (by omega)]
  simp only
  rw [List.drop_left' (nB_len _), if_neg (by rw [List.length_append, List.length_append, nB_len]; omega), List.take_left' rfl, List.length_append, nB_len]
theorem it_next {T : List Nat} (t : Nat) (Z : List Nat) (h : T.length ≤ 65536) : itN ⟨t, ctB T ++ Z, 0, 0⟩ = ⟨t + (ctB T).length, Z, 0, 0⟩ ∧ itB ⟨t, ctB T ++ Z, 0, 0⟩ = T := by
  unfold itN itB rdN rdV
  simp only [ne_eq, not_true, if_false, pText_okM h Z, List.drop_left, and_self]
theorem bk_go (t : Nat) (R : List Nat) : bk ⟨t, R, 0, 0⟩ = (0, 0) := by
  unfold bk
  cases R with
  | nil => rfl
  | cons x R => rw [if_pos (by show 0 < (x :: R).length; simp)]
theorem it_ok {T : List Nat} {err : List Nat → Nat} {n ff : Nat} (t : Nat) (Z : List Nat) (h : T.length ≤ 65536) (he : err T = 0) : itF err n ⟨t, ctB T ++ Z, 0, 0⟩ 0 ff = (0, 0) := by
  obtain ⟨h1, h2⟩ := it_next t Z h
  unfold itF
  rw [h1, h2, bk_go, he]
  simp
theorem it_s {T : List Nat} (t : Nat) (Z : List Nat) (h : T.length ≤ 65536) : itS ⟨t, ctB T ++ Z, 0, 0⟩ 0 = ⟨t + (ctB T).length, Z, 0, 0⟩ := by
  unfold itS
  rw [if_neg (by simp), (it_next t Z h).1]
theorem bdec_back {x : Bd} (hS : HdrOk x.h) (hp : Bytes 32 x.p) (ht : ∀ v ∈ x.l, VtOk v) (hv : ∀ v ∈ x.s, VdOk v) (hc : prt x = 0) : bFin (encK x) = (0, 0) ∧ bH (encK x) = x.h ∧ bCm (encK x) = ⟨x.n, x.p, x.l, 0, 0⟩ ∧ bV (encK x) = x.s := by
  obtain ⟨c1, c2, c3⟩ := prt_ok hc
  have hle := encK_le hS hp.1 hc
  have e : encK x = ctB (encH x.h) ++ (ctB (encC x.n x.p x.l) ++ (ctB (encB x.s) ++ [])) := by unfold encK; simp only [List.append_assoc, List.append_nil]
  have l1 : (encH x.h).length ≤ 65536 := by rw [e] at hle; simp only [List.length_append, ctB] at hle; omega
  have l2 : (encC x.n x.p x.l).length ≤ 65536 := by rw [e] at hle; simp only [List.length_append, ctB] at hle; omega
  have l3 : (encB x.s).length ≤ 65536 := by rw [e] at hle; simp only [List.length_append, ctB] at hle; omega
  have dh := decH_back (x := x.h) ⟨hS, c1⟩
  have dc := decC_back hp c3 ht
  have dv := decO_back c2 hv
  have f1 : b1F (encK x) = (0, 0) := by unfold b1F rs0; rw [e]; exact it_ok 0 _ l1 (by unfold eH; rw [dh])
  have s1 : b1S (encK x) = ⟨0 + (ctB (encH x.h)).length, ctB (encC x.n x.p x.l) ++ (ctB (encB x.s) ++ []), 0, 0⟩ := by unfold b1S rs0; rw [e]; exact it_s 0 _ l1
  have f2 : b2F (encK x) = (0, 0) := by unfold b2F; rw [f1, s1]; exact it_ok _ _ l2 (by unfold eC; rw [dc])
  have s2 : b2S (encK x) = ⟨0 + (ctB (encH x.h)).length + (ctB (encC x.n x.p x.l)).length, ctB (encB x.s) ++ [], 0, 0⟩ := by unfold b2S; rw [f1, s1]; exact it_s _ _ l2
  have f3 : b3F (encK x) = (0, 0) := by unfold b3F; rw [f2, s2]; exact it_ok _ _ l3 (by unfold eV; rw [dv])
  have s3 : b3S (encK x) = ⟨0 + (ctB (encH x.h)).length + (ctB (encC x.n x.p x.l)).length + (ctB (encB x.s)).length, [], 0, 0⟩ := by unfold b3S; rw [f2, s2]; exact it_s _ _ l3
  refine ⟨by unfold bFin; rw [f3, s3]; rfl, ?_, ?_, ?_⟩
  · unfold bH vH rs0
    rw [e, (it_next 0 _ l1).1, (it_next 0 _ l1).2, bk_go, dh]
    simp
  · unfold bCm vC
    rw [f1, s1, (it_next _ _ l2).1, (it_next _ _ l2).2, bk_go, dc]
    simp
  · unfold bV vV
    rw [f2, s2, (it_next _ _ l3).1, (it_next _ _ l3).2, bk_go, dv]
    simp
end Go.Proofs.YtcmkmnidnapabaaGreat

/-! Bkm: Block: the chapter's validators, its header. -/
namespace Go.Proofs.YtcmkmnidnapabaaGreat
open Go.RowKit Go.Lib
set_option linter.unusedSimpArgs false
set_option linter.unusedVariables false

def hdK : Hdr := ⟨⟨#[97]⟩, 3, 4, z32, z32, z32, z32⟩
theorem hdK_ok : HdrOk hdK := ⟨by decide, by decide, z32_bytes, z32_bytes, z32_bytes, z32_bytes⟩
def vsK : List Vd := [⟨1, 5⟩, ⟨2, 7⟩]
set_option maxRecDepth 100000 in
set_option maxHeartbeats 2000000 in
theorem headK_any (w : World) : Calls Tryz.prog 64 #[] w fun e w' => e = .returned (.agg (hC hdK).toArray) ∧ Below w.heap.size w w' := by
  have hz : ∀ w, (zeroValue 79).run Tryz.prog w = .ok (.agg (hC hdr0).toArray) w := (zero_of_info (P := Tryz.prog) zero_hdr).1
  have hl := hidp (hC_len hdK_ok)
  have hl0 := hidp (hC_len hdr0_ok)
  have h1 := hidp (hC_one hdK)
  have hk := hidp (Blk.new w (hC hdr0) 79)
  have hB := hidp ((Below.refl w.heap.size w).alloc (Nat.le_refl _) (.cells (hC hdr0).toArray 79))
  go_enter Tryz.func64, Tryz.ntmps64
  go_wp2_with first
    | (with_reducible refine (?_ : wpList _ _ _ _ _ _); refine wpList_buildG (by kernel_rfl) 79 _ rfl (hC hdK).toArray (by kernel_rfl) ?_)
    | (with_reducible refine (?_ : wpList _ _ _ _ _ _); refine wpList_store_blk rfl 79 _ _ rfl w.heap.size (hC hdK) (hC hdr0) 79 rfl rfl hk.out (by rw [hl.out]; kernel_rfl) (by rw [hl.out, hl0.out]) h1.out ?_; intro w1 hw1)
  have b2 := hk.out.row (cs := hC hdK)
  rw [← hw1.out] at b2
  refine bodyPost_ret (v := .agg (hC hdK).toArray) ?_ rfl ⟨rfl, hB.out.atNew (Bex.ofRow hw1.out)⟩
  exact results_cell_row Tryz.results64 _ _ w.heap.size 79 _ (0, 0) _ rfl b2 Tryz.underlying79 rfl (by rw [List.size_toArray, hl.out]; kernel_rfl)
def TwP (w : World) (e : Ending) (w' : World) : Prop := e = .returned (.slice (some ⟨w.heap.size, 0, none⟩) 2 2) ∧ Vs w' (some ⟨w.heap.size, 0, none⟩) w.heap.size 0 2 vsK ∧ Below w.heap.size w w'
theorem Vs.lit (w : World) (T : TypeId) : Vs (w.alloc (.cells (vsK.flatMap vL).toArray T)) (some ⟨w.heap.size, 0, none⟩) w.heap.size 0 2 vsK := by
  have hk := Blk.new w (vsK.flatMap vL) T
  refine ⟨fun v hv => by simp only [vsK, List.mem_cons, List.not_mem_nil, or_false] at hv; rcases hv with rfl | rfl <;> exact ⟨by decide, by decide⟩, by decide, fun _ => ⟨rfl, hk.lt⟩, fun i v hi j c hc => ?_⟩
  have hv : i < 2 := (List.getElem?_eq_some_iff.1 hi).1
  have hj : j < 5 := (List.getElem?_eq_some_iff.1 hc).1
  rw [hk.cell, ← hc]
  rcases i with _ | _ | i
  · cases hi
    rcases j with _ | _ | _ | _ | _ | j <;> first | rfl | omega
  · cases hi
    rcases j with _ | _ | _ | _ | _ | j <;> first | rfl | omega
  · omega
set_option maxRecDepth 100000 in
set_option maxHeartbeats 2000000 in
theorem twoK_any (w : World) : Calls Tryz.prog 65 #[] w (TwP w) := by
  go_enter Tryz.func65, Tryz.ntmps65
  go_wp2
  exact bodyPost_ret (v := .slice (some ⟨w.heap.size, 0, none⟩) 2 2) (by simp [results, Tryz.results65, go_sem]) rfl ⟨rfl, Vs.lit w _, (Below.refl w.heap.size w).alloc (Nat.le_refl _) _⟩
end Go.Proofs.YtcmkmnidnapabaaGreat

/-! Bkn: Block: a block with one more vote. -/
namespace Go.Proofs.YtcmkmnidnapabaaGreat
open Go.RowKit Go.Lib
set_option linter.unusedSimpArgs false
set_option linter.unusedVariables false

theorem own_apart {W : World} {B C k : Nat} {v u : Value} {l : List Vt} {s : List Vd} (h : OwnT W B v l) (q : OwnV W C u s) (hk : u.ownBlock = some k) : v.ownBlock ≠ some k := by
  intro e
  rcases h.2 with ⟨h1, _⟩ | ⟨g, cap, cur, h1, h2, h3, _⟩
  · rw [h1] at e; cases e
  · rcases q.2 with ⟨q1, _⟩ | ⟨g', cap', cur', q1, q2, q3, _⟩
    · rw [q1] at hk; cases hk
    · rw [h1] at e
      rw [q1] at hk
      simp only [Value.ownBlock, Option.some.injEq] at e hk
      subst e hk
      rw [h3] at q3
      cases q3
theorem OwnV.kept {w w' : World} {base : Nat} {v : Value} {l : List Vd} {row : Option Nat} (h : OwnV w base v l) (hg : w.grownBy w' row) (hne : ∀ k, v.ownBlock = some k → row ≠ some k) : OwnV w' base v l := by
  refine ⟨h.1, ?_⟩
  rcases h.2 with h2 | ⟨g, cap, cur, h1, h2, h3, r⟩
  · exact .inl h2
  · exact .inr ⟨g, cap, cur, h1, h2, (hg.block g (Array.getElem?_eq_some_iff.1 h3).1 (fun e => hne g (by rw [h1]; rfl) e.symm)).trans h3, r⟩
theorem set_T {h : Hdr} {n : Int} {p : List Nat} {sv sw sv' : Value} (hh : HdrOk h) (hp : p.length = 32) : (bD h n p sv sw).set 164 sv' = bD h n p sv' sw := by
  have e1 := hC_len hh
  have e2 := cC_len (h := n) (sl := sv) hp
  have e3 : (bvs p).length = 32 := by rw [bvs_len, hp]
  unfold bD
  rw [List.set_append_right _ _ (by omega), e1, List.set_append_left _ _ (by omega)]
  congr 2
  unfold cC
  rw [List.set_cons_succ, List.set_append_right _ _ (by omega), e3]
  rfl
/-- A block's own box in a world, its votes and validators in rows of one's own. -/
structure WtB (w W : World) (y : Bd) : Prop where
  k : Blk W w.heap.size (bC y) 84
  r : Blk W (w.heap.size + 1) (bD hdr0 0 zh32 (.slice none 0 0) (.slice none 0 0)) 84
  t : OwnT W (w.heap.size + 2) (.slice y.a y.l.length y.tc) y.l
  v : OwnV W (w.heap.size + 2) (.slice y.va y.s.length y.vc) y.s
  bel : Below w.heap.size w W
theorem WtB.below {w W W' : World} {y : Bd} (H : WtB w W y) (hb : Below W.heap.size W W') : WtB w W' y := ⟨hb.blk' H.k, hb.blk' H.r, H.t.below hb, H.v.below hb, H.bel.trans (hb.mono H.bel.size)⟩
/-- The same, its votes hung on. -/
structure WtD (w W : World) (y : Bd) (p : Option Addr) (n c : Nat) (u : Vt) : Prop where
  k : Blk W w.heap.size (bD y.h y.n y.p (.slice p n c) (.slice y.va y.s.length y.vc)) 84
  r : Blk W (w.heap.size + 1) (bD hdr0 0 zh32 (.slice none 0 0) (.slice none 0 0)) 84
  t : OwnT W (w.heap.size + 2) (.slice p n c) (y.l ++ [u])
  v : OwnV W (w.heap.size + 2) (.slice y.va y.s.length y.vc) y.s
  bel : Below w.heap.size w W
theorem WtB.app {w W W3 : World} {y : Bd} {o : Obj} {u : Vt} {v' : Value} (H : WtB w W y) (hh : HdrOk y.h) (hp : y.p.length = 32) (ho : OwnT W3 (w.heap.size + 2) v' (y.l ++ [u])) (hg : (W.alloc o).grownBy W3 (Value.slice y.a y.l.length y.tc).ownBlock) :
    ∃ p n c, v' = .slice p n c ∧ n = (y.l ++ [u]).length ∧ W3.cell? ⟨w.heap.size, 164, none⟩ = some (.slice y.a y.l.length y.tc) ∧ W3.frozen? ⟨w.heap.size, 164, none⟩ = false ∧ WtD w (W3.setCell ⟨w.heap.size, 164, none⟩ (.slice p n c)) y p n c u := by
  have hlt := H.r.lt
  have a0 := (Below.refl W.heap.size W).alloc (Nat.le_refl _) o
  have b0 : Below (w.heap.size + 2) W (W.alloc o) := (Below.refl _ W).alloc (by omega) o
  have t1 := H.t.below a0
  have v1 := H.v.below a0
  have b1 : Below (w.heap.size + 2) W W3 := b0.grown hg (by simp; omega) (fun k hk => (t1.lt hk).1)
  have k3 := H.k.below b1 (by omega)
  have r3 := H.r.below b1 (by omega)
  have v3 := v1.kept hg (fun k hk => own_apart t1 v1 hk)
  obtain ⟨p, c, rfl, _⟩ := ho.slice
  have bt := (But.refl w.heap.size W3).setCell 164 (.slice p (y.l ++ [u]).length c)
  exact ⟨p, _, c, rfl, rfl, bk_l k3 hh hp, k3.free 164, ⟨(set_T hh hp) ▸ k3.set 164 _, bt.blk r3 (by omega), ho.butK bt (ho.neB k3), v3.butK bt (v3.neK k3), (H.bel.trans (b1.mono (by omega))).trans (bt.below (Nat.le_refl _))⟩⟩
def WtP (w : World) (x : Bd) (at' : Int) (e : Ending) (w' : World) : Prop := (∃ y : Bd, e = .returned (.agg (bC y).toArray) ∧ y.h = x.h ∧ y.n = x.n ∧ y.p = x.p ∧ y.l = x.l ++ [⟨at', 9⟩] ∧ y.s = x.s ∧ BdS w' y ∧ OwnBk w.heap.size w' y) ∧ Below w.heap.size w w'
set_option maxRecDepth 100000 in
set_option maxHeartbeats 4000000 in
theorem with_any (x : Bd) (at' : Int) (w : World) (hS : BdS w x) (hl : x.l.length ≤ 900) (hs : x.s.length ≤ 1000) (ha : -9223372036854775808 ≤ at' ∧ at' ≤ 9223372036854775807) : Calls Tryz.prog 66 #[.agg (bC x).toArray, .int .i64 at'] w (WtP w x at') := by
  have hzz : ∀ w, (zeroValue 84).run Tryz.prog w = .ok (.agg (bD hdr0 0 zh32 (.slice none 0 0) (.slice none 0 0)).toArray) w := (zero_of_info (P := Tryz.prog) zero_blk).1
  have hB0 : Hid (Below w.heap.size w ((w.alloc (.cells (bC x).toArray 84)).alloc (.cells (bD hdr0 0 zh32 (.slice none 0 0) (.slice none 0 0)).toArray 84))) := hidp (((Below.refl _ w).alloc (Nat.le_refl _) _).alloc (by simp) _)
  have K0 := hidp ((Blk.new w (bC x) 84).alloc (.cells (bD hdr0 0 zh32 (.slice none 0 0) (.slice none 0 0)).toArray 84))
  have R0 := hidp (Blk.new' (w.alloc (.cells (bC x).toArray 84)) (bD hdr0 0 zh32 (.slice none 0 0) (.slice none 0 0)) 84 (w.heap.size + 1) (by simp))
  have C1 := hidp (copyB_any x _ (hS.below hB0.out) (by omega) hs)
  have hlx := hidp (bC_len hS.hh hS.hp.1)
  have HA := hidp ha
  have HX := hidp hS.t.ok
  have HXV := hidp hS.v.ok
  clear hS hs ha
  go_enter Tryz.func66, Tryz.ntmps66
  go_wp2_with first
    | (with_reducible refine (?_ : wpList _ _ _ _ _ _); refine wpList_load_blk rfl 84 _ rfl w.heap.size (bC x) 84 rfl K0.out _ Tryz.underlying84 rfl (by rw [hlx.out]; kernel_rfl) ?_)
  refine C1.out.mono ?_
  rintro e w1 ⟨⟨y, rfl, e1, e2, e3, e4, e5, hy, hO⟩, hb⟩
  have hE := hidp (And.intro e1 (And.intro e2 (And.intro e3 (And.intro e4 e5))))
  have hsz : (w.heap.size + 2) = ((w.alloc (.cells (bC x).toArray 84)).alloc (.cells (bD hdr0 0 zh32 (.slice none 0 0) (.slice none 0 0)).toArray 84)).heap.size := by simp
  have k1 := hidp (hb.blk' K0.out)
  have r1 := hidp (hb.blk' R0.out)
  have b1 := hidp (hB0.out.trans (hb.mono hB0.out.size))
  have OT := hidp (show OwnT w1 (w.heap.size + 2) _ y.l by rw [hsz]; exact hO.t)
  have OV := hidp (show OwnV w1 (w.heap.size + 2) _ y.s by rw [hsz]; exact hO.v)
  have hly := hidp (bC_len hy.hh hy.hp.1)
  have HY := hidp (And.intro hy.hh (And.intro hy.hn hy.hp))
  have hap := hidp (fun (W W3 : World) (o : Obj) (v' : Value) (H : WtB w W y) (ho : OwnT W3 (w.heap.size + 2) v' (y.l ++ [⟨at', 9⟩])) (hg : (W.alloc o).grownBy W3 (Value.slice y.a y.l.length y.tc).ownBlock) => H.app hy.hh hy.hp.1 ho hg)
  have hoa1 := hidp (fun (W : World) (H : WtB w W y) (o : Obj) => show OwnT (W.alloc o) (w.heap.size + 2) (.slice y.a y.l.length y.tc) y.l from H.t.below ((Below.refl W.heap.size W).alloc (Nat.le_refl _) o))
  have hoa2 := hidp (fun (W : World) (H : WtB w W y) (o : Obj) => show w.heap.size + 2 ≤ (W.alloc o).heap.size by have := H.r.lt; simp; omega)
  have hln := hidp (show y.l.length + 1 ≤ 2000 by rw [e4]; omega)
  have hlb := hidp (fun (p : Option Addr) (n c : Nat) => bD_len (n := y.n) (sv := .slice p n c) (sw := .slice y.va y.s.length y.vc) hy.hh hy.hp.1)
  have hl0 := hidp (bD_len (n := 0) (sv := .slice none 0 0) (sw := .slice none 0 0) hdr0_ok zhl)
  have hob := hidp (fun (p : Option Addr) (n c : Nat) => bD_one (h := y.h) (n := y.n) (p := y.p) (a := p) (k := n) (c := c) (va := y.va) (vk := y.s.length) (vc := y.vc))
  have hcq := hidp (fun (W : World) (h : WtB w W y) => bk_l h.k hy.hh hy.hp.1)
  have hoy := hidp (show (bC y).toArray.all (·.oneCell') = true from bD_one)
  clear hl hb C1 K0 R0 hB0 hO hy e1 e2 e3 e4 e5 hsz
  have hq := hidp (fun (w2 : World) (hw : w2 = w1.setRow w.heap.size (bC y).toArray) => show WtB w w2 y by
    have bt : But w.heap.size w1 w2 := by rw [hw]; exact (But.refl _ _).setRow _
    exact ⟨by rw [hw]; exact k1.out.row, bt.blk r1.out (by omega), OT.out.butK bt (OT.out.neB k1.out), OV.out.butK bt (OV.out.neK k1.out), b1.out.trans (bt.below (Nat.le_refl _))⟩)
  go_wp2_with first
    | (with_reducible refine (?_ : wpList _ _ _ _ _ _); refine wpList_store_blk rfl 84 _ _ rfl w.heap.size (bC y) (bC x) 84 rfl rfl k1.out (by rw [hly.out]; kernel_rfl) (by rw [hly.out, hlx.out]) hoy.out ?_; intro w2 hw2; have H2 := hidp (hq.out w2 hw2.out); have c164 := hcq.out w2 H2.out; clear hw2)
    | (at_builtin; refine wpList_append_v1 rfl _ _ rfl (w.heap.size + 2) y.l _ rfl (hoa1.out w2 H2.out _) w2.heap.size ⟨at', 9⟩ rfl (Blk.new w2 (tL ⟨at', 9⟩) _) hln.out (hoa2.out w2 H2.out _) ?_; intro v' w3 ho3 hg3; obtain ⟨p3, n3, c3, hv3, hn3, c164, f164, D3⟩ := hap.out w2 w3 _ v' H2.out ho3 hg3; subst hv3; replace D3 := hidp D3; replace hn3 := hidp hn3; clear ho3 hg3)
    | (with_reducible refine (?_ : wpList _ _ _ _ _ _); refine wpList_load_blk rfl 84 _ rfl w.heap.size (bD y.h y.n y.p (.slice p3 n3 c3) (.slice y.va y.s.length y.vc)) 84 rfl D3.out.k _ Tryz.underlying84 rfl (by rw [hlb.out]; kernel_rfl) ?_)
    | (with_reducible refine (?_ : wpList _ _ _ _ _ _); refine wpList_store_blk rfl 84 _ _ rfl (w.heap.size + 1) (bD y.h y.n y.p (.slice p3 n3 c3) (.slice y.va y.s.length y.vc)) (bD hdr0 0 zh32 (.slice none 0 0) (.slice none 0 0)) 84 rfl rfl D3.out.r (by rw [hlb.out]; kernel_rfl) (by rw [hlb.out, hl0.out]) (hob.out _ _ _) ?_; intro w5 hw5)
  have b5 : Blk w5 (w.heap.size + 1) (bD y.h y.n y.p (.slice p3 n3 c3) (.slice y.va y.s.length y.vc)) 84 := by rw [hw5.out]; exact D3.out.r.row
  have bt5 : But (w.heap.size + 1) (w3.setCell ⟨w.heap.size, 164, none⟩ (.slice p3 n3 c3)) w5 := by rw [hw5.out]; exact (But.refl _ _).setRow _
  have OT5 := D3.out.t.butK bt5 (D3.out.t.neB D3.out.r)
  have OV5 := D3.out.v.butK bt5 (D3.out.v.neK D3.out.r)
  have hB5 : Below w.heap.size w w5 := D3.out.bel.trans (bt5.below (by omega))
  obtain ⟨q1, g1, r1', e1, _, ht5, _⟩ := OT5.ts (fun u hu => by
    rcases List.mem_append.1 hu with hu | hu
    · exact HX.out u (by rw [← hE.out.2.2.2.1]; exact hu)
    · rw [List.mem_singleton.1 hu]; exact ⟨HA.out, show (9 : Nat) < 18446744073709551616 by decide⟩)
  obtain ⟨q3, g3, r3', e3, _, hv5⟩ := OV5.vs (fun u hu => HXV.out u (by rw [← hE.out.2.2.2.2]; exact hu))
  cases e1
  cases e3
  refine bodyPost_ret (v := .agg (bC (y.lay p3 g1 0 c3 (y.l ++ [(⟨at', 9⟩ : Vt)]) y.va g3 0 y.vc y.s)).toArray) ?_ rfl ⟨⟨y.lay p3 g1 0 c3 (y.l ++ [(⟨at', 9⟩ : Vt)]) y.va g3 0 y.vc y.s, rfl, hE.out.1, hE.out.2.1, hE.out.2.2.1, by rw [← hE.out.2.2.2.1]; rfl, hE.out.2.2.2.2, ⟨HY.out.1, HY.out.2.1, HY.out.2.2, ht5, hv5⟩, ⟨OT5.mono (by omega), OV5.mono (by omega)⟩⟩, hB5⟩
  exact results_row0 Tryz.results66 _ _ (w.heap.size + 1) 84 _ _ rfl b5 Tryz.underlying84 rfl (show (Tryz.prog.info? 84).map (·.size) = some (bD y.h y.n y.p (.slice p3 (y.l ++ [(⟨at', 9⟩ : Vt)]).length c3) (.slice y.va y.s.length y.vc)).length by rw [hlb.out]; kernel_rfl)
end Go.Proofs.YtcmkmnidnapabaaGreat

/-! Bkb: Block: the requirements' errors, one after the other; Linked. -/
namespace Go.Proofs.YtcmkmnidnapabaaGreat
open Go.RowKit Go.Lib Go.Shelf Go.Maps
set_option linter.unusedSimpArgs false
set_option linter.unusedVariables false
attribute [local go_sem] Oper.semAt_some

def bfs : List Nat := [187, 188, 189, 190, 191, 192, 193]
def bes (x : Bd) : List Nat := [chkH x.h, chk x.s, chkC x.n x.l, lk4 x, lk5 x, lk6 x, lk7 x]
def fcs : List Value := [.func (.func 187) #[] #[], .func (.func 188) #[] #[], .func (.func 189) #[] #[], .func (.func 190) #[] #[], .func (.func 191) #[] #[], .func (.func 192) #[] #[], .func (.func 193) #[] #[]]
/-- The errors of a block that are none OK; the first one. -/
def errs (x : Bd) : List Nat := (bes x).filter (fun e => e != 0)
def lnk (x : Bd) : Nat := (errs x).headD 0
/-- Seven in one. -/
theorem bq_any (x : Bd) (W : World) (hS : BdS W x) : ∀ (i : Nat), i < 7 → ∃ f E, (bes x)[i]? = some E ∧ fcs[i]? = some (.func (.func f) #[] #[]) ∧ (∀ args w, (callFunc f args).run Tryz.prog w = .ok (.enter f args) w) ∧ Calls Tryz.prog f #[.agg (bC x).toArray] W (LkP W E)
  | 0, _ => ⟨_, _, rfl, rfl, enters_of Tryz.func187 (by kernel_rfl) rfl, bq1 x W hS⟩
  | 1, _ => ⟨_, _, rfl, rfl, enters_of Tryz.func188 (by kernel_rfl) rfl, bq2 x W hS⟩
  | 2, _ => ⟨_, _, rfl, rfl, enters_of Tryz.func189 (by kernel_rfl) rfl, bq3 x W hS⟩
  | 3, _ => ⟨_, _, rfl, rfl, enters_of Tryz.func190 (by kernel_rfl) rfl, bq4 x W hS⟩
  | 4, _ => ⟨_, _, rfl, rfl, enters_of Tryz.func191 (by kernel_rfl) rfl, bq5 x W hS⟩
  | 5, _ => ⟨_, _, rfl, rfl, enters_of Tryz.func192 (by kernel_rfl) rfl, bq6 x W hS⟩
  | 6, _ => ⟨_, _, rfl, rfl, enters_of Tryz.func193 (by kernel_rfl) rfl, bq7 x W hS⟩
  | _ + 7, h => absurd h (by omega)
theorem bes_snoc (x : Bd) {i E : Nat} (h : (bes x)[i]? = some E) : ((bes x).take (i + 1)).filter (fun e => e != 0) = ((bes x).take i).filter (fun e => e != 0) ++ (if E = 0 then [] else [E]) := by
  obtain ⟨hlt, rfl⟩ := List.getElem?_eq_some_iff.1 h
  rw [List.take_succ_eq_append_getElem hlt, List.filter_append]
  congr 1
  by_cases h0 : (bes x)[i] = 0
  · rw [if_pos h0]; simp [h0]
  · rw [if_neg h0]; simp [h0]
theorem BdS.low {n₀ : Nat} {W W' : World} {x : Bd} (h : BdS W x) (hb : Below n₀ W W') (h1 : 0 < x.tc → x.tb < n₀) (h2 : 0 < x.vc → x.vb < n₀) : BdS W' x := by
  refine ⟨h.hh, h.hn, h.hp, ⟨h.t.ok, h.t.le, fun h0 => ⟨(h.t.ptr h0).1, Nat.lt_of_lt_of_le (h.t.ptr h0).2 hb.size⟩, fun i v hi j c hc => ?_⟩, ⟨h.v.ok, h.v.le, fun h0 => ⟨(h.v.ptr h0).1, Nat.lt_of_lt_of_le (h.v.ptr h0).2 hb.size⟩, fun i v hi j c hc => ?_⟩⟩
  · have h0 : 0 < x.tc := by
      have := h.t.le
      have := (List.getElem?_eq_some_iff.1 hi).1
      omega
    exact (hb.cell (p := ⟨x.tb, x.t0 + i * 2 + j, none⟩) (h1 h0)).trans (h.t.cell i v hi j c hc)
  · have h0 : 0 < x.vc := by
      have := h.v.le
      have := (List.getElem?_eq_some_iff.1 hi).1
      omega
    exact (hb.cell (p := ⟨x.vb, x.v0 + i * 5 + j, none⟩) (h2 h0)).trans (h.v.cell i v hi j c hc)
theorem reqs_any (w : World) : Calls Tryz.prog 122 #[] w fun e w' => e = .returned (.slice (some ⟨w.heap.size, 0, none⟩) 7 7) ∧ Blk w' w.heap.size fcs 242 ∧ Below w.heap.size w w' := by
  go_enter Tryz.func122, Tryz.ntmps122
  go_wp2
  go_ret
  exact ⟨rfl, Blk.new w fcs _, (Below.refl _ w).alloc (Nat.le_refl _) _⟩
set_option maxRecDepth 100000 in
theorem unmet_any (x : Bd) (a : Option Addr) (n c : Nat) (w : World) : Calls Tryz.prog 121 #[.agg (bC x).toArray, .slice a n c] w fun e w' => e = .returned (.func (.func 186) #[] #[.pointer (some ⟨w.heap.size + 1, 0, none⟩), .pointer (some ⟨w.heap.size, 0, none⟩)]) ∧ Blk w' w.heap.size (bC x) 84 ∧ Blk w' (w.heap.size + 1) [.slice a n c] 166 ∧ Below w.heap.size w w' := by
  have hmf : ∀ (fn : Fn) (first cap : Array Value) (w : World), (Instr.makeFunc fn first cap).run Tryz.prog w = .ok (.func fn first cap) w := fun _ _ _ _ => rfl
  have h1 := hidp ((Blk.new w (bC x) 84).alloc (.cells #[.slice a n c] 166))
  have h2 := hidp (Blk.new' (w.alloc (.cells (bC x).toArray 84)) [.slice a n c] 166 (w.heap.size + 1) (by simp))
  have h3 := hidp (((Below.refl w.heap.size w).alloc (Nat.le_refl _) (.cells (bC x).toArray 84)).alloc (by simp) (.cells #[.slice a n c] 166))
  go_enter Tryz.func121, Tryz.ntmps121
  go_wp2
  go_ret
  exact ⟨rfl, h1.out, h2.out, h3.out⟩
section
variable {F : Fence} {nF : Nat}
theorem wpListIn_load_midG {P : Program} {ops : Array Oper} {rest : List Oper} {o : Oper} {a : Act} {w : World} {Q : Exit → Act → World → Prop} (hgd : o.guard = none) (ty : TypeId) (x : Operand) (ho : o.op = .load ty x)
    (b f : Nat) (hx : a.eval x = .pointer (some ⟨b, f, none⟩)) (cs : List Value) (d : TypeDesc) (hc : w.rangeAt b f cs)
    (hu : P.underlying ty = some d) (hd : d.isRow = true) (hi : (P.info? ty).map (·.size) = some cs.length)
    (h : wpListIn F nF P ops Q rest (a.put o.dst (.agg cs.toArray)) w) : wpListIn F nF P ops Q (o :: rest) a w := by
  refine wpListIn_plain hgd fun K' hK' => ?_
  unfold Oper.wpIn
  refine ⟨by simp [Oper.about, ho], ?_⟩
  rw [Oper.semAt_plain F _ _ (by rw [ho]; intro c hc'; cases hc')]
  simp only [execOp, ho, hx, Sem.run_bind, run_loadAt_mid w b f ty cs d hc hu hd hi, Result.andThen_ok, Sem.run_pure]
  exact hK' _ _ h
end
/-- Between two rounds. -/
structure UmI (J : List Nat → World → Prop) (x : Bd) (n₀ Bl Bb g i : Nat) (pre : List Nat) (W : World) : Prop where
  j : J pre W
  e : pre = ((bes x).take i).filter (fun e => e != 0)
  kl : Blk W Bl [.slice (some ⟨g, 0, none⟩) 7 7] 166
  kb : Blk W Bb (bC x) 84
  kg : Blk W g fcs 242
  s : BdS W x
  n0 : n₀ ≤ W.heap.size
/-- Which blocks lie ahead. -/
structure UmL (x : Bd) (n₀ Bl Bb g : Nat) : Prop where
  l : Bl < n₀
  b : Bb < n₀
  g : g < n₀
  t : 0 < x.tc → x.tb < n₀
  v : 0 < x.vc → x.vb < n₀

theorem UmI.low {J : List Nat → World → Prop} {x : Bd} {n₀ Bl Bb g i i' : Nat} {pre pre' : List Nat} {W W' : World} (H : UmI J x n₀ Bl Bb g i pre W) (L : UmL x n₀ Bl Bb g) (hb : Below n₀ W W') (hj : J pre' W') (he : pre' = ((bes x).take i').filter (fun e => e != 0)) : UmI J x n₀ Bl Bb g i' pre' W' :=
  ⟨hj, he, H.kl.below hb L.l, H.kb.below hb L.b, H.kg.below hb L.g, H.s.low hb L.t L.v, Nat.le_trans H.n0 hb.size⟩
set_option maxRecDepth 100000 in
set_option maxHeartbeats 4000000 in
theorem unmet1_in (n : Nat) (hn : 1 ≤ n) (l Bl Bb n₀ g : Nat) (x : Bd) (J Jx : List Nat → World → Prop) (W : World)
    (hJ : AbidesFrom W.heap.size J)
    (hY : ∀ pre e W1, J pre W1 → pre.length < 7 → YieldAt Fence.wide (n - 1) Tryz.prog l #[.int .i64 ((e : Nat) : Int)] W1 fun E W' =>
      (E = .returned (.bool true) ∧ J (pre ++ [e]) W' ∧ Below n₀ W1 W') ∨ (E = .returned (.bool false) ∧ Jx (pre ++ [e]) W'))
    (L : UmL x n₀ Bl Bb g) (kl : Blk W Bl [.slice (some ⟨g, 0, none⟩) 7 7] 166) (kb : Blk W Bb (bC x) 84) (kg : Blk W g fcs 242) (hS : BdS W x) (hn0 : n₀ ≤ W.heap.size) (h0 : J [] W) :
    CallsIn Fence.wide n Tryz.prog 186 #[.func (.yield l) #[] #[], .pointer (some ⟨Bl, 0, none⟩), .pointer (some ⟨Bb, 0, none⟩)] W fun e W' => (∃ v, e = .returned v) ∧
      ((∃ ys, ys = errs x ∧ J ys W') ∨ (∃ pre, pre <+: errs x ∧ Jx pre W')) := by
  have c0 := kl.cell 0
  simp only [List.getElem?_cons_zero] at c0
  have HL := hidp L
  have HY := hidp hY
  have HJ := hidp hJ
  have hls := hidp (bC_len hS.hh hS.hp.1)
  have H0 : Hid (UmI J x n₀ Bl Bb g 0 [] W) := hidp ⟨h0, by simp, kl, kb, kg, hS, hn0⟩
  clear kl kb kg hS hY hJ L h0 hn0
  refine callsIn_of_wp Tryz.func186 rfl trivial ?_ rfl
  simp only [Tryz.ntmps186, List.size_toArray, List.length_cons, List.length_nil, Nat.reduceAdd, Nat.reduceSub, Array.replicate_succ, Array.replicate_zero, List.push_toArray, List.append_toArray, List.nil_append, List.cons_append]
  gi_wp2
  gi_loopw [9] (fun v wr => ∃ i : Nat, ∃ pre, i ≤ 7 ∧ v = .int .i64 ((i : Nat) : Int) ∧ Hid (UmI J x n₀ Bl Bb g i pre wr)) (fun v _ => 7 - (Go.RowKit.intOf v).toNat)
  case atStart => exact ⟨0, [], by omega, rfl, H0⟩
  case round =>
    obtain ⟨i, pre, hi, rfl, hr⟩ := hrel
    clear H0 c0
    by_cases hlt : i < 7
    · obtain ⟨f, E, hE, hf, eg, hq⟩ := bq_any x wr hr.out.s i hlt
      have c1 : wr.cell? ⟨g, i, none⟩ = some (.func (.func f) #[] #[]) := (hr.out.kg.cell i).trans hf
      have hadd := w64_nat (n := i) (by omega)
      have HE := hidp (bes_snoc x hE)
      have HQ := hidp hq
      have HI := hidp hlt
      clear hE hf hq
      have hSZ : (Tryz.prog.info? 84).map (·.size) = some (bC x).length := by rw [hls.out]; kernel_rfl
      have hRB := rng0 hr.out.kb
      gi_wp2_with (with_reducible refine (?_ : wpListIn _ _ _ _ _ _ _ _); refine wpListIn_load_midG rfl 84 _ rfl Bb 0 rfl (bC x) _ hRB Tryz.underlying84 rfl hSZ ?_)
      refine ⟨trivial, ?_⟩
      refine (callsIn_wide.2 HQ.out).mono ?_
      rintro e w1 ⟨rfl, hb⟩
      have H1 := hidp (hr.out.low HL.out (hb.mono hr.out.n0) (HJ.out _ _ _ none hr.out.j (grown_of_below hb) (fun r h => by cases h)) hr.out.e)
      have hpl := hidp (show pre.length < 7 by rw [hr.out.e]; exact Nat.lt_of_le_of_lt (Nat.le_trans (List.length_filter_le _ _) (List.length_take_le _ _)) HI.out)
      clear hb hr HQ eg hRB hSZ c1
      by_cases hz : E = 0
      · subst hz
        have H3 := hidp (show UmI J x n₀ Bl Bb g (i + 1) pre w1 from ⟨H1.out.j, by rw [HE.out, if_pos rfl, List.append_nil]; exact H1.out.e, H1.out.kl, H1.out.kb, H1.out.kg, H1.out.s, H1.out.n0⟩)
        clear H1 HE
        gi_wp2
        refine ⟨(fun f h => by cases h), ?_⟩
        gi_wp2
        try rw [hadd]
        exact ⟨⟨i + 1, pre, by have := HI.out; omega, rfl, H3⟩, by have := HI.out; show 7 - ((i + 1 : Nat) : Int).toNat < 7 - ((i : Nat) : Int).toNat; omega⟩
      · have hne : (((E : Nat) : Int) != 0) = true := by rw [bne_iff_ne]; omega
        obtain ⟨fn, tmps, assign, body, hy, hR⟩ := HY.out pre E w1 H1.out.j hpl.out
        have hEE := hidp (show ((bes x).take (i + 1)).filter (fun e => e != 0) = pre ++ [E] by rw [HE.out, if_neg hz, ← H1.out.e])
        have HLn := hidp hlt
        clear hz HE hpl
        gi_wp2
        refine hR.mono ?_
        rintro e W3 (⟨rfl, hJ3, hk3⟩ | ⟨rfl, hJx3⟩)
        · have H3 := hidp (H1.out.low (i' := i + 1) HL.out hk3 hJ3 hEE.out.symm)
          clear hR hJ3 hk3 H1
          gi_wp2
          try rw [hadd]
          exact ⟨⟨i + 1, pre ++ [E], by have := HLn.out; omega, rfl, H3⟩, by have := HLn.out; show 7 - ((i + 1 : Nat) : Int).toNat < 7 - ((i : Nat) : Int).toNat; omega⟩
        · have HX := hidp (show pre ++ [E] <+: errs x by rw [← hEE.out]; exact (List.take_prefix _ _).filter _)
          clear hR
          gi_wp2
          refine bodyPost_ret (results_none rfl _ _ _) rfl ?_
          exact ⟨⟨_, rfl⟩, .inr ⟨pre ++ [E], HX.out, hJx3⟩⟩
    · obtain rfl : i = 7 := by omega
      have HX := hidp (show pre = errs x by rw [hr.out.e]; rfl)
      gi_wp2
      go_end0
      exact ⟨⟨_, rfl⟩, .inl ⟨pre, HX.out, hr.out.j⟩⟩
theorem UmL.of {x : Bd} {n₀ Bl Bb g : Nat} {W : World} (hl : Bl < n₀) (hb : Bb < n₀) (hg : g < n₀) (hS : BdS W x) (hW : W.heap.size ≤ n₀) : UmL x n₀ Bl Bb g :=
  ⟨hl, hb, hg, fun h => Nat.lt_of_lt_of_le (hS.t.ptr h).2 hW, fun h => Nat.lt_of_lt_of_le (hS.v.ptr h).2 hW⟩
theorem unmet_stops (n : Nat) (hn : 1 ≤ n) (Bl Bb n₀ g : Nat) (x : Bd) (w : World) (L : UmL x n₀ Bl Bb g) (kl : Blk w Bl [.slice (some ⟨g, 0, none⟩) 7 7] 166) (kb : Blk w Bb (bC x) 84) (kg : Blk w g fcs 242) (hS : BdS w x) (hn0 : n₀ ≤ w.heap.size) :
    SeqStopsK Fence.wide n Tryz.prog 186 #[.pointer (some ⟨Bl, 0, none⟩), .pointer (some ⟨Bb, 0, none⟩)] (fun e : Nat => #[.int .i64 ((e : Nat) : Int)]) (Below n₀) (fun xs => xs = errs x) (fun pre => pre <+: errs x) 7 w :=
  fun l J Jx W hW hJ _ hY h0 => unmet1_in n hn l Bl Bb n₀ g x J Jx W hJ hY L (hW.blk' kl) (hW.blk' kb) (hW.blk' kg) (hS.below hW) (Nat.le_trans hn0 hW.size) h0
/-- Linked: its result, between two rounds. -/
def LkI (w : World) (rb : Nat) (pre : List Nat) (W : World) : Prop := pre = [] ∧ Blk W rb [.int .i64 0] 30 ∧ Below w.heap.size w W
def LkX (w : World) (rb : Nat) (cd : Code) (pre : List Nat) (W : World) : Prop := cd = .ret ∧ ∃ e : Nat, pre = [e] ∧ Blk W rb [.int .i64 (e : Nat)] 30 ∧ Below w.heap.size w W
theorem LkI_own (w : World) (rb C : Nat) (hC : w.heap.size ≤ C) : OwnFrom C (LkI w rb) := by
  rintro s W W' row ⟨h1, h2, h3⟩ hg hr
  exact ⟨h1, h2.turn hg (fun r e => (hr r e).2), Below.turn h3 hg h3.size hC hr⟩
theorem LkX_own (w : World) (rb : Nat) (cd : Code) (C : Nat) (hC : w.heap.size ≤ C) : OwnFrom C (LkX w rb cd) := by
  rintro s W W' row ⟨h1, e, h2, h3, h4⟩ hg hr
  exact ⟨h1, e, h2, h3.turn hg (fun r e => (hr r e).2), Below.turn h4 hg h4.size hC hr⟩
/-- The box of Linked. -/
structure LkB (w W : World) (x : Bd) : Prop where
  k : Blk W w.heap.size (bC x) 84
  r : Blk W (w.heap.size + 1) [.int .i64 0] 30
  bel : Below w.heap.size w W
theorem LkB.below {w W W' : World} {x : Bd} (H : LkB w W x) (hb : Below W.heap.size W W') : LkB w W' x := ⟨hb.blk' H.k, hb.blk' H.r, H.bel.trans (hb.mono H.bel.size)⟩
theorem leaveL {w W : World} {rb D : Nat} {tm : Array Value} {e : Int} {R : Ending → World → Prop} (hres : Blk W rb [.int .i64 e] 30) (hK : W.heap[D]? = some (.deferred (some []))) (hD : w.heap.size ≤ D) (hbel : Below w.heap.size w W)
    (hrs : ∀ W' : World, W'.cell? ⟨rb, 0, none⟩ = some (.int .i64 e) → (results Tryz.f55 tm).run Tryz.prog W' = .ok (.int .i64 e) W')
    (hR : ∀ W', Below w.heap.size w W' → R (.returned (.int .i64 e)) W') :
    bodyPostM Fence.wide 9 Tryz.prog Tryz.f55 R .ret { tmps := tm, defers := [{ target := .collected D, args := #[] }] } W := by
  have hg : W.grownBy (W.putObj D (.deferred none)) (some D) := grownBy_putObj' W D _
  have hr : ∀ r, some D = some r → ∃ o : Obj, W.heap[r]? = some o ∧ o.isCells = false := fun r e => by cases e; exact ⟨_, hK, rfl⟩
  have hres' := hres.turn hg hr
  refine ⟨by simp, .inl ⟨_, _, rfl, run_takeDeferred hK, ?_⟩⟩
  exact ⟨_, hrs _ (hres'.cell 0), hR _ (Below.turn hbel hg hbel.size (Nat.le_refl _) (fun r e => by cases e; exact ⟨hD, _, hK, rfl⟩))⟩
theorem wp_normalM {P : Program} {c : Code} {K : Act → World → Prop} {Q : Exit → Act → World → Prop} {a : Act} {w : World} (h : c.wp P (Exit.then K (fun _ _ _ => False)) a w) : c.wp P (Exit.then K Q) a w :=
  Code.wp_mono (fun e a w q => by cases e <;> first | exact q | exact q.elim) h
set_option maxRecDepth 100000 in
set_option maxHeartbeats 4000000 in
theorem linked_w (x : Bd) (w : World) (hS : BdS w x) :
    CallsIn Fence.wide 9 Tryz.prog 55 #[.agg (bC x).toArray] w (LkP w (lnk x)) := by
  have H0 : Hid (LkB w ((w.alloc (.cells (bC x).toArray 84)).alloc (.cells #[.int .i64 0] 30)) x) := hidp ⟨(Blk.new w (bC x) _).alloc _, Blk.new' _ [.int .i64 0] _ _ (by simp), ((Below.refl _ w).alloc (Nat.le_refl _) _).alloc (by simp) _⟩
  have hls := hidp (bC_len hS.hh hS.hp.1)
  have HS := hidp hS
  clear hS
  refine callsIn_of_wp_marks Tryz.func55 rfl trivial ?_ rfl
  simp only [Tryz.ntmps55, List.size_toArray, List.length_cons, List.length_nil, Nat.reduceAdd, Nat.reduceSub, Array.replicate_succ, Array.replicate_zero, List.push_toArray, List.append_toArray, List.nil_append, List.cons_append]
  obtain ⟨W0, hW0⟩ : ∃ W0, W0 = (w.alloc (.cells (bC x).toArray 84)).alloc (.cells #[.int .i64 0] 30) := ⟨_, rfl⟩
  have hz0 := hidp (show W0.heap.size = w.heap.size + 2 by rw [hW0]; simp)
  gi_wp2_with fail
  rw [← hW0] at H0 ⊢
  clear hW0
  refine wpIn_wide.2 ?_
  refine wp_normalM ?_
  have hT := hidp (H0.out.below (Below.refl _ _).drew)
  clear H0
  refine wp_region_held_drew (S := fun W => LkB w W x) (by kernel_rfl) hT.out (fun hHeld => ?_)
  try simp only [Act.put, List.setIfInBounds_toArray, List.set_cons_zero, List.set_cons_succ]
  refine wpAnyH_takeTo2 (i := 0) (oi := _) (v := .agg (bC x).toArray) (some 4) rfl rfl (by kernel_rfl) (by kernel_rfl) (by kernel_rfl) (fun _ _ _ h => h) (yieldsIf_load_mid (by rfl) 84 _ rfl (w.heap.size) 0 rfl (bC x) _ (fun w' hw' => rng0 hw'.k) Tryz.underlying84 rfl (by rw [hls.out]; kernel_rfl)) hHeld ?_
  try simp only [Act.put, List.setIfInBounds_toArray, List.set_cons_zero, List.set_cons_succ]
  refine wpAnyH_ready (rs := [1]) (by kernel_rfl) (by simp) ?_
  refine AllReadyH.cons (o := _) rfl (fun K hK => ?_) AllReadyH.nil
  go_simp
  refine (reqs_any _).mono ?_
  rintro e w1 ⟨rfl, hkg, hN⟩
  replace hT := hidp (hT.out.below hN)
  have KG := hidp hkg
  clear hN hkg
  go_wp2_with fail
  refine hK.out _ _ hT.out (fun hHeld' => ?_)
  clear hK K hHeld
  have hHeld := hHeld'
  clear hHeld'
  try simp only [Act.put, List.setIfInBounds_toArray, List.set_cons_zero, List.set_cons_succ]
  refine wpAnyH_ready (rs := [2]) (by kernel_rfl) (by simp) ?_
  refine AllReadyH.cons (o := _) rfl (fun K hK => ?_) AllReadyH.nil
  go_simp
  refine (unmet_any x _ _ _ _).mono ?_
  rintro e w2 ⟨rfl, hkb, hkl, hN⟩
  replace hT := hidp (hT.out.below hN)
  replace KG := hidp (hN.blk' KG.out)
  have KB := hidp hkb
  have KL := hidp hkl
  have hz1 := hidp hN.size
  clear hN hkb hkl
  go_wp2_with fail
  refine hK.out _ _ hT.out (fun hHeld' => ?_)
  clear hK K hHeld
  have hHeld := hHeld'
  clear hHeld'
  try simp only [Act.put, List.setIfInBounds_toArray, List.set_cons_zero, List.set_cons_succ]
  refine wpAnyH_done (by kernel_rfl) ?_ _
  clear hHeld
  gi_wp2
  have hwg := hT.out.bel.size
  have hl1 := KL.out.lt
  have hSS := unmet_stops 8 (by decide) (w1.heap.size + 1) w1.heap.size w2.heap.size W0.heap.size x w2 (UmL.of hl1 (by omega) KG.out.lt (HS.out.below hT.out.bel) (Nat.le_refl _)) KL.out KB.out KG.out (HS.out.below hT.out.bel) (Nat.le_refl _)
  have HT := hT
  clear hT KL KB KG hl1
  refine wpIn_rangeFunc_ownH (n := 9) rfl (by decide) (gf := 186) (lb := #[.pointer (some ⟨w1.heap.size + 1, 0, none⟩), .pointer (some ⟨w1.heap.size, 0, none⟩)]) rfl trivial (enters_of Tryz.func186 (by kernel_rfl) rfl)
    hSS belowK_t (belowK_b (Nat.le_refl _)) (Below.refl _ _) (fun _ => rfl) (LkI w (w.heap.size + 1)) (LkX w (w.heap.size + 1)) (LkI_own w _ _ hwg) (fun cd => LkX_own w _ cd _ hwg)
    ⟨rfl, HT.out.r, HT.out.bel⟩
    (fun e a' W => a' = { tmps := #[.agg (bC x).toArray, .pointer (some ⟨w.heap.size, 0, none⟩), .pointer (some ⟨w.heap.size + 1, 0, none⟩), .int .i64 ((e : Nat) : Int), .agg (bC x).toArray, .slice (some ⟨W0.heap.size, 0, none⟩) 7 7, .func (.func 186) #[] #[.pointer (some ⟨w1.heap.size + 1, 0, none⟩), .pointer (some ⟨w1.heap.size, 0, none⟩)], .int .i64 ((e : Nat) : Int), undef], defers := [] })
    (fun x a' s W W' row h hg hr => h) ?assign ?body ?done ?stop
  case assign =>
    rintro ll pre e W K hI hK
    gi_wp2
    exact hK _ _ (KeepsFrom.refl _ _) (Below.refl _ _) hI rfl
  case body =>
    rintro ll pre e a' W hll ⟨r, hr⟩ ⟨hp, hres, hbel⟩ rfl hlen
    have c0 := hres.cell 0
    have f0 := hres.free 0
    simp only [List.getElem?_cons_zero] at c0
    have hres1 := hidp hres
    have hbel1 := hidp hbel
    clear hres hbel
    gi_wp2
    exact ⟨(KeepsOthers.setCell _ _ _).from _, rfl, e, by rw [hp]; rfl, hres1.out.set 0 _, hbel1.out.setCell (p := ⟨w.heap.size + 1, 0, none⟩) (by simp) _⟩
  case done =>
    rintro D xs W hD rfl ⟨hnil, hres, hbel⟩ hK
    have c0 := hres.cell 0
    have f0 := hres.free 0
    simp only [List.getElem?_cons_zero] at c0
    have hres1 := hidp hres
    have hbel1 := hidp hbel
    have hO := hidp (show lnk x = 0 by unfold lnk; rw [hnil]; rfl)
    clear hres hbel hnil
    gi_wp2
    refine leaveL (hres1.out.set 0 (.int .i64 0)) ((KeepsOthers.setCell _ _ _).same D _ hK rfl) (by omega) (hbel1.out.setCell (p := ⟨w.heap.size + 1, 0, none⟩) (by simp) _) (fun W' d0 => by simp [results, Tryz.results55, go_sem, d0]) ?_
    intro W' hb
    exact ⟨by rw [hO.out]; rfl, hb⟩
  case stop =>
    rintro D cd pre W hD hpre ⟨rfl, e, rfl, hres, hbel⟩ hK
    have hO := hidp (show lnk x = e by
      obtain ⟨t, ht⟩ := hpre
      unfold lnk
      rw [← ht]
      rfl)
    gi_wp2
    refine leaveL hres hK (by omega) hbel (fun W' d0 => by simp [results, Tryz.results55, go_sem, d0]) ?_
    intro W' hb
    exact ⟨by rw [hO.out], hb⟩
theorem linked_any (x : Bd) (w : World) (hS : BdS w x) : Calls Tryz.prog 55 #[.agg (bC x).toArray] w (LkP w (lnk x)) := callsIn_wide.1 (linked_w x w hS)
end Go.Proofs.YtcmkmnidnapabaaGreat

/-! Bko: Block: some of the chapter's examples. -/
namespace Go.Proofs.YtcmkmnidnapabaaGreat
open Go.RowKit Go.Lib
set_option linter.unusedSimpArgs false
set_option linter.unusedVariables false

theorem sameC_selfB (h : Int) (p : List Nat) (l : List Vt) : sameC h p l h p l = true := by unfold sameC; simp
/-- The chapter's block, but for its height and votes. -/
structure Kz (z : Bd) : Prop where
  h : z.h = setV hdK (hashV vsK)
  p : z.p = hashO z.h
  s : z.s = vsK
theorem chkK : chk vsK = 0 := by decide +kernel
theorem chkHK (v : List Nat) : chkH (setV hdK v) = 0 := by rw [chkH_setV]; decide +kernel
theorem mkK : mkE hdK vsK = 0 := by unfold mkE; rw [if_neg (by rw [chkK]; simp)]; exact chkHK _
theorem lnk_of {z : Bd} (hz : Kz z) (h3 : chkC z.n z.l = 0) : lnk z = if lk6 z ≠ 0 then lk6 z else lk7 z := by
  have h1 : chkH z.h = 0 := by rw [hz.h]; exact chkHK _
  have h2 : chk z.s = 0 := by rw [hz.s]; exact chkK
  have h4 : lk4 z = 0 := by unfold lk4; rw [if_pos h2, if_pos (by rw [hz.h, hz.s]; rfl)]
  have h5 : lk5 z = 0 := by unfold lk5; rw [if_pos h1, if_pos hz.p]
  unfold lnk errs bes
  rw [h1, h2, h3, h4, h5]
  by_cases h6 : lk6 z = 0
  · by_cases h7 : lk7 z = 0
    · rw [h6, h7]; rfl
    · have q : (lk7 z != 0) = true := by rw [bne_iff_ne]; exact h7
      rw [h6, if_neg (by simp)]; simp [List.filter, q]
  · have q : (lk6 z != 0) = true := by rw [bne_iff_ne]; exact h6
    rw [if_pos h6]; simp [List.filter, q]
theorem lk6_K {z : Bd} (hz : Kz z) : lk6 z = if z.n = 3 then 0 else 13 := by unfold lk6; rw [hz.h]; rfl
theorem lnk0 {z : Bd} (hz : Kz z) (hn : z.n = 3) (hl : z.l = []) : lnk z = 0 := by
  rw [lnk_of hz (by rw [hn, hl]; decide +kernel), lk6_K hz, if_pos hn, if_neg (by simp)]
  unfold lk7
  rw [hn, hl, hz.s]
  decide +kernel
theorem lnk1 {z : Bd} (hz : Kz z) (hn : z.n = 3) (hl : z.l = [⟨1, 9⟩]) : lnk z = 0 := by
  rw [lnk_of hz (by rw [hn, hl]; decide +kernel), lk6_K hz, if_pos hn, if_neg (by simp)]
  unfold lk7
  rw [hn, hl, hz.s]
  decide +kernel
theorem lnk2 {z : Bd} (hz : Kz z) (hn : z.n = 3) (hl : z.l = [⟨2, 9⟩]) : lnk z = 3 := by
  rw [lnk_of hz (by rw [hn, hl]; decide +kernel), lk6_K hz, if_pos hn, if_neg (by simp)]
  unfold lk7
  rw [hn, hl, hz.s]
  decide +kernel
theorem lnk4 {z : Bd} (hz : Kz z) (hn : z.n = 4) (hl : z.l = []) : lnk z = 13 := by
  rw [lnk_of hz (by rw [hn, hl]; decide +kernel), lk6_K hz, if_neg (show ¬ z.n = 3 by rw [hn]; decide), if_pos (by decide)]
theorem prtK {z : Bd} (hz : Kz z) (hn : z.n = 3) (hl : z.l = []) : prt z = 0 := by
  unfold prt
  rw [if_neg (by rw [hz.h, chkHK]; simp), if_neg (by rw [hz.s, chkK]; simp), hn, hl]
  decide +kernel
theorem set_N {h : Hdr} {n n' : Int} {p : List Nat} {sv sw : Value} (hh : HdrOk h) : (bD h n p sv sw).set 131 (.int .i64 n') = bD h n' p sv sw := by
  have e1 := hC_len hh
  unfold bD
  rw [List.set_append_right _ _ (by omega), e1]
  rfl
def Bd.at (x : Bd) (n : Int) : Bd := { x with n := n }
theorem BdS.at {W : World} {x : Bd} (h : BdS W x) (n : Int) (hn : -9223372036854775808 ≤ n ∧ n ≤ 9223372036854775807) : BdS W (x.at n) := ⟨h.hh, hn, h.hp, h.t, h.v⟩
/-- A block in a box, its parts. -/
structure Aw (w W : World) (b : Nat) (y : Bd) : Prop where
  k : Blk W b (bC y) 84
  s : BdS W y
  bel : Below w.heap.size w W
theorem Aw.below {w W W' : World} {b : Nat} {y : Bd} (H : Aw w W b y) (hb : Below W.heap.size W W') : Aw w W' b y := ⟨hb.blk' H.k, H.s.below hb, H.bel.trans (hb.mono H.bel.size)⟩
/-- What is known ahead of the last line. -/
structure AwR (w W : World) (b1 b5 b6 b7 : Nat) (y z o : Bd) : Prop where
  m : Aw w W b1 y
  z : Aw w W b5 z
  f : Blk W b6 [.int .i64 0, .int .i64 0] 52
  o : Aw w W b7 o
theorem AwR.below {w W W' : World} {b1 b5 b6 b7 : Nat} {y z o : Bd} (H : AwR w W b1 b5 b6 b7 y z o) (hb : Below W.heap.size W W') : AwR w W' b1 b5 b6 b7 y z o := ⟨H.m.below hb, H.z.below hb, hb.blk' H.f, H.o.below hb⟩
set_option maxRecDepth 100000 in
set_option maxHeartbeats 8000000 in
theorem bawake_any (w : World) : Calls Tryz.prog 49 #[] w fun e w' => e = .returned (.bool true) ∧ Below w.heap.size w w' := by
  have hl0 := hidp (bD_len (n := 0) (sv := .slice none 0 0) (sw := .slice none 0 0) hdr0_ok zhl)
  have hzz : ∀ w, (zeroValue 84).run Tryz.prog w = .ok (.agg (bD hdr0 0 zh32 (.slice none 0 0) (.slice none 0 0)).toArray) w := (zero_of_info (P := Tryz.prog) zero_blk).1
  have hef := eqF 0 0 0 0
  simp only [beq_self_eq_true, Bool.and_self] at hef
  go_enter Tryz.func49, Tryz.ntmps49
  go_wp2_with fail
  refine (headK_any _).mono ?_
  rintro e w1 ⟨rfl, hB1⟩
  replace hB1 := hidp hB1
  go_wp2_with fail
  refine (twoK_any _).mono ?_
  rintro e w2 ⟨rfl, hV, hB2⟩
  have hB := hidp (hB1.out.trans (hB2.mono hB1.out.size))
  clear hB1 hB2
  have C1 := hidp (make_any hdK _ _ 0 2 vsK w2 hdK_ok hV (by decide))
  clear hV
  go_wp2_with fail
  refine C1.out.mono ?_
  rintro e w3 ⟨⟨h0, rfl⟩ | ⟨h0, y, rfl, e1, e2, e3, e4, e5, e6, e7, hS, hO⟩, hB3⟩
  · exact absurd mkK h0
  have hKy := hidp (show Kz y ∧ y.n = 3 ∧ y.l = [] from ⟨⟨e1, by rw [e3, e1], e7⟩, e2, e4⟩)
  have S3 := hidp hS
  have D3 := hidp (hB.out.trans (hB3.mono hB.out.size))
  have hly := hidp (bC_len hS.hh hS.hp.1)
  have hoy := hidp (show (bC y).toArray.all (·.oneCell') = true from bD_one)
  clear hB C1 h0 e1 e2 e3 e4 e5 e6 e7 hS hO hB3
  have hq := hidp (fun (W : World) (hw : W = (w3.alloc (.cells (bD hdr0 0 zh32 (.slice none 0 0) (.slice none 0 0)).toArray 84)).setRow w3.heap.size (bC y).toArray) => show Aw w W w3.heap.size y by
    have hN := new_row hw rfl
    exact ⟨hN.2, S3.out.below hN.1, D3.out.trans (hN.1.mono D3.out.size)⟩)
  go_wp2_with first
    | (with_reducible refine (?_ : wpList _ _ _ _ _ _); refine wpList_store_blk rfl 84 _ _ rfl w3.heap.size (bC y) (bD hdr0 0 zh32 (.slice none 0 0) (.slice none 0 0)) 84 rfl rfl (Blk.new w3 (bD hdr0 0 zh32 (.slice none 0 0) (.slice none 0 0)) 84) (by rw [hly.out]; kernel_rfl) (by rw [hly.out, hl0.out]) hoy.out ?_; intro w4 hw4; have A4 := hidp (hq.out w4 hw4.out); clear hw4)
    | (with_reducible refine (?_ : wpList _ _ _ _ _ _); refine wpList_load_blkD 15 rfl (by kernel_rfl) 84 _ rfl w3.heap.size (bC y) 84 rfl A4.out.k _ Tryz.underlying84 rfl (by rw [hly.out]; kernel_rfl) ?_)
  refine (bencode_any y w4 A4.out.s).mono ?_
  rintro e w5 ⟨⟨p5, b5, c5, rfl, -, -, hbs, -⟩, hB⟩
  replace hB := hidp hB
  have A5 := hidp (A4.out.below hB.out)
  have hp0 := prtK hKy.out.1 hKy.out.2.1 hKy.out.2.2
  have hdb := hidp (bdec_back S3.out.hh S3.out.hp S3.out.t.ok S3.out.v.ok hp0)
  have hle := encK_le S3.out.hh S3.out.hp.1 hp0
  have hKO : encKO y = encK y := by unfold encKO; rw [if_pos hp0]
  rw [hp0, hKO]
  rw [hKO] at hbs
  generalize encK y = L at hbs hdb hle ⊢
  have C2 := hidp (bdecode_any p5 b5 0 c5 L w5 hbs (by omega))
  clear hKO hp0 hB A4 hq D3 hle hbs
  go_wp2_with fail
  refine C2.out.mono ?_
  rintro e w6 ⟨⟨h0, rfl⟩ | ⟨h0, z, rfl, z1, z2, z3, z4, z5, zS, -, -, -, -⟩, hB⟩
  · exact absurd (by rw [hdb.out.1]) h0
  rw [hdb.out.2.1] at z1
  rw [hdb.out.2.2.1] at z2 z3 z4
  rw [hdb.out.2.2.2] at z5
  have hZy := hidp (show z.h = y.h ∧ z.n = y.n ∧ z.p = y.p ∧ z.l = y.l ∧ z.s = y.s from ⟨z1, z2, z3, z4, z5⟩)
  have A6 := hidp (A5.out.below hB)
  have hlz := hidp (bC_len zS.hh zS.hp.1)
  have hoz := hidp (show (bC z).toArray.all (·.oneCell') = true from bD_one)
  have Z6 := hidp zS
  clear C2 h0 z1 z2 z3 z4 z5 hB A5 zS hdb
  have hq := hidp (fun (t : World) (h : t = ((w6.alloc (.cells (bD hdr0 0 zh32 (.slice none 0 0) (.slice none 0 0)).toArray 84)).alloc (.cells #[.int .i64 0, .int .i64 0] 52)).setRow w6.heap.size (bC z).toArray) => new_two h)
  go_upto_region 4 with (with_reducible refine (?_ : wpList _ _ _ _ _ _); refine wpList_store_blk rfl 84 _ _ rfl w6.heap.size (bC z) (bD hdr0 0 zh32 (.slice none 0 0) (.slice none 0 0)) 84 rfl rfl ((Blk.new w6 (bD hdr0 0 zh32 (.slice none 0 0) (.slice none 0 0)) _).alloc _) (by rw [hlz.out]; kernel_rfl) (by rw [hlz.out, hl0.out]) hoz.out ?_; intro t1 ht1; obtain ⟨n1, n2, n3⟩ := hq.out t1 ht1.out; obtain ⟨q0, q1, y0, y1⟩ := two_cells n3; clear ht1; replace n1 := hidp n1; replace n2 := hidp n2; replace n3 := hidp n3)
  have F7 := hidp (show Blk ((t1.setCell ⟨w6.heap.size + 1, 0, none⟩ (.int .i64 0)).setCell ⟨w6.heap.size + 1, 1, none⟩ (.int .i64 0)) (w6.heap.size + 1) [.int .i64 0, .int .i64 0] 52 from (n3.out.set 0 _).set 1 _)
  have Z7 := hidp (show Blk ((t1.setCell ⟨w6.heap.size + 1, 0, none⟩ (.int .i64 0)).setCell ⟨w6.heap.size + 1, 1, none⟩ (.int .i64 0)) w6.heap.size (bC z) 84 from (n2.out.other _ _ (by simp)).other _ _ (by simp))
  have B7 := hidp (show Below w6.heap.size w6 ((t1.setCell ⟨w6.heap.size + 1, 0, none⟩ (.int .i64 0)).setCell ⟨w6.heap.size + 1, 1, none⟩ (.int .i64 0)) from (n1.out.setCell (p := ⟨w6.heap.size + 1, 0, none⟩) (by simp) _).setCell (p := ⟨w6.heap.size + 1, 1, none⟩) (by simp) _)
  generalize (World.setCell _ _ _) = W7 at F7 Z7 B7 ⊢
  have R7 := hidp (show AwR w W7 w3.heap.size w6.heap.size (w6.heap.size + 1) w3.heap.size y z y from ⟨A6.out.below B7.out, ⟨Z7.out, Z6.out.below B7.out, (A6.out.below B7.out).bel⟩, F7.out, A6.out.below B7.out⟩)
  clear F7 Z7 B7 n1 n2 n3 q0 q1 y0 y1 hq A6 Z6
  generalize w6.heap.size + 1 = b6 at R7 ⊢
  generalize w6.heap.size = b5 at R7 ⊢
  generalize w3.heap.size = b1 at R7 ⊢
  have C3 := hidp (copyB_any y W7 R7.out.m.s (by rw [hKy.out.2.2]; decide) (by rw [hKy.out.1.s]; decide))
  go_wp2_with first
    | (with_reducible refine (?_ : wpList _ _ _ _ _ _); refine wpList_load_blkD 24 rfl (by kernel_rfl) 84 _ rfl b1 (bC y) 84 rfl R7.out.m.k _ Tryz.underlying84 rfl (by rw [hly.out]; kernel_rfl) ?_)
  refine C3.out.mono ?_
  rintro e w8 ⟨⟨o, rfl, o1, o2, o3, o4, o5, oS, -⟩, hB⟩
  have hOy := hidp (show o.h = y.h ∧ o.n = y.n ∧ o.p = y.p ∧ o.l = y.l ∧ o.s = y.s from ⟨o1, o2, o3, o4, o5⟩)
  have R8 := hidp (R7.out.below hB)
  have O8 := hidp oS
  have hlo := hidp (bC_len oS.hh oS.hp.1)
  have hoo := hidp (show (bC o).toArray.all (·.oneCell') = true from bD_one)
  clear C3 o1 o2 o3 o4 o5 oS hB R7
  have hq := hidp (fun (W : World) (hw : W = (w8.alloc (.cells (bD hdr0 0 zh32 (.slice none 0 0) (.slice none 0 0)).toArray 84)).setRow w8.heap.size (bC o).toArray) => show Below w8.heap.size w8 W ∧ Blk W w8.heap.size (bC o) 84 ∧ W.cell? ⟨w8.heap.size, 131, none⟩ = some (.int .i64 o.n) ∧ W.frozen? ⟨w8.heap.size, 131, none⟩ = false by
    have hN := new_row hw rfl
    exact ⟨hN.1, hN.2, bk_n hN.2 O8.out.hh, hN.2.free 131⟩)
  go_upto_region 6 with (with_reducible refine (?_ : wpList _ _ _ _ _ _); refine wpList_store_blk rfl 84 _ _ rfl w8.heap.size (bC o) (bD hdr0 0 zh32 (.slice none 0 0) (.slice none 0 0)) 84 rfl rfl (Blk.new w8 (bD hdr0 0 zh32 (.slice none 0 0) (.slice none 0 0)) _) (by rw [hlo.out]; kernel_rfl) (by rw [hlo.out, hl0.out]) hoo.out ?_; intro t2 ht2; obtain ⟨n1, n2, n3, n4⟩ := hq.out t2 ht2.out; clear ht2; replace n1 := hidp n1; replace n2 := hidp n2)
  have B9 := hidp (show Below w8.heap.size w8 (t2.setCell ⟨w8.heap.size, 131, none⟩ (.int .i64 4)) from n1.out.setCell (p := ⟨w8.heap.size, 131, none⟩) (by simp) _)
  have K9 := hidp (show Blk (t2.setCell ⟨w8.heap.size, 131, none⟩ (.int .i64 4)) w8.heap.size (bC (o.at 4)) 84 by have q := n2.out.set 131 (.int .i64 4); rw [bD_eq, set_N O8.out.hh] at q; exact q)
  generalize (World.setCell _ _ _) = W9 at B9 K9 ⊢
  have R9 := hidp (show AwR w W9 b1 b5 b6 w8.heap.size y z (o.at 4) from ⟨R8.out.m.below B9.out, R8.out.z.below B9.out, B9.out.blk' R8.out.f, ⟨K9.out, (O8.out.below B9.out).at 4 (by decide), (R8.out.m.below B9.out).bel⟩⟩)
  generalize w8.heap.size = b7 at R9 ⊢
  clear n1 n2 n3 n4 B9 K9 hq R8 O8
  have hlo := hidp (show (bC (o.at 4)).length = 166 from bC_len R9.out.o.s.hh R9.out.o.s.hp.1)
  obtain ⟨d0, d1, -, -⟩ := two_cells R9.out.f
  have hsm : sameB z y = true := by unfold sameB; rw [hZy.out.1, hZy.out.2.1, hZy.out.2.2.1, hZy.out.2.2.2.1, hZy.out.2.2.2.2, sameC_selfB]; simp
  have C4 := hidp (sameB_any z y W9 R9.out.z.s R9.out.m.s (by rw [hZy.out.2.2.2.1, hKy.out.2.2]; decide) (by rw [hZy.out.2.2.2.2, hKy.out.1.s]; decide))
  rw [hsm] at C4
  clear hsm
  go_wp2_with first
    | (with_reducible refine (?_ : wpList _ _ _ _ _ _); refine wpList_load_blkD 40 rfl (by kernel_rfl) 84 _ rfl b5 (bC z) 84 rfl R9.out.z.k _ Tryz.underlying84 rfl (by rw [hlz.out]; kernel_rfl) ?_)
    | (with_reducible refine (?_ : wpList _ _ _ _ _ _); refine wpList_load_blkD 41 rfl (by kernel_rfl) 84 _ rfl b1 (bC y) 84 rfl R9.out.m.k _ Tryz.underlying84 rfl (by rw [hly.out]; kernel_rfl) ?_)
  refine C4.out.mono ?_
  rintro e w11 ⟨rfl, hB⟩
  replace R9 := hidp (R9.out.below hB)
  clear hB C4 d0 d1
  have c131 := bk_n R9.out.m.k R9.out.m.s.hh
  rw [hKy.out.2.1] at c131
  have C5 := hidp (linked_any y w11 R9.out.m.s)
  rw [lnk0 hKy.out.1 hKy.out.2.1 hKy.out.2.2] at C5
  go_wp2_with first
    | (with_reducible refine (?_ : wpList _ _ _ _ _ _); refine wpList_load_blkD 51 rfl (by kernel_rfl) 84 _ rfl b1 (bC y) 84 rfl R9.out.m.k _ Tryz.underlying84 rfl (by rw [hly.out]; kernel_rfl) ?_)
  refine C5.out.mono ?_
  rintro e w12 ⟨rfl, hB⟩
  replace R9 := hidp (R9.out.below hB)
  clear hB C5 c131
  have C6 := hidp (with_any y 1 w12 R9.out.m.s (by rw [hKy.out.2.2]; decide) (by rw [hKy.out.1.s]; decide) (by decide))
  go_wp2_with first
    | (with_reducible refine (?_ : wpList _ _ _ _ _ _); refine wpList_load_blkD 56 rfl (by kernel_rfl) 84 _ rfl b1 (bC y) 84 rfl R9.out.m.k _ Tryz.underlying84 rfl (by rw [hly.out]; kernel_rfl) ?_)
  refine C6.out.mono ?_
  rintro e w13 ⟨⟨v, rfl, v1, v2, v3, v4, v5, vS, -⟩, hB⟩
  replace R9 := hidp (R9.out.below hB)
  have hvl : lnk v = 0 := lnk1 ⟨by rw [v1, hKy.out.1.h], by rw [v3, v1, hKy.out.1.p], by rw [v5, hKy.out.1.s]⟩ (by rw [v2, hKy.out.2.1]) (by rw [v4, hKy.out.2.2]; rfl)
  have C5 := hidp (linked_any v w13 vS)
  rw [hvl] at C5
  clear hB C6 hvl v1 v2 v3 v4 v5 vS
  go_wp2_with fail
  refine C5.out.mono ?_
  rintro e w14 ⟨rfl, hB⟩
  replace R9 := hidp (R9.out.below hB)
  clear hB C5
  have C6 := hidp (with_any y 2 w14 R9.out.m.s (by rw [hKy.out.2.2]; decide) (by rw [hKy.out.1.s]; decide) (by decide))
  go_wp2_with first
    | (with_reducible refine (?_ : wpList _ _ _ _ _ _); refine wpList_load_blkD 62 rfl (by kernel_rfl) 84 _ rfl b1 (bC y) 84 rfl R9.out.m.k _ Tryz.underlying84 rfl (by rw [hly.out]; kernel_rfl) ?_)
  refine C6.out.mono ?_
  rintro e w15 ⟨⟨v, rfl, v1, v2, v3, v4, v5, vS, -⟩, hB⟩
  replace R9 := hidp (R9.out.below hB)
  have hvl : lnk v = 3 := lnk2 ⟨by rw [v1, hKy.out.1.h], by rw [v3, v1, hKy.out.1.p], by rw [v5, hKy.out.1.s]⟩ (by rw [v2, hKy.out.2.1]) (by rw [v4, hKy.out.2.2]; rfl)
  have C5 := hidp (linked_any v w15 vS)
  rw [hvl] at C5
  clear hB C6 hvl v1 v2 v3 v4 v5 vS
  go_wp2_with fail
  refine C5.out.mono ?_
  rintro e w16 ⟨rfl, hB⟩
  replace R9 := hidp (R9.out.below hB)
  clear hB C5
  have hol : lnk (o.at 4) = 13 := lnk4 ⟨show o.h = _ by rw [hOy.out.1, hKy.out.1.h], show o.p = hashO o.h by rw [hOy.out.2.2.1, hOy.out.1, hKy.out.1.p], show o.s = _ by rw [hOy.out.2.2.2.2, hKy.out.1.s]⟩ rfl (show o.l = _ by rw [hOy.out.2.2.2.1, hKy.out.2.2])
  have C5 := hidp (linked_any (o.at 4) w16 R9.out.o.s)
  rw [hol] at C5
  clear hol
  go_wp2_with first
    | (with_reducible refine (?_ : wpList _ _ _ _ _ _); refine wpList_load_blkD 68 rfl (by kernel_rfl) 84 _ rfl b7 (bC (o.at 4)) 84 rfl R9.out.o.k _ Tryz.underlying84 rfl (by rw [hlo.out]; kernel_rfl) ?_)
  refine C5.out.mono ?_
  rintro e w17 ⟨rfl, hB⟩
  have hE := hidp (R9.out.m.bel.trans (hB.mono R9.out.m.bel.size))
  go_wp2
  exact bodyPost_ret (v := .bool true) (by simp [results, Tryz.results49, go_sem]) rfl ⟨rfl, hE.out⟩
end Go.Proofs.YtcmkmnidnapabaaGreat
