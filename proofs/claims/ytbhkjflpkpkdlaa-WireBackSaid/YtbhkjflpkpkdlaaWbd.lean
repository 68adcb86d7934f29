/-
  WireBack: the walk.
-/
import Derived.Test.YtbhkjflpkpkdlaaWbc
import Derived.Test.YtbhkjflpkpkdlaaWrc
namespace Go.Proofs.Ytbhkjflpkpkdlaa
open Go.RowKit Go.Lib
set_option linter.unusedSimpArgs false
set_option linter.unusedVariables false

/-- The writer between two rounds. -/
structure WbA (w W : World) (gw : Nat) (v : Value) (X : List Nat) : Prop where
  wr : Wr W gw 1048576 v X 0
  bel : Below w.heap.size w W
  lo : w.heap.size ≤ gw
theorem WbA.put {w W W' : World} {gw : Nat} {v v' : Value} {X X' : List Nat} (H : WbA w W gw v X) (h1 : Wr W' gw 1048576 v' X' 0) (h2 : Wfr gw v W W' v') : WbA w W' gw v' X' := ⟨h1, H.bel.trans ((h2.toBelow H.wr).mono H.lo), H.lo⟩
/-- A reader between two rounds, and the bytes that Done told. -/
structure WbB (w W : World) (g b : Nat) (s : RS) (pd : Option Addr) (bd cd : Nat) (D : List Nat) : Prop where
  rd : RdS W g b s
  bs : Bs W pd bd 0 D cd
  bel : Below w.heap.size w W
  lo : w.heap.size ≤ g
  ne : 0 < cd → g ≠ bd
theorem WbB.step {w W W' : World} {g b : Nat} {s s' : RS} {pd : Option Addr} {bd cd : Nat} {D : List Nat} (H : WbB w W g b s pd bd cd D) (h1 : RdS W' g b s') (h2 : Bex g W W') : WbB w W' g b s' pd bd cd D :=
  ⟨h1, H.bs.bexN h2 H.ne, H.bel.trans (h2.below H.lo H.bel.size), H.lo, H.ne⟩
theorem WbB.below {w W W' : World} {g b : Nat} {s : RS} {pd : Option Addr} {bd cd : Nat} {D : List Nat} (H : WbB w W g b s pd bd cd D) (h : Below W.heap.size W W') : WbB w W' g b s pd bd cd D :=
  ⟨H.rd.below h, H.bs.below h, H.bel.trans (h.mono H.bel.size), H.lo, H.ne⟩
/-- The reader's plain state behind i things. -/
def sAt (l : List Tg) (i : Nat) : RS := ⟨(fmT (l.take i)).length, fmT (l.drop i), 0, 0⟩
theorem sAt_step {l : List Tg} {i : Nat} {t : Tg} (h : l[i]? = some t) (hf : TgF t) : bkN t (sAt l i) = sAt l (i + 1) ∧ Gd t (sAt l i) := by
  obtain ⟨h1, h2⟩ := fmT_at h
  have e : sAt l i = ⟨(fmT (l.take i)).length, formT t ++ fmT (l.drop (i + 1)), 0, 0⟩ := by unfold sAt; rw [h2]
  constructor
  · rw [e, bk_ok hf]
    unfold sAt
    rw [h1, List.length_append]
  · exact ⟨_, _, e⟩
theorem sAt_end (l : List Tg) : sAt l l.length = ⟨(fmT l).length, [], 0, 0⟩ := by
  unfold sAt
  rw [List.take_length, List.drop_length]
  rfl
theorem fmT_take_len {l : List Tg} (H : ∀ t ∈ l, TgF t) (hl : l.length ≤ 30) (i : Nat) : (fmT (l.take i)).length ≤ 9300 := by
  have q := fmT_len (l := l.take i) (fun t ht => H t (List.mem_of_mem_take ht))
  rw [List.length_take] at q
  omega
theorem fmT_drop_len {l : List Tg} (H : ∀ t ∈ l, TgF t) (hl : l.length ≤ 30) (i : Nat) : (fmT (l.drop i)).length ≤ 9300 := by
  have q := fmT_len (l := l.drop i) (fun t ht => H t (List.mem_of_mem_drop ht))
  rw [List.length_drop] at q
  omega
theorem cutS_at {l : List Tg} {i m : Nat} {t : Tg} (h : l[i]? = some t) (hf : TgF t) {s : RS} (hc : CutS (fmT (l.take i)).length m (fmT (l.drop i)) s) : CutS (fmT (l.take (i + 1))).length m (fmT (l.drop (i + 1))) (bkN t s) := by
  obtain ⟨h1, h2⟩ := fmT_at h
  rw [h2] at hc
  rw [h1, List.length_append]
  exact bk_cut hf hc
theorem cutS_len {n m : Nat} {Y : List Nat} {s : RS} (h : CutS n m Y s) (hy : Y.length ≤ 9300) : s.R.length ≤ 4000000 := by
  rcases h with ⟨_, _, h⟩ | ⟨_, rfl⟩
  · rw [h]; simp
  · simp only [List.length_take]; omega
theorem cutS_end {l : List Tg} {m : Nat} {s : RS} (h : CutS (fmT (l.take l.length)).length m (fmT (l.drop l.length)) s) (hm : m < (fmT l).length) : s.e = 6 ∧ s.f ≤ m ∧ s.R = [] := by
  rcases h with h | ⟨h, _⟩
  · exact h
  · rw [List.take_length] at h; omega
theorem tgF_of {w : World} {t : Tg} (H : TgOk w t) (hL : t.L.length ≤ 300) (hn : t.kd = 0 → 0 ≤ t.n) : TgF t := ⟨H.h, H.k, H.x, fun h => ⟨hn h, by have := H.n.2; omega⟩, hL⟩
theorem int_lt0 {n : Int} (h : n < 0) : decide (n < 0) = true := decide_eq_true h
set_option maxRecDepth 100000 in
set_option maxHeartbeats 4000000 in
theorem wback_long (a : Option Addr) (b o cap : Nat) (l : List Tg) (y : Int) (w : World) (hT : TgS w a b o cap l) (hl : longT l = true) : Calls Try.prog 5 #[.slice a l.length cap, .int .i64 y] w fun e w' => e = .returned (.bool true) ∧ Below w.heap.size w w' := by
  have HLO := hidp (fun W (hb : Below w.heap.size w W) => (show _ from by have q := long_any a b o cap l W (hT.below hb); rw [hl] at q; exact q))
  clear hT hl
  go_enter Try.func5, Try.ntmps5
  go_wp2_with fail
  refine (known_any _).mono ?_
  rintro e w1 ⟨rfl, hb⟩
  have HB := hidp hb
  clear hb
  go_wp2_with fail
  refine (HLO.out _ HB.out).mono ?_
  rintro e w0 ⟨rfl, hw0⟩
  subst hw0
  go_wp2_with fail
  go_ret
  exact ⟨rfl, HB.out⟩
set_option maxRecDepth 100000 in
set_option maxHeartbeats 16000000 in
theorem wback_in (a : Option Addr) (b o cap : Nat) (l : List Tg) (y : Int) (w : World) (hT : TgS w a b o cap l) (hl : longT l = false) : Calls Try.prog 5 #[.slice a l.length cap, .int .i64 y] w fun e w' => e = .returned (.bool true) ∧ Below w.heap.size w w' := by
  have HLO := hidp (fun W (hb : Below w.heap.size w W) => (show _ from by have q := long_any a b o cap l W (hT.below hb); rw [hl] at q; exact q))
  have hlim := hidp (longT_no hl)
  have HT := hidp hT
  clear hT hl
  have qn := fun a w' => w_ne_nil a w'
  have nq := fun x y W => neF x y 0 0 W
  have eq := fun x y W => eqF x y 0 0 W
  go_enter Try.func5, Try.ntmps5
  go_wp2_with fail
  refine (known_any _).mono ?_
  rintro e w1 ⟨rfl, hb⟩
  have HB := hidp hb
  clear hb
  go_wp2_with fail
  refine (HLO.out _ HB.out).mono ?_
  rintro e w0 ⟨rfl, hw0⟩
  subst hw0
  clear HLO
  go_wp2_with fail
  obtain ⟨gw, hgw⟩ : ∃ g, g = w0.heap.size := ⟨_, rfl⟩
  have HNW := newWriter_any 1048576 w0 (by omega)
  rw [← hgw] at HNW
  refine HNW.mono ?_
  rintro e w2 ⟨rfl, hwr, hb⟩
  have H0 := hidp (show WbA w w2 gw (.slice none 0 0) [] from ⟨hwr, HB.out.trans ((hgw ▸ hb : Below w0.heap.size w0 w2).mono HB.out.size), by have := HB.out.size; omega⟩)
  clear hwr hb HB HNW hgw
  go_wp2_with fail
  go_loopw [8] (fun x wr => ∃ (i : Nat) (v : Value), i ≤ l.length ∧ x = .int .i64 i ∧ Hid (WbA w wr gw v (fmT (l.take i))) ∧ Hid (∀ j t, j < i → l[j]? = some t → TgF t)) (fun x _ => l.length - (Go.RowKit.intOf x).toNat)
  case atStart => exact ⟨0, _, by omega, rfl, H0, hidp (fun j t hj => absurd hj (by omega))⟩
  case round =>
    obtain ⟨i, v, hi, rfl, hx, hF⟩ := hrel
    clear H0
    have hiz : (0 : Int) ≤ (i : Int) := by omega
    by_cases hlt : i < l.length
    · obtain ⟨t, ht, htk, rfl, hrg⟩ := (HT.out.below hx.out.bel).at hlt
      have hlz : (i : Int) < (l.length : Int) := by omega
      have HI := hidp hlt
      have hadd := w64_nat (n := i) (by have := hlim.out.1; omega)
      have hrg' := hidp hrg
      have htl := hidp (tgL_len htk)
      have hkt := hidp htk
      have hit := hidp ht
      have c0 : wr.cell? ⟨b, o + i * 41, none⟩ = some (.int .i64 t.kd) := hrg 0 _ rfl
      have c1 : wr.cell? ⟨b, o + i * 41 + 1, none⟩ = some (.int .i64 t.n) := hrg 1 _ rfl
      have hL3 := hlim.out.2 t (List.mem_of_getElem? ht)
      have hbb : 0 < t.cap → t.bb < w.heap.size := fun h0 => by
        have q := HT.out.ok t (List.mem_of_getElem? ht)
        exact (q.bs.ptr h0).2
      have hPut := hidp (fun hf : TgF t => puts_any hx.out.wr t htk hf (fun ad e h0 => by
        have hcp : 0 < t.cap := by have := htk.bs.le; omega
        have h1 := (htk.bs.ptr hcp).1
        rw [e] at h1
        cases h1
        have h2 := hbb hcp
        have h3 := hx.out.lo
        refine ⟨by show t.bb ≠ gw; omega, fun e2 => ?_⟩
        have h4 := (hx.out.wr.ownGe e2).1
        simp only at h4
        omega) (by
        have q := fmT_len (l := l.take i) (fun u hu => by
          obtain ⟨j, hj, rfl⟩ := List.mem_take_iff_getElem.1 hu
          exact hF.out j _ (by omega) (List.getElem?_eq_getElem (by omega)))
        rw [List.length_take] at q
        have := hlim.out.1
        omega))
      clear ht hrg hi hlt hbb
      by_cases hk0 : t.kd = 0
      · have hkz : (t.kd == 0) = true := beq_iff_eq.2 hk0
        by_cases hn0 : t.n < 0
        · have hnz : decide (t.n < 0) = true := decide_eq_true hn0
          clear hPut htk hL3
          go_wp2_with fail
          go_ret
          exact ⟨rfl, hx.out.bel⟩
        · have hnz : decide (t.n < 0) = false := decide_eq_false hn0
          have hf := hidp (tgF_of htk hL3 (fun _ => by omega))
          clear htk hL3 hk0 hn0
          go_wp2_with first
            | (with_reducible refine (?_ : wpList _ _ _ _ _ _); refine wpList_load_midD 55 rfl (by kernel_rfl) 39 _ rfl b (o + i * 41) rfl (tgL t) _ hrg'.out Try.underlying39 rfl (by rw [htl.out]; kernel_rfl) ?_)
          refine (hPut.out hf.out).mono ?_
          rintro e w6 ⟨rfl, v', h1, h2⟩
          have hx' := hidp (hx.out.put h1 h2)
          rw [← (fmT_at hit.out).1] at hx'
          clear h1 h2 hPut hx hrg'
          go_wp2_with fail
          try rw [hadd]
          exact ⟨⟨i + 1, v', by have := HI.out; omega, rfl, hx', hidp (fun j u hj hu => by
            by_cases hji : j < i
            · exact hF.out j u hji hu
            · obtain rfl : j = i := by omega
              rw [hit.out] at hu; cases hu; exact hf.out)⟩, by have := HI.out; show l.length - ((i + 1 : Nat) : Int).toNat < l.length - ((i : Nat) : Int).toNat; omega⟩
      · have hkz : (t.kd == 0) = false := by rw [beq_eq_false_iff_ne]; exact hk0
        have hf := hidp (tgF_of htk hL3 (fun h => absurd h hk0))
        clear htk hL3 hk0
        go_wp2_with first
          | (with_reducible refine (?_ : wpList _ _ _ _ _ _); refine wpList_load_midD 55 rfl (by kernel_rfl) 39 _ rfl b (o + i * 41) rfl (tgL t) _ hrg'.out Try.underlying39 rfl (by rw [htl.out]; kernel_rfl) ?_)
        refine (hPut.out hf.out).mono ?_
        rintro e w6 ⟨rfl, v', h1, h2⟩
        have hx' := hidp (hx.out.put h1 h2)
        rw [← (fmT_at hit.out).1] at hx'
        clear h1 h2 hPut hx hrg'
        go_wp2_with fail
        try rw [hadd]
        exact ⟨⟨i + 1, v', by have := HI.out; omega, rfl, hx', hidp (fun j u hj hu => by
          by_cases hji : j < i
          · exact hF.out j u hji hu
          · obtain rfl : j = i := by omega
            rw [hit.out] at hu; cases hu; exact hf.out)⟩, by have := HI.out; show l.length - ((i + 1 : Nat) : Int).toNat < l.length - ((i : Nat) : Int).toNat; omega⟩
    · obtain rfl : i = l.length := by omega
      have hlz : ¬ ((l.length : Int) < (l.length : Int)) := by omega
      have hF2 := hidp (fun t (ht : t ∈ l) => (show TgF t from by
        obtain ⟨j, hj, rfl⟩ := List.mem_iff_getElem.1 ht
        exact hF.out j _ hj (List.getElem?_eq_getElem hj)))
      have hX := hx.out.wr
      rw [List.take_length] at hX
      replace hX := hidp hX
      have hbel := hidp hx.out.bel
      have hlo := hidp hx.out.lo
      clear hi hlt hF hx
      go_wp2_with fail
      refine (wDone_ok hX.out).mono ?_
      rintro e w3 ⟨⟨pd, bd, cd, rfl, hbd, hnone, hbs⟩, hb⟩
      have HD := hidp (show Bs w3 pd bd 0 (fmT l) cd ∧ (pd = none → cd = 0) ∧ w.heap.size ≤ bd from ⟨hbs, hnone, by have := hbel.out.size; omega⟩)
      replace hbel := hidp (hbel.out.trans (hb.mono hbel.out.size))
      have hDl := hidp (show (fmT l).length ≤ 9300 from by have q := fmT_len hF2.out; have := hlim.out.1; omega)
      clear hbd hnone hbs hb hX hlo
      go_wp2_with fail
      refine (newReader_any pd bd 0 cd (fmT l) _ HD.out.1 (by have := hDl.out; omega)).mono ?_
      rintro e w4 ⟨g, b1, rfl, hg, hb1, hrd, hb⟩
      have hgn := hidp (fun h0 : 0 < cd => (show g ≠ bd from by have := (HD.out.1.ptr h0).2; omega))
      have H1 := hidp (show WbB w w4 g b1 (sAt l 0) pd bd cd (fmT l) from ⟨⟨(by unfold sAt; exact hrd), hb1, fun _ => rfl⟩, HD.out.1.below hb, hbel.out.trans (hb.mono hbel.out.size), by have := hbel.out.size; omega, hgn.out⟩)
      clear hg hb1 hrd hb hbel hgn
      go_wp2_with fail
      go_loopw [12] (fun x wr => ∃ (i : Nat), i ≤ l.length ∧ x = .int .i64 i ∧ Hid (WbB w wr g b1 (sAt l i) pd bd cd (fmT l))) (fun x _ => l.length - (Go.RowKit.intOf x).toNat)
      case atStart => exact ⟨0, by omega, rfl, H1⟩
      case round =>
        obtain ⟨i, hi, rfl, hx⟩ := hrel
        clear H1
        have hiz : (0 : Int) ≤ (i : Int) := by omega
        by_cases hlt : i < l.length
        · obtain ⟨t, ht, htk, rfl, hrg⟩ := (HT.out.below hx.out.bel).at hlt
          have hlz : (i : Int) < (l.length : Int) := by omega
          have HI := hidp hlt
          have hadd := w64_nat (n := i) (by have := hlim.out.1; omega)
          have hrg' := hidp hrg
          have htl := hidp (tgL_len htk)
          have hit := hidp ht
          have hf := hidp (hF2.out t (List.mem_of_getElem? ht))
          have hBk := hidp (back_any hx.out.rd t htk hf.out (fun h0 => by
            have q := HT.out.ok t (List.mem_of_getElem? ht)
            have := (q.bs.ptr h0).2
            have := hx.out.lo
            omega) (by have q := fmT_drop_len hF2.out hlim.out.1 i; show (fmT (l.drop i)).length ≤ 4000000; omega))
          clear ht htk hrg hi hlt
          go_wp2_with first
            | (with_reducible refine (?_ : wpList _ _ _ _ _ _); refine wpList_load_midD 77 rfl (by kernel_rfl) 39 _ rfl b (o + i * 41) rfl (tgL t) _ hrg'.out Try.underlying39 rfl (by rw [htl.out]; kernel_rfl) ?_)
          refine hBk.out.mono ?_
          rintro e w6 ⟨v, rfl, hv, h1, h2⟩
          obtain ⟨q1, q2⟩ := sAt_step hit.out hf.out
          have hv' := hv q2
          subst hv'
          rw [q1] at h1
          replace hx := hidp (hx.out.step h1 h2)
          clear hv h1 h2 q1 q2 hBk hrg'
          go_wp2_with fail
          try rw [hadd]
          exact ⟨⟨i + 1, by have := HI.out; omega, rfl, hx⟩, by have := HI.out; show l.length - ((i + 1 : Nat) : Int).toNat < l.length - ((i : Nat) : Int).toNat; omega⟩
        · obtain rfl : i = l.length := by omega
          have hlz : ¬ ((l.length : Int) < (l.length : Int)) := by omega
          have hR0 := hx.out.rd
          rw [sAt_end] at hR0
          have HR0 := hidp (fun W (h : Below wr.heap.size wr W) => (show RdS W g b1 ⟨(fmT l).length, [], 0, 0⟩ from hR0.below h))
          have HS := hidp (sRest hR0)
          have hE0 : endS ⟨(fmT l).length, [], 0, 0⟩ = (0, 0) := rfl
          have HE := sEnd hR0
          rw [hE0] at HE
          replace HE := hidp HE
          clear hi hlt hR0
          go_wp2_with fail
          refine HS.out.mono ?_
          rintro e w7 ⟨rfl, hw⟩
          subst hw
          clear HS
          go_wp2_with fail
          refine HE.out.mono ?_
          rintro e w8 ⟨rfl, hb⟩
          have hrs := HR0.out _ hb
          replace hx := hidp (hx.out.below hb)
          clear hb hrs HE HR0
          by_cases hz : (fmT l).length = 0
          · have hzz : (((fmT l).length : Int) == 0) = true := beq_iff_eq.2 (by omega)
            have hR0 := hx.out.rd
            rw [sAt_end] at hR0
            have HE := sEnd hR0
            rw [hE0] at HE
            replace HE := hidp HE
            clear hR0
            go_wp2_with fail
            refine HE.out.mono ?_
            rintro e w9 ⟨rfl, hb⟩
            replace hx := hidp (hx.out.below hb)
            go_wp2_with fail
            go_ret
            exact ⟨rfl, hx.out.bel⟩
          · have hzz : (((fmT l).length : Int) == 0) = false := by rw [beq_eq_false_iff_ne]; omega
            have hpos : 0 < (fmT l).length := by omega
            go_wp2_with fail
            refine (Pick_more y (fmT l).length _ hpos (by have := hDl.out; omega)).mono ?_
            rintro e w9 ⟨⟨r, hr, rfl⟩, hw⟩
            subst hw
            have hrl := hidp hr
            have hsl := fun W => run_part_h pd (fmT l).length cd r (by have := hx.out.bs.le; omega) W
            have e1 : ((fmT l).take r).length = r := by rw [List.length_take]; omega
            have hNR := newReader_any pd bd 0 cd ((fmT l).take r) _ (hx.out.bs.take r) (by have := hDl.out; omega)
            rw [e1] at hNR
            have HNR := hidp hNR
            clear hNR e1 hr
            go_wp2_with fail
            refine HNR.out.mono ?_
            rintro e w10 ⟨g2, b2, rfl, hg, hb2, hrd, hb⟩
            have hgn := hidp (fun h0 : 0 < cd => (show g2 ≠ bd from by have := (hx.out.bs.ptr h0).2; omega))
            have hrd' := hidp (show RdS w10 g2 b2 ⟨0, (fmT l).take r, 0, 0⟩ from ⟨hrd, hb2, fun _ => rfl⟩)
            have H2 := hidp (show WbB w w10 g2 b2 ⟨0, (fmT l).take r, 0, 0⟩ pd bd cd (fmT l) from ⟨hrd'.out, hx.out.bs.below hb, hx.out.bel.trans (hb.mono hx.out.bel.size), by have := hx.out.bel.size; omega, hgn.out⟩)
            clear hg hb2 hrd hb hgn hrd' HNR hx hsl
            go_wp2_with fail
            go_loopw [14] (fun x wr => ∃ (i : Nat) (s : RS), i ≤ l.length ∧ x = .int .i64 i ∧ Hid (WbB w wr g2 b2 s pd bd cd (fmT l)) ∧ Hid (CutS (fmT (l.take i)).length r (fmT (l.drop i)) s)) (fun x _ => l.length - (Go.RowKit.intOf x).toNat)
            case atStart => exact ⟨0, _, by omega, rfl, H2, hidp (Or.inr ⟨by simp [fmT], rfl⟩)⟩
            case round =>
              obtain ⟨i, s, hi, rfl, hx, hC⟩ := hrel
              clear H2
              have hiz : (0 : Int) ≤ (i : Int) := by omega
              by_cases hlt : i < l.length
              · obtain ⟨t, ht, htk, rfl, hrg⟩ := (HT.out.below hx.out.bel).at hlt
                have hlz : (i : Int) < (l.length : Int) := by omega
                have HI := hidp hlt
                have hadd := w64_nat (n := i) (by have := hlim.out.1; omega)
                have hrg' := hidp hrg
                have htl := hidp (tgL_len htk)
                have hit := hidp ht
                have hf := hidp (hF2.out t (List.mem_of_getElem? ht))
                have hBk := hidp (back_any hx.out.rd t htk hf.out (fun h0 => by
                  have q := HT.out.ok t (List.mem_of_getElem? ht)
                  have := (q.bs.ptr h0).2
                  have := hx.out.lo
                  omega) (cutS_len hC.out (fmT_drop_len hF2.out hlim.out.1 i)))
                clear ht htk hrg hi hlt
                go_wp2_with first
                  | (with_reducible refine (?_ : wpList _ _ _ _ _ _); refine wpList_load_midD 124 rfl (by kernel_rfl) 39 _ rfl b (o + i * 41) rfl (tgL t) _ hrg'.out Try.underlying39 rfl (by rw [htl.out]; kernel_rfl) ?_)
                refine hBk.out.mono ?_
                rintro e w6 ⟨v, rfl, hv, h1, h2⟩
                replace hx := hidp (hx.out.step h1 h2)
                replace hC := hidp (cutS_at hit.out hf.out hC.out)
                clear hv h1 h2 hBk hrg'
                go_wp2_with fail
                try rw [hadd]
                exact ⟨⟨i + 1, _, by have := HI.out; omega, rfl, hx, hC⟩, by have := HI.out; show l.length - ((i + 1 : Nat) : Int).toNat < l.length - ((i : Nat) : Int).toNat; omega⟩
              · obtain rfl : i = l.length := by omega
                have hlz : ¬ ((l.length : Int) < (l.length : Int)) := by omega
                obtain ⟨q1, q2, q3⟩ := cutS_end hC.out hrl.out
                obtain ⟨t0, R0, e0, f0⟩ := s
                simp only at q1 q2 q3
                subst q1 q3
                have HE := sEnd hx.out.rd
                have hE1 : endS ⟨t0, [], 6, f0⟩ = (6, f0) := rfl
                rw [hE1] at HE
                replace HE := hidp HE
                have hle : decide ((f0 : Int) ≤ (r : Int)) = true := decide_eq_true (by omega)
                have hle2 : decide (f0 ≤ r) = true := decide_eq_true q2
                have hle3 : f0 ≤ r := q2
                clear hi hlt hC q2 hE1
                go_wp2_with fail
                refine HE.out.mono ?_
                rintro e w7 ⟨rfl, hb⟩
                replace hx := hidp (hx.out.below hb)
                have HN := hidp (fun W (h : Below w7.heap.size w7 W) => sRest (hx.out.rd.below h))
                clear hb HE
                have hal := hidp (Below.refl w7.heap.size w7)
                go_wp2_with fail
                refine (HN.out _ ((Below.refl _ _).alloc (Nat.le_refl _) _)).mono ?_
                rintro e w8 ⟨rfl, hw⟩
                subst hw
                go_wp2_with fail
                go_ret
                exact ⟨rfl, hx.out.bel.trans (((Below.refl _ _).alloc (Nat.le_refl _) _).mono hx.out.bel.size)⟩
theorem wback_any (a : Option Addr) (b o cap : Nat) (l : List Tg) (y : Int) (w : World) (hT : TgS w a b o cap l) (_ : -9223372036854775808 ≤ y ∧ y ≤ 9223372036854775807) : Calls Try.prog 5 #[.slice a l.length cap, .int .i64 y] w fun e w' => e = .returned (.bool true) ∧ Below w.heap.size w w' := by
  cases hl : longT l
  · exact wback_in a b o cap l y w hT hl
  · exact wback_long a b o cap l y w hT hl
end Go.Proofs.Ytbhkjflpkpkdlaa
