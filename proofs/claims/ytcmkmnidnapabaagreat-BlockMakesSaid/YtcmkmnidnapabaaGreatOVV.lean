/-
  Sets written over; what Decode tells of validators.
-/
import Derived.Test.YtcmkmnidnapabaaGreatVl
import Derived.Test.YtcmkmnidnapabaaGreatUj
import Derived.Test.YtcmkmnidnapabaaGreatQi

/-! Rh: Sets written over. -/
namespace Go.Proofs.YtcmkmnidnapabaaGreat
open Go.RowKit Go.Lib Go.Maps

structure OvI (w wr : World) (g i : Nat) (m : Nat) : Prop where
  blk : ∃ cs, Blk wr g cs 111 ∧ cs.length = m
  bex : Bex g w wr
theorem five_in {w : World} {g m i : Nat} {cs : List Value} (h : Blk w g cs 111) (hl : cs.length = m) (hi : i * 5 + 4 < m) : ∃ u0 u1 u2 u3 u4, w.cell? ⟨g, i * 5, none⟩ = some u0 ∧ w.cell? ⟨g, i * 5 + 1, none⟩ = some u1 ∧ w.cell? ⟨g, i * 5 + 2, none⟩ = some u2 ∧ w.cell? ⟨g, i * 5 + 3, none⟩ = some u3 ∧ w.cell? ⟨g, i * 5 + 4, none⟩ = some u4 :=
  ⟨cs[i * 5], cs[i * 5 + 1], cs[i * 5 + 2], cs[i * 5 + 3], cs[i * 5 + 4], (h.cell _).trans (List.getElem?_eq_getElem (by omega)), (h.cell _).trans (List.getElem?_eq_getElem (by omega)), (h.cell _).trans (List.getElem?_eq_getElem (by omega)), (h.cell _).trans (List.getElem?_eq_getElem (by omega)), (h.cell _).trans (List.getElem?_eq_getElem (by omega))⟩
set_option maxRecDepth 100000 in
set_option maxHeartbeats 4000000 in
theorem overVals_some (g n cap m : Nat) (cs : List Value) (w : World) (h : Blk w g cs 111) (hm : cs.length = m) (hn : n * 5 ≤ m) (hn2 : n ≤ 1000) :
    Calls Tryz.prog 127 #[.slice (some ⟨g, 0, none⟩) n cap] w fun e w' => e = .returned (.tuple #[]) ∧ Bex g w w' := by
  have H0 : Hid (OvI w w g 0 m) := hidp ⟨⟨cs, h, hm⟩, Bex.refl _ _⟩
  have HN := hidp (And.intro hn hn2)
  clear h hm hn hn2
  go_enter Tryz.func127, Tryz.ntmps127
  go_wp2_with fail
  go_loopw [2] (fun x wr => ∃ i : Nat, i ≤ n ∧ x = .int .i64 ((i : Nat) : Int) ∧ Hid (OvI w wr g i m)) (fun x _ => n - (Go.RowKit.intOf x).toNat)
  case atStart => exact ⟨0, by omega, rfl, H0⟩
  case round =>
    obtain ⟨i, hi, rfl, hr⟩ := hrel
    clear H0
    by_cases hlt : i < n
    · obtain ⟨cs', hb, hl⟩ := hr.out.blk
      obtain ⟨u0, u1, u2, u3, u4, c0, c1, c2, c3, c4⟩ := five_in hb hl (i := i) (by have := HN.out; omega)
      have f0 := hb.free (i * 5)
      have f1 := hb.free (i * 5 + 1)
      have f2 := hb.free (i * 5 + 2)
      have f3 := hb.free (i * 5 + 3)
      have f4 := hb.free (i * 5 + 4)
      have hgl := hb.lt
      have HB := hidp (And.intro hb hl)
      have HX := hidp (And.intro hr.out.bex hlt)
      have hadd := w64_nat (n := i) (by have := HN.out; omega)
      clear hb hl hr
      go_wp2_with fail
      have hb5 := ((((HB.out.1.set (i * 5) (.int .u8 0)).set (i * 5 + 1) (.int .u8 0)).set (i * 5 + 2) (.int .u8 0)).set (i * 5 + 3) (.int .u8 0)).set (i * 5 + 4) (.int .i64 (-7))
      have hx5 := ((((HX.out.1.setCell (i * 5) (.int .u8 0)).setCell (i * 5 + 1) (.int .u8 0)).setCell (i * 5 + 2) (.int .u8 0)).setCell (i * 5 + 3) (.int .u8 0)).setCell (i * 5 + 4) (.int .i64 (-7))
      rw [hadd]
      exact ⟨⟨i + 1, by have := HX.out.2; omega, rfl, hidp ⟨⟨_, hb5, by simp only [List.length_set]; exact HB.out.2⟩, hx5⟩⟩, by have h1 := HX.out.2; show n - ((i + 1 : Nat) : Int).toNat < n - ((i : Nat) : Int).toNat; omega⟩
    · have hx := hidp hr.out.bex
      obtain rfl : i = n := by omega
      clear hr hlt
      go_wp2_with fail
      refine bodyPost_end (results_none rfl _ _ _) rfl ?_
      exact ⟨rfl, hx.out⟩
theorem overVals_zero (p : Option Addr) (cap : Nat) (w : World) : Calls Tryz.prog 127 #[.slice p 0 cap] w fun e w' => e = .returned (.tuple #[]) ∧ w' = w := by
  go_enter Tryz.func127, Tryz.ntmps127
  go_wp2_with fail
  go_loopw [2] (fun x wr => x = .int .i64 0 ∧ wr = w) (fun _ _ => 0)
  case atStart => exact ⟨rfl, rfl⟩
  case round =>
    obtain ⟨rfl, rfl⟩ := hrel
    go_wp2_with fail
    refine bodyPost_end (results_none rfl _ _ _) rfl ?_
    exact ⟨rfl, rfl⟩
/-- Written over: all but its own block stays. -/
theorem overVals_any (p : Option Addr) (b cap : Nat) (m : List Vd) (w : World) (hv : Vs w p b 0 cap m) (ho : Ow w b m.length) (hm : m.length ≤ 64) :
    Calls Tryz.prog 127 #[.slice p m.length cap] w fun e w' => e = .returned (.tuple #[]) ∧ Bex b w w' := by
  rcases Nat.eq_zero_or_pos m.length with h0 | h0
  · rw [h0]
    refine (overVals_zero p cap w).mono ?_
    rintro e w' ⟨rfl, rfl⟩
    exact ⟨rfl, Bex.refl _ _⟩
  · obtain ⟨cs, h1, h2⟩ := ho h0
    obtain ⟨rfl, _⟩ := hv.ptr (by have := hv.le; omega)
    exact overVals_some b m.length cap cs.length cs w h1 rfl h2 (by omega)
end Go.Proofs.YtcmkmnidnapabaaGreat


/-! Dow: Vals: Decode, whose result may be written over. -/
namespace Go.Proofs.YtcmkmnidnapabaaGreat
open Go.RowKit Go.Lib Go.Maps
set_option linter.unusedSimpArgs false

theorem Ow.below {W W' : World} {b n : Nat} (h : Ow W b n) (hB : Below W.heap.size W W') : Ow W' b n := fun h0 => by
  obtain ⟨cs, h1, h2⟩ := h h0
  exact ⟨cs, hB.blk' h1, h2⟩
set_option maxRecDepth 100000 in
set_option maxHeartbeats 2000000 in
theorem decode_own (a : Option Addr) (ba oo cap : Nat) (L : List Nat) (w : World) (h : Bs w a ba oo L cap) (hL : L.length ≤ 4000000) :
    Calls Tryz.prog 70 #[.slice a L.length cap] w fun e w' => (∃ p b c, e = .returned (.tuple #[.slice p (decO L).1.length c, .agg #[.int .i64 ((decO L).2.1 : Nat), .int .i64 ((decO L).2.2 : Nat)]]) ∧ w.heap.size ≤ b ∧ Vs w' p b 0 c (decO L).1 ∧ Ow w' b (decO L).1.length) ∧ Below w.heap.size w w' := by
  obtain ⟨i0, hi, hz0, hz1, hz2⟩ := info_parts info_val
  have hLb := hidp h.byte
  have HA := hidp (fun o : Obj => (Below.refl w.heap.size w).alloc (Nat.le_refl _) o)
  have HR := hidp (fun o : Obj => newReader_any a ba oo cap L (w.alloc o) (h.below (HA.out o)) hL)
  clear h hL
  go_enter Tryz.func70, Tryz.ntmps70
  go_wp2_with fail
  refine (HR.out _).mono ?_
  rintro e w1 ⟨g, b, rfl, hg, hb, hr, hB⟩
  have H1 : Hid (RdS w1 g b (rs0 L) ∧ Blk w1 w.heap.size [.int .i64 ((0 : Nat) : Int), .int .i64 ((0 : Nat) : Int)] 52 ∧ Below w.heap.size w w1 ∧ w.heap.size < g ∧ g < w1.heap.size) :=
    hidp ⟨⟨hr, hb, fun _ => rfl⟩, hB.blk' (Blk.new w [.int .i64 0, .int .i64 0] _), (HA.out _).trans (hB.mono (HA.out _).size), by simp at hg; omega, by obtain ⟨_, _, _, hh⟩ := hr; exact hh.blk.lt⟩
  clear hg hb hr hB HR HA
  go_wp2_with fail
  refine (sNum H1.out.1).mono ?_
  rintro e w2 ⟨rfl, hr2, hx2⟩
  have H2 : Hid (RdS w2 g b (rdN pNum (rs0 L)) ∧ Blk w2 w.heap.size [.int .i64 ((0 : Nat) : Int), .int .i64 ((0 : Nat) : Int)] 52 ∧ Below w.heap.size w w2 ∧ w.heap.size < g) :=
    hidp ⟨hr2, hx2.blk H1.out.2.1 (by have := H1.out.2.2.2.1; omega), H1.out.2.2.1.trans (hx2.below (by have := H1.out.2.2.2.1; omega) H1.out.2.2.1.size), H1.out.2.2.2.1⟩
  clear hr2 hx2 H1
  by_cases h64 : 64 < rdV pNum 0 (rs0 L)
  · have ht : decide ((64 : Int) < ((rdV pNum 0 (rs0 L) : Nat) : Int)) = true := decide_eq_true (by omega)
    have hO := hidp (decO_long h64)
    obtain ⟨c0, c1, f0, f1⟩ := resF H2.out.2.1
    generalize rdV pNum 0 (rs0 L) = n at *
    clear h64
    go_wp2_with fail
    have hb := (H2.out.2.1.set 0 (.int .i64 4)).set 1 (.int .i64 0)
    have hB := hidp ((H2.out.2.2.1.setCell (p := ⟨w.heap.size, 0, none⟩) (Nat.le_refl _) (.int .i64 4)).setCell (p := ⟨w.heap.size, 1, none⟩) (Nat.le_refl _) (.int .i64 0))
    obtain ⟨W, hW⟩ : ∃ W, W = (w2.setCell ⟨w.heap.size, 0, none⟩ (.int .i64 4)).setCell ⟨w.heap.size, 1, none⟩ (.int .i64 0) := ⟨_, rfl⟩
    rw [← hW] at hb hB ⊢
    have d0 : W.cell? ⟨w.heap.size, 0, none⟩ = some (.int .i64 4) := hb.cell 0
    have d1 : W.cell? ⟨w.heap.size, 1, none⟩ = some (.int .i64 0) := hb.cell 1
    refine bodyPost_ret (v := .tuple #[.slice none 0 0, .agg #[.int .i64 4, .int .i64 0]]) (by simp [results, Tryz.results70, go_sem, d0, d1]) rfl ⟨⟨none, w.heap.size, 0, ?_, Nat.le_refl _, ?_, ?_⟩, hB.out⟩
    · rw [hO.out]; rfl
    · rw [hO.out]; exact ⟨by simp, by simp, fun h => absurd h (by omega), fun i v hi => by simp at hi⟩
    · rw [hO.out]; exact fun h => absurd h (by simp)
  have ht : decide ((64 : Int) < ((rdV pNum 0 (rs0 L) : Nat) : Int)) = false := decide_eq_false (by omega)
  have H64 := hidp h64
  obtain ⟨n, hn⟩ : ∃ n, n = rdV pNum 0 (rs0 L) := ⟨_, rfl⟩
  obtain ⟨s1, hs1⟩ : ∃ s, s = rdN pNum (rs0 L) := ⟨_, rfl⟩
  have HN := hidp (And.intro hn hs1)
  have hn64 : n ≤ 64 := by omega
  rw [← hn] at ht ⊢
  rw [← hs1] at H2
  have hby := hidp (show ∀ x ∈ s1.R, x < 256 from H2.out.1.byte)
  have HG := hidp (And.intro H2.out.1.glt (And.intro H2.out.1.lt H2.out.2.2.1.size))
  clear h64 hn hs1
  go_wp2_with (refine wpList_make_own w2 rfl _ _ 22 rfl w2.heap.size 111 i0 _ 5 Tryz.underlying22 hi hz0 hz1 .i64 .i64 (n : Nat) n rfl rfl rfl (by rw [hz2]; omega) (by unfold maxLen; omega) (Nat.le_refl _) ?_; intro w3 ho3 hg3; have h3 := hidp (And.intro ho3 hg3); clear ho3 hg3)
  have b23 : Below w2.heap.size w2 w3 := (Below.refl _ w2).grown h3.out.2 (Nat.le_refl _) (fun k h => by cases h)
  have H0 : Hid (DecI w w3 w2.heap.size g b n 0 s1 (.slice (some ⟨w2.heap.size, 0, none⟩) 0 n)) :=
    hidp ⟨H2.out.1.lower b23 HG.out.1 HG.out.2.1, b23.blk' H2.out.2.1, H2.out.2.2.2, h3.out.1, H2.out.2.2.1.trans (b23.mono HG.out.2.2), by have := H2.out.2.2.2; omega, HG.out.1, HG.out.2.1, b23.size, HG.out.2.2⟩
  clear b23 h3 H2
  go_loopw [6, 20] (fun v x wr => ∃ i : Nat, i ≤ n ∧ x = .int .i64 i ∧ Hid (DecI w wr w2.heap.size g b n i s1 v)) (fun _ x _ => n - (Go.RowKit.intOf x).toNat)
  case atStart => exact ⟨0, by omega, rfl, H0⟩
  case round =>
    obtain ⟨i, hin, rfl, hr⟩ := hrel
    clear H0 ht
    by_cases hlt : i < n
    · have hadd := w64_nat (n := i) (by omega)
      have HI := hidp (And.intro hlt hn64)
      go_wp2_with fail
      refine (sKeyN hr.out.rd).mono ?_
      rintro e w4 ⟨rfl, hr4, hx4⟩
      have h4 := hidp (And.intro hr4 hx4)
      clear hr4 hx4
      go_wp2_with fail
      have HN2 := hidp (show ∀ W, (W = w4.alloc (.cells #[.int .u8 (kd (decV (decF i s1).2).k 3 : Nat), .int .u8 (kd (decV (decF i s1).2).k 2 : Nat), .int .u8 (kd (decV (decF i s1).2).k 1 : Nat), .int .u8 (kd (decV (decF i s1).2).k 0 : Nat)] 24) ∨ W = (w4.alloc (.cells #[.int .u8 (kd (decV (decF i s1).2).k 3 : Nat), .int .u8 (kd (decV (decF i s1).2).k 2 : Nat), .int .u8 (kd (decV (decF i s1).2).k 1 : Nat), .int .u8 (kd (decV (decF i s1).2).k 0 : Nat)] 24)).drew) → Below w4.heap.size w4 W ∧ RdS W g b (rdN (pRaw 4) (decF i s1).2) ∧ Blk W w4.heap.size [.int .u8 (kd (decV (decF i s1).2).k 3 : Nat), .int .u8 (kd (decV (decF i s1).2).k 2 : Nat), .int .u8 (kd (decV (decF i s1).2).k 1 : Nat), .int .u8 (kd (decV (decF i s1).2).k 0 : Nat)] 24 from by
        have b1 : Below w4.heap.size w4 (w4.alloc (.cells #[.int .u8 (kd (decV (decF i s1).2).k 3 : Nat), .int .u8 (kd (decV (decF i s1).2).k 2 : Nat), .int .u8 (kd (decV (decF i s1).2).k 1 : Nat), .int .u8 (kd (decV (decF i s1).2).k 0 : Nat)] 24)) := (Below.refl _ w4).alloc (Nat.le_refl _) _
        rintro W (rfl | rfl)
        · exact ⟨b1, h4.out.1.below b1, Blk.new w4 _ _⟩
        · exact ⟨b1.drew, (h4.out.1.below b1).drew, (Blk.new w4 _ _).drew⟩)
      have hK : Hid (KS w4.heap.size (decV (decF i s1).2).k (w4.alloc (.cells #[.int .u8 (kd (decV (decF i s1).2).k 3 : Nat), .int .u8 (kd (decV (decF i s1).2).k 2 : Nat), .int .u8 (kd (decV (decF i s1).2).k 1 : Nat), .int .u8 (kd (decV (decF i s1).2).k 0 : Nat)] 24))) := hidp (KS.of (Blk.new w4 _ _))
      have hg4 := hidp (show w4.heap.size ≠ g by have := h4.out.1.glt; omega)
      go_region_held3 (fun w' => w'.cell? ⟨w4.heap.size, 0, none⟩ = some (.int .u8 (kd (decV (decF i s1).2).k 3 : Nat)) ∧ w'.cell? ⟨w4.heap.size, 1, none⟩ = some (.int .u8 (kd (decV (decF i s1).2).k 2 : Nat)) ∧ w'.cell? ⟨w4.heap.size, 2, none⟩ = some (.int .u8 (kd (decV (decF i s1).2).k 1 : Nat)) ∧ w'.cell? ⟨w4.heap.size, 3, none⟩ = some (.int .u8 (kd (decV (decF i s1).2).k 0 : Nat)))
        (first | (with_reducible exact Hid.out (p := KS w4.heap.size (decV (decF i s1).2).k _) (by with_reducible assumption)) | exact Hid.out (p := KS w4.heap.size (decV (decF i s1).2).k _) (by with_reducible assumption) | exact Hid.out (p := KS w4.heap.size (decV (decF i s1).2).k _) (KS.drew (by with_reducible assumption)) | exact Hid.out (p := KS w4.heap.size (decV (decF i s1).2).k _) (KS.alloc (by with_reducible assumption) _))
        (first
         | (go_at_call 89; refine (sNum (HN2.out _ (by first | exact .inl rfl | exact .inr rfl)).2.1).mono ?_; rintro e w5 ⟨rfl, hr5, hx5⟩; have h6 := hidp (show ∃ W, Below w4.heap.size w4 W ∧ RdS w5 g b (decN (decF i s1).2) ∧ Bex g W w5 from ⟨_, (HN2.out _ (by first | exact .inl rfl | exact .inr rfl)).1, hr5, hx5⟩); have hT := hidp (KS.of (hx5.blk (HN2.out _ (by first | exact .inl rfl | exact .inr rfl)).2.2 hg4.out)); clear hr5 hx5)
         | (obtain ⟨W, hw4, hw5, hwx⟩ := h6.out; have HO := hr.out.own6 h4.out.2 hw4 hwx; refine step_append_lies _ (by rfl) _ _ 22 (by rfl) w2.heap.size 111 i0 _ 5 16 Tryz.underlying22 hi hz0 hz1 hz2 (by rfl) (by decide) _ _ _ (by rfl) (HO _).1 ⟨w5.heap.size, 0, none⟩ 1 1 (vL (decV (decF i s1).2)) (by rfl) (by rfl) (new_cells w5 (vL (decV (decF i s1).2)) _) (vL_one _) (by decide) (by rw [decF_len]; unfold maxLen; omega) (by rw [decF_len]; omega) (HO _).2 _ (by rfl) ?_; intro gv cv w7 ho7 hg7 _ _; have H7 := hidp (hr.out.next h4.out hw4 ⟨hw5, hwx⟩ ho7 (Below.ofOwn (HO _).1 hg7 (HO _).2)); have hT7 := KS.grown (KS.alloc hT _) hg7 (fun e => by have := hr.out.own.lt e; have := h4.out.2.size; omega); clear ho7 hg7 HO hw4 hw5 hwx))
      go_wp2_with fail
      rw [show ((i : Int) + 1) = ((i + 1 : Nat) : Int) by omega]
      exact ⟨⟨i + 1, by have := HI.out; omega, rfl, H7⟩, by have h1 := HI.out.1; show n - ((i + 1 : Nat) : Int).toNat < n - ((i : Nat) : Int).toNat; omega⟩
    · obtain rfl : i = n := by omega
      clear hlt
      go_wp2_with fail
      refine (sEnd hr.out.rd).mono ?_
      rintro e w4 ⟨rfl, hB4⟩
      have h4 := hidp hB4
      clear hB4
      obtain ⟨x, y, hxy⟩ : ∃ x y, endS (decF i s1).2 = (x, y) := ⟨_, _, rfl⟩
      have HB := hidp (And.intro (hr.out.bel.trans (h4.out.mono hr.out.bel.size)) (show w.heap.size < w4.heap.size by have := hr.out.wB; have := h4.out.size; have := hr.out.gB; have := hr.out.hr; omega))
      have hres := hidp (h4.out.blk' hr.out.res)
      rw [hxy]
      by_cases hx : x = 0
      · subst hx
        have hk0 := decF_ok hby.out i
        obtain ⟨p, pb, pc, rfl, hpb, hvs⟩ := hr.out.own.vs hk0.2
        have HC := hidp (fun o : Obj => check_any p pb 0 pc (decF i s1).1 ((w4.alloc o)) ((hvs.below h4.out).below ((Below.refl _ w4).alloc (Nat.le_refl _) o)))
        have HP := hidp (And.intro (show w.heap.size < pb by have := hr.out.gB; have := hr.out.hr; omega) (fun W (hW : Below w4.heap.size w4 W) => (hvs.below h4.out).below hW))
        have HWO := hidp ((hr.out.own.ow hvs).below h4.out)
        have hbA := hidp (fun o : Obj => (Below.refl w4.heap.size w4).alloc (Nat.le_refl _) o)
        clear hk0 hvs hr
        go_wp2_with fail
        refine (HC.out _).mono ?_
        rintro e w5 ⟨rfl, hb5⟩
        have h45 := hidp ((hbA.out _).trans (hb5.mono (hbA.out _).size))
        clear hb5 HC
        have hres5 := hidp ((hres.out.below h45.out (by have := HB.out.2; omega)))
        have HB5 := hidp (HB.out.1.trans (h45.out.mono HB.out.1.size))
        obtain ⟨c0, c1, f0, f1⟩ := resF hres5.out
        by_cases hc : chk (decF i s1).1 = 0
        · have hO := decO_ok H64.out (by rw [← HN.out.1, ← HN.out.2, hxy]) (by rw [← HN.out.1, ← HN.out.2]; exact hc)
          rw [← HN.out.1, ← HN.out.2] at hO
          replace hO := hidp hO
          rw [hc]
          go_wp2_with fail
          have hb := (hres5.out.set 0 (.int .i64 ((0 : Nat) : Int))).set 1 (.int .i64 ((0 : Nat) : Int))
          have hB := hidp ((HB5.out.setCell (p := ⟨w.heap.size, 0, none⟩) (Nat.le_refl _) (.int .i64 ((0 : Nat) : Int))).setCell (p := ⟨w.heap.size, 1, none⟩) (Nat.le_refl _) (.int .i64 ((0 : Nat) : Int)))
          have hX := hidp (((Bex.refl w.heap.size w5).setCell 0 (.int .i64 ((0 : Nat) : Int))).setCell 1 (.int .i64 ((0 : Nat) : Int)))
          obtain ⟨W, hW⟩ : ∃ W, W = (w5.setCell ⟨w.heap.size, 0, none⟩ (.int .i64 ((0 : Nat) : Int))).setCell ⟨w.heap.size, 1, none⟩ (.int .i64 ((0 : Nat) : Int)) := ⟨_, rfl⟩
          rw [← hW] at hb hB hX
          try rw [show ((0 : Nat) : Int) = 0 from rfl] at hW
          rw [← hW]
          have d0 : W.cell? ⟨w.heap.size, 0, none⟩ = some (.int .i64 ((0 : Nat) : Int)) := hb.cell 0
          have d1 : W.cell? ⟨w.heap.size, 1, none⟩ = some (.int .i64 0) := hb.cell 1
          refine bodyPost_ret (v := .tuple #[.slice p (decF i s1).1.length pc, .agg #[.int .i64 ((0 : Nat) : Int), .int .i64 0]]) (by simp [results, Tryz.results70, go_sem, d0, d1]) rfl ⟨⟨p, pb, pc, ?_, Nat.le_of_lt HP.out.1, ?_, ?_⟩, hB.out⟩
          · rw [hO.out]; rfl
          · rw [hO.out]; exact (HP.out.2 w5 h45.out).bex hX.out (fun _ => by have := HP.out.1; omega)
          · rw [hO.out]; exact (HWO.out.below h45.out).bex hX.out (fun _ => by have := HP.out.1; omega)
        · have hO := decO_chk H64.out (by rw [← HN.out.1, ← HN.out.2, hxy]) (by rw [← HN.out.1, ← HN.out.2]; exact hc)
          rw [← HN.out.1, ← HN.out.2] at hO
          replace hO := hidp hO
          have hbn : (((chk (decF i s1).1 : Nat) : Int) != 0) = true := by rw [bne_iff_ne]; omega
          generalize hm : chk (decF i s1).1 = m at *
          have HM := hidp hm
          clear hc hm
          go_wp2_with fail
          have hb := (hres5.out.set 0 (.int .i64 (m : Nat))).set 1 (.int .i64 ((0 : Nat) : Int))
          have hB := hidp ((HB5.out.setCell (p := ⟨w.heap.size, 0, none⟩) (Nat.le_refl _) (.int .i64 (m : Nat))).setCell (p := ⟨w.heap.size, 1, none⟩) (Nat.le_refl _) (.int .i64 ((0 : Nat) : Int)))
          have hX := hidp (((Bex.refl w.heap.size w5).setCell 0 (.int .i64 (m : Nat))).setCell 1 (.int .i64 ((0 : Nat) : Int)))
          obtain ⟨W, hW⟩ : ∃ W, W = (w5.setCell ⟨w.heap.size, 0, none⟩ (.int .i64 (m : Nat))).setCell ⟨w.heap.size, 1, none⟩ (.int .i64 ((0 : Nat) : Int)) := ⟨_, rfl⟩
          rw [← hW] at hb hB hX
          try rw [show ((0 : Nat) : Int) = 0 from rfl] at hW
          rw [← hW]
          have d0 : W.cell? ⟨w.heap.size, 0, none⟩ = some (.int .i64 (m : Nat)) := hb.cell 0
          have d1 : W.cell? ⟨w.heap.size, 1, none⟩ = some (.int .i64 0) := hb.cell 1
          refine bodyPost_ret (v := .tuple #[.slice none 0 0, .agg #[.int .i64 (m : Nat), .int .i64 0]]) (by simp [results, Tryz.results70, go_sem, d0, d1]) rfl ⟨⟨none, w.heap.size, 0, ?_, Nat.le_refl _, ?_, ?_⟩, hB.out⟩
          · rw [hO.out]; rfl
          · rw [hO.out]; exact ⟨by simp, by simp, fun h => absurd h (by omega), fun i v hi => by simp at hi⟩
          · rw [hO.out]; exact fun h => absurd h (by simp)
      · have hO := decO_end H64.out (by rw [← HN.out.1, ← HN.out.2, hxy]; exact hx)
        rw [← HN.out.1, ← HN.out.2, hxy] at hO
        replace hO := hidp hO
        have hne : ((x : Nat) : Int) ≠ 0 := by omega
        have hbn : (((x : Nat) : Int) != 0) = true := by rw [bne_iff_ne]; omega
        clear hx
        go_wp2_with fail
        refine region_tail 2 (by kernel_rfl) (by kernel_rfl) ?_
        intro wd hwd
        obtain ⟨e0, e1, _, _⟩ := resF (W := wd) (r := w4.heap.size) (x := x) (y := y) (by rw [hwd.out]; exact (Blk.new w4 _ _).drew)
        have hres2 : Blk wd w.heap.size [.int .i64 ((0 : Nat) : Int), .int .i64 ((0 : Nat) : Int)] 52 := by rw [hwd.out]; exact (hres.out.alloc _).drew
        have HB2 : Below w.heap.size w wd := by rw [hwd.out]; exact (HB.out.1.alloc HB.out.1.size _).drew
        obtain ⟨c0, c1, f0, f1⟩ := resF hres2
        have HB3 := hidp (And.intro HB2 hres2)
        clear hwd HB2 hres2 hres
        simp only [List.take_succ_cons, List.take_zero, List.drop_succ_cons, List.drop_zero]
        repeat still_step
        try refine wpStill_nil ?_
        go_wp2_with fail
        have hb := (HB3.out.2.set 0 (.int .i64 (x : Nat))).set 1 (.int .i64 (y : Nat))
        have hB := hidp ((HB3.out.1.setCell (p := ⟨w.heap.size, 0, none⟩) (Nat.le_refl _) (.int .i64 (x : Nat))).setCell (p := ⟨w.heap.size, 1, none⟩) (Nat.le_refl _) (.int .i64 (y : Nat)))
        obtain ⟨W, hW⟩ : ∃ W, W = (wd.setCell ⟨w.heap.size, 0, none⟩ (.int .i64 (x : Nat))).setCell ⟨w.heap.size, 1, none⟩ (.int .i64 (y : Nat)) := ⟨_, rfl⟩
        rw [← hW] at hb hB ⊢
        have d0 : W.cell? ⟨w.heap.size, 0, none⟩ = some (.int .i64 (x : Nat)) := hb.cell 0
        have d1 : W.cell? ⟨w.heap.size, 1, none⟩ = some (.int .i64 (y : Nat)) := hb.cell 1
        refine bodyPost_ret (v := .tuple #[.slice none 0 0, .agg #[.int .i64 (x : Nat), .int .i64 (y : Nat)]]) (by simp [results, Tryz.results70, go_sem, d0, d1]) rfl ⟨⟨none, w.heap.size, 0, ?_, Nat.le_refl _, ?_, ?_⟩, hB.out⟩
        · rw [hO.out]; rfl
        · rw [hO.out]; exact ⟨by simp, by simp, fun h => absurd h (by omega), fun i v hi => by simp at hi⟩
        · rw [hO.out]; exact fun h => absurd h (by simp)
end Go.Proofs.YtcmkmnidnapabaaGreat

