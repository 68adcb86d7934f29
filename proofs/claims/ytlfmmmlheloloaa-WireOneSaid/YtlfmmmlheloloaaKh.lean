/-
  The walk of landfalllaw04's WireOne.
-/
import Derived.Test.YtlfmmmlheloloaaKg
import Derived.Test.YtlfmmmlheloloaaJw
import Derived.Test.YtlfmmmlheloloaaJr
import Derived.Deep.CutRange
namespace Go.Proofs.Ytlfmmmlheloloaa
open Go.RowKit Go.Lib Go.Maps

theorem piece_at {w : World} {a : Option Addr} {len cap : Nat} {zs : List Int} (h : IsRow .i64 w a len cap zs) {m : Nat} (hm : m < len) : ∃ x, a = some x ∧ w.cell? (x.add m) = some (.int .i64 (zs.getD m 0)) := by
  rcases h with ⟨_, h, _, _⟩ | ⟨x, rfl, h2, h3, h4, h5, _⟩
  · omega
  · exact ⟨x, rfl, h5 m (by omega)⟩

theorem newWriter_max (w : World) : Calls Try.prog 16 #[.int .i64 1048576] w fun e w' => e = .returned (.tuple #[.pointer (some ⟨w.heap.size, 0, none⟩), .int .i64 0]) ∧ Wr w' w.heap.size 1048576 (.slice none 0 0) [] 0 ∧ Below w.heap.size w w' := by
  have q := newWriter_any 1048576 w (by omega)
  rw [show ((1048576 : Nat) : Int) = 1048576 from rfl] at q
  exact q
theorem one_sum {L X R : List Nat} {m : Nat} (hm : m ≤ L.length) (hX : X = L.take m) (hR : R = L.drop m) (h : ¬ 600 < L.length) :
    wrap64 ((X.length : Int) + (R.length : Int)) = (L.length : Int) ∧ wrap64 (L.length : Int) = (L.length : Int) ∧ (X.length : Int) + (R.length : Int) = (L.length : Int) ∧ X.length ≤ L.length := by
  have h1 : X.length = m := by rw [hX, List.length_take]; omega
  have h2 : R.length = L.length - m := by rw [hR, List.length_drop]
  clear hX hR
  generalize X.length = x at *
  generalize R.length = r at *
  generalize L.length = l at *
  subst h1 h2
  have h3 : (x : Int) + ((l - x : Nat) : Int) = l := by omega
  refine ⟨by rw [h3]; exact w64 _ (by omega), w64 _ (by omega), h3, hm⟩
theorem one_next {L X R : List Nat} {m n : Nat} (hm : m ≤ L.length) (hX : X = L.take m) (hR : R = L.drop m) (hn : n ≤ R.length) : m + n ≤ L.length ∧ X ++ R.take n = L.take (m + n) ∧ R.drop n = L.drop (m + n) := by
  refine ⟨?_, by rw [hX, hR, List.take_add], by rw [hR, List.drop_drop]⟩
  rw [hR, List.length_drop] at hn
  omega
structure OneI (w wr : World) (gr b gw : Nat) (L : List Nat) (m : Nat) (v : Value) (X R : List Nat) : Prop where
  rd : RdX wr gr m b R 0 0
  wri : Wr wr gw 1048576 v X 0
  bel : Below w.heap.size w wr
  hm : m ≤ L.length
  hX : X = L.take m
  hR : R = L.drop m
  hg : w.heap.size ≤ gr
  hgr : gr < gw
  hb : b < gw
theorem OneI.below {w w1 w2 : World} {gr b gw : Nat} {L : List Nat} {m : Nat} {v : Value} {X R : List Nat} (H : OneI w w1 gr b gw L m v X R) (hB : Below w1.heap.size w1 w2) : OneI w w2 gr b gw L m v X R :=
  ⟨H.rd.below hB, H.wri.below hB, H.bel.trans (hB.mono H.bel.size), H.hm, H.hX, H.hR, H.hg, H.hgr, H.hb⟩
set_option maxRecDepth 100000 in
set_option maxHeartbeats 4000000 in
theorem lawOne_w (a : Option Addr) (len cap : Nat) (zs : List Int) (a1 : Option Addr) (len1 cap1 : Nat) (zs1 : List Int) (w : World) (h0 : IsRow .u8 w a len cap zs) (h1 : IsRow .i64 w a1 len1 cap1 zs1) :
    Calls Try.prog 8 #[.slice a len cap, .slice a1 len1 cap1] w fun e w' => e = .returned (.bool true) ∧ Below w.heap.size w w' := by
  by_cases h400 : 600 < len
  · have ht : decide ((600 : Int) < ((len : Nat) : Int)) = true := decide_eq_true (by omega)
    clear h400 h0 h1
    go_enter Try.func8, Try.ntmps8
    go_wp2_with fail
    refine (known_any _).mono ?_
    rintro e w1 ⟨rfl, hB1⟩
    have h1 := hidp hB1
    clear hB1
    go_wp2
    go_ret
    exact ⟨rfl, h1.out⟩
  by_cases h12 : 30 < len1
  · have ht0 : decide ((600 : Int) < ((len : Nat) : Int)) = false := decide_eq_false (by omega)
    have ht : decide ((30 : Int) < ((len1 : Nat) : Int)) = true := decide_eq_true (by omega)
    clear h400 h12 h0 h1
    go_enter Try.func8, Try.ntmps8
    go_wp2_with fail
    refine (known_any _).mono ?_
    rintro e w1 ⟨rfl, hB1⟩
    have h1 := hidp hB1
    clear hB1
    go_wp2
    go_ret
    exact ⟨rfl, h1.out⟩
  obtain ⟨L, bo, oo, rfl, hL⟩ := Bs.of_row h0
  have HL := hidp hL
  have HP := hidp (And.intro h1 h12)
  have H400 := hidp h400
  have ht0 : decide ((600 : Int) < ((L.length : Nat) : Int)) = false := decide_eq_false (by omega)
  have ht : decide ((30 : Int) < ((len1 : Nat) : Int)) = false := decide_eq_false (by omega)
  have q1 := fun a w' => w_ne_nil a w'
  have q2 := fun a w' => r_ne a w'
  clear h0 hL h1 h12 h400
  go_enter Try.func8, Try.ntmps8
  go_wp2_with fail
  refine (known_any _).mono ?_
  rintro e w1 ⟨rfl, hB1⟩
  have hB1 := hidp hB1
  go_wp2_with fail
  refine (newReader_any a bo oo cap L w1 (HL.out.below hB1.out) (by have := H400.out; omega)).mono ?_
  rintro e w2 ⟨gr, b, rfl, hg, hb, hr, hB2⟩
  have hB2 := hidp (And.intro hg (And.intro hb (And.intro hr hB2)))
  clear hg hb hr
  go_wp2_with fail
  refine (newWriter_max w2).mono ?_
  rintro e w3 ⟨rfl, hw3, hB3⟩
  have hrl := (show gr < w2.heap.size by obtain ⟨_, _, _, h⟩ := hB2.out.2.2.1; exact h.blk.lt)
  have H0 : Hid (OneI w w3 gr b w2.heap.size L 0 (.slice none 0 0) [] L) := hidp ⟨hB2.out.2.2.1.below hB3, hw3, btrans (btrans hB1.out hB2.out.2.2.2) hB3, Nat.zero_le _, by simp, by simp, Nat.le_trans hB1.out.size hB2.out.1, hrl, hB2.out.2.1⟩
  obtain ⟨gw, hgw⟩ : ∃ gw, gw = w2.heap.size := ⟨_, rfl⟩
  rw [← hgw] at H0 ⊢
  clear hw3 hB3 hB2 hB1 hrl ht0 ht hgw
  go_wp2
  go_loopw [9] (fun x wr => ∃ i m : Nat, ∃ v X R, i ≤ len1 ∧ x = .int .i64 i ∧ Hid (OneI w wr gr b gw L m v X R)) (fun x _ => len1 - (Go.RowKit.intOf x).toNat)
  case atStart => exact ⟨0, 0, _, _, _, by omega, rfl, H0⟩
  case round =>
    obtain ⟨i, m, v, X, R, hi, rfl, hr⟩ := hrel
    clear H0
    by_cases hlt : i < len1
    · obtain ⟨z, rfl, hz⟩ := piece_at (HP.out.1.below hr.out.bel) hlt
      generalize zs1.getD i 0 = q at hz
      have HI := hidp (And.intro hi hlt)
      have hadd : wrap64 ((i : Int) + 1) = ((i + 1 : Nat) : Int) := by rw [w64 _ (by have := HP.out.2; omega)]; omega
      go_wp2_with fail
      refine (Pick_any q 8 _ (by omega) (by omega)).mono ?_
      rintro e wx ⟨⟨k, hk, rfl⟩, hwx⟩
      rw [hwx]
      clear hwx wx
      have hfit : X.length + R.length ≤ 1048576 := by rw [hr.out.hX, hr.out.hR, List.length_take, List.length_drop]; have := H400.out; omega
      go_wp2_with fail
      refine (again_any hr.out.rd hr.out.wri hr.out.hgr hr.out.hb hfit k hk).mono ?_
      rintro e w4 (⟨n, hn, rfl, v2, h5, h6, h7, _⟩ | ⟨x, hx, rfl, h5, h6⟩)
      · obtain ⟨m2, X2, R2, H2⟩ : ∃ m2 X2 R2, Hid (OneI w w4 gr b gw L m2 v2 X2 R2) := by
          have q := one_next hr.out.hm hr.out.hX hr.out.hR hn
          exact ⟨m + n, X ++ R.take n, R.drop n, hidp ⟨h5, h6, hr.out.bel.trans (h7.mono hr.out.hg), q.1, q.2.1, q.2.2, hr.out.hg, hr.out.hgr, hr.out.hb⟩⟩
        obtain ⟨hsum, hwl, hsum2, hxl⟩ := one_sum H2.out.hm H2.out.hX H2.out.hR H400.out
        have hsl := fun W => run_part_h a L.length cap X2.length (Nat.le_trans hxl HL.out.le) W
        clear h5 h6 h7 hn hz hfit hr hxl
        go_wp2_with fail
        refine (wDone_ok H2.out.wri).mono ?_
        rintro e w5 ⟨⟨p, pb, pc, rfl, _, _, hps⟩, hB5⟩
        have H3 := hidp (H2.out.below hB5)
        replace hps := hidp hps
        clear hB5 H2
        go_wp2_with fail
        refine (mRestX H3.out.rd).mono ?_
        rintro e wx ⟨rfl, rfl⟩
        go_wp2_with fail
        have hsb : Bs w5 a bo oo X2 cap := by have q := (HL.out.below H3.out.bel).take m2; rw [← H3.out.hX] at q; exact q
        refine (sameBytes_yes hps.out hsb).mono ?_
        rintro e wx ⟨rfl, rfl⟩
        clear hsb
        go_wp2
        rw [hadd]
        refine ⟨⟨i + 1, m2, _, _, _, by have := HI.out; omega, rfl, H3⟩, by have h1 := HI.out.2; show len1 - ((i + 1 : Nat) : Int).toNat < len1 - ((i : Nat) : Int).toNat; omega⟩
      · have q0 : ((x : Int) != 0) = true := by rw [bne_iff_ne]; omega
        have HE := hidp (mEndX h5 x m (by unfold endE; rw [if_pos hx]))
        have HB := hidp (h6.mono hr.out.hg)
        clear h5 h6 hx hz hfit
        go_wp2_with fail
        refine HE.out.mono ?_
        rintro e w5 ⟨rfl, hB5⟩
        have hB5 := hidp (HB.out.trans (hB5.mono (Nat.le_trans hr.out.bel.size HB.out.size)))
        have hfld : ∀ W : World, (Instr.field 55 (.agg #[.int .i64 (x : Nat), .int .i64 (m : Nat)]) 0).run Try.prog W = .ok (.int .i64 (x : Nat)) W := fun W => by kernel_rfl
        have hbel := hidp (hr.out.bel.trans hB5.out)
        clear hr HB HE hB5
        go_wp2
        go_ret
        exact ⟨rfl, hbel.out⟩
    · have hii : i = len1 := by omega
      subst hii
      clear hlt
      have hbel := hidp hr.out.bel
      clear hr
      go_wp2
      go_ret
      exact ⟨rfl, hbel.out⟩
end Go.Proofs.Ytlfmmmlheloloaa
