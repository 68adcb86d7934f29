/-
  The reference of layer 5: Change, by definition.
-/
import Derived.Test.YtlfmmmlheloloaaRe
import Derived.Test.YtlfmmmlheloloaaRf
namespace Go.Proofs.Ytlfmmmlheloloaa
open Go.RowKit Go.Lib Go.Maps

theorem fnd_hasK (l : List Vd) (k : Nat) : (fnd l k).isSome = hasK l k := by
  unfold fnd hasK
  first | rw [List.findIdx?_isSome] | simp
theorem chgAll_snoc {l c : List Vd} {i : Nat} {u : Vd} (hu : c[i]? = some u) : chgAll l (c.take (i + 1)) = chgd (chgAll l (c.take i)) u := by
  obtain ⟨hlt, rfl⟩ := List.getElem?_eq_some_iff.1 hu
  unfold chgAll
  rw [List.take_succ_eq_append_getElem hlt, List.foldl_append]
  rfl
def RV (W : World) (v : Value) (l : List Vd) : Prop := ∃ p b cap, v = .slice p l.length cap ∧ Vs W p b 0 cap l
structure ReI (w wr : World) (i : Nat) (l c : List Vd) (v : Value) : Prop where
  rv : RV wr v (chgAll l (c.take i))
  bel : Below w.heap.size w wr
  len : (chgAll l (c.take i)).length ≤ 64 + i
  ok : ∀ u ∈ chgAll l (c.take i), VdOk u
  e : chgFrom l none c = chgFrom l (prevK c i) (c.drop i)
theorem ReI.step {w wr : World} {i : Nat} {l c : List Vd} {v : Value} {u : Vd} (H : ReI w wr i l c v) (hu : c[i]? = some u) : chgFrom l none c = if nextE (prevK c i) u 0 = 0 then (if u.p = 0 ∧ hasK l u.k = false then 10 else chgFrom l (prevK c (i + 1)) (c.drop (i + 1))) else nextE (prevK c i) u 0 := by
  rw [H.e, prevK_succ hu]
  obtain ⟨hlt, rfl⟩ := List.getElem?_eq_some_iff.1 hu
  rw [List.drop_eq_getElem_cons hlt]
  rfl
theorem ReI.next {w wr w5 : World} {i : Nat} {l c : List Vd} {v v' : Value} {u : Vd} {B : Nat} (H : ReI w wr i l c v) (hu : c[i]? = some u) (hk : VdOk u) (hn : nextE (prevK c i) u 0 = 0) (hz : ¬ (u.p = 0 ∧ hasK l u.k = false)) (ho : OwnV w5 B v' (chgd (chgAll l (c.take i)) u)) (hb : Below w.heap.size w w5) : ReI w w5 (i + 1) l c v' := by
  have hs := H.step hu
  rw [if_pos hn, if_neg hz] at hs
  have hok : ∀ x ∈ chgd (chgAll l (c.take i)) u, VdOk x := fun x hx => by
    rcases mem_chgd.1 hx with h1 | h1
    · exact H.ok x h1.1
    · rw [h1.1]; exact hk
  have hl := chgd_le (chgAll l (c.take i)) u
  have h2 := H.len
  refine ⟨?_, hb, ?_, ?_, hs⟩
  · rw [chgAll_snoc hu]
    obtain ⟨p, b, cap, h1, _, h3⟩ := ho.vs hok
    exact ⟨p, b, cap, h1, h3⟩
  · rw [chgAll_snoc hu]; omega
  · rw [chgAll_snoc hu]; exact hok
def ReP (w : World) (O : List Vd × Nat) (e : Ending) (w' : World) : Prop := (∃ p b cap, e = .returned (.tuple #[.slice p O.1.length cap, .int .i64 (O.2 : Nat)]) ∧ Vs w' p b 0 cap O.1) ∧ Below w.heap.size w w'
theorem ReP.bad {w w' : World} {l c : List Vd} {n : Nat} (h : chgO l c = ([], n)) (hb : Below w.heap.size w w') : ReP w (chgO l c) (.returned (.tuple #[.slice none 0 0, .int .i64 (n : Nat)])) w' := by
  rw [h]
  exact ⟨⟨none, 0, 0, rfl, by simp, by simp, fun h => absurd h (by omega), fun i v hi => by simp at hi⟩, hb⟩
theorem chgO_chk {l c : List Vd} (h : chk l ≠ 0) : chgO l c = ([], chk l) := by unfold chgO; rw [if_pos h]
theorem chgO_from {l c : List Vd} (h : chk l = 0) {n : Nat} (hn : chgFrom l none c = n) (h0 : n ≠ 0) : chgO l c = ([], n) := by
  subst hn
  unfold chgO; rw [if_neg (by omega), if_pos h0]
set_option maxRecDepth 100000 in
set_option maxHeartbeats 4000000 in
theorem refchange_bad (a : Option Addr) (b o cap : Nat) (l : List Vd) (a2 : Option Addr) (cap2 : Nat) (c : List Vd) (w : World) (h : Vs w a b o cap l) (hc : chk l ≠ 0) :
    Calls Try.prog 53 #[.slice a l.length cap, .slice a2 c.length cap2] w (ReP w (chgO l c)) := by
  have HC := hidp (refcheck_any a b o cap l w h)
  have ht : (((chk l : Nat) : Int) != 0) = true := by rw [bne_iff_ne]; omega
  have hO := hidp (chgO_chk (c := c) hc)
  clear h hc
  generalize chk l = n at *
  go_enter Try.func53, Try.ntmps53
  go_wp2_with fail
  refine HC.out.mono ?_
  rintro e w1 ⟨rfl, hb⟩
  have hB := hidp hb
  clear hb HC
  go_wp2_with fail
  exact bodyPost_ret (v := .tuple #[.slice none 0 0, .int .i64 (n : Nat)]) (by simp [results, Try.results53, go_sem]) rfl (ReP.bad hO.out hB.out)
set_option maxRecDepth 100000 in
set_option maxHeartbeats 16000000 in
theorem refchange_ok (a : Option Addr) (b o cap : Nat) (l : List Vd) (a2 : Option Addr) (b2 o2 cap2 : Nat) (c : List Vd) (w : World) (h : Vs w a b o cap l) (h2 : Vs w a2 b2 o2 cap2 c) (hc : chk l = 0) (hn : c.length ≤ 80) :
    Calls Try.prog 53 #[.slice a l.length cap, .slice a2 c.length cap2] w (ReP w (chgO l c)) := by
  have HC := refcheck_any a b o cap l w h
  rw [hc] at HC
  replace HC := hidp HC
  have H1 := hidp h
  have H2 := hidp h2
  have HK := hidp hc
  have HN := hidp (And.intro hn (chk_ok hc).2.1)
  clear h h2 hc hn
  go_enter Try.func53, Try.ntmps53
  go_wp2_with fail
  refine HC.out.mono ?_
  rintro e w1 ⟨rfl, hb⟩
  have hB := hidp hb
  clear hb HC
  have hB1 : Hid (∀ o : Obj, Below w1.heap.size w1 (w1.alloc o)) := hidp (fun o => (Below.refl _ w1).alloc (Nat.le_refl _) o)
  have hown := hidp (own_nothingV w1)
  have HS := hidp (fun o : Obj => (H1.out.below hB.out).below (hB1.out o))
  go_wp2_with (at_builtin; refine wpList_append_vs rfl _ _ rfl w1.heap.size 0 [] _ rfl hown.out a b o cap l rfl (HS.out _) (by have := HN.out; omega) (by simp) ?_; intro v' w2 hown' hgrow; have hO := hidp hown'; have hB2 := hidp ((hB1.out _).grown hgrow (by simp) (fun j hj => (hown.out.lt j hj).1)); clear hown' hgrow)
  have H0 : Hid (ReI w w2 0 l c v') := by
    have q := hO.out
    rw [Nat.zero_add, List.nil_append] at q
    obtain ⟨p, b, cap, h1, _, h3⟩ := OwnV.vs (l := l) q H1.out.ok
    exact hidp ⟨⟨p, b, cap, h1, h3⟩, hB.out.trans (hB2.out.mono hB.out.size), by have := HN.out; simp [chgAll]; omega, H1.out.ok, by rw [List.drop_zero]; rfl⟩
  clear hO hB2 hown HS hB1 hB
  go_loopw [7, 8] (fun v x wr => ∃ i : Nat, i ≤ c.length ∧ x = .int .i64 ((i : Nat) : Int) ∧ Hid (ReI w wr i l c v)) (fun _ x _ => c.length - (Go.RowKit.intOf x).toNat)
  case atStart => exact ⟨0, by omega, rfl, H0⟩
  case round =>
    obtain ⟨i, hi, rfl, hr⟩ := hrel
    clear H0
    by_cases hlt : i < c.length
    · obtain ⟨u, hu, hok, hae, hbl, c0, c1, c2, c3, c4⟩ := (H2.out.below hr.out.bel).at hlt
      subst hae
      have HU := hidp (And.intro hu (And.intro hok hlt))
      have hadd := w64_nat (n := i) (by have := HN.out; omega)
      have hbox := hidp (show Below w.heap.size w (wr.alloc (.cells #[.int .u8 (kd (u).k 3 : Nat), .int .u8 (kd (u).k 2 : Nat), .int .u8 (kd (u).k 1 : Nat), .int .u8 (kd (u).k 0 : Nat), .int .i64 (u).p] 102)) from hr.out.bel.alloc hr.out.bel.size _)
      have HF := hidp (reffind_any a b o cap l u.k (wr.alloc (.cells #[.int .u8 (kd (u).k 3 : Nat), .int .u8 (kd (u).k 2 : Nat), .int .u8 (kd (u).k 1 : Nat), .int .u8 (kd (u).k 0 : Nat), .int .i64 (u).p] 102)) (H1.out.below hbox.out) (by have := HN.out; omega) hok.k)
      obtain ⟨is, his⟩ : ∃ is, is = (fnd l u.k).isSome := ⟨_, rfl⟩
      rw [← his] at HF
      rw [fnd_hasK] at his
      have HI := hidp his
      clear hu hok his
      go_wp2_with fail
      refine HF.out.mono ?_
      rintro e w2 ⟨rfl, hb⟩
      have hB2 := hidp (hbox.out.trans (hb.mono hbox.out.size))
      have hX2 := hidp (show Blk w2 wr.heap.size (vL u) 102 from hb.blk' (Blk.new wr (vL u) _))
      have hW2 := hidp (show Below wr.heap.size wr w2 from ((Below.refl _ wr).alloc (Nat.le_refl _) _).trans (hb.mono (by simp)))
      clear hb HF c0 c1 c2 c3 c4 hbl hbox
      have hrs := hr.out.step HU.out.1
      have hstep := hidp hrs
      clear hrs
      rcases Nat.eq_zero_or_pos i with rfl | hpos
      · have hz0 : decide ((0 : Int) < ((0 : Nat) : Int)) = false := by decide
        go_wp2_with fail
        go_quiet (fail)
        have hB3 := hidp (hB2.out.drewN nq)
        have hX3 := hidp (show Blk (w2.drewN nq) wr.heap.size (vL u) 102 from hX2.out)
        have hW3 := hidp (hW2.out.drewN nq)
        generalize w2.drewN nq = w3 at hB3 hX3 hW3 ⊢
        have HNE := hidp (show nextE (prevK c 0) u 0 = if u.p < 0 ∨ 4611686018427387904 < u.p then 3 else 0 from rfl)
        clear hB2 hX2 hW2
        obtain ⟨k0, k1, k2, k3, k4⟩ := box5 hX3.out
        have hxl := hX3.out.lt
        by_cases hp1 : u.p < 0 ∨ 4611686018427387904 < u.p
        · have hf := hidp (chgO_from (c := c) HK.out (hstep.out.trans (by rw [HNE.out, if_pos hp1, if_neg (by decide)])) (by decide))
          by_cases hp : u.p < 0
          · have hd : decide (u.p < 0) = true := decide_eq_true hp
            clear hp hp1
            go_wp2_with fail
            exact bodyPost_ret (v := .tuple #[.slice none 0 0, .int .i64 ((3 : Nat) : Int)]) (by simp [results, Try.results53, go_sem]) rfl (ReP.bad hf.out hB3.out)
          · have hd : decide (u.p < 0) = false := decide_eq_false hp
            have hd2 : decide (4611686018427387904 < u.p) = true := decide_eq_true (by omega)
            clear hp hp1
            go_wp2_with fail
            exact bodyPost_ret (v := .tuple #[.slice none 0 0, .int .i64 ((3 : Nat) : Int)]) (by simp [results, Try.results53, go_sem]) rfl (ReP.bad hf.out hB3.out)
        have hd : decide (u.p < 0) = false := decide_eq_false (by omega)
        have hd2 : decide (4611686018427387904 < u.p) = false := decide_eq_false (by omega)
        by_cases hz : u.p = 0 ∧ is = false
        · have hf := hidp (chgO_from (c := c) HK.out (hstep.out.trans (by rw [HNE.out, if_neg hp1, if_pos rfl, if_pos ⟨hz.1, by rw [← HI.out]; exact hz.2⟩])) (by decide))
          obtain ⟨hz1, rfl⟩ := hz
          have hze : (u.p == 0) = true := by rw [hz1]; rfl
          clear hp1 hz1
          go_wp2_with fail
          exact bodyPost_ret (v := .tuple #[.slice none 0 0, .int .i64 ((10 : Nat) : Int)]) (by simp [results, Try.results53, go_sem]) rfl (ReP.bad hf.out hB3.out)
        have hnx := hidp (show nextE (prevK c (0)) u 0 = 0 by rw [HNE.out, if_neg hp1])
        have hnz := hidp (show ¬ (u.p = 0 ∧ hasK l u.k = false) by rw [← HI.out]; exact hz)
        obtain ⟨pv, bv, cv, rfl, hvs⟩ := hr.out.rv
        have HG := hidp (changed_any pv bv 0 cv _ u w3 (hvs.below hW3.out) (by have := hr.out.len; have := HN.out; have := HU.out.2.2; omega) HU.out.2.1)
        clear hvs hp1
        have fin := hidp (fun (w5 : World) (v5 : Value) (ho : OwnV w5 (w3.heap.size + 1) v5 (chgd (chgAll l (c.take (0))) u)) (hb : Below w3.heap.size w3 w5) => hr.out.next HU.out.1 HU.out.2.1 hnx.out hnz.out ho (hB3.out.trans (hb.mono hB3.out.size)))
        rcases (by by_cases h : u.p = 0; exact .inl ⟨h, by cases is; exact absurd ⟨h, rfl⟩ hz; rfl⟩; exact .inr h : (u.p = 0 ∧ is = true) ∨ u.p ≠ 0) with ⟨hz1, rfl⟩ | hz1
        · have hze : (u.p == 0) = true := by rw [hz1]; rfl
          clear hz hz1
          go_wp2_with fail
          refine HG.out.mono ?_
          rintro e w5 ⟨v5, rfl, ho, hb⟩
          have H5 := hidp (fin.out w5 v5 ho hb)
          clear ho hb fin hr
          go_wp2_with fail
          exact ⟨⟨0 + 1, by have := HU.out.2.2; omega, rfl, H5⟩, by have h1 := HU.out.2.2; show c.length - (1 : Int).toNat < c.length - ((0 : Nat) : Int).toNat; simp; omega⟩
        · have hze : (u.p == 0) = false := by rw [beq_eq_false_iff_ne]; exact hz1
          clear hz hz1
          go_wp2_with fail
          refine HG.out.mono ?_
          rintro e w5 ⟨v5, rfl, ho, hb⟩
          have H5 := hidp (fin.out w5 v5 ho hb)
          clear ho hb fin hr
          go_wp2_with fail
          exact ⟨⟨0 + 1, by have := HU.out.2.2; omega, rfl, H5⟩, by have h1 := HU.out.2.2; show c.length - (1 : Int).toNat < c.length - ((0 : Nat) : Int).toNat; simp; omega⟩
      · obtain ⟨j, rfl⟩ : ∃ j, i = j + 1 := ⟨i - 1, by omega⟩
        obtain ⟨t, ht⟩ : ∃ t, c[j]? = some t := ⟨_, List.getElem?_eq_getElem (by omega)⟩
        have HT := hidp (H2.out.ok t (List.mem_of_getElem? ht))
        have hP := hidp (prevK_succ ht)
        have hE := hidp (show K3 b2 (o2 + j * 5) wr.heap.size 0 t.k u.k w2 from by
          obtain ⟨c0, c1, c2, c3, c4⟩ := (H2.out.below hB2.out).five ht
          obtain ⟨k0, k1, k2, k3, k4⟩ := box5 hX2.out
          exact ⟨c0, c1, c2, c3, k0, k1, k2, k3⟩)
        have hxl := hX2.out.lt
        have hbl2 : b2 < w2.heap.size := (((H2.out.below hB2.out).ptr (by have := H2.out.le; omega))).2
        have hb0 := hidp hB2.out
        have hp0 : decide ((0 : Int) < ((j + 1 : Nat) : Int)) = true := decide_eq_true (by omega)
        have bm0 : (0 : Int) ≤ (j : Int) := by omega
        have bm1 : (j : Int) < (c.length : Int) := by omega
        have bm8 : IntKind.i64.wrap (j : Int) = (j : Int) := by rw [IntKind.wrap_i64]; have := HN.out; omega
        have bm9 : wrap64 ((j : Nat) : Int) = ((j : Nat) : Int) := by rw [w64 _ (by have := HN.out; omega)]
        have bm7 : j < c.length := by omega
        clear ht
        by_cases hlk : t.k < u.k
        · have hdl : decide (t.k < u.k) = true := decide_eq_true hlk
          have HNE := hidp (show nextE (prevK c (j + 1)) u 0 = if u.p < 0 ∨ 4611686018427387904 < u.p then 3 else 0 by
            rw [hP.out]; unfold nextE; rw [if_neg (by simp; omega)])
          clear hlk
          go_wp2_with fail
          go_region_held3 (fun W => W.cell? ⟨b2, o2 + j * 5, none⟩ = some (.int .u8 (kd t.k 3 : Nat)) ∧ W.cell? ⟨b2, o2 + j * 5 + 1, none⟩ = some (.int .u8 (kd t.k 2 : Nat)) ∧ W.cell? ⟨b2, o2 + j * 5 + 2, none⟩ = some (.int .u8 (kd t.k 1 : Nat)) ∧ W.cell? ⟨b2, o2 + j * 5 + 3, none⟩ = some (.int .u8 (kd t.k 0 : Nat)) ∧ W.cell? ⟨wr.heap.size, 0, none⟩ = some (.int .u8 (kd u.k 3 : Nat)) ∧ W.cell? ⟨wr.heap.size, 1, none⟩ = some (.int .u8 (kd u.k 2 : Nat)) ∧ W.cell? ⟨wr.heap.size, 2, none⟩ = some (.int .u8 (kd u.k 1 : Nat)) ∧ W.cell? ⟨wr.heap.size, 3, none⟩ = some (.int .u8 (kd u.k 0 : Nat)))
            (first | (with_reducible exact Hid.out (p := K3 b2 (o2 + j * 5) wr.heap.size 0 t.k u.k _) (by with_reducible assumption)) | exact Hid.out (p := K3 b2 (o2 + j * 5) wr.heap.size 0 t.k u.k _) (by with_reducible assumption) | exact Hid.out (p := K3 b2 (o2 + j * 5) wr.heap.size 0 t.k u.k _) (K3.drew (by with_reducible assumption)))
            (first
             | (go_at_call 133; refine (less_any t.k u.k _ HT.out.k HU.out.2.1.k).mono ?_; rintro e w3 ⟨rfl, hb⟩; have hT := K3.below (by first | exact hE | exact K3.drew hE) hb; have hY := hidp (show Below w2.heap.size w2 w3 from by first | exact hb | exact (Below.refl w2.heap.size w2).drew.trans hb); clear hb))
          have hB3 := hidp (hB2.out.trans (hY.out.mono hB2.out.size))
          have hX3 := hidp (hY.out.blk' hX2.out)
          have hW3 := hidp (hW2.out.trans (hY.out.mono hW2.out.size))
          clear hY hB2 hX2 hW2
          clear hxl hbl2 hp0 bm0 bm1 bm8 bm9 bm7 hdl
          obtain ⟨k0, k1, k2, k3, k4⟩ := box5 hX3.out
          have hxl := hX3.out.lt
          by_cases hp1 : u.p < 0 ∨ 4611686018427387904 < u.p
          · have hf := hidp (chgO_from (c := c) HK.out (hstep.out.trans (by rw [HNE.out, if_pos hp1, if_neg (by decide)])) (by decide))
            by_cases hp : u.p < 0
            · have hd : decide (u.p < 0) = true := decide_eq_true hp
              clear hp hp1
              go_wp2_with fail
              exact bodyPost_ret (v := .tuple #[.slice none 0 0, .int .i64 ((3 : Nat) : Int)]) (by simp [results, Try.results53, go_sem]) rfl (ReP.bad hf.out hB3.out)
            · have hd : decide (u.p < 0) = false := decide_eq_false hp
              have hd2 : decide (4611686018427387904 < u.p) = true := decide_eq_true (by omega)
              clear hp hp1
              go_wp2_with fail
              exact bodyPost_ret (v := .tuple #[.slice none 0 0, .int .i64 ((3 : Nat) : Int)]) (by simp [results, Try.results53, go_sem]) rfl (ReP.bad hf.out hB3.out)
          have hd : decide (u.p < 0) = false := decide_eq_false (by omega)
          have hd2 : decide (4611686018427387904 < u.p) = false := decide_eq_false (by omega)
          by_cases hz : u.p = 0 ∧ is = false
          · have hf := hidp (chgO_from (c := c) HK.out (hstep.out.trans (by rw [HNE.out, if_neg hp1, if_pos rfl, if_pos ⟨hz.1, by rw [← HI.out]; exact hz.2⟩])) (by decide))
            obtain ⟨hz1, rfl⟩ := hz
            have hze : (u.p == 0) = true := by rw [hz1]; rfl
            clear hp1 hz1
            go_wp2_with fail
            exact bodyPost_ret (v := .tuple #[.slice none 0 0, .int .i64 ((10 : Nat) : Int)]) (by simp [results, Try.results53, go_sem]) rfl (ReP.bad hf.out hB3.out)
          have hnx := hidp (show nextE (prevK c (j + 1)) u 0 = 0 by rw [HNE.out, if_neg hp1])
          have hnz := hidp (show ¬ (u.p = 0 ∧ hasK l u.k = false) by rw [← HI.out]; exact hz)
          obtain ⟨pv, bv, cv, rfl, hvs⟩ := hr.out.rv
          have HG := hidp (changed_any pv bv 0 cv _ u w3 (hvs.below hW3.out) (by have := hr.out.len; have := HN.out; have := HU.out.2.2; omega) HU.out.2.1)
          clear hvs hp1
          have fin := hidp (fun (w5 : World) (v5 : Value) (ho : OwnV w5 (w3.heap.size + 1) v5 (chgd (chgAll l (c.take (j + 1))) u)) (hb : Below w3.heap.size w3 w5) => hr.out.next HU.out.1 HU.out.2.1 hnx.out hnz.out ho (hB3.out.trans (hb.mono hB3.out.size)))
          rcases (by by_cases h : u.p = 0; exact .inl ⟨h, by cases is; exact absurd ⟨h, rfl⟩ hz; rfl⟩; exact .inr h : (u.p = 0 ∧ is = true) ∨ u.p ≠ 0) with ⟨hz1, rfl⟩ | hz1
          · have hze : (u.p == 0) = true := by rw [hz1]; rfl
            clear hz hz1
            go_wp2_with fail
            refine HG.out.mono ?_
            rintro e w5 ⟨v5, rfl, ho, hb⟩
            have H5 := hidp (fin.out w5 v5 ho hb)
            clear ho hb fin hr
            go_wp2_with fail
            rw [show wrap64 ((j : Int) + 1 + 1) = ((j + 1 + 1 : Nat) : Int) by rw [w64 _ (by have := HN.out; have := HU.out.2.2; omega)]; omega]
            exact ⟨⟨j + 1 + 1, by have := HU.out.2.2; omega, rfl, H5⟩, by have h1 := HU.out.2.2; show c.length - ((j + 1 + 1 : Nat) : Int).toNat < c.length - ((j + 1 : Nat) : Int).toNat; omega⟩
          · have hze : (u.p == 0) = false := by rw [beq_eq_false_iff_ne]; exact hz1
            clear hz hz1
            go_wp2_with fail
            refine HG.out.mono ?_
            rintro e w5 ⟨v5, rfl, ho, hb⟩
            have H5 := hidp (fin.out w5 v5 ho hb)
            clear ho hb fin hr
            go_wp2_with fail
            rw [show wrap64 ((j : Int) + 1 + 1) = ((j + 1 + 1 : Nat) : Int) by rw [w64 _ (by have := HN.out; have := HU.out.2.2; omega)]; omega]
            exact ⟨⟨j + 1 + 1, by have := HU.out.2.2; omega, rfl, H5⟩, by have h1 := HU.out.2.2; show c.length - ((j + 1 + 1 : Nat) : Int).toNat < c.length - ((j + 1 : Nat) : Int).toNat; omega⟩
        · have hdl : decide (t.k < u.k) = false := decide_eq_false hlk
          have HNE := hidp (show nextE (prevK c (j + 1)) u 0 = 9 by
            rw [hP.out]; unfold nextE; rw [if_pos (by simp; omega)])
          have hf := hidp (chgO_from (c := c) HK.out (hstep.out.trans (by rw [if_neg (by rw [HNE.out]; decide), HNE.out])) (by decide))
          clear hlk
          go_wp2_with fail
          go_region_held3 (fun W => W.cell? ⟨b2, o2 + j * 5, none⟩ = some (.int .u8 (kd t.k 3 : Nat)) ∧ W.cell? ⟨b2, o2 + j * 5 + 1, none⟩ = some (.int .u8 (kd t.k 2 : Nat)) ∧ W.cell? ⟨b2, o2 + j * 5 + 2, none⟩ = some (.int .u8 (kd t.k 1 : Nat)) ∧ W.cell? ⟨b2, o2 + j * 5 + 3, none⟩ = some (.int .u8 (kd t.k 0 : Nat)) ∧ W.cell? ⟨wr.heap.size, 0, none⟩ = some (.int .u8 (kd u.k 3 : Nat)) ∧ W.cell? ⟨wr.heap.size, 1, none⟩ = some (.int .u8 (kd u.k 2 : Nat)) ∧ W.cell? ⟨wr.heap.size, 2, none⟩ = some (.int .u8 (kd u.k 1 : Nat)) ∧ W.cell? ⟨wr.heap.size, 3, none⟩ = some (.int .u8 (kd u.k 0 : Nat)))
            (first | (with_reducible exact Hid.out (p := K3 b2 (o2 + j * 5) wr.heap.size 0 t.k u.k _) (by with_reducible assumption)) | exact Hid.out (p := K3 b2 (o2 + j * 5) wr.heap.size 0 t.k u.k _) (by with_reducible assumption) | exact Hid.out (p := K3 b2 (o2 + j * 5) wr.heap.size 0 t.k u.k _) (K3.drew (by with_reducible assumption)))
            (first
             | (go_at_call 133; refine (less_any t.k u.k _ HT.out.k HU.out.2.1.k).mono ?_; rintro e w3 ⟨rfl, hb⟩; have hT := K3.below (by first | exact hE | exact K3.drew hE) hb; have hY := hidp (show Below w2.heap.size w2 w3 from by first | exact hb | exact (Below.refl w2.heap.size w2).drew.trans hb); clear hb))
          have hB3 := hidp (hB2.out.trans (hY.out.mono hB2.out.size))
          have hX3 := hidp (hY.out.blk' hX2.out)
          have hW3 := hidp (hW2.out.trans (hY.out.mono hW2.out.size))
          clear hY hB2 hX2 hW2
          go_wp2_with fail
          exact bodyPost_ret (v := .tuple #[.slice none 0 0, .int .i64 ((9 : Nat) : Int)]) (by simp [results, Try.results53, go_sem]) rfl (ReP.bad hf.out hB3.out)
    · obtain rfl : i = c.length := by omega
      obtain ⟨pv, bv, cv, rfl, hvs⟩ := hr.out.rv
      have hB := hidp hr.out.bel
      have hg : chgFrom l none c = 0 := by
        rw [hr.out.e, List.drop_length]
        cases prevK c c.length <;> rfl
      have hL := hr.out.len
      rw [List.take_length] at hvs hL ⊢
      have hkm := chgAll_kept HK.out hg
      have hO : chgO l c = if 64 < (chgAll l c).length then ([], 7) else if chgAll l c = [] then ([], 6) else (chgAll l c, 0) := by
        unfold chgO; rw [if_neg (by rw [HK.out]; simp), if_neg (by rw [hg]; simp), hkm]
      have HO := hidp hO
      have HVS := hidp hvs
      clear hr hlt hg hkm hO hvs hL
      generalize chgAll l c = N at *
      by_cases hz : N.length = 0
      · have ht : (((N.length : Nat) : Int) == 0) = true := by rw [hz]; rfl
        have hx := hidp (show chgO l c = ([], 6) by rw [HO.out, if_neg (by omega), if_pos (List.eq_nil_of_length_eq_zero hz)])
        clear hz
        go_wp2_with fail
        exact bodyPost_ret (v := .tuple #[.slice none 0 0, .int .i64 ((6 : Nat) : Int)]) (by simp [results, Try.results53, go_sem]) rfl (ReP.bad hx.out hB.out)
      · have ht : (((N.length : Nat) : Int) == 0) = false := by rw [beq_eq_false_iff_ne]; omega
        by_cases h64 : 64 < N.length
        · have ht2 : decide ((64 : Int) < ((N.length : Nat) : Int)) = true := decide_eq_true (by omega)
          have hx := hidp (show chgO l c = ([], 7) by rw [HO.out, if_pos h64])
          clear hz h64
          go_wp2_with fail
          exact bodyPost_ret (v := .tuple #[.slice none 0 0, .int .i64 ((7 : Nat) : Int)]) (by simp [results, Try.results53, go_sem]) rfl (ReP.bad hx.out hB.out)
        · have ht2 : decide ((64 : Int) < ((N.length : Nat) : Int)) = false := decide_eq_false (by omega)
          have hx := hidp (show chgO l c = (N, 0) by rw [HO.out, if_neg h64, if_neg (fun e => hz (by rw [e]; rfl))])
          clear hz h64
          go_wp2_with fail
          exact bodyPost_ret (v := .tuple #[.slice pv N.length cv, .int .i64 0]) (by simp [results, Try.results53, go_sem]) rfl (by rw [hx.out]; exact ⟨⟨pv, bv, cv, rfl, HVS.out⟩, hB.out⟩)
theorem refchange_any (a : Option Addr) (b o cap : Nat) (l : List Vd) (a2 : Option Addr) (b2 o2 cap2 : Nat) (c : List Vd) (w : World) (h : Vs w a b o cap l) (h2 : Vs w a2 b2 o2 cap2 c) (hn : c.length ≤ 80) :
    Calls Try.prog 53 #[.slice a l.length cap, .slice a2 c.length cap2] w (ReP w (chgO l c)) := by
  by_cases hc : chk l = 0
  · exact refchange_ok a b o cap l a2 b2 o2 cap2 c w h h2 hc hn
  · exact refchange_bad a b o cap l a2 cap2 c w h hc
end Go.Proofs.Ytlfmmmlheloloaa
