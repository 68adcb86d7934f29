/-
  CommitTells: OverKeys; the answer's Who.
-/
import Derived.Test.YtbhkjflpkpkdlaaL7i
import Derived.Test.YtbhkjflpkpkdlaaL7p
import Derived.Test.YtbhkjflpkpkdlaaJv
import Derived.LoopN
namespace Go.Proofs.Ytbhkjflpkpkdlaa
open Go.RowKit Go.Lib
set_option linter.unusedSimpArgs false
set_option linter.unusedVariables false

structure OvK (w wr : World) (g m : Nat) : Prop where
  blk : ∃ ds, Blk wr g ds 36 ∧ ds.length = m
  bex : Bex g w wr
theorem four_in {w : World} {g m i : Nat} {cs : List Value} (h : Blk w g cs 36) (hl : cs.length = m) (hi : i * 4 + 3 < m) : ∃ u0 u1 u2 u3, w.cell? ⟨g, i * 4, none⟩ = some u0 ∧ w.cell? ⟨g, i * 4 + 1, none⟩ = some u1 ∧ w.cell? ⟨g, i * 4 + 2, none⟩ = some u2 ∧ w.cell? ⟨g, i * 4 + 3, none⟩ = some u3 :=
  ⟨cs[i * 4], cs[i * 4 + 1], cs[i * 4 + 2], cs[i * 4 + 3], (h.cell _).trans (List.getElem?_eq_getElem (by omega)), (h.cell _).trans (List.getElem?_eq_getElem (by omega)), (h.cell _).trans (List.getElem?_eq_getElem (by omega)), (h.cell _).trans (List.getElem?_eq_getElem (by omega))⟩
set_option maxRecDepth 100000 in
set_option maxHeartbeats 4000000 in
theorem overK_some (g n cap m : Nat) (ds : List Value) (w : World) (hd : Blk w g ds 36) (hm : ds.length = m) (hn : n * 4 ≤ m) (hn2 : n ≤ 1000) :
    Calls Try.prog 45 #[.slice (some ⟨g, 0, none⟩) n cap] w fun e w' => e = .returned (.tuple #[]) ∧ Bex g w w' := by
  have H0 : Hid (OvK w w g m) := hidp ⟨⟨ds, hd, hm⟩, Bex.refl g w⟩
  have HN := hidp (And.intro hn hn2)
  clear hd hm hn hn2
  go_enter Try.func45, Try.ntmps45
  go_wp2_with fail
  go_loopw [2] (fun x wr => ∃ i : Nat, i ≤ n ∧ x = .int .i64 ((i : Nat) : Int) ∧ Hid (OvK w wr g m)) (fun x _ => n - (Go.RowKit.intOf x).toNat)
  case atStart => exact ⟨0, by omega, rfl, H0⟩
  case round =>
    obtain ⟨i, hi, rfl, hr⟩ := hrel
    clear H0
    by_cases hlt : i < n
    · obtain ⟨cs', hb, hl⟩ := hr.out.blk
      obtain ⟨u0, u1, u2, u3, c0, c1, c2, c3⟩ := four_in hb hl (i := i) (by have := HN.out; omega)
      have f0 := hb.free (i * 4)
      have f1 := hb.free (i * 4 + 1)
      have f2 := hb.free (i * 4 + 2)
      have f3 := hb.free (i * 4 + 3)
      have HB := hidp (And.intro hb hl)
      have HX := hidp (And.intro hr.out.bex hlt)
      have hadd := w64_nat (n := i) (by have := HN.out; omega)
      have hltz : (i : Int) < (n : Int) := by omega
      clear hb hl hr hi hlt
      go_wp2_with (with_reducible refine (?_ : wpList _ _ _ _ _ _); refine wpList_buildG (by kernel_rfl) 36 _ rfl #[.int .u8 255, .int .u8 7, .int .u8 7, .int .u8 7] (by kernel_rfl) ?_)
      have hb5 := (((HB.out.1.set (i * 4) (.int .u8 255)).set (i * 4 + 1) (.int .u8 7)).set (i * 4 + 2) (.int .u8 7)).set (i * 4 + 3) (.int .u8 7)
      have hx5 := (((HX.out.1.setCell (i * 4) (.int .u8 255)).setCell (i * 4 + 1) (.int .u8 7)).setCell (i * 4 + 2) (.int .u8 7)).setCell (i * 4 + 3) (.int .u8 7)
      try rw [hadd]
      exact ⟨⟨i + 1, HX.out.2, rfl, hidp ⟨⟨_, hb5, by simp only [List.length_set]; exact HB.out.2⟩, hx5⟩⟩, by have h1 := HX.out.2; show n - ((i + 1 : Nat) : Int).toNat < n - ((i : Nat) : Int).toNat; omega⟩
    · have hx := hidp hr.out.bex
      obtain rfl : i = n := by omega
      have hnz : ¬ ((i : Int) < (i : Int)) := by omega
      clear hr hlt hi
      go_wp2_with fail
      refine bodyPost_end (results_none rfl _ _ _) rfl ?_
      exact ⟨rfl, hx.out⟩
set_option maxRecDepth 100000 in
set_option maxHeartbeats 4000000 in
theorem overK_zero (a : Option Addr) (cap : Nat) (w : World) :
    Calls Try.prog 45 #[.slice a 0 cap] w fun e w' => e = .returned (.tuple #[]) ∧ Below w.heap.size w w' := by
  go_enter Try.func45, Try.ntmps45
  go_wp2_with fail
  go_loopw [2] (fun x wr => x = .int .i64 0 ∧ wr = w) (fun _ _ => 0)
  case atStart => exact ⟨rfl, rfl⟩
  case round =>
    obtain ⟨rfl, rfl⟩ := hrel
    go_wp2_with fail
    refine bodyPost_end (results_none rfl _ _ _) rfl ?_
    exact ⟨rfl, Below.refl _ _⟩
/-- Written over: only what it has of its own. -/
theorem overK_any (sv : Value) (B : Nat) (l : List Nat) (w : World) (ho : OwnK w B sv l) (hB : B ≤ w.heap.size) (hl : l.length ≤ 1000) :
    Calls Try.prog 45 #[sv] w fun e w' => e = .returned (.tuple #[]) ∧ Below B w w' := by
  rcases ho.2 with ⟨h1, h2⟩ | ⟨g, cap, cur, h1, h2, h3, h4, h5, h6, h7⟩
  · subst h1
    refine (overK_zero none 0 w).mono ?_
    rintro e w' ⟨rfl, hb⟩
    exact ⟨rfl, hb.mono hB⟩
  · subst h1
    refine (overK_some g l.length cap (cap * 4) cur.toList w (by unfold Blk; simpa using h3) (by simpa using h6) (by omega) hl).mono ?_
    rintro e w' ⟨rfl, hb⟩
    exact ⟨rfl, hb.below h2 hB⟩
theorem WhI.next1 {w wr w2 : World} {B i : Nat} {l : List Vt} {s : List Vd} {sv sv2 : Value} {v : Vt} {o1 : Obj} (H : WhI w wr B i l s sv) (hv : l[i]? = some v) (ha : v.a < (s.length : Int))
    (ho : w2.ownsRow B 36 4 sv2 (((l.take i).map (keyAt s)).length + 1) (((l.take i).map (keyAt s)).flatMap kL ++ kL (keyAt s v))) (hg : (wr.alloc o1).grownBy w2 sv.ownBlock) : WhI w w2 B (i + 1) l s sv2 := by
  obtain ⟨hlt, rfl⟩ := List.getElem?_eq_some_iff.1 hv
  have e : l.take (i + 1) = l.take i ++ [l[i]] := List.take_succ_eq_append_getElem hlt
  have hs := H.bel.size
  have b2 := H.bel.alloc hs o1
  have hz := b2.size
  refine ⟨by rw [e, List.map_append]; exact OwnK.snoc ho, b2.grown hg hz (fun k hk => Nat.le_trans H.hB (World.ownsRow.lt H.own k hk).1), H.hB, Nat.le_trans H.wB (Nat.le_trans (by simp) hg.size), fun v hv => ?_⟩
  rw [e] at hv
  rcases List.mem_append.1 hv with h | h
  · exact H.all v h
  · rw [List.mem_singleton] at h; rw [h]; exact ha
set_option maxRecDepth 100000 in
set_option maxHeartbeats 4000000 in
theorem rwho_any (h : Int) (p : List Nat) (hp : p.length = 32) (a : Option Addr) (b o cap : Nat) (l : List Vt) (a2 : Option Addr) (b2 o2 cap2 : Nat) (s : List Vd) (w : World) (hT : Ts w a b o cap l) (hS : Vs w a2 b2 o2 cap2 s) :
    Calls Try.prog 41 #[.agg (cC h p (.slice a l.length cap)).toArray, .slice a2 s.length cap2] w fun e w' => ∃ sv, e = .returned (.tuple #[sv, .int .i64 ((whoO h l s).2 : Nat)]) ∧ OwnK w' w.heap.size sv (whoO h l s).1 ∧ Below w.heap.size w w' := by
  obtain ⟨i0, hi0, hz0, hz1, hz2⟩ := info_parts info_key
  have hl := hidp (cC_len (h := h) (sl := .slice a l.length cap) hp)
  have HK := hidp (Blk.new w (cC h p (.slice a l.length cap)) 63)
  have HB := hidp ((Below.refl w.heap.size w).alloc (Nat.le_refl _) (.cells (cC h p (.slice a l.length cap)).toArray 63))
  have HC := hidp (rcheck_any h p hp a b o cap l _ (hT.below HB.out))
  have HT := hidp hT
  have HS := hidp hS
  have hpp := hidp hp
  obtain ⟨r, hr⟩ : ∃ r, r = whoO h l s := ⟨_, rfl⟩
  rw [← hr]
  replace hr := hidp hr
  clear hT hS hp
  go_enter Try.func41, Try.ntmps41
  go_wp2_with (with_reducible refine (?_ : wpList _ _ _ _ _ _); refine wpList_load_blk rfl 63 _ rfl w.heap.size (cC h p (.slice a l.length cap)) 63 rfl HK.out _ Try.underlying63 rfl (by rw [hl.out]; kernel_rfl) ?_)
  refine HC.out.mono ?_
  rintro e w1 ⟨rfl, hb⟩
  have H1 := hidp (And.intro (HB.out.trans (hb.mono HB.out.size)) (hb.blk' HK.out))
  clear hb HC HB HK
  by_cases hc : chkC h l = 0
  case neg =>
    have hR := hidp (show r = ([], chkC h l) by rw [hr.out]; unfold whoO; rw [if_pos hc])
    have hbn : (((chkC h l : Nat) : Int) != 0) = true := by rw [bne_iff_ne]; omega
    clear hc hr
    generalize chkC h l = n at *
    go_wp2_with fail
    exact bodyPost_ret (v := .tuple #[.slice none 0 0, .int .i64 (n : Nat)]) (by simp [results, Try.results41, go_sem]) rfl ⟨_, by rw [hR.out], by rw [hR.out]; exact OwnK.nil _ _, H1.out.1⟩
  have hOK := hidp (chkC_ok hc)
  have hOV := hidp (chkV_ok hOK.out.2.2)
  rw [hc]
  replace hc := hidp hc
  have H0 : Hid (WhI w w1 w1.heap.size 0 l s (.slice none 0 0) ∧ Blk w1 w.heap.size (cC h p (.slice a l.length cap)) 63) := hidp ⟨⟨OwnK.nil _ _, H1.out.1, H1.out.1.size, Nat.le_refl _, by simp⟩, H1.out.2⟩
  go_wp2_with fail
  go_loopw [7, 8] (fun sv x wr => ∃ i : Nat, i ≤ l.length ∧ x = .int .i64 i ∧ Hid (WhI w wr w1.heap.size i l s sv ∧ Blk wr w.heap.size (cC h p (.slice a l.length cap)) 63)) (fun _ x _ => l.length - (Go.RowKit.intOf x).toNat)
  case atStart => exact ⟨0, by omega, rfl, H0⟩
  case round =>
    obtain ⟨i, hi, rfl, hy⟩ := hrel
    clear H0
    have hx := hidp hy.out.1
    have c33 : wr.cell? ⟨w.heap.size, 33, none⟩ = some (.slice a l.length cap) := (hy.out.2.cell 33).trans (cC_33 hpp.out)
    obtain ⟨p7, c7, hv7⟩ := hx.out.own.slice
    subst hv7
    by_cases hlt : i < l.length
    · obtain ⟨v, hv, hok, rfl, hbl, c0, c1⟩ := (HT.out.below hx.out.bel).at hlt
      have HV := hidp hv
      have hadd := w64_nat (n := i) (by have := hOK.out.2.1; omega)
      have hav := hOV.out.2.2 v (List.mem_of_getElem? hv)
      obtain ⟨m, hm⟩ : ∃ m : Nat, v.a = m := ⟨v.a.toNat, by omega⟩
      have hmm := hidp hm
      have hiz : (0 : Int) ≤ (i : Int) := by omega
      have hlz : (i : Int) < (l.length : Int) := by omega
      rw [hm] at c0
      clear hv hok hm
      by_cases ha : m < s.length
      · have ht : decide ((s.length : Int) ≤ (m : Int)) = false := decide_eq_false (by omega)
        have ht2 : decide (s.length ≤ m) = false := decide_eq_false (by omega)
        have hmz : (0 : Int) ≤ (m : Int) := by omega
        have hmlz : (m : Int) < (s.length : Int) := by omega
        obtain ⟨u, hu, huk, rfl, hbl2, k0, k1, k2, k3, k4⟩ := (HS.out.below hx.out.bel).at ha
        have hkey := hidp (show keyAt s v = u.k by unfold keyAt; rw [hmm.out, show ((m : Nat) : Int).toNat = m by omega, hu]; rfl)
        have hao := hidp (fun o1 => (show OwnK wr w1.heap.size _ _ from hx.out.own).below ((Below.refl _ wr).alloc (Nat.le_refl _) o1))
        have hsz := hidp (show ((l.take i).map (keyAt s)).length ≤ 64 by rw [List.length_map, List.length_take]; have := hOK.out.2.1; omega)
        have hwB := hidp hx.out.wB
        clear hu huk
        go_wp2_with (at_builtin; refine wpList_append_own _ rfl _ _ 71 rfl w1.heap.size 36 i0 _ 4 4 Try.underlying71 hi0 hz0 hz1 hz2 rfl (by decide) _ ((l.take i).map (keyAt s)).length (((l.take i).map (keyAt s)).flatMap kL) rfl (hao.out _) ⟨wr.heap.size, 0, none⟩ 1 1 (kL u.k) (by simp [Act.eval]) rfl (fun j c hj => by rw [Addr.add_mid, Nat.zero_add]; exact ((Blk.new wr (kL u.k) 36).cell j).trans hj) (kL_one u.k) (by have := hsz.out; unfold maxLen; omega) (by have := hsz.out; omega) (by have := hwB.out; simp; omega) ?_; intro v' w4 hown' hgrow _; have H4 := hidp (And.intro (hx.out.next1 HV.out (by rw [hmm.out]; omega) (by rw [hkey.out]; exact hown') hgrow) hgrow); clear hown' hgrow)
        have hb2 : Below (w.heap.size + 1) wr w4 := by
          have hkl := hy.out.2.lt
          have b1 := ((Below.refl wr.heap.size wr).alloc (Nat.le_refl _) (.cells (kL u.k).toArray 36))
          exact (b1.mono (by omega)).grown H4.out.2 (by have := b1.size; omega) (fun k hk => by have := (World.ownsRow.lt hx.out.own k hk).1; have := H1.out.2.lt; omega)
        have H5 := hidp (hy.out.2.below hb2 (by omega))
        clear hb2
        try rw [hadd]
        exact ⟨⟨i + 1, by omega, rfl, hidp ⟨H4.out.1, H5.out⟩⟩, by show l.length - ((i + 1 : Nat) : Int).toNat < l.length - ((i : Nat) : Int).toNat; omega⟩
      · have ht : decide ((s.length : Int) ≤ (m : Int)) = true := decide_eq_true (by omega)
        have ht2 : decide (s.length ≤ m) = true := decide_eq_true (by omega)
        have hR := hidp (show r = ([], 3) by
          rw [hr.out]; unfold whoO
          rw [if_neg (by rw [hc.out]; simp), if_neg]
          intro hall
          rw [List.all_eq_true] at hall
          have := hall v (List.mem_of_getElem? HV.out)
          rw [decide_eq_true_eq, hmm.out] at this
          omega)
        have hb5 := hidp hx.out.bel
        clear hx hr hy
        go_wp2_with fail
        exact bodyPost_ret (v := .tuple #[.slice none 0 0, .int .i64 3]) (by simp [results, Try.results41, go_sem]) rfl ⟨_, by rw [hR.out]; rfl, by rw [hR.out]; exact OwnK.nil _ _, hb5.out⟩
    · obtain rfl : i = l.length := by omega
      have hR := hidp (show r = (l.map (keyAt s), 0) by
        rw [hr.out]; unfold whoO
        rw [if_neg (by rw [hc.out]; simp), if_pos]
        rw [List.all_eq_true]
        intro v hv
        have := hx.out.all v (by rw [List.take_length]; exact hv)
        exact decide_eq_true this)
      have hO := hidp (show OwnK wr w1.heap.size (.slice p7 ((l.take l.length).map (keyAt s)).length c7) (l.map (keyAt s)) by have q := hx.out.own; rw [List.take_length] at q ⊢; exact q)
      have hb5 := hidp (And.intro hx.out.bel hx.out.hB)
      clear hx hr hlt hy
      go_wp2_with fail
      exact bodyPost_ret (v := .tuple #[.slice p7 ((l.take l.length).map (keyAt s)).length c7, .int .i64 0]) (by simp [results, Try.results41, go_sem]) rfl ⟨_, by rw [hR.out]; rfl, by rw [hR.out]; exact hO.out.base hb5.out.2, hb5.out.1⟩
end Go.Proofs.Ytbhkjflpkpkdlaa
