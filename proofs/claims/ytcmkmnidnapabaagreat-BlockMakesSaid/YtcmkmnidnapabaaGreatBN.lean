/-
  Texts Bkp, Rh, OC, Bkq, Bkr, one behind the other.
-/
import Derived.Test.YtcmkmnidnapabaaGreatBE
import Derived.Test.YtcmkmnidnapabaaGreatVtr
import Derived.Test.YtcmkmnidnapabaaGreatL6t
import Derived.Test.YtcmkmnidnapabaaGreatCV
import Derived.Test.YtcmkmnidnapabaaGreatOVV
import Derived.Test.YtcmkmnidnapabaaGreatOC
import Derived.Test.YtcmkmnidnapabaaGreatBM

/-! Bkp: Block: the answer's Make. -/
namespace Go.Proofs.YtcmkmnidnapabaaGreat
open Go.RowKit Go.Lib
set_option linter.unusedSimpArgs false
set_option linter.unusedVariables false

theorem built_blk2 (h : Hdr) (n : Int) (p : List Nat) (sv : Value) (va : Option Addr) (vk vc : Nat) (hh : HdrOk h) (hp : p.length = 32) : Tryz.prog.built 84 [(0, .agg (hC h).toArray), (2, .slice va vk vc), (1, .agg (cC n p sv).toArray)] = some (bD h n p sv (.slice va vk vc)).toArray := by
  have hi := zero_blk
  unfold Program.built
  cases hq : Tryz.prog.info? 84 with
  | none => rw [hq] at hi; simp at hi
  | some i =>
    rw [hq] at hi
    simp only [Option.map_some, Option.some.injEq, Prod.mk.injEq] at hi
    rw [struct_blk]
    simp only [hi.1, places_blk]
    have l1 := hC_len hh
    have l2 := cC_len (h := n) (sl := sv) hp
    have z1 := hC_len hdr0_ok
    have z2 := cC_len (h := 0) (sl := .slice none 0 0) (p := zh32) rfl
    show Instr.fill _ (bD hdr0 0 zh32 (.slice none 0 0) (.slice none 0 0)).toArray _ = _
    rw [fill_agg (off := 0) (by rw [l1]; rfl) (by rw [bD_len hdr0_ok zhl, l1]; omega)]
    have e1 := setsL_mid (hC h) [] (hC hdr0) (cC 0 zh32 (.slice none 0 0) ++ [.slice none 0 0]) (by rw [l1, z1])
    rw [show setsL (bD hdr0 0 zh32 (.slice none 0 0) (.slice none 0 0)) 0 (hC h) = bD h 0 zh32 (.slice none 0 0) (.slice none 0 0) from e1]
    rw [fill_val rfl rfl (by rw [bD_len hh zhl]; omega), set_S hh zhl]
    rw [fill_agg (off := 131) (by rw [l2]; rfl) (by rw [bD_len hh zhl, l2]; omega)]
    have e2 := setsL_mid (cC n p sv) (hC h) (cC 0 zh32 (.slice none 0 0)) [.slice va vk vc] (by rw [l2, z2])
    rw [l1] at e2
    rw [show setsL (bD h 0 zh32 (.slice none 0 0) (.slice va vk vc)) 131 (cC n p sv) = bD h n p sv (.slice va vk vc) from e2]
    rfl
set_option maxRecDepth 100000 in
set_option maxHeartbeats 8000000 in
theorem rmake_any (h : Hdr) (a : Option Addr) (b o cap : Nat) (s : List Vd) (w : World) (hh : HdrOk h) (hV : Vs w a b o cap s) (hs : s.length ≤ 1000) (hz8 : h.s.size ≤ 1000) : Calls Tryz.prog 60 #[.agg (hC h).toArray, .slice a s.length cap] w (MkP w h s) := by
  have hzz : ∀ w, (zeroValue 84).run Tryz.prog w = .ok (.agg (bD hdr0 0 zh32 (.slice none 0 0) (.slice none 0 0)).toArray) w := (zero_of_info (P := Tryz.prog) zero_blk).1
  have hz : ∀ w, (zeroValue 39).run Tryz.prog w = .ok (.agg (bvs z32).toArray) w := (zero_of_info (P := Tryz.prog) zero_hash).1
  have h1z := hidp (bD_one (h := hdr0) (n := 0) (p := zh32) (a := none) (k := 0) (c := 0) (va := none) (vk := 0) (vc := 0))
  have H0 : Hid (MkB w ((w.alloc (.cells (hC h).toArray 79)).alloc (.cells (bD hdr0 0 zh32 (.slice none 0 0) (.slice none 0 0)).toArray 84)) h) := hidp ⟨(Blk.new w (hC h) _).alloc _, Blk.new' _ _ _ _ (by simp), ((Below.refl _ w).alloc (Nat.le_refl _) _).alloc (by simp) _⟩
  have HZ8 := hidp hz8
  have HS := hidp (And.intro hh (And.intro hV hs))
  have hHl := hidp (hashV_len s)
  have hHb := hidp (hashV_bytes (l := s))
  obtain ⟨X, hX⟩ : ∃ X, X = hashV s := ⟨_, rfl⟩
  have hXX := hidp hX
  have HC := hidp (fun W (hW : Below w.heap.size w W) => rvhashO a b o cap s W (hV.below hW))
  rw [← hX] at HC hHl hHb
  clear hX hV hh hs
  go_enter Tryz.func60, Tryz.ntmps60
  go_wp2_with fail
  refine (HC.out _ H0.out.bel).mono ?_
  rintro e w1 ⟨rfl, hb⟩
  have H1 := hidp (H0.out.below hb)
  clear hb HC H0
  have hq := hidp (fun (W : World) (hW : Below w1.heap.size w1 W) => (H1.out.below hW))
  by_cases hc : chk s = 0
  · rw [hc]
    replace hc := hidp hc
    have hst := hidp (fun (W1 W2 : World) (hw : Hid (Blk W2 w.heap.size (splice (hC h) 35 (bvs X)) 79 ∧ But w.heap.size W1 W2)) => mk_store HS.out.1 hHl.out hw)
    have hhl := hidp (hC_len HS.out.1)
    have hhl2 := hidp (hC_len (setV_ok HS.out.1 hHb.out))
    have hlX := hidp (show ∀ v ∈ bvs X, v.oneCell' = true from bvs_oneL X)
    go_wp2_with first
      | (with_reducible refine (?_ : wpList _ _ _ _ _ _); refine wpList_store_blk rfl 39 _ _ rfl w1.heap.size (bvs X) (bvs z32) 39 rfl rfl (Blk.new w1 (bvs z32) _) (by rw [bvs_len, hHl.out]; kernel_rfl) (by simp [bvs_len, hHl.out, z32]) (bvs_one _) ?_; intro t1 ht1; have L1 := hidp (lay_hash ht1.out); clear ht1; have L2 := hidp L1.out.1; have L3 := hq.out t1 L2.out; have L4 := hidp L3.k; have L5 := hidp L1.out.2; have L6 := hidp L3; clear L3)
      | (with_reducible refine (?_ : wpList _ _ _ _ _ _); refine wpList_load_midD 19 rfl (by kernel_rfl) 39 _ rfl w1.heap.size 0 rfl (bvs X) _ (rng0 L5.out) Tryz.underlying39 rfl (sz_S hHl.out) ?_)
      | (with_reducible refine (?_ : wpList _ _ _ _ _ _); refine wpList_store_part rfl 39 _ _ rfl w.heap.size 35 (bvs X) (hC h) 79 rfl rfl L4.out (sz_S hHl.out) (by rw [bvs_len, hHl.out, hhl.out]; decide) hlX.out rfl ?_; intro t2 ht2; obtain ⟨k2, b2⟩ := hst.out t1 t2 ht2; clear ht2; replace k2 := hidp k2; replace b2 := hidp b2)
      | (with_reducible refine (?_ : wpList _ _ _ _ _ _); refine wpList_load_midD 22 rfl (by kernel_rfl) 79 _ rfl w.heap.size 0 rfl (hC (setV h X)) _ (rng0 k2.out) Tryz.underlying79 rfl (by rw [hhl2.out]; kernel_rfl) ?_)
    refine (rHashO (setV h X) (setV_ok HS.out.1 hHb.out) (by have := HZ8.out; show h.s.size ≤ _; omega) _).mono ?_
    rintro e w3 ⟨rfl, hb⟩
    have M3 := hidp (show MkB w w3 (setV h X) from MkB.below ⟨k2.out, b2.out.blk L6.out.r (by omega), L6.out.bel.trans (b2.out.below (Nat.le_refl _))⟩ hb)
    clear hb k2 b2 L1 L2 L4 L5 L6 H1 hq hst
    have hq := hidp (fun (W : World) (hW : Below w3.heap.size w3 W) => (M3.out.below hW))
    have hHo := hidp (hashO_len (setV h X))
    have hHob := hidp (hashO_bytes (h := setV h X))
    obtain ⟨Y, hY⟩ : ∃ Y, Y = hashO (setV h X) := ⟨_, rfl⟩
    rw [← hY] at hHo hHob ⊢
    replace hY := hidp hY
    by_cases hm : chkH (setV h X) = 0
    · have hE := hidp (show mkE h s = 0 by unfold mkE; rw [if_neg (by rw [hc.out]; simp), ← hXX.out]; exact hm)
      rw [hm]
      clear hm
      have hbc := built_comM (setV h X).h Y hHo.out
      have hne := hidp (show w3.heap.size ≠ w.heap.size + 1 by have := M3.out.r.lt; omega)
      go_wp2_with (with_reducible refine (?_ : wpList _ _ _ _ _ _); refine wpList_store_blk rfl 39 _ _ rfl w3.heap.size (bvs Y) (bvs z32) 39 rfl rfl (Blk.new w3 (bvs z32) _) (by rw [bvs_len, hHo.out]; kernel_rfl) (by simp [bvs_len, hHo.out, z32]) (bvs_one _) ?_; intro t3 ht3; have L1 := hidp (lay_hash ht3.out); clear ht3; have L2 := hidp L1.out.1; have L3 := hidp (hq.out t3 L2.out); have L5 := hidp L1.out.2)
      have hT := hidp (MkC.below ⟨L3.out, L5.out⟩ (Below.refl _ t3).drew)
      clear L1 L2 L3 L5 M3 hq
      refine wp_region_held_drew (S := fun W => Blk W w.heap.size (hC (setV h X)) 79 ∧ Blk W w3.heap.size (bvs Y) 39) (by kernel_rfl) ⟨hT.out.b.k, hT.out.x⟩ (fun hHeld => ?_)
      try simp only [Act.put, List.setIfInBounds_toArray, List.set_cons_zero, List.set_cons_succ]
      refine wpAnyH_takeTo2 (i := 0) (oi := _) (v := .agg (hC (setV h X)).toArray) (some 30) rfl rfl (by kernel_rfl) (by kernel_rfl) (by kernel_rfl) (fun _ _ _ h => h) (yieldsIf_load_mid (by rfl) 79 _ rfl (w.heap.size) 0 rfl (hC (setV h X)) _ (fun w' hw' => rng0 hw'.1) Tryz.underlying79 rfl (by rw [hhl2.out]; kernel_rfl)) hHeld ?_
      try simp only [Act.put, List.setIfInBounds_toArray, List.set_cons_zero, List.set_cons_succ]
      refine wpAnyH_takeTo2 (i := 1) (oi := _) (v := ?_) (some 31) rfl rfl (by kernel_rfl) (by kernel_rfl) (by kernel_rfl) (fun _ _ _ h => h) (Or.inl ⟨by rfl, ?_⟩) hHeld ?_
      rotate_left
      · intro w' hSw
        go_simp
        try with_reducible rfl
      try simp only [Act.put, List.setIfInBounds_toArray, List.set_cons_zero, List.set_cons_succ]
      refine wpAnyH_takeTo2 (i := 3) (oi := _) (v := ?_) (some 33) rfl rfl (by kernel_rfl) (by kernel_rfl) (by kernel_rfl) (fun _ _ _ h => h) (Or.inl ⟨by rfl, ?_⟩) hHeld ?_
      rotate_left
      · intro w' hSw
        go_simp
        try with_reducible rfl
      try simp only [Act.put, List.setIfInBounds_toArray, List.set_cons_zero, List.set_cons_succ]
      refine wpAnyH_takeTo2 (i := 4) (oi := _) (v := ?_) (some 34) rfl rfl (by kernel_rfl) (by kernel_rfl) (by kernel_rfl) (fun _ _ _ h => h) (Or.inl ⟨by rfl, ?_⟩) hHeld ?_
      rotate_left
      · intro w' hSw
        have q := hSw.1.cell 1
        rw [hC_1] at q
        go_simp
        try with_reducible rfl
      try simp only [Act.put, List.setIfInBounds_toArray, List.set_cons_zero, List.set_cons_succ]
      refine wpAnyH_takeTo2 (i := 5) (oi := _) (v := .agg (bvs Y).toArray) (some 35) rfl rfl (by kernel_rfl) (by kernel_rfl) (by kernel_rfl) (fun _ _ _ h => h) (yieldsIf_load_mid (by rfl) 39 _ rfl (w3.heap.size) 0 rfl (bvs Y) _ (fun w' hw' => rng0 hw'.2) Tryz.underlying39 rfl (sz_S hHo.out)) hHeld ?_
      try simp only [Act.put, List.setIfInBounds_toArray, List.set_cons_zero, List.set_cons_succ]
      refine wpAnyH_takeTo2 (i := 6) (oi := _) (v := .agg (cC (setV h X).h Y (.slice none 0 0)).toArray) (some 36) rfl rfl (by kernel_rfl) (by kernel_rfl) (by kernel_rfl) (fun _ _ _ h => h) (yieldsIf_build (by rfl) 82 _ rfl (cC (setV h X).h Y (.slice none 0 0)).toArray (Eq.trans (by kernel_rfl) hbc)) hHeld ?_
      try simp only [Act.put, List.setIfInBounds_toArray, List.set_cons_zero, List.set_cons_succ]
      refine wpAnyH_ready (rs := [2]) (by kernel_rfl) (by simp) ?_
      refine AllReadyH.cons (o := _) rfl (fun K hK => ?_) AllReadyH.nil
      go_simp
      refine (copyVals_any a b o cap s _ (HS.out.2.1.below hT.out.b.bel) HS.out.2.2).mono ?_
      rintro e wN ⟨v, rfl, hv, hN⟩
      obtain ⟨p, g, c, rfl, _, _⟩ := hv.vs HS.out.2.1.ok
      have OV := hidp (hv.mono hT.out.b.bel.size)
      replace hT := hidp (hT.out.below hN)
      clear hv hN
      go_wp2_with fail
      refine hK.out _ _ ⟨hT.out.b.k, hT.out.x⟩ (fun hHeld' => ?_)
      clear hK K hHeld
      have hHeld := hHeld'
      clear hHeld'
      try simp only [Act.put, List.setIfInBounds_toArray, List.set_cons_zero, List.set_cons_succ]
      have hbb := built_blk2 (setV h X) (setV h X).h Y (.slice none 0 0) p s.length c (setV_ok HS.out.1 hHb.out) hHo.out
      refine wpAnyH_takeTo2 (i := 7) (oi := _) (v := .agg (bD (setV h X) (setV h X).h Y (.slice none 0 0) (.slice p s.length c)).toArray) (some 37) rfl rfl (by kernel_rfl) (by kernel_rfl) (by kernel_rfl) (fun _ _ _ h => h) (yieldsIf_build (by rfl) 84 _ rfl (bD (setV h X) (setV h X).h Y (.slice none 0 0) (.slice p s.length c)).toArray (Eq.trans (by kernel_rfl) hbb)) hHeld ?_
      try simp only [Act.put, List.setIfInBounds_toArray, List.set_cons_zero, List.set_cons_succ]
      have hlB := hidp (bD_len (n := (setV h X).h) (p := Y) (sv := .slice none 0 0) (sw := .slice p s.length c) (setV_ok HS.out.1 hHb.out) hHo.out)
      have hoB := hidp (bD_one (h := setV h X) (n := (setV h X).h) (p := Y) (a := none) (k := 0) (c := 0) (va := p) (vk := s.length) (vc := c))
      have hl0 := hidp (bD_len (n := 0) (sv := .slice none 0 0) (sw := .slice none 0 0) hdr0_ok zhl)
      refine wpAnyH_ready (rs := [8]) (by kernel_rfl) (by simp) ?_
      refine AllReadyH.cons (o := _) rfl (fun K hK => ?_) AllReadyH.nil
      refine if_intro (by rfl) ?_
      refine wp_store_row 84 _ _ rfl (w.heap.size + 1) (bD (setV h X) (setV h X).h Y (.slice none 0 0) (.slice p s.length c)).toArray rfl rfl 84 (bD hdr0 0 zh32 (.slice none 0 0) (.slice none 0 0)).toArray hT.out.b.r (by rw [List.size_toArray, hlB.out]; kernel_rfl) (by rw [List.size_toArray, List.size_toArray, hlB.out, hl0.out]) hoB.out ?_
      obtain ⟨w8, hw8⟩ : ∃ W, W = wN.setRow (w.heap.size + 1) (bD (setV h X) (setV h X).h Y (.slice none 0 0) (.slice p s.length c)).toArray := ⟨_, rfl⟩
      have bt := hidp (show But (w.heap.size + 1) wN w8 by rw [hw8]; exact (But.refl _ _).setRow _)
      have R8 := hidp (show Blk w8 (w.heap.size + 1) (bD (setV h X) (setV h X).h Y (.slice none 0 0) (.slice p s.length c)) 84 by rw [hw8]; exact hT.out.b.r.row)
      rw [← hw8]
      clear hw8
      have S8 := hidp (show Blk w8 w.heap.size (hC (setV h X)) 79 ∧ Blk w8 w3.heap.size (bvs Y) 39 from ⟨bt.out.blk hT.out.b.k (by omega), bt.out.blk hT.out.x (fun e => hne.out (by omega))⟩)
      refine hK.out _ _ S8.out (fun hHeld' => ?_)
      clear hK K hHeld
      have hHeld := hHeld'
      clear hHeld'
      try simp only [Act.put, List.setIfInBounds_toArray, List.set_cons_zero, List.set_cons_succ]
      refine wpAnyH_takeTo2 (i := 9) (oi := _) (v := ?_) (some 5) rfl rfl (by kernel_rfl) (by kernel_rfl) (by kernel_rfl) (fun _ _ _ h => h) (Or.inl ⟨by rfl, ?_⟩) hHeld ?_
      rotate_left
      · intro w' hSw
        go_simp
        try with_reducible rfl
      try simp only [Act.put, List.setIfInBounds_toArray, List.set_cons_zero, List.set_cons_succ]
      refine wpAnyH_done (by kernel_rfl) ?_ _
      clear hHeld
      have OV8 := hidp (OV.out.butK bt.out (OV.out.neK hT.out.b.r))
      have hB8 := hidp (hT.out.b.bel.trans (bt.out.below (by omega)))
      obtain ⟨p', g', c', e', _, hv8⟩ := OV8.out.vs HS.out.2.1.ok
      cases e'
      go_wp2
      refine bodyPost_ret (v := .tuple #[.agg (bD (setV h X) (setV h X).h Y (.slice none 0 0) (.slice p s.length c)).toArray, .int .i64 0]) ?_ rfl ⟨.inr ⟨hE.out, ⟨setV h X, (setV h X).h, Y, none, 0, 0, 0, [], p, g', 0, c, s⟩, rfl, by rw [hXX.out], rfl, by rw [hY.out, hXX.out], rfl, rfl, rfl, rfl, ⟨setV_ok HS.out.1 hHb.out, HS.out.1.h, hHob.out, Ts.nil _ _ _, hv8⟩, ⟨OwnT.nil _ _, OV8.out⟩⟩, hB8.out⟩
      exact results_row2 Tryz.results60 _ _ (w.heap.size + 1) 84 _ _ rfl R8.out Tryz.underlying84 rfl (by rw [hlB.out]; kernel_rfl)
    · have hE := hidp (show mkE h s = chkH (setV h X) by unfold mkE; rw [if_neg (by rw [hc.out]; simp), ← hXX.out])
      have hn0 := hidp hm
      have ht : (((chkH (setV h X) : Nat) : Int) != 0) = true := by rw [bne_iff_ne]; omega
      generalize chkH (setV h X) = n at *
      clear hm
      go_wp2_with first
        | (with_reducible refine (?_ : wpList _ _ _ _ _ _); refine wpList_store_blk rfl 39 _ _ rfl w3.heap.size (bvs Y) (bvs z32) 39 rfl rfl (Blk.new w3 (bvs z32) _) (by rw [bvs_len, hHo.out]; kernel_rfl) (by simp [bvs_len, hHo.out, z32]) (bvs_one _) ?_; intro t3 ht3; have L1 := hidp (lay_hash ht3.out); clear ht3; have L2 := hidp L1.out.1; have L3 := hq.out t3 L2.out; have L4 := L3.r)
        | (with_reducible refine (?_ : wpList _ _ _ _ _ _); refine wpList_buildG (by kernel_rfl) 84 _ rfl (bD hdr0 0 zh32 (.slice none 0 0) (.slice none 0 0)).toArray (by kernel_rfl) ?_)
        | (with_reducible refine (?_ : wpList _ _ _ _ _ _); refine wpList_store_blk rfl 84 _ _ rfl (w.heap.size + 1) (bD hdr0 0 zh32 (.slice none 0 0) (.slice none 0 0)) (bD hdr0 0 zh32 (.slice none 0 0) (.slice none 0 0)) 84 rfl rfl L4 (by kernel_rfl) rfl h1z.out ?_; intro w6 hw6)
      have b2 : Blk w6 (w.heap.size + 1) (bD hdr0 0 zh32 (.slice none 0 0) (.slice none 0 0)) 84 := by rw [hw6.out]; exact (L4).row
      have hB6 : Below w.heap.size w w6 := by rw [hw6.out]; exact (L3.bel).trans (((But.refl (w.heap.size + 1) _).setRow _).below (by omega))
      refine bodyPost_ret (v := .tuple #[.agg (bD hdr0 0 zh32 (.slice none 0 0) (.slice none 0 0)).toArray, .int .i64 (n : Nat)]) ?_ rfl ⟨.inl ⟨by rw [hE.out]; exact hn0.out, by rw [hE.out]⟩, hB6⟩
      exact results_row2 Tryz.results60 _ _ (w.heap.size + 1) 84 _ _ rfl b2 Tryz.underlying84 rfl (by kernel_rfl)
  · have hE := hidp (show mkE h s = chk s by unfold mkE; rw [if_pos hc])
    have hn0 := hidp hc
    have ht : (((chk s : Nat) : Int) != 0) = true := by rw [bne_iff_ne]; omega
    generalize chk s = n at *
    clear hc
    go_wp2_with first
      | (with_reducible refine (?_ : wpList _ _ _ _ _ _); refine wpList_store_blk rfl 39 _ _ rfl w1.heap.size (bvs X) (bvs z32) 39 rfl rfl (Blk.new w1 (bvs z32) _) (by rw [bvs_len, hHl.out]; kernel_rfl) (by simp [bvs_len, hHl.out, z32]) (bvs_one _) ?_; intro t1 ht1; have L1 := hidp (lay_hash ht1.out); clear ht1; have L2 := hidp L1.out.1; have L3 := hq.out t1 L2.out; have L4 := L3.r)
      | (with_reducible refine (?_ : wpList _ _ _ _ _ _); refine wpList_buildG (by kernel_rfl) 84 _ rfl (bD hdr0 0 zh32 (.slice none 0 0) (.slice none 0 0)).toArray (by kernel_rfl) ?_)
      | (with_reducible refine (?_ : wpList _ _ _ _ _ _); refine wpList_store_blk rfl 84 _ _ rfl (w.heap.size + 1) (bD hdr0 0 zh32 (.slice none 0 0) (.slice none 0 0)) (bD hdr0 0 zh32 (.slice none 0 0) (.slice none 0 0)) 84 rfl rfl L4 (by kernel_rfl) rfl h1z.out ?_; intro w6 hw6)
    have b2 : Blk w6 (w.heap.size + 1) (bD hdr0 0 zh32 (.slice none 0 0) (.slice none 0 0)) 84 := by rw [hw6.out]; exact (L4).row
    have hB6 : Below w.heap.size w w6 := by rw [hw6.out]; exact (L3.bel).trans (((But.refl (w.heap.size + 1) _).setRow _).below (by omega))
    refine bodyPost_ret (v := .tuple #[.agg (bD hdr0 0 zh32 (.slice none 0 0) (.slice none 0 0)).toArray, .int .i64 (n : Nat)]) ?_ rfl ⟨.inl ⟨by rw [hE.out]; exact hn0.out, by rw [hE.out]⟩, hB6⟩
    exact results_row2 Tryz.results60 _ _ (w.heap.size + 1) 84 _ _ rfl b2 Tryz.underlying84 rfl (by kernel_rfl)
end Go.Proofs.YtcmkmnidnapabaaGreat

/-! Bkq: Block: OverBlock. -/
namespace Go.Proofs.YtcmkmnidnapabaaGreat
open Go.RowKit Go.Lib
set_option linter.unusedSimpArgs false
set_option linter.unusedVariables false

/-- A set is written over: what stays. -/
theorem overV_keep (p : Option Addr) (b cap : Nat) (m : List Vd) (w : World) (hv : Vs w p b 0 cap m) (ho : Ow w b m.length) (hm : m.length ≤ 64) (B : Nat) (hB : B ≤ b) (hBw : B ≤ w.heap.size) :
    Calls Tryz.prog 127 #[.slice p m.length cap] w fun e w' => e = .returned (.tuple #[]) ∧ Below B w w' ∧ (∀ (i : Nat) (cs : List Value) (T : TypeId), Blk w i cs T → (0 < m.length → i ≠ b) → Blk w' i cs T) ∧ ∀ (C : Nat) (s2 : Value) (l : List Vt), OwnT w C s2 l → OwnT w' C s2 l := by
  rcases Nat.eq_zero_or_pos m.length with h0 | h0
  · rw [h0]
    refine (overVals_zero p cap w).mono ?_
    rintro e w' ⟨rfl, rfl⟩
    exact ⟨rfl, Below.refl _ _, fun _ _ _ h _ => h, fun _ _ _ h => h⟩
  · obtain ⟨cs, hk, -⟩ := ho h0
    refine (overVals_any p b cap m w hv ho hm).mono ?_
    rintro e w' ⟨rfl, hb⟩
    refine ⟨rfl, hb.below hB hBw, fun i _ _ h hi => hb.blk h (hi h0), fun C s2 l h => h.kept hb.grownBy (fun k hk2 e => ?_)⟩
    cases e
    rcases h.2 with ⟨h1, _⟩ | ⟨g, cap, cur, h1, h2, h3, _⟩
    · rw [h1] at hk2; cases hk2
    · rw [h1] at hk2
      simp only [Value.ownBlock, Option.some.injEq] at hk2
      subst hk2
      rw [show w.heap[g]? = _ from hk] at h3
      cases h3
set_option maxRecDepth 100000 in
set_option maxHeartbeats 4000000 in
theorem overB_any (x : Bd) (B : Nat) (w : World) (hS : BdS w x) (ht : OwnT w B (.slice x.a x.l.length x.tc) x.l) (hv0 : x.v0 = 0) (hw : Ow w x.vb x.s.length) (hvb : B ≤ x.vb) (hB : B ≤ w.heap.size) (hl : x.l.length ≤ 1000) (hs : x.s.length ≤ 64) :
    Calls Tryz.prog 61 #[.agg (bC x).toArray] w fun e w' => e = .returned (.tuple #[]) ∧ Below B w w' := by
  have hA := hidp (Blk.new w (bC x) 84)
  have hBB := hidp ((Below.refl w.heap.size w).alloc (Nat.le_refl _) (.cells (bC x).toArray 84))
  have c1 := bk_s hA.out hS.hh hS.hp.1
  have hnb : 0 < x.s.length → w.heap.size ≠ x.vb := fun h0 => by
    obtain ⟨cs, hk, -⟩ := hw h0
    have := hk.lt
    omega
  have C1 := hidp (overV_keep x.va x.vb x.vc x.s _ (by have q := hS.v.below hBB.out; rw [hv0] at q; exact q) (fun h0 => by obtain ⟨cs, h1, h2⟩ := hw h0; exact ⟨cs, hBB.out.blk' h1, h2⟩) hs B hvb (by have := hBB.out.size; omega))
  have HT := hidp (ht.below hBB.out)
  have HN := hidp hnb
  have HS := hidp (And.intro hS.hh hS.hp.1)
  have hSZ := sz_C (x := x) hS.hp.1
  have HB := hidp hB
  have HL := hidp hl
  have hB0 := hidp (hBB.out.mono hB)
  clear hS ht hv0 hw hvb hB hl hs hnb hBB
  go_enter Tryz.func61, Tryz.ntmps61
  go_wp2_with fail
  refine C1.out.mono ?_
  rintro e w1 ⟨rfl, hb, hk, ho⟩
  have K1 := hidp (hk _ _ _ hA.out HN.out)
  have T1 := hidp (ho _ _ _ HT.out)
  have B1 := hidp (hB0.out.trans hb)
  have hsz := hb.size
  clear C1 hb hk ho hA HT hB0 c1
  have hRA := bk_C K1.out HS.out.1
  go_wp2_with (with_reducible refine (?_ : wpList _ _ _ _ _ _); refine wpList_load_mid rfl 82 _ rfl w.heap.size 131 rfl (x.c) _ hRA Tryz.underlying82 rfl hSZ ?_)
  refine (overC_any x.n x.p HS.out.2 _ B x.l w1 T1.out (by have := B1.out.size; have := HB.out; omega) HL.out).mono ?_
  rintro e w2 ⟨rfl, hb⟩
  have hE := hidp (B1.out.trans hb)
  go_wp2
  refine bodyPost_end (results_none rfl _ _ _) rfl ?_
  exact ⟨rfl, hE.out⟩
end Go.Proofs.YtcmkmnidnapabaaGreat

/-! Bkr: Block: the walk of BlockMakes. -/
namespace Go.Proofs.YtcmkmnidnapabaaGreat
open Go.RowKit Go.Lib
set_option linter.unusedSimpArgs false
set_option linter.unusedVariables false

/-- What Make tells, part by part. -/
def mkV (h : Hdr) (s : List Vd) : Hdr × Int × List Nat × List Vt × List Vd := if mkE h s = 0 then (setV h (hashV s), h.h, hashO (setV h (hashV s)), [], s) else (hdr0, 0, zh32, [], [])
structure MkY (B : Nat) (W : World) (h : Hdr) (s : List Vd) (y : Bd) : Prop where
  v : (y.h, y.n, y.p, y.l, y.s) = mkV h s
  s : BdS W y
  t : OwnT W B (.slice y.a y.l.length y.tc) y.l
  o : Ow W y.vb y.s.length
  b : B ≤ y.vb
  z : y.v0 = 0
  n : y.s.length ≤ 64 ∧ y.l.length ≤ 1000
theorem MkY.below {B : Nat} {W W' : World} {h : Hdr} {s : List Vd} {y : Bd} (H : MkY B W h s y) (hb : Below W.heap.size W W') : MkY B W' h s y :=
  ⟨H.v, H.s.below hb, H.t.below hb, fun h0 => by obtain ⟨cs, h1, h2⟩ := H.o h0; exact ⟨cs, hb.blk' h1, h2⟩, H.b, H.z, H.n⟩
theorem mk_gen {w w' : World} {h : Hdr} {s : List Vd} {e : Ending} (hok : ∀ v ∈ s, VdOk v) (H : MkP w h s e w') : (∃ y : Bd, e = .returned (.tuple #[.agg (bC y).toArray, .int .i64 (mkE h s : Nat)]) ∧ MkY w.heap.size w' h s y) ∧ Below w.heap.size w w' := by
  obtain ⟨⟨h0, rfl⟩ | ⟨h0, y, rfl, e1, e2, e3, e4, e5, e6, e7, hS, hO⟩, hb⟩ := H
  · refine ⟨⟨⟨hdr0, 0, zh32, none, 0, 0, 0, [], none, w.heap.size, 0, 0, []⟩, rfl, ?_, ⟨hdr0_ok, ⟨show (-9223372036854775808 : Int) ≤ 0 by decide, show (0 : Int) ≤ 9223372036854775807 by decide⟩, zh32_bytes, Ts.nil _ _ _, ⟨by simp, by simp, fun (h0 : 0 < 0) => absurd h0 (Nat.lt_irrefl 0), fun i v hi => by simp at hi⟩⟩, OwnT.nil _ _, fun h => absurd h (by simp), Nat.le_refl _, rfl, by simp⟩, hb⟩
    unfold mkV
    rw [if_neg h0]
  · obtain ⟨p, g, c, e, hge, hv⟩ := hO.v.vs (by rw [e7]; exact hok)
    injection e with e8 e9 e10
    have hch : chk s = 0 := by
      rcases Nat.eq_zero_or_pos (chk s) with q | q
      · exact q
      · unfold mkE at h0; rw [if_pos (by omega)] at h0; omega
    have hv2 : Vs w' y.va g 0 y.vc y.s := by rw [e8, e10]; exact hv
    refine ⟨⟨{ y with vb := g, v0 := 0 }, by rw [h0]; rfl, ?_, ⟨hS.hh, hS.hn, hS.hp, hS.t, hv2⟩, hO.t, hO.v.ow hv2, hge, rfl, ?_⟩, hb⟩
    · unfold mkV
      rw [if_pos h0]
      show (y.h, y.n, y.p, y.l, y.s) = _
      rw [e1, e2, e3, e4, e7]
    · show y.s.length ≤ 64 ∧ y.l.length ≤ 1000
      rw [e7, e4]
      exact ⟨(chk_ok hch).2.1, by simp⟩
theorem mk_same {B C : Nat} {W W2 : World} {h : Hdr} {s : List Vd} {y x : Bd} (H : MkY B W h s y) (K : MkY C W2 h s x) : sameB y x = true := by
  have q := H.v.trans K.v.symm
  simp only [Prod.mk.injEq] at q
  obtain ⟨q1, q2, q3, q4, q5⟩ := q
  unfold sameB
  rw [q1, q2, q3, q4, q5, sameC_selfB]
  simp
theorem bmk_long (h : Hdr) (hh : HdrOk h) (a : Option Addr) (b o cap : Nat) (s : List Vd) (w : World) (hl : 60 < h.s.size ∨ 70 < s.length) : Calls Tryz.prog 9 #[.agg (hC h).toArray, .slice a s.length cap] w fun e w' => e = .returned (.bool true) ∧ Below w.heap.size w w' := by
  have c0 := (Blk.new w (hC h) 79).cell 0
  rw [hC_0] at c0
  have hb := hidp ((Below.refl w.heap.size w).alloc (Nat.le_refl _) (.cells (hC h).toArray 79))
  have C1 := hidp (bawake_any (w.alloc (.cells (hC h).toArray 79)))
  by_cases h6 : 60 < h.s.size
  · have hc : decide ((60 : Int) < (h.s.size : Int)) = true := decide_eq_true (by omega)
    clear hl h6
    go_enter Tryz.func9, Tryz.ntmps9
    go_wp2_with fail
    refine C1.out.mono ?_
    rintro e w1 ⟨rfl, hB⟩
    have hE := hidp (hb.out.trans (hB.mono hb.out.size))
    go_wp2
    exact bodyPost_ret (v := .bool true) (by simp [results, Tryz.results9, go_sem]) rfl ⟨rfl, hE.out⟩
  · have hc : decide ((60 : Int) < (h.s.size : Int)) = false := decide_eq_false (by omega)
    have hc2 : decide ((70 : Int) < (s.length : Int)) = true := decide_eq_true (by omega)
    clear hl h6
    go_enter Tryz.func9, Tryz.ntmps9
    go_wp2_with fail
    refine C1.out.mono ?_
    rintro e w1 ⟨rfl, hB⟩
    have hE := hidp (hb.out.trans (hB.mono hb.out.size))
    go_wp2
    exact bodyPost_ret (v := .bool true) (by simp [results, Tryz.results9, go_sem]) rfl ⟨rfl, hE.out⟩
structure BmS (w w1 W : World) (h : Hdr) (b6 : Nat) (s : List Vd) (y : Bd) : Prop where
  k : Blk W b6 (bC y) 84
  y : MkY w1.heap.size W h s y
  hd : Blk W w.heap.size (hC h) 79
  bel : Below w1.heap.size w1 W
theorem BmS.below {w w1 W W' : World} {h : Hdr} {b6 : Nat} {s : List Vd} {y : Bd} (H : BmS w w1 W h b6 s y) (hb : Below W.heap.size W W') : BmS w w1 W' h b6 s y := ⟨hb.blk' H.k, H.y.below hb, hb.blk' H.hd, H.bel.trans (hb.mono H.bel.size)⟩
set_option maxRecDepth 100000 in
set_option maxHeartbeats 8000000 in
theorem bmk_in (h : Hdr) (hh : HdrOk h) (a : Option Addr) (b o cap : Nat) (s : List Vd) (w : World) (hV : Vs w a b o cap s) (hz : h.s.size ≤ 60) (hs : s.length ≤ 70) : Calls Tryz.prog 9 #[.agg (hC h).toArray, .slice a s.length cap] w fun e w' => e = .returned (.bool true) ∧ Below w.heap.size w w' := by
  have hzz : ∀ w, (zeroValue 84).run Tryz.prog w = .ok (.agg (bD hdr0 0 zh32 (.slice none 0 0) (.slice none 0 0)).toArray) w := (zero_of_info (P := Tryz.prog) zero_blk).1
  have c0 := (Blk.new w (hC h) 79).cell 0
  rw [hC_0] at c0
  have hb0 := hidp ((Below.refl w.heap.size w).alloc (Nat.le_refl _) (.cells (hC h).toArray 79))
  have K0 := hidp (Blk.new w (hC h) 79)
  have hc : decide ((60 : Int) < (h.s.size : Int)) = false := decide_eq_false (by omega)
  have hc2 : decide ((70 : Int) < (s.length : Int)) = false := decide_eq_false (by omega)
  have V0 := hidp (hV.below hb0.out)
  have hok := hidp hV.ok
  have HH := hidp hh
  have HN := hidp (And.intro hz hs)
  have hlh := hidp (hC_len hh)
  have hl0 := hidp (bD_len (n := 0) (sv := .slice none 0 0) (sw := .slice none 0 0) hdr0_ok zhl)
  have C1 := hidp (copyVals_any a b o cap s _ V0.out (by omega))
  clear hV hh hz hs
  go_enter Tryz.func9, Tryz.ntmps9
  go_wp2_with fail
  refine C1.out.mono ?_
  rintro e w1 ⟨v, rfl, hv, hB⟩
  obtain ⟨p, g, c, rfl, hge, hvs⟩ := hv.vs hok.out
  have K1 := hidp (hB.blk' K0.out)
  have V1 := hidp (V0.out.below hB)
  have B1 := hidp (hb0.out.trans (hB.mono hb0.out.size))
  have I1 := hidp hvs
  clear hv hge hvs hB hb0 K0 V0 C1 c0
  have C2 := hidp (make_any h p g 0 c s w1 HH.out I1.out (by have := HN.out; omega))
  go_wp2_with first
    | (with_reducible refine (?_ : wpList _ _ _ _ _ _); refine wpList_load_blkD 24 rfl (by kernel_rfl) 79 _ rfl w.heap.size (hC h) 79 rfl K1.out _ Tryz.underlying79 rfl (by rw [hlh.out]; kernel_rfl) ?_)
  refine C2.out.mono ?_
  intro e w2 hm
  obtain ⟨⟨y, rfl, hY⟩, hB⟩ := mk_gen hok.out hm
  have Y2 := hidp hY
  have B2 := hidp hB
  have K2 := hidp (hB.blk' K1.out)
  have hly := hidp (bC_len hY.s.hh hY.s.hp.1)
  have hoy := hidp (show (bC y).toArray.all (·.oneCell') = true from bD_one)
  clear hm hY hB C2
  have hq := hidp (fun (W : World) (hw : W = (w2.alloc (.cells (bD hdr0 0 zh32 (.slice none 0 0) (.slice none 0 0)).toArray 84)).setRow w2.heap.size (bC y).toArray) => show BmS w w1 W h w2.heap.size s y by
    have hN := new_row hw rfl
    exact ⟨hN.2, Y2.out.below hN.1, hN.1.blk' K2.out, B2.out.trans (hN.1.mono B2.out.size)⟩)
  have C3 := hidp (fun (W : World) (H : BmS w w1 W h w2.heap.size s y) => rmake_any h a b o cap s W HH.out (V1.out.below (H.bel)) (by have := HN.out; omega) (by have := HN.out; omega))
  go_wp2_with first
    | (with_reducible refine (?_ : wpList _ _ _ _ _ _); refine wpList_store_blk rfl 84 _ _ rfl w2.heap.size (bC y) (bD hdr0 0 zh32 (.slice none 0 0) (.slice none 0 0)) 84 rfl rfl (Blk.new w2 (bD hdr0 0 zh32 (.slice none 0 0) (.slice none 0 0)) 84) (by rw [hly.out]; kernel_rfl) (by rw [hly.out, hl0.out]) hoy.out ?_; intro w3 hw3; have S3 := hidp (hq.out w3 hw3.out); clear hw3)
    | (with_reducible refine (?_ : wpList _ _ _ _ _ _); refine wpList_load_blkD 30 rfl (by kernel_rfl) 79 _ rfl w.heap.size (hC h) 79 rfl S3.out.hd _ Tryz.underlying79 rfl (by rw [hlh.out]; kernel_rfl) ?_)
  refine (C3.out w3 S3.out).mono ?_
  intro e w4 hm
  obtain ⟨⟨x, rfl, hX⟩, hB⟩ := mk_gen hok.out hm
  have S4 := hidp (S3.out.below hB)
  have X4 := hidp hX
  have hlx := hidp (bC_len hX.s.hh hX.s.hp.1)
  have hox := hidp (show (bC x).toArray.all (·.oneCell') = true from bD_one)
  clear hm hX hB C3 S3 hq Y2 B2 K2 K1
  generalize w2.heap.size = b6 at S4 ⊢
  have hq := hidp (fun (W : World) (hw : W = (w4.alloc (.cells (bD hdr0 0 zh32 (.slice none 0 0) (.slice none 0 0)).toArray 84)).setRow w4.heap.size (bC x).toArray) => show BmS w w1 W h b6 s y ∧ Blk W w4.heap.size (bC x) 84 ∧ MkY w3.heap.size W h s x by
    have hN := new_row hw rfl
    exact ⟨S4.out.below hN.1, hN.2, X4.out.below hN.1⟩)
  go_wp2_with first
    | (with_reducible refine (?_ : wpList _ _ _ _ _ _); refine wpList_store_blk rfl 84 _ _ rfl w4.heap.size (bC x) (bD hdr0 0 zh32 (.slice none 0 0) (.slice none 0 0)) 84 rfl rfl (Blk.new w4 (bD hdr0 0 zh32 (.slice none 0 0) (.slice none 0 0)) 84) (by rw [hlx.out]; kernel_rfl) (by rw [hlx.out, hl0.out]) hox.out ?_; intro w5 hw5; obtain ⟨S5, k5, x5⟩ := hq.out w5 hw5.out; clear hw5; replace S5 := hidp S5; replace k5 := hidp k5; replace x5 := hidp x5)
    | (with_reducible refine (?_ : wpList _ _ _ _ _ _); refine wpList_load_blkD 35 rfl (by kernel_rfl) 84 _ rfl b6 (bC y) 84 rfl S5.out.k _ Tryz.underlying84 rfl (by rw [hly.out]; kernel_rfl) ?_)
    | (with_reducible refine (?_ : wpList _ _ _ _ _ _); refine wpList_load_blkD 36 rfl (by kernel_rfl) 84 _ rfl w4.heap.size (bC x) 84 rfl k5.out _ Tryz.underlying84 rfl (by rw [hlx.out]; kernel_rfl) ?_)
  have hsm := mk_same S5.out.y x5.out
  have C4 := hidp (sameB_any y x w5 S5.out.y.s x5.out.s (by have := S5.out.y.n; omega) (by have := S5.out.y.n; omega))
  rw [hsm] at C4
  clear hsm
  refine C4.out.mono ?_
  rintro e w6 ⟨rfl, hB⟩
  have S6 := hidp (S5.out.below hB)
  clear hB C4 S5 k5 x5 hq S4 X4
  have C5 := hidp (overB_any y w1.heap.size w6 S6.out.y.s S6.out.y.t S6.out.y.z S6.out.y.o S6.out.y.b S6.out.bel.size S6.out.y.n.2 S6.out.y.n.1)
  have heq : ((((mkE h s : Nat) : Int)) == ((mkE h s : Nat) : Int)) = true := beq_self_eq_true _
  go_wp2_with first
    | (with_reducible refine (?_ : wpList _ _ _ _ _ _); refine wpList_load_blkD 43 rfl (by kernel_rfl) 84 _ rfl b6 (bC y) 84 rfl S6.out.k _ Tryz.underlying84 rfl (by rw [hly.out]; kernel_rfl) ?_)
  refine C5.out.mono ?_
  rintro e w7 ⟨rfl, hB⟩
  have B7 := hidp (S6.out.bel.trans hB)
  clear hB C5 S6
  have C6 := hidp (sameVals_any p g 0 c s a b o cap s w7 (I1.out.below B7.out) (V1.out.below B7.out) (by have := HN.out; omega))
  rw [show decide (s = s) = true from decide_eq_true rfl] at C6
  go_wp2_with fail
  refine C6.out.mono ?_
  rintro e w8 ⟨rfl, hB⟩
  have B8 := hidp ((B1.out.trans (B7.out.mono B1.out.size)).trans (hB.mono (by have := B1.out.size; have := B7.out.size; omega)))
  clear hB C6 B7
  go_wp2_with fail
  refine (bawake_any w8).mono ?_
  rintro e w9 ⟨rfl, hB⟩
  have hE := hidp (B8.out.trans (hB.mono B8.out.size))
  go_wp2
  exact bodyPost_ret (v := .bool true) (by simp [results, Tryz.results9, go_sem]) rfl ⟨rfl, hE.out⟩
theorem lawBlockMakes_w (h : Hdr) (a : Option Addr) (b o cap : Nat) (s : List Vd) (w : World) (hh : HdrOk h) (hV : Vs w a b o cap s) : Calls Tryz.prog 9 #[.agg (hC h).toArray, .slice a s.length cap] w fun e w' => e = .returned (.bool true) ∧ Below w.heap.size w w' := by
  by_cases h1 : 60 < h.s.size ∨ 70 < s.length
  · exact bmk_long h hh a b o cap s w h1
  · exact bmk_in h hh a b o cap s w hV (by omega) (by omega)
end Go.Proofs.YtcmkmnidnapabaaGreat
