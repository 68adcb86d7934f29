/-
  WireBack: back of a pace, of any other kind, of any thing.
-/
import Derived.Test.YtbhkjflpkpkdlaaWbb
namespace Go.Proofs.Ytbhkjflpkpkdlaa
open Go.RowKit Go.Lib Go.Maps
set_option linter.unusedVariables false
set_option linter.unusedSimpArgs false
attribute [local go_sem] run_bits run_frombits
set_option maxRecDepth 100000 in
set_option maxHeartbeats 4000000 in
theorem back_Pace {w : World} {g b : Nat} {s : RS} (H : RdS w g b s) (n : Int) (p : Option Addr) (bb oo cap : Nat) (L h k : List Nat) (x : Nat) (is : Bool) (hf : TgF ⟨6, n, p, bb, oo, cap, L, h, k, x, is⟩) (hB : Bs w p bb oo L cap) (hc : 0 < cap → g ≠ bb) (h4 : s.R.length ≤ 4000000) :
    Calls Try.prog 30 #[.pointer (some ⟨g, 0, none⟩), .agg (thL 6 n p L.length cap h k x is).toArray] w (BackP ⟨6, n, p, bb, oo, cap, L, h, k, x, is⟩ w g b s) := by
  have hA := (Below.refl w.heap.size w).alloc (Nat.le_refl _) (.cells (thL 6 n p L.length cap h k x is).toArray 39)
  have HI := hidp (BkI.start (kd := 6) (n := n) (x := x) (is := is) hf.h hf.k hB)
  have HH := hidp (H.below hA)
  have hAx := hidp (Bex.of_below (g := g) hA)
  have hgl := hidp (show w.heap.size ≠ g by have := H.glt; omega)
  have hcb := hidp hc
  have hF := hidp hf
  have h4' := hidp h4
  have c0 := HI.out.th.c0
  have HNAN := fun y : Nat => (show (FloatKind.f64.format.order y y != some .eq) = nanB y from rfl)
  have HV := hidp (fun (hg : Gd ⟨6, n, p, bb, oo, cap, L, h, k, x, is⟩ s) => (show rdV pPace 0 s = formN x from by
    obtain ⟨m, Z, rfl⟩ := hg
    exact (bk_step (z := 0) (pr := pPace) (t := m) (Z := Z) (bPace_ok (n := x) hf.x Z)).1))
  have HA := hidp (fun W (hW : RdS W g b s) => sPace hW)
  have eN : bkN ⟨6, n, p, bb, oo, cap, L, h, k, x, is⟩ s = rdN (pPace) s := rfl
  unfold BackP
  rw [eN]
  clear eN
  generalize rdV (pPace) 0 s = V at *
  generalize rdN (pPace) s = S at *
  clear H hA hf hB hc h4
  have nv := HNAN V
  have nx := HNAN x
  clear HNAN
  go_enter Try.func30, Try.ntmps30
  go_wp2_with fail
  have hR := hidp (HH.out.below (Below.refl _ _).drew)
  have hT := hidp (HI.out.below (Below.refl _ _).drew)
  have hX := hidp (hAx.out.drew)
  clear c0
  refine wp_region_held_drew (S := fun W => BkI w W 6 n p bb oo cap L h k x is) (by kernel_rfl) hT.out (fun hHeld => ?_)
  try simp only [Act.put, List.setIfInBounds_toArray, List.set_cons_zero, List.set_cons_succ]
  refine wpAnyH_takeTo2 (i := 0) (oi := _) (v := ?_) (some 60) rfl rfl (by kernel_rfl) (by kernel_rfl) (by kernel_rfl) (fun _ _ _ h => h) (Or.inl ⟨by rfl, ?_⟩) hHeld ?_
  rotate_left
  · intro w hSw
    go_simp
    try with_reducible rfl
  try simp only [Act.put, List.setIfInBounds_toArray, List.set_cons_zero, List.set_cons_succ]
  refine wpAnyH_takeTo2 (i := 2) (oi := _) (v := ?_) (some 62) rfl rfl (by kernel_rfl) (by kernel_rfl) (by kernel_rfl) (fun _ _ _ h => h) (Or.inl ⟨by rfl, ?_⟩) hHeld ?_
  rotate_left
  · intro w hSw
    go_simp
    try with_reducible rfl
  try simp only [Act.put, List.setIfInBounds_toArray, List.set_cons_zero, List.set_cons_succ]
  refine wpAnyH_takeTo2 (i := 3) (oi := _) (v := ?_) (some 63) rfl rfl (by kernel_rfl) (by kernel_rfl) (by kernel_rfl) (fun _ _ _ h => h) (Or.inl ⟨by rfl, ?_⟩) hHeld ?_
  rotate_left
  · intro w hSw
    have q := hSw.th.c39
    go_simp
    try with_reducible rfl
  try simp only [Act.put, List.setIfInBounds_toArray, List.set_cons_zero, List.set_cons_succ]
  refine wpAnyH_ready (rs := [1]) (by kernel_rfl) (by simp) ?_
  refine AllReadyH.cons (o := _) rfl (fun K hK => ?_) AllReadyH.nil
  go_simp
  refine (HA.out _ hR.out).mono ?_
  rintro e wN ⟨rfl, h1, h2⟩
  replace hT := hidp (hT.out.bex h2 hgl.out hcb.out)
  have hR2 := hidp h1
  replace hX := hidp (hX.out.trans h2)
  clear h1 h2
  go_wp2_with fail
  refine hK.out _ _ (hT.out) (fun hHeld' => ?_)
  clear hK K hHeld
  have hHeld := hHeld'
  clear hHeld'
  try simp only [Act.put, List.setIfInBounds_toArray, List.set_cons_zero, List.set_cons_succ]
  refine wpAnyH_ready (rs := [4]) (by kernel_rfl) (by simp) ?_
  refine AllReadyH.cons (o := _) rfl (fun K hK => ?_) AllReadyH.nil
  go_simp
  refine hK.out _ _ (hT.out) (fun hHeld' => ?_)
  clear hK K hHeld
  have hHeld := hHeld'
  clear hHeld'
  try simp only [Act.put, List.setIfInBounds_toArray, List.set_cons_zero, List.set_cons_succ]
  refine wpAnyH_takeTo2 (i := 5) (oi := _) (v := ?_) (some 5) rfl rfl (by kernel_rfl) (by kernel_rfl) (by kernel_rfl) (fun _ _ _ h => h) (Or.inl ⟨by rfl, ?_⟩) hHeld ?_
  rotate_left
  · intro w hSw
    go_simp
    try with_reducible rfl
  try simp only [Act.put, List.setIfInBounds_toArray, List.set_cons_zero, List.set_cons_succ]
  refine wpAnyH_takeTo2 (i := 6) (oi := _) (v := ?_) (some 6) rfl rfl (by kernel_rfl) (by kernel_rfl) (by kernel_rfl) (fun _ _ _ h => h) (Or.inl ⟨by rfl, ?_⟩) hHeld ?_
  rotate_left
  · intro w hSw
    go_simp
    try with_reducible rfl
  try simp only [Act.put, List.setIfInBounds_toArray, List.set_cons_zero, List.set_cons_succ]
  refine wpAnyH_done (by kernel_rfl) ?_ _
  go_wp2_with fail
  have c39 := hT.out.th.c39
  clear hT
  by_cases hvx : V = x
  · subst hvx
    have hvv : ((V : Int) == (V : Int)) = true := beq_self_eq_true _
    go_quiet (fail)
    go_wp2_with fail
    go_ret
    exact ⟨_, rfl, fun hg => by simp, hR2.out.below ((Below.refl _ _).drewN _), hX.out.trans (Bex.of_below ((Below.refl _ _).drewN _))⟩
  · have hvv : ((V : Int) == (x : Int)) = false := by rw [beq_eq_false_iff_ne]; omega
    cases hV : nanB V
    · rw [hV] at nv
      go_quiet (fail)
      go_wp2_with fail
      go_ret
      refine ⟨_, rfl, fun hg => ?_, hR2.out.below ((Below.refl _ _).drewN _), hX.out.trans (Bex.of_below ((Below.refl _ _).drewN _))⟩
      have e := HV.out hg
      cases hx : nanB x
      · rw [formN_no hx] at e; exact absurd e hvx
      · rw [formN_yes hx] at e; rw [e] at hV; exact absurd hV (by decide)
    · rw [hV] at nv
      cases hx : nanB x
      · rw [hx] at nx
        go_quiet (fail)
        go_wp2_with fail
        go_ret
        refine ⟨_, rfl, fun hg => ?_, hR2.out.below ((Below.refl _ _).drewN _), hX.out.trans (Bex.of_below ((Below.refl _ _).drewN _))⟩
        have e := HV.out hg
        rw [formN_no hx] at e; exact absurd e hvx
      · rw [hx] at nx
        go_quiet (fail)
        go_wp2_with fail
        go_ret
        exact ⟨_, rfl, fun hg => by simp, hR2.out.below ((Below.refl _ _).drewN _), hX.out.trans (Bex.of_below ((Below.refl _ _).drewN _))⟩
set_option maxRecDepth 100000 in
set_option maxHeartbeats 4000000 in
theorem back_else {w : World} {g b : Nat} {s : RS} (H : RdS w g b s) (kd n : Int) (p : Option Addr) (len cap : Nat) (h k : List Nat) (x : Nat) (is : Bool) (hk : kd < 0 ∨ 7 < kd) :
    Calls Try.prog 30 #[.pointer (some ⟨g, 0, none⟩), .agg (thL kd n p len cap h k x is).toArray] w fun e w' => e = .returned (.bool true) ∧ RdS w' g b s ∧ Bex g w w' := by
  have hA := (Below.refl w.heap.size w).alloc (Nat.le_refl _) (.cells (thL kd n p len cap h k x is).toArray 39)
  have HH := hidp (H.below hA)
  have hAx := hidp (Bex.of_below (g := g) hA)
  have c0 : (w.alloc (.cells (thL kd n p len cap h k x is).toArray 39)).cell? ⟨w.heap.size, 0, none⟩ = some (.int .i64 kd) := (Blk.new w (thL kd n p len cap h k x is) _).cell 0
  have k0 : (kd == 0) = false := by rw [beq_eq_false_iff_ne]; omega
  have k1 : (kd == 1) = false := by rw [beq_eq_false_iff_ne]; omega
  have k2 : (kd == 2) = false := by rw [beq_eq_false_iff_ne]; omega
  have k3 : (kd == 3) = false := by rw [beq_eq_false_iff_ne]; omega
  have k4 : (kd == 4) = false := by rw [beq_eq_false_iff_ne]; omega
  have k5 : (kd == 5) = false := by rw [beq_eq_false_iff_ne]; omega
  have k6 : (kd == 6) = false := by rw [beq_eq_false_iff_ne]; omega
  have k7 : (kd == 7) = false := by rw [beq_eq_false_iff_ne]; omega
  clear H hA hk
  go_enter Try.func30, Try.ntmps30
  go_wp2_with fail
  go_ret
  exact ⟨rfl, HH.out, hAx.out⟩
theorem back_any {w : World} {g b : Nat} {s : RS} (H : RdS w g b s) (t : Tg) (hk : TgOk w t) (hf : TgF t) (hc : 0 < t.cap → g ≠ t.bb) (h4 : s.R.length ≤ 4000000) :
    Calls Try.prog 30 #[.pointer (some ⟨g, 0, none⟩), .agg (tgL t).toArray] w (BackP t w g b s) := by
  obtain ⟨kd, n, p, bb, oo, cap, L, h, k, x, is⟩ := t
  unfold tgL
  simp only
  by_cases hq : kd < 0 ∨ 7 < kd
  · refine (back_else H kd n p L.length cap h k x is hq).mono ?_
    rintro e w' ⟨rfl, h1, h2⟩
    have e : bkN ⟨kd, n, p, bb, oo, cap, L, h, k, x, is⟩ s = s := by
      unfold bkN
      simp only
      rw [if_neg (by omega), if_neg (by omega), if_neg (by omega), if_neg (by omega), if_neg (by omega), if_neg (by omega), if_neg (by omega), if_neg (by omega)]
    exact ⟨true, rfl, fun _ => rfl, by rw [e]; exact h1, h2⟩
  · rcases (show kd = 0 ∨ kd = 1 ∨ kd = 2 ∨ kd = 3 ∨ kd = 4 ∨ kd = 5 ∨ kd = 6 ∨ kd = 7 by omega) with rfl | rfl | rfl | rfl | rfl | rfl | rfl | rfl
    · exact back_Num H n p bb oo cap L h k x is hf hk.bs hc h4
    · exact back_Text H n p bb oo cap L h k x is hf hk.bs hc h4
    · exact back_Bytes H n p bb oo cap L h k x is hf hk.bs hc h4
    · exact back_Hash H n p bb oo cap L h k x is hf hk.bs hc h4
    · exact back_Key H n p bb oo cap L h k x is hf hk.bs hc h4
    · exact back_Word H n p bb oo cap L h k x is hf hk.bs hc h4
    · exact back_Pace H n p bb oo cap L h k x is hf hk.bs hc h4
    · exact back_Bool H n p bb oo cap L h k x is hf hk.bs hc h4
theorem Pick_more (x : Int) (n : Nat) (w : World) (hn : 0 < n) (hn2 : n ≤ 1000000) :
    Calls Try.prog 31 #[.int .i64 x, .int .i64 n] w fun e w' => (∃ r : Nat, r < n ∧ e = .returned (.int .i64 r)) ∧ w' = w := by
  have hm := Int.tmod_lt_of_pos x (show (0 : Int) < (n : Int) by omega)
  have hm2 : -(n : Int) < x.tmod n := by
    have h1 := Int.tmod_lt_of_pos (-x) (show (0 : Int) < (n : Int) by omega)
    rw [Int.neg_tmod] at h1
    omega
  have hz : ((n : Int) == 0) = false := by rw [beq_eq_false_iff_ne]; omega
  have hle : decide ((n : Int) ≤ 0) = false := decide_eq_false (by omega)
  have hnz : ¬ (n : Int) = 0 := by omega
  generalize hr : x.tmod (n : Int) = r at hm hm2
  by_cases h0 : r < 0
  · have ht : decide (r < 0) = true := decide_eq_true h0
    have hw : wrap64 (r + n) = r + n := w64 _ (by omega)
    have hw0 : wrap64 r = r := w64 _ (by omega)
    have HH := hidp (And.intro hm (And.intro hm2 h0))
    clear hm hm2 h0
    go_enter Try.func31, Try.ntmps31
    go_wp2
    go_ret
    exact ⟨⟨(r + n).toNat, by have := HH.out; omega, ret_int (by have := HH.out; omega)⟩, rfl⟩
  · have ht : decide (r < 0) = false := decide_eq_false h0
    have hw0 : wrap64 r = r := w64 _ (by omega)
    have HH := hidp (And.intro hm (And.intro hm2 h0))
    clear hm hm2 h0
    go_enter Try.func31, Try.ntmps31
    go_wp2
    go_ret
    exact ⟨⟨r.toNat, by have := HH.out; omega, ret_int (by have := HH.out; omega)⟩, rfl⟩
end Go.Proofs.Ytbhkjflpkpkdlaa
