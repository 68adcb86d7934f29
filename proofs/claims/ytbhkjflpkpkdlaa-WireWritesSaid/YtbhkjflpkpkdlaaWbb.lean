/-
  WireBack: puts of any thing; back, kind by kind.
-/
import Derived.Test.YtbhkjflpkpkdlaaWba
import Derived.Test.YtbhkjflpkpkdlaaLh
namespace Go.Proofs.Ytbhkjflpkpkdlaa
open Go.RowKit Go.Lib Go.Maps
set_option linter.unusedVariables false
set_option linter.unusedSimpArgs false

set_option maxRecDepth 100000 in
set_option maxHeartbeats 1000000 in
theorem puts_else {w : World} {g lim : Nat} {v : Value} {X : List Nat} (H : Wr w g lim v X 0) (kd n : Int) (p : Option Addr) (len cap : Nat) (h k : List Nat) (x : Nat) (is : Bool) (hk : kd < 0 ∨ 7 < kd) :
    Calls Try.prog 15 #[.pointer (some ⟨g, 0, none⟩), .agg (thL kd n p len cap h k x is).toArray] w (PutP w g lim v X) := by
  have hA := (Below.refl w.heap.size w).alloc (Nat.le_refl _) (.cells (thL kd n p len cap h k x is).toArray 39)
  have HH := hidp (And.intro (H.below hA) (Wfr.ofBelow (g := g) (v := v) hA))
  have c0 : (w.alloc (.cells (thL kd n p len cap h k x is).toArray 39)).cell? ⟨w.heap.size, 0, none⟩ = some (.int .i64 kd) := (Blk.new w (thL kd n p len cap h k x is) _).cell 0
  have k0 : (kd == 0) = false := by rw [beq_eq_false_iff_ne]; omega
  have k1 : (kd == 1) = false := by rw [beq_eq_false_iff_ne]; omega
  have k2 : (kd == 2) = false := by rw [beq_eq_false_iff_ne]; omega
  have k3 : (kd == 3) = false := by rw [beq_eq_false_iff_ne]; omega
  have k4 : (kd == 4) = false := by rw [beq_eq_false_iff_ne]; omega
  have k5 : (kd == 5) = false := by rw [beq_eq_false_iff_ne]; omega
  have k6 : (kd == 6) = false := by rw [beq_eq_false_iff_ne]; omega
  have k7 : (kd == 7) = false := by rw [beq_eq_false_iff_ne]; omega
  clear H hA hk
  go_enter Try.func15, Try.ntmps15
  go_wp2_with fail
  go_ret
  exact ⟨rfl, v, HH.out.1, HH.out.2⟩
theorem puts_any {w : World} {g lim : Nat} {v : Value} {X : List Nat} (H : Wr w g lim v X 0) (t : Tg) (hk : TgOk w t) (hf : TgF t) (hap : ∀ a, t.p = some a → 0 < t.L.length → a.block ≠ g ∧ v.ownBlock ≠ some a.block) (hs : X.length + 310 ≤ lim) :
    Calls Try.prog 15 #[.pointer (some ⟨g, 0, none⟩), .agg (tgL t).toArray] w (PutP w g lim v (X ++ formT t)) := by
  obtain ⟨kd, n, p, bb, oo, cap, L, h, k, x, is⟩ := t
  have hL := hf.L
  have hd := dg_le L.length
  have hd2 := dg_le n.toNat
  simp only at hL
  unfold tgL
  simp only
  by_cases hq : kd < 0 ∨ 7 < kd
  · have e : formT ⟨kd, n, p, bb, oo, cap, L, h, k, x, is⟩ = [] := by
      unfold formT
      simp only
      rw [if_neg (by omega), if_neg (by omega), if_neg (by omega), if_neg (by omega), if_neg (by omega), if_neg (by omega), if_neg (by omega), if_neg (by omega)]
    rw [e, List.append_nil]
    exact puts_else H kd n p L.length cap h k x is hq
  · rcases (show kd = 0 ∨ kd = 1 ∨ kd = 2 ∨ kd = 3 ∨ kd = 4 ∨ kd = 5 ∨ kd = 6 ∨ kd = 7 by omega) with rfl | rfl | rfl | rfl | rfl | rfl | rfl | rfl
    · have hn := hf.n rfl
      simp only at hn
      have q := puts0_ok H p L.length cap x is h k hf.h hf.k n.toNat (dg n.toNat) (by omega) (dg_digs (by omega)) (by omega)
      rw [nB_num (by omega), show ((n.toNat : Nat) : Int) = n by omega] at q
      exact q
    · have q := puts1_ok H n p cap x is h k hf.h hf.k bb oo L hk.bs (dg L.length) (dg_digs (by omega)) (by omega)
      rw [nB_num (by omega)] at q
      exact q
    · have q := puts2_ok H n p cap x is h k hf.h hf.k bb oo L hk.bs hap (dg L.length) (dg_digs (by omega)) (by omega)
      rw [nB_num (by omega)] at q
      exact q
    · exact puts3_ok H n p L.length cap x is h k hf.h hf.k (by omega)
    · exact puts4_ok H n p L.length cap x is h k hf.h hf.k (by omega)
    · exact puts5_ok H n p L.length cap x is h k hf.h hf.k hf.x (by omega)
    · exact puts6_ok H n p L.length cap x is h k hf.h hf.k hf.x (by omega)
    · exact puts7_ok H n p L.length cap x is h k hf.h hf.k (by omega)

/-- A whole thing is ahead. -/
def Gd (t : Tg) (s : RS) : Prop := ∃ n Z, s = ⟨n, formT t ++ Z, 0, 0⟩
/-- What back does: its answer is true where the thing is ahead. -/
def BackP (t : Tg) (w : World) (g b : Nat) (s : RS) (e : Ending) (w' : World) : Prop := ∃ v, e = .returned (.bool v) ∧ (Gd t s → v = true) ∧ RdS w' g b (bkN t s) ∧ Bex g w w'
/-- Back under way: the thing in its box, its bytes. -/
structure BkI (w W : World) (kd n : Int) (p : Option Addr) (bb oo cap : Nat) (L h k : List Nat) (x : Nat) (is : Bool) : Prop where
  th : Th W w.heap.size kd n p L.length cap h k x is
  bs : Bs W p bb oo L cap
section
variable {w W W' : World} {kd n : Int} {p : Option Addr} {bb oo cap : Nat} {L h k : List Nat} {x : Nat} {is : Bool} {g : Nat}
theorem BkI.below (H : BkI w W kd n p bb oo cap L h k x is) (hb : Below W.heap.size W W') : BkI w W' kd n p bb oo cap L h k x is := ⟨⟨hb.blk' H.th.blk, H.th.hh, H.th.hk⟩, H.bs.below hb⟩
theorem BkI.bex (H : BkI w W kd n p bb oo cap L h k x is) (hb : Bex g W W') (hg : w.heap.size ≠ g) (hc : 0 < cap → g ≠ bb) : BkI w W' kd n p bb oo cap L h k x is := ⟨⟨hb.blk H.th.blk hg, H.th.hh, H.th.hk⟩, H.bs.bexN hb hc⟩
theorem BkI.start (hh : Bytes 32 h) (hk : Bytes 4 k) (hB : Bs w p bb oo L cap) : BkI w (w.alloc (.cells (thL kd n p L.length cap h k x is).toArray 39)) kd n p bb oo cap L h k x is := ⟨⟨Blk.new w _ _, hh, hk⟩, hB.below ((Below.refl _ w).alloc (Nat.le_refl _) _)⟩
end
theorem sameBytesG {w : World} {p q : Option Addr} {b o cap b2 o2 cap2 : Nat} {X Y : List Nat} (h : Bs w p b o X cap) (k : Bs w q b2 o2 Y cap2) :
    Calls Try.prog 21 #[.slice p X.length cap, .slice q Y.length cap2] w fun e w' => (∃ v, e = .returned (.bool v) ∧ (X = Y → v = true)) ∧ w = w' := by
  have c1 := conv_bs h cap
  have c2 := conv_bs k cap2
  have hxy := hidp (fun e : X = Y => congrArg strB e)
  generalize strB X = s at *
  generalize strB Y = t at *
  clear h k
  go_enter Try.func21, Try.ntmps21
  go_wp2
  go_ret
  refine ⟨⟨_, rfl, fun e => ?_⟩, rfl⟩
  rw [hxy.out e]
  simp
set_option maxRecDepth 100000 in
set_option maxHeartbeats 4000000 in
theorem back_Num {w : World} {g b : Nat} {s : RS} (H : RdS w g b s) (n : Int) (p : Option Addr) (bb oo cap : Nat) (L h k : List Nat) (x : Nat) (is : Bool) (hf : TgF ⟨0, n, p, bb, oo, cap, L, h, k, x, is⟩) (hB : Bs w p bb oo L cap) (hc : 0 < cap → g ≠ bb) (h4 : s.R.length ≤ 4000000) :
    Calls Try.prog 30 #[.pointer (some ⟨g, 0, none⟩), .agg (thL 0 n p L.length cap h k x is).toArray] w (BackP ⟨0, n, p, bb, oo, cap, L, h, k, x, is⟩ w g b s) := by
  have hA := (Below.refl w.heap.size w).alloc (Nat.le_refl _) (.cells (thL 0 n p L.length cap h k x is).toArray 39)
  have HI := hidp (BkI.start (kd := 0) (n := n) (x := x) (is := is) hf.h hf.k hB)
  have HH := hidp (H.below hA)
  have hAx := hidp (Bex.of_below (g := g) hA)
  have hgl := hidp (show w.heap.size ≠ g by have := H.glt; omega)
  have hcb := hidp hc
  have hF := hidp hf
  have h4' := hidp h4
  have c0 := HI.out.th.c0
  have HV := hidp (fun (hg : Gd ⟨0, n, p, bb, oo, cap, L, h, k, x, is⟩ s) => (show ((rdV pNum 0 s : Nat) : Int) = n from by
    obtain ⟨m, Z, rfl⟩ := hg
    have hn := hf.n rfl
    simp only at hn
    refine Eq.trans (congrArg (fun z : Nat => (z : Int)) ?_) (show ((n.toNat : Nat) : Int) = n by omega)
    exact (bk_step (z := 0) (pr := pNum) (t := m) (Z := Z) (bNum_ok (n := n.toNat) (by have := hf.n rfl; simp only at this; omega) Z)).1))
  have HA := hidp (fun W (hW : RdS W g b s) => sNum hW)
  have eN : bkN ⟨0, n, p, bb, oo, cap, L, h, k, x, is⟩ s = rdN (pNum) s := rfl
  unfold BackP
  rw [eN]
  clear eN
  generalize rdV (pNum) 0 s = V at *
  generalize rdN (pNum) s = S at *
  clear H hA hf hB hc h4
  go_enter Try.func30, Try.ntmps30
  go_wp2_with fail
  have hR := hidp (HH.out.below (Below.refl _ _).drew)
  have hT := hidp (HI.out.below (Below.refl _ _).drew)
  have hX := hidp (hAx.out.drew)
  clear c0
  refine wp_region_held_drew (S := fun W => BkI w W 0 n p bb oo cap L h k x is) (by kernel_rfl) hT.out (fun hHeld => ?_)
  try simp only [Act.put, List.setIfInBounds_toArray, List.set_cons_zero, List.set_cons_succ]
  refine wpAnyH_takeTo2 (i := 0) (oi := _) (v := ?_) (some 11) rfl rfl (by kernel_rfl) (by kernel_rfl) (by kernel_rfl) (fun _ _ _ h => h) (Or.inl ⟨by rfl, ?_⟩) hHeld ?_
  rotate_left
  · intro w hSw
    go_simp
    try with_reducible rfl
  try simp only [Act.put, List.setIfInBounds_toArray, List.set_cons_zero, List.set_cons_succ]
  refine wpAnyH_takeTo2 (i := 2) (oi := _) (v := ?_) (some 13) rfl rfl (by kernel_rfl) (by kernel_rfl) (by kernel_rfl) (fun _ _ _ h => h) (Or.inl ⟨by rfl, ?_⟩) hHeld ?_
  rotate_left
  · intro w hSw
    go_simp
    try with_reducible rfl
  try simp only [Act.put, List.setIfInBounds_toArray, List.set_cons_zero, List.set_cons_succ]
  refine wpAnyH_takeTo2 (i := 3) (oi := _) (v := ?_) (some 14) rfl rfl (by kernel_rfl) (by kernel_rfl) (by kernel_rfl) (fun _ _ _ h => h) (Or.inl ⟨by rfl, ?_⟩) hHeld ?_
  rotate_left
  · intro w hSw
    have q := hSw.th.c1
    go_simp
    try with_reducible rfl
  try simp only [Act.put, List.setIfInBounds_toArray, List.set_cons_zero, List.set_cons_succ]
  refine wpAnyH_ready (rs := [1]) (by kernel_rfl) (by simp) ?_
  refine AllReadyH.cons (o := _) rfl (fun K hK => ?_) AllReadyH.nil
  go_simp
  refine (HA.out _ hR.out).mono ?_
  rintro e wN ⟨rfl, h1, h2⟩
  replace hT := hidp (hT.out.bex h2 hgl.out hcb.out)
  have hR2 := hidp h1
  replace hX := hidp (hX.out.trans h2)
  clear h1 h2
  go_wp2_with fail
  refine hK.out _ _ (hT.out) (fun hHeld' => ?_)
  clear hK K hHeld
  have hHeld := hHeld'
  clear hHeld'
  try simp only [Act.put, List.setIfInBounds_toArray, List.set_cons_zero, List.set_cons_succ]
  refine wpAnyH_takeTo2 (i := 4) (oi := _) (v := ?_) (some 15) rfl rfl (by kernel_rfl) (by kernel_rfl) (by kernel_rfl) (fun _ _ _ h => h) (Or.inl ⟨by rfl, ?_⟩) hHeld ?_
  rotate_left
  · intro w hSw
    go_simp
    try with_reducible rfl
  try simp only [Act.put, List.setIfInBounds_toArray, List.set_cons_zero, List.set_cons_succ]
  refine wpAnyH_takeTo2 (i := 5) (oi := _) (v := ?_) (some 4) rfl rfl (by kernel_rfl) (by kernel_rfl) (by kernel_rfl) (fun _ _ _ h => h) (Or.inl ⟨by rfl, ?_⟩) hHeld ?_
  rotate_left
  · intro w hSw
    go_simp
    try with_reducible rfl
  try simp only [Act.put, List.setIfInBounds_toArray, List.set_cons_zero, List.set_cons_succ]
  refine wpAnyH_done (by kernel_rfl) ?_ _
  go_wp2_with fail
  go_ret
  exact ⟨_, rfl, fun hg => by simp [HV.out hg], hR2.out, hX.out⟩
set_option maxRecDepth 100000 in
set_option maxHeartbeats 4000000 in
theorem back_Word {w : World} {g b : Nat} {s : RS} (H : RdS w g b s) (n : Int) (p : Option Addr) (bb oo cap : Nat) (L h k : List Nat) (x : Nat) (is : Bool) (hf : TgF ⟨5, n, p, bb, oo, cap, L, h, k, x, is⟩) (hB : Bs w p bb oo L cap) (hc : 0 < cap → g ≠ bb) (h4 : s.R.length ≤ 4000000) :
    Calls Try.prog 30 #[.pointer (some ⟨g, 0, none⟩), .agg (thL 5 n p L.length cap h k x is).toArray] w (BackP ⟨5, n, p, bb, oo, cap, L, h, k, x, is⟩ w g b s) := by
  have hA := (Below.refl w.heap.size w).alloc (Nat.le_refl _) (.cells (thL 5 n p L.length cap h k x is).toArray 39)
  have HI := hidp (BkI.start (kd := 5) (n := n) (x := x) (is := is) hf.h hf.k hB)
  have HH := hidp (H.below hA)
  have hAx := hidp (Bex.of_below (g := g) hA)
  have hgl := hidp (show w.heap.size ≠ g by have := H.glt; omega)
  have hcb := hidp hc
  have hF := hidp hf
  have h4' := hidp h4
  have c0 := HI.out.th.c0
  have HV := hidp (fun (hg : Gd ⟨5, n, p, bb, oo, cap, L, h, k, x, is⟩ s) => (show rdV pWord 0 s = x from by
    obtain ⟨m, Z, rfl⟩ := hg
    exact (bk_step (z := 0) (pr := pWord) (t := m) (Z := Z) (bWord_ok (n := x) hf.x Z)).1))
  have HA := hidp (fun W (hW : RdS W g b s) => sWord hW)
  have eN : bkN ⟨5, n, p, bb, oo, cap, L, h, k, x, is⟩ s = rdN (pWord) s := rfl
  unfold BackP
  rw [eN]
  clear eN
  generalize rdV (pWord) 0 s = V at *
  generalize rdN (pWord) s = S at *
  clear H hA hf hB hc h4
  go_enter Try.func30, Try.ntmps30
  go_wp2_with fail
  have hR := hidp (HH.out.below (Below.refl _ _).drew)
  have hT := hidp (HI.out.below (Below.refl _ _).drew)
  have hX := hidp (hAx.out.drew)
  clear c0
  refine wp_region_held_drew (S := fun W => BkI w W 5 n p bb oo cap L h k x is) (by kernel_rfl) hT.out (fun hHeld => ?_)
  try simp only [Act.put, List.setIfInBounds_toArray, List.set_cons_zero, List.set_cons_succ]
  refine wpAnyH_takeTo2 (i := 0) (oi := _) (v := ?_) (some 53) rfl rfl (by kernel_rfl) (by kernel_rfl) (by kernel_rfl) (fun _ _ _ h => h) (Or.inl ⟨by rfl, ?_⟩) hHeld ?_
  rotate_left
  · intro w hSw
    go_simp
    try with_reducible rfl
  try simp only [Act.put, List.setIfInBounds_toArray, List.set_cons_zero, List.set_cons_succ]
  refine wpAnyH_takeTo2 (i := 2) (oi := _) (v := ?_) (some 55) rfl rfl (by kernel_rfl) (by kernel_rfl) (by kernel_rfl) (fun _ _ _ h => h) (Or.inl ⟨by rfl, ?_⟩) hHeld ?_
  rotate_left
  · intro w hSw
    go_simp
    try with_reducible rfl
  try simp only [Act.put, List.setIfInBounds_toArray, List.set_cons_zero, List.set_cons_succ]
  refine wpAnyH_takeTo2 (i := 3) (oi := _) (v := ?_) (some 56) rfl rfl (by kernel_rfl) (by kernel_rfl) (by kernel_rfl) (fun _ _ _ h => h) (Or.inl ⟨by rfl, ?_⟩) hHeld ?_
  rotate_left
  · intro w hSw
    have q := hSw.th.c39
    go_simp
    try with_reducible rfl
  try simp only [Act.put, List.setIfInBounds_toArray, List.set_cons_zero, List.set_cons_succ]
  refine wpAnyH_ready (rs := [1]) (by kernel_rfl) (by simp) ?_
  refine AllReadyH.cons (o := _) rfl (fun K hK => ?_) AllReadyH.nil
  go_simp
  refine (HA.out _ hR.out).mono ?_
  rintro e wN ⟨rfl, h1, h2⟩
  replace hT := hidp (hT.out.bex h2 hgl.out hcb.out)
  have hR2 := hidp h1
  replace hX := hidp (hX.out.trans h2)
  clear h1 h2
  go_wp2_with fail
  refine hK.out _ _ (hT.out) (fun hHeld' => ?_)
  clear hK K hHeld
  have hHeld := hHeld'
  clear hHeld'
  try simp only [Act.put, List.setIfInBounds_toArray, List.set_cons_zero, List.set_cons_succ]
  refine wpAnyH_takeTo2 (i := 4) (oi := _) (v := ?_) (some 57) rfl rfl (by kernel_rfl) (by kernel_rfl) (by kernel_rfl) (fun _ _ _ h => h) (Or.inl ⟨by rfl, ?_⟩) hHeld ?_
  rotate_left
  · intro w hSw
    go_simp
    try with_reducible rfl
  try simp only [Act.put, List.setIfInBounds_toArray, List.set_cons_zero, List.set_cons_succ]
  refine wpAnyH_takeTo2 (i := 5) (oi := _) (v := ?_) (some 4) rfl rfl (by kernel_rfl) (by kernel_rfl) (by kernel_rfl) (fun _ _ _ h => h) (Or.inl ⟨by rfl, ?_⟩) hHeld ?_
  rotate_left
  · intro w hSw
    go_simp
    try with_reducible rfl
  try simp only [Act.put, List.setIfInBounds_toArray, List.set_cons_zero, List.set_cons_succ]
  refine wpAnyH_done (by kernel_rfl) ?_ _
  go_wp2_with fail
  go_ret
  exact ⟨_, rfl, fun hg => by simp [HV.out hg], hR2.out, hX.out⟩
set_option maxRecDepth 100000 in
set_option maxHeartbeats 4000000 in
theorem back_Bool {w : World} {g b : Nat} {s : RS} (H : RdS w g b s) (n : Int) (p : Option Addr) (bb oo cap : Nat) (L h k : List Nat) (x : Nat) (is : Bool) (hf : TgF ⟨7, n, p, bb, oo, cap, L, h, k, x, is⟩) (hB : Bs w p bb oo L cap) (hc : 0 < cap → g ≠ bb) (h4 : s.R.length ≤ 4000000) :
    Calls Try.prog 30 #[.pointer (some ⟨g, 0, none⟩), .agg (thL 7 n p L.length cap h k x is).toArray] w (BackP ⟨7, n, p, bb, oo, cap, L, h, k, x, is⟩ w g b s) := by
  have hA := (Below.refl w.heap.size w).alloc (Nat.le_refl _) (.cells (thL 7 n p L.length cap h k x is).toArray 39)
  have HI := hidp (BkI.start (kd := 7) (n := n) (x := x) (is := is) hf.h hf.k hB)
  have HH := hidp (H.below hA)
  have hAx := hidp (Bex.of_below (g := g) hA)
  have hgl := hidp (show w.heap.size ≠ g by have := H.glt; omega)
  have hcb := hidp hc
  have hF := hidp hf
  have h4' := hidp h4
  have c0 := HI.out.th.c0
  have HV := hidp (fun (hg : Gd ⟨7, n, p, bb, oo, cap, L, h, k, x, is⟩ s) => (show rdV pBool false s = is from by
    obtain ⟨m, Z, rfl⟩ := hg
    exact (bk_step (z := false) (pr := pBool) (t := m) (Z := Z) (bBool_ok is Z)).1))
  have HA := hidp (fun W (hW : RdS W g b s) => sBool hW)
  have eN : bkN ⟨7, n, p, bb, oo, cap, L, h, k, x, is⟩ s = rdN (pBool) s := rfl
  unfold BackP
  rw [eN]
  clear eN
  generalize rdV (pBool) false s = V at *
  generalize rdN (pBool) s = S at *
  clear H hA hf hB hc h4
  go_enter Try.func30, Try.ntmps30
  go_wp2_with fail
  have hR := hidp (HH.out.below (Below.refl _ _).drew)
  have hT := hidp (HI.out.below (Below.refl _ _).drew)
  have hX := hidp (hAx.out.drew)
  clear c0
  refine wp_region_held_drew (S := fun W => BkI w W 7 n p bb oo cap L h k x is) (by kernel_rfl) hT.out (fun hHeld => ?_)
  try simp only [Act.put, List.setIfInBounds_toArray, List.set_cons_zero, List.set_cons_succ]
  refine wpAnyH_takeTo2 (i := 0) (oi := _) (v := ?_) (some 82) rfl rfl (by kernel_rfl) (by kernel_rfl) (by kernel_rfl) (fun _ _ _ h => h) (Or.inl ⟨by rfl, ?_⟩) hHeld ?_
  rotate_left
  · intro w hSw
    go_simp
    try with_reducible rfl
  try simp only [Act.put, List.setIfInBounds_toArray, List.set_cons_zero, List.set_cons_succ]
  refine wpAnyH_takeTo2 (i := 2) (oi := _) (v := ?_) (some 84) rfl rfl (by kernel_rfl) (by kernel_rfl) (by kernel_rfl) (fun _ _ _ h => h) (Or.inl ⟨by rfl, ?_⟩) hHeld ?_
  rotate_left
  · intro w hSw
    go_simp
    try with_reducible rfl
  try simp only [Act.put, List.setIfInBounds_toArray, List.set_cons_zero, List.set_cons_succ]
  refine wpAnyH_takeTo2 (i := 3) (oi := _) (v := ?_) (some 85) rfl rfl (by kernel_rfl) (by kernel_rfl) (by kernel_rfl) (fun _ _ _ h => h) (Or.inl ⟨by rfl, ?_⟩) hHeld ?_
  rotate_left
  · intro w hSw
    have q := hSw.th.c40
    go_simp
    try with_reducible rfl
  try simp only [Act.put, List.setIfInBounds_toArray, List.set_cons_zero, List.set_cons_succ]
  refine wpAnyH_ready (rs := [1]) (by kernel_rfl) (by simp) ?_
  refine AllReadyH.cons (o := _) rfl (fun K hK => ?_) AllReadyH.nil
  go_simp
  refine (HA.out _ hR.out).mono ?_
  rintro e wN ⟨rfl, h1, h2⟩
  replace hT := hidp (hT.out.bex h2 hgl.out hcb.out)
  have hR2 := hidp h1
  replace hX := hidp (hX.out.trans h2)
  clear h1 h2
  go_wp2_with fail
  refine hK.out _ _ (hT.out) (fun hHeld' => ?_)
  clear hK K hHeld
  have hHeld := hHeld'
  clear hHeld'
  try simp only [Act.put, List.setIfInBounds_toArray, List.set_cons_zero, List.set_cons_succ]
  refine wpAnyH_takeTo2 (i := 4) (oi := _) (v := ?_) (some 86) rfl rfl (by kernel_rfl) (by kernel_rfl) (by kernel_rfl) (fun _ _ _ h => h) (Or.inl ⟨by rfl, ?_⟩) hHeld ?_
  rotate_left
  · intro w hSw
    go_simp
    try with_reducible rfl
  try simp only [Act.put, List.setIfInBounds_toArray, List.set_cons_zero, List.set_cons_succ]
  refine wpAnyH_takeTo2 (i := 5) (oi := _) (v := ?_) (some 4) rfl rfl (by kernel_rfl) (by kernel_rfl) (by kernel_rfl) (fun _ _ _ h => h) (Or.inl ⟨by rfl, ?_⟩) hHeld ?_
  rotate_left
  · intro w hSw
    go_simp
    try with_reducible rfl
  try simp only [Act.put, List.setIfInBounds_toArray, List.set_cons_zero, List.set_cons_succ]
  refine wpAnyH_done (by kernel_rfl) ?_ _
  go_wp2_with fail
  go_ret
  exact ⟨_, rfl, fun hg => by simp [HV.out hg], hR2.out, hX.out⟩
set_option maxRecDepth 100000 in
set_option maxHeartbeats 4000000 in
theorem back_Hash {w : World} {g b : Nat} {s : RS} (H : RdS w g b s) (n : Int) (p : Option Addr) (bb oo cap : Nat) (L h k : List Nat) (x : Nat) (is : Bool) (hf : TgF ⟨3, n, p, bb, oo, cap, L, h, k, x, is⟩) (hB : Bs w p bb oo L cap) (hc : 0 < cap → g ≠ bb) (h4 : s.R.length ≤ 4000000) :
    Calls Try.prog 30 #[.pointer (some ⟨g, 0, none⟩), .agg (thL 3 n p L.length cap h k x is).toArray] w (BackP ⟨3, n, p, bb, oo, cap, L, h, k, x, is⟩ w g b s) := by
  have hA := (Below.refl w.heap.size w).alloc (Nat.le_refl _) (.cells (thL 3 n p L.length cap h k x is).toArray 39)
  have HI := hidp (BkI.start (kd := 3) (n := n) (x := x) (is := is) hf.h hf.k hB)
  have HH := hidp (H.below hA)
  have hAx := hidp (Bex.of_below (g := g) hA)
  have hgl := hidp (show w.heap.size ≠ g by have := H.glt; omega)
  have hcb := hidp hc
  have hF := hidp hf
  have h4' := hidp h4
  have c0 := HI.out.th.c0
  have HV := hidp (fun (hg : Gd ⟨3, n, p, bb, oo, cap, L, h, k, x, is⟩ s) => (show rdV (pRaw 32) (List.replicate 32 0) s = h from by
    obtain ⟨m, Z, rfl⟩ := hg
    exact (bk_step (z := (List.replicate 32 0)) (pr := pRaw 32) (t := m) (Z := Z) (bRaw_ok hf.h.1 Z)).1))
  have hlen := rdHash_len (s := s)
  have heq := fun W => run_eql_hash (rdV (pRaw 32) (List.replicate 32 0) s) h hlen hf.h.1 W
  have hgd := guard_hash
  clear hlen
  have HA := hidp (fun W (hW : RdS W g b s) => sHash hW)
  have eN : bkN ⟨3, n, p, bb, oo, cap, L, h, k, x, is⟩ s = rdN (pRaw 32) s := rfl
  unfold BackP
  rw [eN]
  clear eN
  generalize rdV (pRaw 32) (List.replicate 32 0) s = V at *
  generalize rdN (pRaw 32) s = S at *
  clear H hA hf hB hc h4
  go_enter Try.func30, Try.ntmps30
  go_wp2_with fail
  have hR := hidp (HH.out.below (Below.refl _ _).drew)
  have hT := hidp (HI.out.below (Below.refl _ _).drew)
  have hX := hidp (hAx.out.drew)
  clear c0
  refine wp_region_held_drew (S := fun W => BkI w W 3 n p bb oo cap L h k x is) (by kernel_rfl) hT.out (fun hHeld => ?_)
  try simp only [Act.put, List.setIfInBounds_toArray, List.set_cons_zero, List.set_cons_succ]
  refine wpAnyH_takeTo2 (i := 0) (oi := _) (v := ?_) (some 39) rfl rfl (by kernel_rfl) (by kernel_rfl) (by kernel_rfl) (fun _ _ _ h => h) (Or.inl ⟨by rfl, ?_⟩) hHeld ?_
  rotate_left
  · intro w hSw
    go_simp
    try with_reducible rfl
  try simp only [Act.put, List.setIfInBounds_toArray, List.set_cons_zero, List.set_cons_succ]
  refine wpAnyH_takeTo2 (i := 2) (oi := _) (v := ?_) (some 41) rfl rfl (by kernel_rfl) (by kernel_rfl) (by kernel_rfl) (fun _ _ _ h => h) (Or.inl ⟨by rfl, ?_⟩) hHeld ?_
  rotate_left
  · intro w hSw
    go_simp
    try with_reducible rfl
  try simp only [Act.put, List.setIfInBounds_toArray, List.set_cons_zero, List.set_cons_succ]
  refine wpAnyH_takeTo2 (i := 3) (oi := _) (v := .agg (bvs h).toArray) (some 42) rfl rfl (by kernel_rfl) (by kernel_rfl) (by kernel_rfl) (fun _ _ _ h => h) (yieldsIf_load_mid (by rfl) 34 _ rfl (w.heap.size) 3 rfl (bvs h) _ (fun w' hw' => hw'.th.rh) Try.underlying34 rfl (by rw [bvs_len, hF.out.h.1]; kernel_rfl)) hHeld ?_
  try simp only [Act.put, List.setIfInBounds_toArray, List.set_cons_zero, List.set_cons_succ]
  refine wpAnyH_ready (rs := [1]) (by kernel_rfl) (by simp) ?_
  refine AllReadyH.cons (o := _) rfl (fun K hK => ?_) AllReadyH.nil
  go_simp
  refine (HA.out _ hR.out).mono ?_
  rintro e wN ⟨rfl, h1, h2⟩
  replace hT := hidp (hT.out.bex h2 hgl.out hcb.out)
  have hR2 := hidp h1
  replace hX := hidp (hX.out.trans h2)
  clear h1 h2
  go_wp2_with fail
  refine hK.out _ _ (hT.out) (fun hHeld' => ?_)
  clear hK K hHeld
  have hHeld := hHeld'
  clear hHeld'
  try simp only [Act.put, List.setIfInBounds_toArray, List.set_cons_zero, List.set_cons_succ]
  refine wpAnyH_takeTo2 (i := 4) (oi := _) (v := ?_) (some 43) rfl rfl (by kernel_rfl) (by kernel_rfl) (by kernel_rfl) (fun _ _ _ h => h) (Or.inl ⟨by rfl, ?_⟩) hHeld ?_
  rotate_left
  · intro w hSw
    have q := heq w
    go_simp
    try with_reducible rfl
  try simp only [Act.put, List.setIfInBounds_toArray, List.set_cons_zero, List.set_cons_succ]
  refine wpAnyH_takeTo2 (i := 5) (oi := _) (v := ?_) (some 4) rfl rfl (by kernel_rfl) (by kernel_rfl) (by kernel_rfl) (fun _ _ _ h => h) (Or.inl ⟨by rfl, ?_⟩) hHeld ?_
  rotate_left
  · intro w hSw
    go_simp
    try with_reducible rfl
  try simp only [Act.put, List.setIfInBounds_toArray, List.set_cons_zero, List.set_cons_succ]
  refine wpAnyH_done (by kernel_rfl) ?_ _
  go_wp2_with fail
  go_ret
  exact ⟨_, rfl, fun hg => by simp [HV.out hg], hR2.out, hX.out⟩
set_option maxRecDepth 100000 in
set_option maxHeartbeats 4000000 in
theorem back_Key {w : World} {g b : Nat} {s : RS} (H : RdS w g b s) (n : Int) (p : Option Addr) (bb oo cap : Nat) (L h k : List Nat) (x : Nat) (is : Bool) (hf : TgF ⟨4, n, p, bb, oo, cap, L, h, k, x, is⟩) (hB : Bs w p bb oo L cap) (hc : 0 < cap → g ≠ bb) (h4 : s.R.length ≤ 4000000) :
    Calls Try.prog 30 #[.pointer (some ⟨g, 0, none⟩), .agg (thL 4 n p L.length cap h k x is).toArray] w (BackP ⟨4, n, p, bb, oo, cap, L, h, k, x, is⟩ w g b s) := by
  have hA := (Below.refl w.heap.size w).alloc (Nat.le_refl _) (.cells (thL 4 n p L.length cap h k x is).toArray 39)
  have HI := hidp (BkI.start (kd := 4) (n := n) (x := x) (is := is) hf.h hf.k hB)
  have HH := hidp (H.below hA)
  have hAx := hidp (Bex.of_below (g := g) hA)
  have hgl := hidp (show w.heap.size ≠ g by have := H.glt; omega)
  have hcb := hidp hc
  have hF := hidp hf
  have h4' := hidp h4
  have c0 := HI.out.th.c0
  have HV := hidp (fun (hg : Gd ⟨4, n, p, bb, oo, cap, L, h, k, x, is⟩ s) => (show rdV (pRaw 4) (List.replicate 4 0) s = k from by
    obtain ⟨m, Z, rfl⟩ := hg
    exact (bk_step (z := (List.replicate 4 0)) (pr := pRaw 4) (t := m) (Z := Z) (bRaw_ok hf.k.1 Z)).1))
  have hlen := (rdKey_bytes H.byte).1
  have heq := fun W => run_eql_key (rdV (pRaw 4) (List.replicate 4 0) s) k hlen hf.k.1 W
  have hgd := guard_key
  clear hlen
  have HA := hidp (fun W (hW : RdS W g b s) => sKey hW)
  have eN : bkN ⟨4, n, p, bb, oo, cap, L, h, k, x, is⟩ s = rdN (pRaw 4) s := rfl
  unfold BackP
  rw [eN]
  clear eN
  generalize rdV (pRaw 4) (List.replicate 4 0) s = V at *
  generalize rdN (pRaw 4) s = S at *
  clear H hA hf hB hc h4
  go_enter Try.func30, Try.ntmps30
  go_wp2_with fail
  have hR := hidp (HH.out.below (Below.refl _ _).drew)
  have hT := hidp (HI.out.below (Below.refl _ _).drew)
  have hX := hidp (hAx.out.drew)
  clear c0
  refine wp_region_held_drew (S := fun W => BkI w W 4 n p bb oo cap L h k x is) (by kernel_rfl) hT.out (fun hHeld => ?_)
  try simp only [Act.put, List.setIfInBounds_toArray, List.set_cons_zero, List.set_cons_succ]
  refine wpAnyH_takeTo2 (i := 0) (oi := _) (v := ?_) (some 46) rfl rfl (by kernel_rfl) (by kernel_rfl) (by kernel_rfl) (fun _ _ _ h => h) (Or.inl ⟨by rfl, ?_⟩) hHeld ?_
  rotate_left
  · intro w hSw
    go_simp
    try with_reducible rfl
  try simp only [Act.put, List.setIfInBounds_toArray, List.set_cons_zero, List.set_cons_succ]
  refine wpAnyH_takeTo2 (i := 2) (oi := _) (v := ?_) (some 48) rfl rfl (by kernel_rfl) (by kernel_rfl) (by kernel_rfl) (fun _ _ _ h => h) (Or.inl ⟨by rfl, ?_⟩) hHeld ?_
  rotate_left
  · intro w hSw
    go_simp
    try with_reducible rfl
  try simp only [Act.put, List.setIfInBounds_toArray, List.set_cons_zero, List.set_cons_succ]
  refine wpAnyH_takeTo2 (i := 3) (oi := _) (v := .agg (bvs k).toArray) (some 49) rfl rfl (by kernel_rfl) (by kernel_rfl) (by kernel_rfl) (fun _ _ _ h => h) (yieldsIf_load_mid (by rfl) 36 _ rfl (w.heap.size) 35 rfl (bvs k) _ (fun w' hw' => hw'.th.rk) Try.underlying36 rfl (by rw [bvs_len, hF.out.k.1]; kernel_rfl)) hHeld ?_
  try simp only [Act.put, List.setIfInBounds_toArray, List.set_cons_zero, List.set_cons_succ]
  refine wpAnyH_ready (rs := [1]) (by kernel_rfl) (by simp) ?_
  refine AllReadyH.cons (o := _) rfl (fun K hK => ?_) AllReadyH.nil
  go_simp
  refine (HA.out _ hR.out).mono ?_
  rintro e wN ⟨rfl, h1, h2⟩
  replace hT := hidp (hT.out.bex h2 hgl.out hcb.out)
  have hR2 := hidp h1
  replace hX := hidp (hX.out.trans h2)
  clear h1 h2
  go_wp2_with fail
  refine hK.out _ _ (hT.out) (fun hHeld' => ?_)
  clear hK K hHeld
  have hHeld := hHeld'
  clear hHeld'
  try simp only [Act.put, List.setIfInBounds_toArray, List.set_cons_zero, List.set_cons_succ]
  refine wpAnyH_takeTo2 (i := 4) (oi := _) (v := ?_) (some 50) rfl rfl (by kernel_rfl) (by kernel_rfl) (by kernel_rfl) (fun _ _ _ h => h) (Or.inl ⟨by rfl, ?_⟩) hHeld ?_
  rotate_left
  · intro w hSw
    have q := heq w
    go_simp
    try with_reducible rfl
  try simp only [Act.put, List.setIfInBounds_toArray, List.set_cons_zero, List.set_cons_succ]
  refine wpAnyH_takeTo2 (i := 5) (oi := _) (v := ?_) (some 4) rfl rfl (by kernel_rfl) (by kernel_rfl) (by kernel_rfl) (fun _ _ _ h => h) (Or.inl ⟨by rfl, ?_⟩) hHeld ?_
  rotate_left
  · intro w hSw
    go_simp
    try with_reducible rfl
  try simp only [Act.put, List.setIfInBounds_toArray, List.set_cons_zero, List.set_cons_succ]
  refine wpAnyH_done (by kernel_rfl) ?_ _
  go_wp2_with fail
  go_ret
  exact ⟨_, rfl, fun hg => by simp [HV.out hg], hR2.out, hX.out⟩
set_option maxRecDepth 100000 in
set_option maxHeartbeats 4000000 in
theorem back_Text {w : World} {g b : Nat} {s : RS} (H : RdS w g b s) (n : Int) (p : Option Addr) (bb oo cap : Nat) (L h k : List Nat) (x : Nat) (is : Bool) (hf : TgF ⟨1, n, p, bb, oo, cap, L, h, k, x, is⟩) (hB : Bs w p bb oo L cap) (hc : 0 < cap → g ≠ bb) (h4 : s.R.length ≤ 4000000) :
    Calls Try.prog 30 #[.pointer (some ⟨g, 0, none⟩), .agg (thL 1 n p L.length cap h k x is).toArray] w (BackP ⟨1, n, p, bb, oo, cap, L, h, k, x, is⟩ w g b s) := by
  have hA := (Below.refl w.heap.size w).alloc (Nat.le_refl _) (.cells (thL 1 n p L.length cap h k x is).toArray 39)
  have HI := hidp (BkI.start (kd := 1) (n := n) (x := x) (is := is) hf.h hf.k hB)
  have HH := hidp (H.below hA)
  have hAx := hidp (Bex.of_below (g := g) hA)
  have hgl := hidp (show w.heap.size ≠ g by have := H.glt; omega)
  have hcb := hidp hc
  have hF := hidp hf
  have h4' := hidp h4
  have c0 := HI.out.th.c0
  have HV := hidp (fun (hg : Gd ⟨1, n, p, bb, oo, cap, L, h, k, x, is⟩ s) => (show rdV (fun R => pText R (L.length : Nat)) [] s = L from by
    obtain ⟨m, Z, rfl⟩ := hg
    exact (bk_step (z := []) (pr := fun R => pText R (L.length : Nat)) (t := m) (Z := Z) (bText_ok (T := L) (by have := hf.L; simp only at this; omega) Z)).1))
  have HA := hidp (fun W (hW : RdS W g b s) => sText hW (L.length : Nat))
  have eN : bkN ⟨1, n, p, bb, oo, cap, L, h, k, x, is⟩ s = rdN (fun R => pText R (L.length : Nat)) s := rfl
  unfold BackP
  rw [eN]
  clear eN
  generalize rdV (fun R => pText R (L.length : Nat)) [] s = V at *
  generalize rdN (fun R => pText R (L.length : Nat)) s = S at *
  clear H hA hf hB hc h4
  go_enter Try.func30, Try.ntmps30
  go_wp2_with fail
  have hR := hidp (HH.out.below (Below.refl _ _).drew)
  have hT := hidp (HI.out.below (Below.refl _ _).drew)
  have hX := hidp (hAx.out.drew)
  clear c0
  refine wp_region_held_drew (S := fun W => BkI w W 1 n p bb oo cap L h k x is) (by kernel_rfl) hT.out (fun hHeld => ?_)
  try simp only [Act.put, List.setIfInBounds_toArray, List.set_cons_zero, List.set_cons_succ]
  refine wpAnyH_takeTo2 (i := 0) (oi := _) (v := ?_) (some 18) rfl rfl (by kernel_rfl) (by kernel_rfl) (by kernel_rfl) (fun _ _ _ h => h) (Or.inl ⟨by rfl, ?_⟩) hHeld ?_
  rotate_left
  · intro w hSw
    go_simp
    try with_reducible rfl
  try simp only [Act.put, List.setIfInBounds_toArray, List.set_cons_zero, List.set_cons_succ]
  refine wpAnyH_takeTo2 (i := 1) (oi := _) (v := ?_) (some 19) rfl rfl (by kernel_rfl) (by kernel_rfl) (by kernel_rfl) (fun _ _ _ h => h) (Or.inl ⟨by rfl, ?_⟩) hHeld ?_
  rotate_left
  · intro w hSw
    go_simp
    try with_reducible rfl
  try simp only [Act.put, List.setIfInBounds_toArray, List.set_cons_zero, List.set_cons_succ]
  refine wpAnyH_takeTo2 (i := 2) (oi := _) (v := ?_) (some 20) rfl rfl (by kernel_rfl) (by kernel_rfl) (by kernel_rfl) (fun _ _ _ h => h) (Or.inl ⟨by rfl, ?_⟩) hHeld ?_
  rotate_left
  · intro w hSw
    have q := hSw.th.c2
    go_simp
    try with_reducible rfl
  try simp only [Act.put, List.setIfInBounds_toArray, List.set_cons_zero, List.set_cons_succ]
  refine wpAnyH_takeTo2 (i := 3) (oi := _) (v := ?_) (some 21) rfl rfl (by kernel_rfl) (by kernel_rfl) (by kernel_rfl) (fun _ _ _ h => h) (Or.inl ⟨by rfl, ?_⟩) hHeld ?_
  rotate_left
  · intro w hSw
    go_simp
    try with_reducible rfl
  try simp only [Act.put, List.setIfInBounds_toArray, List.set_cons_zero, List.set_cons_succ]
  refine wpAnyH_takeTo2 (i := 5) (oi := _) (v := ?_) (some 23) rfl rfl (by kernel_rfl) (by kernel_rfl) (by kernel_rfl) (fun _ _ _ h => h) (Or.inl ⟨by rfl, ?_⟩) hHeld ?_
  rotate_left
  · intro w hSw
    go_simp
    try with_reducible rfl
  try simp only [Act.put, List.setIfInBounds_toArray, List.set_cons_zero, List.set_cons_succ]
  refine wpAnyH_takeTo2 (i := 6) (oi := _) (v := ?_) (some 24) rfl rfl (by kernel_rfl) (by kernel_rfl) (by kernel_rfl) (fun _ _ _ h => h) (Or.inl ⟨by rfl, ?_⟩) hHeld ?_
  rotate_left
  · intro w hSw
    have q := hSw.th.c2
    go_simp
    try with_reducible rfl
  try simp only [Act.put, List.setIfInBounds_toArray, List.set_cons_zero, List.set_cons_succ]
  refine wpAnyH_takeTo2 (i := 7) (oi := _) (v := ?_) (some 25) rfl rfl (by kernel_rfl) (by kernel_rfl) (by kernel_rfl) (fun _ _ _ h => h) (Or.inl ⟨by rfl, ?_⟩) hHeld ?_
  rotate_left
  · intro w hSw
    have q := conv_bs hSw.bs cap
    go_simp
    try with_reducible rfl
  try simp only [Act.put, List.setIfInBounds_toArray, List.set_cons_zero, List.set_cons_succ]
  refine wpAnyH_ready (rs := [4]) (by kernel_rfl) (by simp) ?_
  refine AllReadyH.cons (o := _) rfl (fun K hK => ?_) AllReadyH.nil
  go_simp
  refine (HA.out _ hR.out).mono ?_
  rintro e wN ⟨rfl, h1, h2⟩
  replace hT := hidp (hT.out.bex h2 hgl.out hcb.out)
  have hR2 := hidp h1
  replace hX := hidp (hX.out.trans h2)
  clear h1 h2
  go_wp2_with fail
  refine hK.out _ _ (hT.out) (fun hHeld' => ?_)
  clear hK K hHeld
  have hHeld := hHeld'
  clear hHeld'
  try simp only [Act.put, List.setIfInBounds_toArray, List.set_cons_zero, List.set_cons_succ]
  refine wpAnyH_takeTo2 (i := 8) (oi := _) (v := ?_) (some 26) rfl rfl (by kernel_rfl) (by kernel_rfl) (by kernel_rfl) (fun _ _ _ h => h) (Or.inl ⟨by rfl, ?_⟩) hHeld ?_
  rotate_left
  · intro w hSw
    go_simp
    try with_reducible rfl
  try simp only [Act.put, List.setIfInBounds_toArray, List.set_cons_zero, List.set_cons_succ]
  refine wpAnyH_takeTo2 (i := 9) (oi := _) (v := ?_) (some 4) rfl rfl (by kernel_rfl) (by kernel_rfl) (by kernel_rfl) (fun _ _ _ h => h) (Or.inl ⟨by rfl, ?_⟩) hHeld ?_
  rotate_left
  · intro w hSw
    go_simp
    try with_reducible rfl
  try simp only [Act.put, List.setIfInBounds_toArray, List.set_cons_zero, List.set_cons_succ]
  refine wpAnyH_done (by kernel_rfl) ?_ _
  go_wp2_with fail
  go_ret
  exact ⟨_, rfl, fun hg => by simp [HV.out hg], hR2.out, hX.out⟩
set_option maxRecDepth 100000 in
set_option maxHeartbeats 4000000 in
theorem back_Bytes {w : World} {g b : Nat} {s : RS} (H : RdS w g b s) (n : Int) (p : Option Addr) (bb oo cap : Nat) (L h k : List Nat) (x : Nat) (is : Bool) (hf : TgF ⟨2, n, p, bb, oo, cap, L, h, k, x, is⟩) (hB : Bs w p bb oo L cap) (hc : 0 < cap → g ≠ bb) (h4 : s.R.length ≤ 4000000) :
    Calls Try.prog 30 #[.pointer (some ⟨g, 0, none⟩), .agg (thL 2 n p L.length cap h k x is).toArray] w (BackP ⟨2, n, p, bb, oo, cap, L, h, k, x, is⟩ w g b s) := by
  have hA := (Below.refl w.heap.size w).alloc (Nat.le_refl _) (.cells (thL 2 n p L.length cap h k x is).toArray 39)
  have HI := hidp (BkI.start (kd := 2) (n := n) (x := x) (is := is) hf.h hf.k hB)
  have HH := hidp (H.below hA)
  have hAx := hidp (Bex.of_below (g := g) hA)
  have hgl := hidp (show w.heap.size ≠ g by have := H.glt; omega)
  have hcb := hidp hc
  have hF := hidp hf
  have h4' := hidp h4
  have c0 := HI.out.th.c0
  have HV := hidp (fun (hg : Gd ⟨2, n, p, bb, oo, cap, L, h, k, x, is⟩ s) => (show rdV (fun R => pText R (L.length : Nat)) [] s = L from by
    obtain ⟨m, Z, rfl⟩ := hg
    exact (bk_step (z := []) (pr := fun R => pText R (L.length : Nat)) (t := m) (Z := Z) (bText_ok (T := L) (by have := hf.L; simp only at this; omega) Z)).1))
  have HA := hidp (fun W (hW : RdS W g b s) => sBytesO hW (L.length : Nat) h4)
  have eN : bkN ⟨2, n, p, bb, oo, cap, L, h, k, x, is⟩ s = rdN (fun R => pText R (L.length : Nat)) s := rfl
  unfold BackP
  rw [eN]
  clear eN
  generalize rdV (fun R => pText R (L.length : Nat)) [] s = V at *
  generalize rdN (fun R => pText R (L.length : Nat)) s = S at *
  clear H hA hf hB hc h4
  go_enter Try.func30, Try.ntmps30
  go_wp2_with fail
  have hR := hidp (HH.out.below (Below.refl _ _).drew)
  have hT := hidp (HI.out.below (Below.refl _ _).drew)
  have hX := hidp (hAx.out.drew)
  clear c0
  refine wp_region_held_drew (S := fun W => BkI w W 2 n p bb oo cap L h k x is) (by kernel_rfl) hT.out (fun hHeld => ?_)
  try simp only [Act.put, List.setIfInBounds_toArray, List.set_cons_zero, List.set_cons_succ]
  refine wpAnyH_takeTo2 (i := 0) (oi := _) (v := ?_) (some 29) rfl rfl (by kernel_rfl) (by kernel_rfl) (by kernel_rfl) (fun _ _ _ h => h) (Or.inl ⟨by rfl, ?_⟩) hHeld ?_
  rotate_left
  · intro w hSw
    go_simp
    try with_reducible rfl
  try simp only [Act.put, List.setIfInBounds_toArray, List.set_cons_zero, List.set_cons_succ]
  refine wpAnyH_takeTo2 (i := 1) (oi := _) (v := ?_) (some 30) rfl rfl (by kernel_rfl) (by kernel_rfl) (by kernel_rfl) (fun _ _ _ h => h) (Or.inl ⟨by rfl, ?_⟩) hHeld ?_
  rotate_left
  · intro w hSw
    go_simp
    try with_reducible rfl
  try simp only [Act.put, List.setIfInBounds_toArray, List.set_cons_zero, List.set_cons_succ]
  refine wpAnyH_takeTo2 (i := 2) (oi := _) (v := ?_) (some 31) rfl rfl (by kernel_rfl) (by kernel_rfl) (by kernel_rfl) (fun _ _ _ h => h) (Or.inl ⟨by rfl, ?_⟩) hHeld ?_
  rotate_left
  · intro w hSw
    have q := hSw.th.c2
    go_simp
    try with_reducible rfl
  try simp only [Act.put, List.setIfInBounds_toArray, List.set_cons_zero, List.set_cons_succ]
  refine wpAnyH_takeTo2 (i := 3) (oi := _) (v := ?_) (some 32) rfl rfl (by kernel_rfl) (by kernel_rfl) (by kernel_rfl) (fun _ _ _ h => h) (Or.inl ⟨by rfl, ?_⟩) hHeld ?_
  rotate_left
  · intro w hSw
    go_simp
    try with_reducible rfl
  try simp only [Act.put, List.setIfInBounds_toArray, List.set_cons_zero, List.set_cons_succ]
  refine wpAnyH_takeTo2 (i := 5) (oi := _) (v := ?_) (some 34) rfl rfl (by kernel_rfl) (by kernel_rfl) (by kernel_rfl) (fun _ _ _ h => h) (Or.inl ⟨by rfl, ?_⟩) hHeld ?_
  rotate_left
  · intro w hSw
    go_simp
    try with_reducible rfl
  try simp only [Act.put, List.setIfInBounds_toArray, List.set_cons_zero, List.set_cons_succ]
  refine wpAnyH_takeTo2 (i := 6) (oi := _) (v := ?_) (some 35) rfl rfl (by kernel_rfl) (by kernel_rfl) (by kernel_rfl) (fun _ _ _ h => h) (Or.inl ⟨by rfl, ?_⟩) hHeld ?_
  rotate_left
  · intro w hSw
    have q := hSw.th.c2
    go_simp
    try with_reducible rfl
  try simp only [Act.put, List.setIfInBounds_toArray, List.set_cons_zero, List.set_cons_succ]
  refine wpAnyH_ready (rs := [4]) (by kernel_rfl) (by simp) ?_
  refine AllReadyH.cons (o := _) rfl (fun K hK => ?_) AllReadyH.nil
  go_simp
  refine (HA.out _ hR.out).mono ?_
  rintro e wN ⟨h0, h1, h2⟩
  obtain ⟨v0, rfl, hfo⟩ := h0
  obtain ⟨pv, bv, cv, rfl, _, _, hbv, _⟩ := hfo
  replace hT := hidp (hT.out.bex h2 hgl.out hcb.out)
  have hR2 := hidp h1
  replace hX := hidp (hX.out.trans h2)
  have HBV := hidp hbv
  clear h1 h2 hbv
  go_wp2_with fail
  refine hK.out _ _ (hT.out) (fun hHeld' => ?_)
  clear hK K hHeld
  have hHeld := hHeld'
  clear hHeld'
  try simp only [Act.put, List.setIfInBounds_toArray, List.set_cons_zero, List.set_cons_succ]
  refine wpAnyH_ready (rs := [7]) (by kernel_rfl) (by simp) ?_
  refine AllReadyH.cons (o := _) rfl (fun K hK => ?_) AllReadyH.nil
  go_simp
  refine (sameBytesG HBV.out hT.out.bs).mono ?_
  rintro e wN ⟨⟨vv, rfl, hvv⟩, rfl⟩
  have HVV := hidp hvv
  clear hvv
  go_wp2_with fail
  refine hK.out _ _ (hT.out) (fun hHeld' => ?_)
  clear hK K hHeld
  have hHeld := hHeld'
  clear hHeld'
  try simp only [Act.put, List.setIfInBounds_toArray, List.set_cons_zero, List.set_cons_succ]
  refine wpAnyH_takeTo2 (i := 8) (oi := _) (v := ?_) (some 4) rfl rfl (by kernel_rfl) (by kernel_rfl) (by kernel_rfl) (fun _ _ _ h => h) (Or.inl ⟨by rfl, ?_⟩) hHeld ?_
  rotate_left
  · intro w hSw
    go_simp
    try with_reducible rfl
  try simp only [Act.put, List.setIfInBounds_toArray, List.set_cons_zero, List.set_cons_succ]
  refine wpAnyH_done (by kernel_rfl) ?_ _
  go_wp2_with fail
  go_ret
  exact ⟨_, rfl, fun hg => HVV.out (HV.out hg), hR2.out, hX.out⟩
end Go.Proofs.Ytbhkjflpkpkdlaa
