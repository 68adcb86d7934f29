/-
  The reference of layer 6: Decode.
-/
import Derived.Test.YtdiklimikkplcaaL6p
import Derived.Deep.RegionHeld
namespace Go.Proofs.Ytdiklimikkplcaa
set_option linter.unusedSimpArgs false
open Go.RowKit Go.Lib

theorem refNew_lt (p : Option Addr) (cap : Nat) (L : List Nat) (w : World) (h : ByS w p cap L) (hn : L.length ≤ 3000000) :
    Calls Try.prog 26 #[.slice p L.length cap] w fun e w' => ∃ g b, e = .returned (.pointer (some ⟨g, 0, none⟩)) ∧ w.heap.size ≤ g ∧ b < w'.heap.size ∧ RdQ w' g b (hS0 L) ∧ Below w.heap.size w w' := by
  refine (refNewReader_any p cap L w h hn).mono ?_
  rintro e w' ⟨g, q, b, c, h1, h2, h3, h4, h5⟩
  by_cases hc : 0 < c
  · exact ⟨g, b, h1, h2, (h4.bs.ptr hc).2, ⟨q, c, L, 0, h4, by omega, fun _ => ⟨rfl, rfl, rfl⟩⟩, h5⟩
  · have hL : L = [] := List.eq_nil_of_length_eq_zero (by have := h4.bs.le; omega)
    subst hL
    exact ⟨g, g, h1, h2, h4.blk.lt, ⟨q, c, [], 0, ⟨h4.blk, ⟨h4.bs.byte, h4.bs.le, fun h => absurd h hc, fun i hi => absurd hi (by simp)⟩, fun h => absurd h hc, h4.le⟩, by simp, fun _ => ⟨rfl, rfl, rfl⟩⟩, h5⟩
theorem strB_sz (most : Int) (s : RS) (hL : s.R.length ≤ 4000000) : (strB (rdV (fun R => pText R most) [] s)).size ≤ 4000000 := by
  rw [strB_size]
  by_cases he : s.e = 0
  · cases hp : pText s.R most with
    | ok v n =>
      rw [rdV_ok (pr := fun R => pText R most) he hp]
      unfold pText at hp
      split at hp
      · cases hp
      · split at hp
        · cases hp
        · cases hp
          rw [List.length_take, List.length_drop]; omega
    | er x => rw [rdV_er (pr := fun R => pText R most) he hp]; simp
  · unfold rdV; rw [if_pos he]; simp
set_option maxRecDepth 100000 in
set_option maxHeartbeats 8000000 in
theorem rDecode_any (p : Option Addr) (cap : Nat) (L : List Nat) (w : World) (h : ByS w p cap L) (hL : L.length ≤ 1000) :
    Calls Try.prog 50 #[.slice p L.length cap] w fun e w' => e = .returned (.tuple #[.agg (hC (decH L).1).toArray, .agg #[.int .i64 ((decH L).2.1 : Nat), .int .i64 ((decH L).2.2 : Nat)]]) ∧ Below w.heap.size w w' := by
  have hz : ∀ w, (zeroValue 68).run Try.prog w = .ok (.agg (hC hdr0).toArray) w := (zero_of_info (P := Try.prog) zero_hdr).1
  have hl0 := hidp (hC_len hdr0_ok)
  have hby := h.byte
  have HOK := rdH_ok hby
  have hsz := hidp (show (rdH L).s.size ≤ 9223372036854775806 by have := strB_sz 32 (hS0 L) (by show L.length ≤ 4000000; omega); show (strB (rdV (fun R => pText R 32) [] (hS0 L))).size ≤ _; omega)
  have HA := hidp (fun o : Obj => ((Below.refl w.heap.size w).alloc (Nat.le_refl _) (.cells (hC hdr0).toArray 68)).alloc (by simp) o)
  have HN := hidp (fun o : Obj => refNew_lt p cap L ((w.alloc (.cells (hC hdr0).toArray 68)).alloc o) (h.below ((HA.out o).mono (by exact Nat.le_refl _))) (by omega))
  have HZ : Hid (HRes w ((w.alloc (.cells (hC hdr0).toArray 68)).alloc (.cells #[.int .i64 0, .int .i64 0] 55)) hdr0 0 0) := hidp ⟨(Blk.new w (hC hdr0) _).alloc _, Blk.new' _ [.int .i64 ((0 : Nat) : Int), .int .i64 ((0 : Nat) : Int)] _ _ (by simp), HA.out _⟩
  clear h hL
  go_enter Try.func50, Try.ntmps50
  go_wp2_with fail
  refine (HN.out _).mono ?_
  rintro e w1 ⟨g, b, rfl, hg, hb, hr, hB⟩
  have hg2 := hidp (show w.heap.size + 1 < g by simp at hg; omega)
  have HR := hidp (HZ.out.below hB)
  have HD := hidp (rGet_any hr hb hby)
  clear hg hb hr hB HN HA HZ
  go_wp2_with fail
  refine HD.out.mono ?_
  rintro e w2 ⟨rfl, h1, hx⟩
  replace HR := hidp (HR.out.bex hx hg2.out)
  have HQ := hidp h1
  clear h1 hx HD
  obtain ⟨x, hx0⟩ : ∃ x, x = rdH L := ⟨_, rfl⟩
  rw [← hx0] at HOK hsz ⊢
  have hlx := hidp (hC_len HOK)
  replace hx0 := hidp hx0
  clear HOK
  go_wp2_with (with_reducible refine (?_ : wpList _ _ _ _ _ _); refine wpList_store_blk rfl 68 _ _ rfl w2.heap.size (hC x) (hC hdr0) 68 rfl rfl (Blk.new w2 (hC hdr0) _) (by rw [hlx.out]; kernel_rfl) (hl0.out.trans hlx.out.symm) (hC_one _) ?_; intro w3 hw3; have T3 := hidp (show Below w2.heap.size w2 w3 by rw [hw3.out]; exact ((Below.refl w2.heap.size w2).alloc (Nat.le_refl _) _).trans (((But.refl w2.heap.size _).setRow _).below (Nat.le_refl _))); have SH := hidp (show Blk w3 w2.heap.size (hC x) 68 by rw [hw3.out]; exact (Blk.new w2 (hC hdr0) _).row); clear hw3)
  have HHl := hidp HR.out.flt.lt
  replace HR := hidp (HR.out.below T3.out)
  replace HQ := hidp (HQ.out.below T3.out)
  clear T3
  refine (refEnd_any HQ.out).mono ?_
  rintro e w4 ⟨rfl, hB⟩
  replace HR := hidp (HR.out.below hB)
  replace SH := hidp (hB.blk' SH.out)
  have HRl := hidp HR.out.flt.lt
  have SHl := hidp SH.out.lt
  clear hB HQ
  obtain ⟨ex, ey, hxy⟩ : ∃ x y, endS (hS7 L) = (x, y) := ⟨_, _, rfl⟩
  rw [hxy]
  have SF := hidp (Blk.new w4 [.int .i64 (ex : Nat), .int .i64 (ey : Nat)] 55)
  have HRf := hidp (fun o : Obj => HR.out.below ((Below.refl w4.heap.size w4).alloc (Nat.le_refl _) o))
  have SHf := hidp (fun o : Obj => SH.out.alloc o)
  clear HR SH
  by_cases h0 : ex = 0
  · subst h0
    have HCk := hidp (fun W => rCheck_any x W hsz.out)
    have hey : ey = 0 := by
      have z := endS_zero (s := hS7 L) (by rw [hxy])
      have q : endS (hS7 L) = (0, 0) := by simp [endS, endE, z.1, z.2]
      rw [hxy] at q
      exact (Prod.mk.inj q).2
    subst hey
    go_wp2_with (with_reducible refine (?_ : wpList _ _ _ _ _ _); refine wpList_load_blk rfl 68 _ rfl w2.heap.size (hC x) 68 rfl (SHf.out _) _ Try.underlying68 rfl (by rw [hlx.out]; kernel_rfl) ?_)
    refine (HCk.out _).mono ?_
    rintro e w5 ⟨rfl, hB⟩
    have HR := hidp ((HRf.out _).below hB)
    have SH := hidp (hB.blk' (SHf.out _))
    replace SF := hidp (hB.blk' SF.out)
    clear hB HCk HRf SHf
    have s0 := SF.out.cell 0
    have s2 := SF.out.free 0
    simp only [List.getElem?_cons_zero] at s0
    obtain ⟨n, hn⟩ : ∃ n, n = chkH x := ⟨_, rfl⟩
    rw [← hn]
    have hnn := hidp hn
    clear hn
    have SF6 := hidp (SF.out.set 0 (.int .i64 (n : Nat)))
    have HR6 := hidp (HRes.bex HR.out ((Bex.refl w4.heap.size w5).setCell 0 (.int .i64 (n : Nat))) HRl.out)
    have SH6 := hidp (SH.out.other ⟨w4.heap.size, 0, none⟩ (.int .i64 (n : Nat)) (by show w2.heap.size ≠ w4.heap.size; have := SHl.out; omega))
    by_cases hc : n = 0
    · subst hc
      have hO := hidp (decH_ok (L := L) (by rw [hxy]) (by rw [← hx0.out]; exact hnn.out.symm))
      rw [← hx0.out] at hO
      go_wp2_with fail
      clear s0 s2
      obtain ⟨w6, hw6⟩ : ∃ W, W = w5.setCell ⟨w4.heap.size, 0, none⟩ (.int .i64 0) := ⟨_, rfl⟩
      have hw6' : w5.setCell ⟨w4.heap.size, 0, none⟩ (.int .i64 ((0 : Nat) : Int)) = w6 := hw6.symm
      rw [hw6'] at SF6 HR6 SH6
      rw [← hw6]
      clear hw6 hw6' HR SH SF
      have HR := HR6
      have SH := SH6
      have SF : Hid (Blk w6 w4.heap.size [.int .i64 ((0 : Nat) : Int), .int .i64 ((0 : Nat) : Int)] 55) := SF6
      refine wp_region_held_drew (S := (fun w' => Blk w' w4.heap.size [.int .i64 (0 : Nat), .int .i64 (0 : Nat)] 55 ∧ Blk w' w2.heap.size (hC x) 68)) (by kernel_rfl) ⟨SF.out.drew, SH.out.drew⟩ (fun hS0 => ?_)
      refine wpAnyH_takeTo2 (i := 0) (oi := _) (v := .agg (hC x).toArray) (some 24) rfl rfl (by kernel_rfl) (by kernel_rfl) (by kernel_rfl) (fun _ _ _ h => h) (yieldsIf_load_mid rfl 68 _ rfl (w2.heap.size) 0 rfl (hC x) _ (fun w h j v hj => by rw [Nat.zero_add]; exact (h.2.cell j).trans hj) Try.underlying68 rfl (by rw [hlx.out]; kernel_rfl)) hS0 ?_
      try simp only [Act.put, List.setIfInBounds_toArray, List.set_cons_zero, List.set_cons_succ]
      refine wpAnyH_takeTo2 (i := 1) (oi := _) (v := .agg [.int .i64 (0 : Nat), .int .i64 (0 : Nat)].toArray) (some 25) rfl rfl (by kernel_rfl) (by kernel_rfl) (by kernel_rfl) (fun _ _ _ h => h) (yieldsIf_load_mid rfl 55 _ rfl (w4.heap.size) 0 rfl [.int .i64 (0 : Nat), .int .i64 (0 : Nat)] _ (fun w h j v hj => by rw [Nat.zero_add]; exact (h.1.cell j).trans hj) Try.underlying55 rfl (by kernel_rfl)) hS0 ?_
      try simp only [Act.put, List.setIfInBounds_toArray, List.set_cons_zero, List.set_cons_succ]
      refine wpAnyH_ready (rs := [2]) (by kernel_rfl) (by simp) ?_
      refine AllReadyH.cons (o := _) rfl (fun K hK => ?_) AllReadyH.nil
      refine if_intro (by rfl) ?_
      refine wp_store_row 68 _ _ rfl w.heap.size (hC x).toArray rfl rfl 68 (hC hdr0).toArray HR.out.drew.res (by rw [List.size_toArray, hlx.out]; kernel_rfl) (by simp [hl0.out, hlx.out]) (hC_one _) ?_
      obtain ⟨w13, hw13⟩ : ∃ W, W = (w6.drew).setRow w.heap.size (hC x).toArray := ⟨_, rfl⟩
      have F1 := hidp (show HRes w w13 x 0 0 by rw [hw13]; exact HR.out.drew.row x)
      have L11 := hidp (show w4.heap.size ≠ w.heap.size + 1 by have := HRl.out; omega)
      have L12 := hidp (show w4.heap.size ≠ w.heap.size by have := HRl.out; omega)
      have S1 := hidp (show Blk w13 w4.heap.size [.int .i64 (0 : Nat), .int .i64 (0 : Nat)] 55 by rw [hw13]; exact ((But.refl w.heap.size _).setRow _).blk hS0.1 L12.out)
      have L13 := hidp (show (w2.heap.size) ≠ w.heap.size + 1 ∧ (w2.heap.size) ≠ w.heap.size by have := HHl.out; omega)
      have S1h := hidp (show Blk w13 (w2.heap.size) (hC x) 68 by rw [hw13]; exact ((But.refl w.heap.size _).setRow _).blk hS0.2 L13.out.2)
      rw [← hw13]
      clear hw13
      refine hK.out _ _ ⟨S1.out, S1h.out⟩ (fun _ => ?_)
      clear hK K
      try simp only [Act.put, List.setIfInBounds_toArray, List.set_cons_zero, List.set_cons_succ]
      refine wpAnyH_ready (rs := [3]) (by kernel_rfl) (by simp) ?_
      refine AllReadyH.cons (o := _) rfl (fun K hK => ?_) AllReadyH.nil
      refine if_intro (by rfl) ?_
      obtain ⟨k0, k1, k2, k3⟩ := F1.out.fc
      go_simp
      have F2 := hidp (F1.out.fin 0 0)
      have S2 := hidp (show Blk ((w13.setCell ⟨w.heap.size + 1, 0, none⟩ (.int .i64 (0 : Nat))).setCell ⟨w.heap.size + 1, 1, none⟩ (.int .i64 (0 : Nat))) w4.heap.size [.int .i64 (0 : Nat), .int .i64 (0 : Nat)] 55 from (S1.out.other _ _ L11.out).other _ _ L11.out)
      have S2h := hidp (show Blk ((w13.setCell ⟨w.heap.size + 1, 0, none⟩ (.int .i64 (0 : Nat))).setCell ⟨w.heap.size + 1, 1, none⟩ (.int .i64 (0 : Nat))) (w2.heap.size) (hC x) 68 from (S1h.out.other _ _ L13.out.1).other _ _ L13.out.1)
      try simp only [show ((0 : Nat) : Int) = 0 from rfl] at F2 S2 S2h
      refine hK.out _ _ ⟨S2.out, S2h.out⟩ (fun _ => ?_)
      clear hK K
      try simp only [Act.put, List.setIfInBounds_toArray, List.set_cons_zero, List.set_cons_succ]
      refine wpAnyH_done (by kernel_rfl) ?_ _
      clear k0 k1 k2 k3
      generalize (World.setCell _ _ _) = W at F2 ⊢
      go_wp2
      refine bodyPost_ret (v := .tuple #[.agg (hC x).toArray, .agg [.int .i64 (0 : Nat), .int .i64 (0 : Nat)].toArray]) ?_ rfl ⟨by rw [hO.out], F2.out.bel⟩
      exact results_rows2 Try.results50 _ _ w.heap.size 68 _ _ (w.heap.size + 1) 55 _ _ rfl F2.out.res Try.underlying68 rfl (by rw [hlx.out]; kernel_rfl) rfl F2.out.flt Try.underlying55 rfl (by kernel_rfl)
    · have hO := hidp (decH_chk (L := L) (by rw [hxy]) (by rw [← hx0.out, ← hnn.out]; exact hc))
      rw [← hx0.out, ← hnn.out] at hO
      have hbn : (((n : Nat) : Int) != 0) = true := by rw [bne_iff_ne]; omega
      go_wp2_with fail
      clear s0 s2 hc
      obtain ⟨w6, hw6⟩ : ∃ W, W = w5.setCell ⟨w4.heap.size, 0, none⟩ (.int .i64 (n : Nat)) := ⟨_, rfl⟩
      rw [← hw6] at SF6 HR6 SH6 ⊢
      clear hw6 HR SH SF
      have HR := HR6
      have SF : Hid (Blk w6 w4.heap.size [.int .i64 (n : Nat), .int .i64 ((0 : Nat) : Int)] 55) := SF6
      refine wp_region_held_drew (S := (fun w' => Blk w' w4.heap.size [.int .i64 (n : Nat), .int .i64 (0 : Nat)] 55)) (by kernel_rfl) SF.out.drew (fun hS0 => ?_)
      refine wpAnyH_takeTo2 (i := 0) (oi := _) (v := .agg (hC hdr0).toArray) (some 22) rfl rfl (by kernel_rfl) (by kernel_rfl) (by kernel_rfl) (fun _ _ _ h => h) (yieldsIf_build rfl 68 _ rfl (hC hdr0).toArray (by kernel_rfl)) hS0 ?_
      try simp only [Act.put, List.setIfInBounds_toArray, List.set_cons_zero, List.set_cons_succ]
      refine wpAnyH_takeTo2 (i := 1) (oi := _) (v := .agg [.int .i64 (n : Nat), .int .i64 (0 : Nat)].toArray) (some 23) rfl rfl (by kernel_rfl) (by kernel_rfl) (by kernel_rfl) (fun _ _ _ h => h) (yieldsIf_load_mid rfl 55 _ rfl (w4.heap.size) 0 rfl [.int .i64 (n : Nat), .int .i64 (0 : Nat)] _ (fun w h j v hj => by rw [Nat.zero_add]; exact (h.cell j).trans hj) Try.underlying55 rfl (by kernel_rfl)) hS0 ?_
      try simp only [Act.put, List.setIfInBounds_toArray, List.set_cons_zero, List.set_cons_succ]
      refine wpAnyH_ready (rs := [2]) (by kernel_rfl) (by simp) ?_
      refine AllReadyH.cons (o := _) rfl (fun K hK => ?_) AllReadyH.nil
      refine if_intro (by rfl) ?_
      refine wp_store_row 68 _ _ rfl w.heap.size (hC hdr0).toArray rfl rfl 68 (hC hdr0).toArray HR.out.drew.res (by rw [List.size_toArray, hl0.out]; kernel_rfl) (by simp [hl0.out, hl0.out]) (hC_one _) ?_
      obtain ⟨w13, hw13⟩ : ∃ W, W = (w6.drew).setRow w.heap.size (hC hdr0).toArray := ⟨_, rfl⟩
      have F1 := hidp (show HRes w w13 hdr0 0 0 by rw [hw13]; exact HR.out.drew.row hdr0)
      have L11 := hidp (show w4.heap.size ≠ w.heap.size + 1 by have := HRl.out; omega)
      have L12 := hidp (show w4.heap.size ≠ w.heap.size by have := HRl.out; omega)
      have S1 := hidp (show Blk w13 w4.heap.size [.int .i64 (n : Nat), .int .i64 (0 : Nat)] 55 by rw [hw13]; exact ((But.refl w.heap.size _).setRow _).blk hS0 L12.out)
      rw [← hw13]
      clear hw13
      refine hK.out _ _ S1.out (fun _ => ?_)
      clear hK K
      try simp only [Act.put, List.setIfInBounds_toArray, List.set_cons_zero, List.set_cons_succ]
      refine wpAnyH_ready (rs := [3]) (by kernel_rfl) (by simp) ?_
      refine AllReadyH.cons (o := _) rfl (fun K hK => ?_) AllReadyH.nil
      refine if_intro (by rfl) ?_
      obtain ⟨k0, k1, k2, k3⟩ := F1.out.fc
      go_simp
      have F2 := hidp (F1.out.fin n 0)
      have S2 := hidp (show Blk ((w13.setCell ⟨w.heap.size + 1, 0, none⟩ (.int .i64 (n : Nat))).setCell ⟨w.heap.size + 1, 1, none⟩ (.int .i64 (0 : Nat))) w4.heap.size [.int .i64 (n : Nat), .int .i64 (0 : Nat)] 55 from (S1.out.other _ _ L11.out).other _ _ L11.out)
      try simp only [show ((0 : Nat) : Int) = 0 from rfl] at F2 S2
      refine hK.out _ _ S2.out (fun _ => ?_)
      clear hK K
      try simp only [Act.put, List.setIfInBounds_toArray, List.set_cons_zero, List.set_cons_succ]
      refine wpAnyH_done (by kernel_rfl) ?_ _
      clear k0 k1 k2 k3
      generalize (World.setCell _ _ _) = W at F2 ⊢
      go_wp2
      refine bodyPost_ret (v := .tuple #[.agg (hC hdr0).toArray, .agg [.int .i64 (n : Nat), .int .i64 (0 : Nat)].toArray]) ?_ rfl ⟨by rw [hO.out], F2.out.bel⟩
      exact results_rows2 Try.results50 _ _ w.heap.size 68 _ _ (w.heap.size + 1) 55 _ _ rfl F2.out.res Try.underlying68 rfl (by rw [hl0.out]; kernel_rfl) rfl F2.out.flt Try.underlying55 rfl (by kernel_rfl)
  · have hO := hidp (decH_end (L := L) (by rw [hxy]; exact h0))
    rw [hxy] at hO
    have hbn : (((ex : Nat) : Int) != 0) = true := by rw [bne_iff_ne]; omega
    have hbe : (((ex : Nat) : Int) == 0) = false := by rw [beq_eq_false_iff_ne]; omega
    clear h0
    go_wp2_with fail
    have HR := hidp (HRf.out (.cells #[.int .i64 (ex : Nat), .int .i64 (ey : Nat)] 55))
    clear HRf SHf
    refine wp_region_held_drew (S := (fun w' => Blk w' w4.heap.size [.int .i64 (ex : Nat), .int .i64 (ey : Nat)] 55)) (by kernel_rfl) SF.out.drew (fun hS0 => ?_)
    refine wpAnyH_takeTo2 (i := 0) (oi := _) (v := .agg (hC hdr0).toArray) (some 22) rfl rfl (by kernel_rfl) (by kernel_rfl) (by kernel_rfl) (fun _ _ _ h => h) (yieldsIf_build rfl 68 _ rfl (hC hdr0).toArray (by kernel_rfl)) hS0 ?_
    try simp only [Act.put, List.setIfInBounds_toArray, List.set_cons_zero, List.set_cons_succ]
    refine wpAnyH_takeTo2 (i := 1) (oi := _) (v := .agg [.int .i64 (ex : Nat), .int .i64 (ey : Nat)].toArray) (some 23) rfl rfl (by kernel_rfl) (by kernel_rfl) (by kernel_rfl) (fun _ _ _ h => h) (yieldsIf_load_mid rfl 55 _ rfl (w4.heap.size) 0 rfl [.int .i64 (ex : Nat), .int .i64 (ey : Nat)] _ (fun w h j v hj => by rw [Nat.zero_add]; exact (h.cell j).trans hj) Try.underlying55 rfl (by kernel_rfl)) hS0 ?_
    try simp only [Act.put, List.setIfInBounds_toArray, List.set_cons_zero, List.set_cons_succ]
    refine wpAnyH_ready (rs := [2]) (by kernel_rfl) (by simp) ?_
    refine AllReadyH.cons (o := _) rfl (fun K hK => ?_) AllReadyH.nil
    refine if_intro (by rfl) ?_
    refine wp_store_row 68 _ _ rfl w.heap.size (hC hdr0).toArray rfl rfl 68 (hC hdr0).toArray HR.out.drew.res (by rw [List.size_toArray, hl0.out]; kernel_rfl) (by simp [hl0.out, hl0.out]) (hC_one _) ?_
    obtain ⟨w13, hw13⟩ : ∃ W, W = ((w4.alloc (.cells #[.int .i64 (ex : Nat), .int .i64 (ey : Nat)] 55)).drew).setRow w.heap.size (hC hdr0).toArray := ⟨_, rfl⟩
    have F1 := hidp (show HRes w w13 hdr0 0 0 by rw [hw13]; exact HR.out.drew.row hdr0)
    have L11 := hidp (show w4.heap.size ≠ w.heap.size + 1 by have := HRl.out; omega)
    have L12 := hidp (show w4.heap.size ≠ w.heap.size by have := HRl.out; omega)
    have S1 := hidp (show Blk w13 w4.heap.size [.int .i64 (ex : Nat), .int .i64 (ey : Nat)] 55 by rw [hw13]; exact ((But.refl w.heap.size _).setRow _).blk hS0 L12.out)
    rw [← hw13]
    clear hw13
    refine hK.out _ _ S1.out (fun _ => ?_)
    clear hK K
    try simp only [Act.put, List.setIfInBounds_toArray, List.set_cons_zero, List.set_cons_succ]
    refine wpAnyH_ready (rs := [3]) (by kernel_rfl) (by simp) ?_
    refine AllReadyH.cons (o := _) rfl (fun K hK => ?_) AllReadyH.nil
    refine if_intro (by rfl) ?_
    obtain ⟨k0, k1, k2, k3⟩ := F1.out.fc
    go_simp
    have F2 := hidp (F1.out.fin ex ey)
    have S2 := hidp (show Blk ((w13.setCell ⟨w.heap.size + 1, 0, none⟩ (.int .i64 (ex : Nat))).setCell ⟨w.heap.size + 1, 1, none⟩ (.int .i64 (ey : Nat))) w4.heap.size [.int .i64 (ex : Nat), .int .i64 (ey : Nat)] 55 from (S1.out.other _ _ L11.out).other _ _ L11.out)
    try simp only [show ((0 : Nat) : Int) = 0 from rfl] at F2 S2
    refine hK.out _ _ S2.out (fun _ => ?_)
    clear hK K
    try simp only [Act.put, List.setIfInBounds_toArray, List.set_cons_zero, List.set_cons_succ]
    refine wpAnyH_done (by kernel_rfl) ?_ _
    clear k0 k1 k2 k3
    generalize (World.setCell _ _ _) = W at F2 ⊢
    go_wp2
    refine bodyPost_ret (v := .tuple #[.agg (hC hdr0).toArray, .agg [.int .i64 (ex : Nat), .int .i64 (ey : Nat)].toArray]) ?_ rfl ⟨by rw [hO.out], F2.out.bel⟩
    exact results_rows2 Try.results50 _ _ w.heap.size 68 _ _ (w.heap.size + 1) 55 _ _ rfl F2.out.res Try.underlying68 rfl (by rw [hl0.out]; kernel_rfl) rfl F2.out.flt Try.underlying55 rfl (by kernel_rfl)
end Go.Proofs.Ytdiklimikkplcaa
