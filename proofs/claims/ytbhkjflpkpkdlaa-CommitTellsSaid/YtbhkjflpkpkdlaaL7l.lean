/-
  Commit: the laws' commits by places and signatures in turns.
-/
import Derived.Test.YtbhkjflpkpkdlaaL7k
namespace Go.Proofs.Ytbhkjflpkpkdlaa
open Go.RowKit Go.Lib
set_option linter.unusedSimpArgs false

def ph1 : List Nat := 1 :: List.replicate 31 0
theorem ph1_len : ph1.length = 32 := rfl
theorem ph1_bytes : Bytes 32 ph1 := ⟨rfl, fun x hx => by
  rcases List.mem_cons.1 hx with rfl | h
  · decide
  · rw [List.eq_of_mem_replicate h]; decide⟩
theorem results_row0 {P : Program} {fn : Func} {p : Tmp} {ty : TypeId} (h : fn.results = #[.cell p ty]) (tmps : Array Value) (w : World) (g : Nat) (t : TypeId) (cs : List Value) (d : TypeDesc)
    (hp : tmps.getD p undef = .pointer (some ⟨g, 0, none⟩)) (hb : Blk w g cs t) (hu : P.underlying ty = some d) (hd : (match d with | .struct _ | .array _ _ => true | _ => false) = true) (hi : (P.info? ty).map (·.size) = some cs.length) :
    (results fn tmps).run P w = .ok (.agg cs.toArray) w := by
  have hr := run_loadVar_row (P := P) w g t ty cs.toArray (0, 0) d hb hu hd (by simpa using hi)
  have hp' : tmps[p]?.getD undef = .pointer (some ⟨g, 0, none⟩) := by simpa using hp
  simp only [results, h]
  simp [hp', asAddr, hr, Sem.run_bind, Result.andThen]
/-- A commit under way, its box and the row of its votes. -/
structure OfI (w W : World) (hgt : Int) (sb so : Value) (lo : List Vt) : Prop where
  res : Blk W w.heap.size (cC 0 zh32 (.slice none 0 0)) 63
  blk : Blk W (w.heap.size + 1) (cC hgt ph1 sb) 63
  own : OwnT W (w.heap.size + 2) so lo
  bel : Below w.heap.size w W
theorem OfI.big {w W : World} {hgt : Int} {sb so : Value} {lo : List Vt} (H : OfI w W hgt sb so lo) : w.heap.size + 2 ≤ W.heap.size := H.blk.lt
theorem OfI.drew {w W : World} {hgt : Int} {sb so : Value} {lo : List Vt} (H : OfI w W hgt sb so lo) : OfI w W.drew hgt sb so lo := ⟨H.res.drew, H.blk.drew, H.own.below (Below.refl _ _).drew, H.bel.drew⟩
theorem OfI.below {w W W' : World} {hgt : Int} {sb so : Value} {lo : List Vt} (H : OfI w W hgt sb so lo) (hb : Below W.heap.size W W') : OfI w W' hgt sb so lo := ⟨hb.blk' H.res, hb.blk' H.blk, H.own.below hb, H.bel.trans (hb.mono H.bel.size)⟩
theorem OfI.app {w W W' : World} {hgt : Int} {sb so so' : Value} {lo : List Vt} {v : Vt} (H : OfI w W hgt sb so lo) (hg : W.grownBy W' so.ownBlock) (ho : W'.ownsRow (w.heap.size + 2) 83 2 so' (lo.length + 1) (lo.flatMap tL ++ tL v)) : OfI w W' hgt sb so' (lo ++ [v]) := by
  have hne : ∀ x, x < w.heap.size + 2 → so.ownBlock ≠ some x := fun x hx e => by have := (H.own.lt e).1; omega
  have b1 : Below (w.heap.size + 2) W W' := (Below.refl _ W).grown hg H.big (fun k hk => (H.own.lt hk).1)
  exact ⟨H.res.below b1 (by omega), H.blk.below b1 (by omega), OwnT.snoc ho, H.bel.trans (b1.mono (by omega))⟩
theorem OfI.set {w W : World} {hgt : Int} {sb so : Value} {lo : List Vt} (H : OfI w W hgt sb so lo) : OfI w (W.setCell ⟨w.heap.size + 1, 33, none⟩ so) hgt so so lo :=
  ⟨H.res.other _ _ (by simp), cC_set (s2 := so) ph1_len ▸ H.blk.set 33 so, H.own.bex (g := w.heap.size + 1) ((Bex.refl _ W).setCell 33 so) (by omega), H.bel.setCell (p := ⟨w.heap.size + 1, 33, none⟩) (by simp) so⟩
set_option maxRecDepth 100000 in
set_option maxHeartbeats 8000000 in
theorem of_any (hgt : Int) (a : Option Addr) (b cap : Nat) (l : List Vt) (w : World) (hrow : ∀ j v, l[j]? = some v → a = some ⟨b, 0, none⟩ ∧ w.cell? ⟨b, j * 2, none⟩ = some (.int .i64 v.a) ∧ w.cell? ⟨b, j * 2 + 1, none⟩ = some (.int .i64 (v.s : Nat))) (N2 : Nat) (hN2 : N2 = l.length * 2) (hn : l.length ≤ 100) (hok : ∀ v ∈ l, v.s ≤ 1000) :
    Calls Try.prog 102 #[.int .i64 hgt, .slice a N2 cap] w fun e w' => ∃ sv, e = .returned (.agg (cC hgt ph1 sv).toArray) ∧ OwnT w' w.heap.size sv l ∧ Below w.heap.size w w' := by
  obtain ⟨i0, hi0, hz0, hz1, hz2⟩ := info_parts info_vote
  have hzz : ∀ w, (zeroValue 63).run Try.prog w = .ok (.agg (cC 0 zh32 (.slice none 0 0)).toArray) w := (zero_of_info (P := Try.prog) zero_com).1
  have hl0 := hidp (cC_len (h := 0) (sl := .slice none 0 0) (p := zh32) rfl)
  have hl1 := hidp (cC_len (h := hgt) (sl := .slice none 0 0) (p := ph1) rfl)
  have ho1 := hidp (cC_one hgt ph1 none 0 0)
  have HR := hidp hrow
  have HN := hidp (And.intro hn hN2)
  have HO := hidp hok
  have HK0 := hidp ((Blk.new w (cC 0 zh32 (.slice none 0 0)) 63).alloc (.cells (cC 0 zh32 (.slice none 0 0)).toArray 63))
  have HZ := hidp (Blk.new' (w.alloc (.cells (cC 0 zh32 (.slice none 0 0)).toArray 63)) (cC 0 zh32 (.slice none 0 0)) 63 (w.heap.size + 1) (by simp))
  have HB := hidp ((Below.refl w.heap.size w).alloc (Nat.le_refl _) (.cells (cC 0 zh32 (.slice none 0 0)).toArray 63))
  have hz4 := hidp (Blk.new w (cC 0 zh32 (.slice none 0 0)) 63)
  clear hrow hn hok hN2
  go_enter Try.func102, Try.ntmps102
  go_wp2_with first
    | (with_reducible refine (?_ : wpList _ _ _ _ _ _); refine wpList_buildTo rfl 34 _ rfl _ rfl (bvs ph1).toArray (by kernel_rfl) ?_)
    | (with_reducible refine (?_ : wpList _ _ _ _ _ _); refine wpList_buildTo rfl 63 _ rfl _ rfl (cC hgt ph1 (.slice none 0 0)).toArray (by kernel_rfl) ?_)
    | (with_reducible refine (?_ : wpList _ _ _ _ _ _); refine wpList_store_blk rfl 63 _ _ rfl (w.heap.size + 1) (cC hgt ph1 (.slice none 0 0)) (cC 0 zh32 (.slice none 0 0)) 63 rfl rfl HZ.out (by rw [hl1.out]; kernel_rfl) (by rw [hl1.out, hl0.out]) ho1.out ?_; intro w1 hw1; have hN1 := hidp (new_row hw1.out (by simp)))
  have H0 : Hid (OfI w w1 hgt (.slice none 0 0) (.slice none 0 0) []) := hidp ⟨hN1.out.1.blk' hz4.out, hN1.out.2, OwnT.nil _ _, HB.out.trans (hN1.out.1.mono HB.out.size)⟩
  clear HK0 HZ HB hz4 hN1
  go_wp2_with fail
  go_loopw [6] (fun x wr => ∃ (i q : Nat) (sv : Value), Hid (q = i * 2 ∧ i ≤ l.length) ∧ x = .int .i64 (q : Nat) ∧ Hid (OfI w wr hgt sv sv (l.take i))) (fun x _ => N2 - (Go.RowKit.intOf x).toNat)
  case atStart => exact ⟨0, 0, _, hidp ⟨rfl, by omega⟩, rfl, H0⟩
  case round =>
    obtain ⟨i, q, sv, hi, rfl, hr⟩ := hrel
    clear H0
    have hq200 : q ≤ 200 := by have := HN.out.1; have := hi.out; omega
    have hadd : wrap64 ((q : Int) + 1) = (q : Int) + 1 := by rw [w64 _ (by omega)]
    have haddI : IntKind.i64.wrap ((q : Int) + 1) = (q : Int) + 1 := by rw [IntKind.wrap_i64]; omega
    have hadd2 : wrap64 ((q : Int) + 2) = ((q + 2 : Nat) : Int) := by rw [w64 _ (by omega)]; omega
    by_cases hlt : i < l.length
    · have hv := hidp (List.getElem?_eq_getElem hlt)
      obtain ⟨v, hve⟩ : ∃ v, v = l[i] := ⟨_, rfl⟩
      rw [← hve] at hv
      obtain ⟨ha, c0, c1⟩ := HR.out i v hv.out
      rw [← hi.out.1] at c0 c1
      have hvs := HO.out v (List.mem_of_getElem? hv.out)
      have hcv : IntKind.u64.wrap (v.s : Int) = (v.s : Int) := by rw [IntKind.wrap_u64]; omega
      have hbl := cell_lt c0
      have HS0 := hidp (show ∀ W, Below w.heap.size w W → W.cell? ⟨b, q, none⟩ = some (.int .i64 v.a) ∧ W.cell? ⟨b, q + 1, none⟩ = some (.int .i64 (v.s : Nat)) from fun W hW => ⟨(hW.cell (p := ⟨b, q, none⟩) hbl).trans c0, (hW.cell (p := ⟨b, q + 1, none⟩) hbl).trans c1⟩)
      obtain ⟨s0, s1⟩ := HS0.out wr hr.out.bel
      have htk := hidp (show l.take (i + 1) = l.take i ++ [v] by rw [hve]; exact List.take_succ_eq_append_getElem hlt)
      have hbg := hidp (show (l.take i).length + 1 ≤ maxLen ∧ ((l.take i).length + 1) * 16 ≤ 140737488355328 by rw [List.length_take]; have := HN.out.1; unfold maxLen; omega)
      have hdec := hidp (show N2 - ((q + 2 : Nat) : Int).toNat < N2 - ((q : Nat) : Int).toNat by have := HN.out.2; have := hi.out; omega)
      have hlt1 : (q : Int) < (N2 : Int) := by have := HN.out.2; have := hi.out; omega
      have hlt2 : (q : Int) + 1 < (N2 : Int) := by have := HN.out.2; have := hi.out; omega
      have hge : (0 : Int) ≤ (q : Int) + 1 := by omega
      have hlt3 : q < N2 := by omega
      have hlt4 : q + 1 < N2 := by omega
      replace hi := hidp (And.intro hi.out.1 (And.intro hi.out.2 hlt))
      obtain ⟨L0, hL0⟩ : ∃ L0, L0 = l.take i := ⟨_, rfl⟩
      rw [← hL0] at hr htk hbg
      clear hL0
      subst ha
      clear hve hvs hlt c0 c1
      go_wp2_with fail
      have hT := hidp (hr.out.drew)
      refine wp_region_held_drew (S := (fun W => W.cell? ⟨b, q, none⟩ = some (.int .i64 v.a) ∧ W.cell? ⟨b, q + 1, none⟩ = some (.int .i64 (v.s : Nat)))) (by kernel_rfl) (HS0.out _ hT.out.bel) (fun hHeld => ?_)
      try simp only [Act.put, List.setIfInBounds_toArray, List.set_cons_zero, List.set_cons_succ]
      refine wpAnyH_takeTo2 (i := 0) (oi := _) (v := ?_) (some 17) rfl rfl (by kernel_rfl) (by kernel_rfl) (by kernel_rfl) (fun _ _ _ h => h) (Or.inl ⟨by rfl, ?_⟩) hHeld ?_
      rotate_left
      · intro w hSw
        obtain ⟨k0, k1⟩ := hSw
        go_simp
        try with_reducible rfl
      try simp only [Act.put, List.setIfInBounds_toArray, List.set_cons_zero, List.set_cons_succ]
      refine wpAnyH_takeTo2 (i := 2) (oi := _) (v := ?_) (some 19) rfl rfl (by kernel_rfl) (by kernel_rfl) (by kernel_rfl) (fun _ _ _ h => h) (Or.inl ⟨by rfl, ?_⟩) hHeld ?_
      rotate_left
      · intro w hSw
        obtain ⟨k0, k1⟩ := hSw
        go_simp
        try with_reducible rfl
      try simp only [Act.put, List.setIfInBounds_toArray, List.set_cons_zero, List.set_cons_succ]
      refine wpAnyH_takeTo2 (i := 3) (oi := _) (v := ?_) (some 20) rfl rfl (by kernel_rfl) (by kernel_rfl) (by kernel_rfl) (fun _ _ _ h => h) (Or.inl ⟨by rfl, ?_⟩) hHeld ?_
      rotate_left
      · intro w hSw
        obtain ⟨k0, k1⟩ := hSw
        go_simp
        try with_reducible rfl
      try simp only [Act.put, List.setIfInBounds_toArray, List.set_cons_zero, List.set_cons_succ]
      refine wpAnyH_takeTo2 (i := 4) (oi := _) (v := ?_) (some 21) rfl rfl (by kernel_rfl) (by kernel_rfl) (by kernel_rfl) (fun _ _ _ h => h) (Or.inl ⟨by rfl, ?_⟩) hHeld ?_
      rotate_left
      · intro w hSw
        obtain ⟨k0, k1⟩ := hSw
        go_simp
        try with_reducible rfl
      try simp only [Act.put, List.setIfInBounds_toArray, List.set_cons_zero, List.set_cons_succ]
      refine wpAnyH_takeTo2 (i := 5) (oi := _) (v := ?_) (some 22) rfl rfl (by kernel_rfl) (by kernel_rfl) (by kernel_rfl) (fun _ _ _ h => h) (Or.inl ⟨by rfl, ?_⟩) hHeld ?_
      rotate_left
      · intro w hSw
        obtain ⟨k0, k1⟩ := hSw
        go_simp
        try with_reducible rfl
      try simp only [Act.put, List.setIfInBounds_toArray, List.set_cons_zero, List.set_cons_succ]
      refine wpAnyH_takeTo2 (i := 6) (oi := _) (v := ?_) (some 23) rfl rfl (by kernel_rfl) (by kernel_rfl) (by kernel_rfl) (fun _ _ _ h => h) (Or.inl ⟨by rfl, ?_⟩) hHeld ?_
      rotate_left
      · intro w hSw
        obtain ⟨k0, k1⟩ := hSw
        go_simp
        try with_reducible rfl
      try simp only [Act.put, List.setIfInBounds_toArray, List.set_cons_zero, List.set_cons_succ]
      refine wpAnyH_takeTo2 (i := 7) (oi := _) (v := ?_) (some 24) rfl rfl (by kernel_rfl) (by kernel_rfl) (by kernel_rfl) (fun _ _ _ h => h) (Or.inl ⟨by rfl, ?_⟩) hHeld ?_
      rotate_left
      · intro w hSw
        obtain ⟨k0, k1⟩ := hSw
        go_simp
        try with_reducible rfl
      try simp only [Act.put, List.setIfInBounds_toArray, List.set_cons_zero, List.set_cons_succ]
      refine wpAnyH_takeTo2 (i := 8) (oi := _) (v := ?_) (some 25) rfl rfl (by kernel_rfl) (by kernel_rfl) (by kernel_rfl) (fun _ _ _ h => h) (Or.inl ⟨by rfl, ?_⟩) hHeld ?_
      rotate_left
      · intro w hSw
        obtain ⟨k0, k1⟩ := hSw
        go_simp
        try with_reducible rfl
      try simp only [Act.put, List.setIfInBounds_toArray, List.set_cons_zero, List.set_cons_succ]
      refine wpAnyH_takeTo2 (i := 9) (oi := _) (v := ?_) (some 26) rfl rfl (by kernel_rfl) (by kernel_rfl) (by kernel_rfl) (fun _ _ _ h => h) (Or.inl ⟨by rfl, ?_⟩) hHeld ?_
      rotate_left
      · intro w hSw
        obtain ⟨k0, k1⟩ := hSw
        go_simp
        try with_reducible rfl
      try simp only [Act.put, List.setIfInBounds_toArray, List.set_cons_zero, List.set_cons_succ]
      refine wpAnyH_takeTo2 (i := 10) (oi := _) (v := ?_) (some 27) rfl rfl (by kernel_rfl) (by kernel_rfl) (by kernel_rfl) (fun _ _ _ h => h) (Or.inl ⟨by rfl, ?_⟩) hHeld ?_
      rotate_left
      · intro w hSw
        obtain ⟨k0, k1⟩ := hSw
        go_simp
        try with_reducible rfl
      try simp only [Act.put, List.setIfInBounds_toArray, List.set_cons_zero, List.set_cons_succ]
      refine wpAnyH_takeTo2 (i := 11) (oi := _) (v := ?_) (some 28) rfl rfl (by kernel_rfl) (by kernel_rfl) (by kernel_rfl) (fun _ _ _ h => h) (Or.inl ⟨by rfl, ?_⟩) hHeld ?_
      rotate_left
      · intro w hSw
        obtain ⟨k0, k1⟩ := hSw
        go_simp
        try with_reducible rfl
      try simp only [Act.put, List.setIfInBounds_toArray, List.set_cons_zero, List.set_cons_succ]
      refine wpAnyH_takeTo2 (i := 12) (oi := _) (v := .agg #[.int .i64 v.a, .int .u64 (v.s : Nat)]) (some 29) rfl rfl (by kernel_rfl) (by kernel_rfl) (by kernel_rfl) (fun _ _ _ h => h) (yieldsIf_build (by rfl) 83 _ rfl #[.int .i64 v.a, .int .u64 (v.s : Nat)] (by kernel_rfl)) hHeld ?_
      try simp only [Act.put, List.setIfInBounds_toArray, List.set_cons_zero, List.set_cons_succ]
      refine wpAnyH_ready (rs := [1,13]) (by kernel_rfl) (by simp) ?_
      refine AllReadyH.cons (o := _) rfl (fun K hK => ?_) (AllReadyH.cons (o := _) rfl (fun K hK => ?_) AllReadyH.nil)
      · skip
        have c33 := (hT.out.blk.cell 33).trans (cC_33 ph1_len)
        go_simp
        refine hK.out _ _ (HS0.out _ hT.out.bel) (fun hHeld' => ?_)
        clear hK K hHeld
        have hHeld := hHeld'
        clear hHeld'
        try simp only [Act.put, List.setIfInBounds_toArray, List.set_cons_zero, List.set_cons_succ]
        clear c33
        refine wpAnyH_ready (rs := [13]) (by kernel_rfl) (by simp) ?_
        refine AllReadyH.cons (o := _) rfl (fun K hK => ?_) AllReadyH.nil
        go_simp
        replace hT := hidp (hT.out.below ((Below.refl _ _).alloc (Nat.le_refl _) (.cells #[.int .i64 v.a, .int .u64 (v.s : Nat)] 83)))
        refine hK.out _ _ (HS0.out _ hT.out.bel) (fun hHeld' => ?_)
        clear hK K hHeld
        have hHeld := hHeld'
        clear hHeld'
        try simp only [Act.put, List.setIfInBounds_toArray, List.set_cons_zero, List.set_cons_succ]
        refine wpAnyH_ready (rs := [14]) (by kernel_rfl) (by simp) ?_
        refine AllReadyH.cons (o := _) rfl (fun K hK => ?_) AllReadyH.nil
        have hX := hidp (Blk.new' wr.drew (tL v) 83 wr.heap.size rfl)
        refine step_append_lies _ (by rfl) _ _ 61 (by rfl) (w.heap.size + 2) 83 i0 _ 2 16 Try.underlying61 hi0 hz0 hz1 hz2 (by rfl) (by decide) _ _ _ (by rfl) hT.out.own ⟨wr.heap.size, 0, none⟩ 1 1 (tL v) (by rfl) (by rfl) (fun j c hj => by rw [Addr.add_mid, Nat.zero_add]; exact (hX.out.cell j).trans hj) (tL_one v) (by decide) hbg.out.1 hbg.out.2 hT.out.big _ (by rfl) ?_
        intro gv cv w2 ho2 hg2 _ _
        have H2 := hidp (hT.out.app hg2 ho2)
        clear ho2 hg2
        refine hK.out _ _ (HS0.out _ H2.out.bel) (fun hHeld' => ?_)
        clear hK K hHeld hT
        have hHeld := hHeld'
        clear hHeld'
        try simp only [Act.put, List.setIfInBounds_toArray, List.set_cons_zero, List.set_cons_succ]
        refine wpAnyH_takeTo2 (i := 15) (oi := _) (v := ?_) (some 32) rfl rfl (by kernel_rfl) (by kernel_rfl) (by kernel_rfl) (fun _ _ _ h => h) (Or.inl ⟨by rfl, ?_⟩) hHeld ?_
        rotate_left
        · intro w hSw
          obtain ⟨k0, k1⟩ := hSw
          go_simp
          try with_reducible rfl
        try simp only [Act.put, List.setIfInBounds_toArray, List.set_cons_zero, List.set_cons_succ]
        refine wpAnyH_ready (rs := [16]) (by kernel_rfl) (by simp) ?_
        refine AllReadyH.cons (o := _) rfl (fun K hK => ?_) AllReadyH.nil
        have k33 := (H2.out.blk.cell 33).trans (cC_33 ph1_len)
        have f33 := H2.out.blk.free 33
        go_simp
        have H3 := hidp H2.out.set
        refine hK.out _ _ (HS0.out _ H3.out.bel) (fun hHeld' => ?_)
        clear hK K hHeld hHeld' k33 f33 H2
        try simp only [Act.put, List.setIfInBounds_toArray, List.set_cons_zero, List.set_cons_succ]
        refine wpAnyH_done (by kernel_rfl) ?_ _
        go_wp2_with fail
        rw [show (q : Int) + 2 = ((q + 2 : Nat) : Int) from by omega]
        exact ⟨⟨i + 1, q + 2, _, hidp (by have := hi.out; omega), rfl, by rw [htk.out]; exact H3⟩, hdec.out⟩
      · skip
        go_simp
        replace hT := hidp (hT.out.below ((Below.refl _ _).alloc (Nat.le_refl _) (.cells #[.int .i64 v.a, .int .u64 (v.s : Nat)] 83)))
        refine hK.out _ _ (HS0.out _ hT.out.bel) (fun hHeld' => ?_)
        clear hK K hHeld
        have hHeld := hHeld'
        clear hHeld'
        try simp only [Act.put, List.setIfInBounds_toArray, List.set_cons_zero, List.set_cons_succ]
        refine wpAnyH_ready (rs := [1]) (by kernel_rfl) (by simp) ?_
        refine AllReadyH.cons (o := _) rfl (fun K hK => ?_) AllReadyH.nil
        have c33 := (hT.out.blk.cell 33).trans (cC_33 ph1_len)
        have c33b : (wr.alloc (.cells #[.int .i64 v.a, .int .u64 (v.s : Nat)] 83)).cell? ⟨w.heap.size + 1, 33, none⟩ = some sv := c33
        go_simp
        refine hK.out _ _ (HS0.out _ hT.out.bel) (fun hHeld' => ?_)
        clear hK K hHeld
        have hHeld := hHeld'
        clear hHeld'
        try simp only [Act.put, List.setIfInBounds_toArray, List.set_cons_zero, List.set_cons_succ]
        clear c33
        refine wpAnyH_ready (rs := [14]) (by kernel_rfl) (by simp) ?_
        refine AllReadyH.cons (o := _) rfl (fun K hK => ?_) AllReadyH.nil
        have hX := hidp (Blk.new' wr.drew (tL v) 83 wr.heap.size rfl)
        refine step_append_lies _ (by rfl) _ _ 61 (by rfl) (w.heap.size + 2) 83 i0 _ 2 16 Try.underlying61 hi0 hz0 hz1 hz2 (by rfl) (by decide) _ _ _ (by rfl) hT.out.own ⟨wr.heap.size, 0, none⟩ 1 1 (tL v) (by rfl) (by rfl) (fun j c hj => by rw [Addr.add_mid, Nat.zero_add]; exact (hX.out.cell j).trans hj) (tL_one v) (by decide) hbg.out.1 hbg.out.2 hT.out.big _ (by rfl) ?_
        intro gv cv w2 ho2 hg2 _ _
        have H2 := hidp (hT.out.app hg2 ho2)
        clear ho2 hg2
        refine hK.out _ _ (HS0.out _ H2.out.bel) (fun hHeld' => ?_)
        clear hK K hHeld hT
        have hHeld := hHeld'
        clear hHeld'
        try simp only [Act.put, List.setIfInBounds_toArray, List.set_cons_zero, List.set_cons_succ]
        refine wpAnyH_takeTo2 (i := 15) (oi := _) (v := ?_) (some 32) rfl rfl (by kernel_rfl) (by kernel_rfl) (by kernel_rfl) (fun _ _ _ h => h) (Or.inl ⟨by rfl, ?_⟩) hHeld ?_
        rotate_left
        · intro w hSw
          obtain ⟨k0, k1⟩ := hSw
          go_simp
          try with_reducible rfl
        try simp only [Act.put, List.setIfInBounds_toArray, List.set_cons_zero, List.set_cons_succ]
        refine wpAnyH_ready (rs := [16]) (by kernel_rfl) (by simp) ?_
        refine AllReadyH.cons (o := _) rfl (fun K hK => ?_) AllReadyH.nil
        have k33 := (H2.out.blk.cell 33).trans (cC_33 ph1_len)
        have f33 := H2.out.blk.free 33
        go_simp
        have H3 := hidp H2.out.set
        refine hK.out _ _ (HS0.out _ H3.out.bel) (fun hHeld' => ?_)
        clear hK K hHeld hHeld' k33 f33 H2
        try simp only [Act.put, List.setIfInBounds_toArray, List.set_cons_zero, List.set_cons_succ]
        refine wpAnyH_done (by kernel_rfl) ?_ _
        go_wp2_with fail
        rw [show (q : Int) + 2 = ((q + 2 : Nat) : Int) from by omega]
        exact ⟨⟨i + 1, q + 2, _, hidp (by have := hi.out; omega), rfl, by rw [htk.out]; exact H3⟩, hdec.out⟩
    · obtain rfl : i = l.length := by have := hi.out.2; omega
      have hqN := hidp (show q = N2 by rw [hi.out.1, HN.out.2])
      have hge1 : ¬ ((q : Int) + 1 < (N2 : Int)) := by rw [hqN.out]; omega
      obtain ⟨p5, c5, rfl, _⟩ := OwnT.slice hr.out.own
      rw [List.take_length] at hr
      have hl5 := hidp (cC_len (h := hgt) (sl := .slice p5 l.length c5) (p := ph1) rfl)
      have ho5 := hidp (cC_one hgt ph1 p5 l.length c5)
      clear hlt hi
      go_wp2_with first
        | (with_reducible refine (?_ : wpList _ _ _ _ _ _); refine wpList_load_blk rfl 63 _ rfl (w.heap.size + 1) (cC hgt ph1 (.slice p5 l.length c5)) 63 rfl hr.out.blk _ Try.underlying63 rfl (by rw [hl5.out]; kernel_rfl) ?_)
        | (with_reducible refine (?_ : wpList _ _ _ _ _ _); refine wpList_store_blk rfl 63 _ _ rfl w.heap.size (cC hgt ph1 (.slice p5 l.length c5)) (cC 0 zh32 (.slice none 0 0)) 63 rfl rfl hr.out.res (by rw [hl5.out]; kernel_rfl) (by rw [hl5.out, hl0.out]) ho5.out ?_; intro w13 hw13; have F1 := hidp (show Blk w13 w.heap.size (cC hgt ph1 (.slice p5 l.length c5)) 63 ∧ Below w.heap.size w w13 ∧ OwnT w13 w.heap.size (.slice p5 l.length c5) l by rw [hw13.out]; exact ⟨hr.out.res.row, hr.out.bel.trans (((But.refl w.heap.size wr).setRow _).below (Nat.le_refl _)), (hr.out.own.bex (g := w.heap.size) (Bex.of_but ((But.refl w.heap.size wr).setRow _)) (by omega)).base (by omega)⟩))
      refine bodyPost_ret (v := .agg (cC hgt ph1 (.slice p5 l.length c5)).toArray) ?_ rfl ⟨.slice p5 l.length c5, rfl, F1.out.2.2, F1.out.2.1⟩
      exact results_row0 Try.results102 _ _ w.heap.size 63 _ _ rfl F1.out.1 Try.underlying63 rfl (by rw [hl5.out]; kernel_rfl)
end Go.Proofs.Ytbhkjflpkpkdlaa
