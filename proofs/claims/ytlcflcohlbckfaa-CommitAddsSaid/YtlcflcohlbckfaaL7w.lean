/-
  Commit: the answer's Decode.
-/
import Derived.Test.YtlcflcohlbckfaaL7s
import Derived.Test.YtlcflcohlbckfaaR4r
namespace Go.Proofs.Ytlcflcohlbckfaa
open Go.RowKit Go.Lib
set_option linter.unusedSimpArgs false

theorem RdQ.bexC {k : Nat} {w w' : World} {g b : Nat} {s : RS} (H : RdQ w g b s) (hB : Bex k w w') (hg : g ≠ k) (hb : k ≠ b) : RdQ w' g b s := by
  obtain ⟨p, cap, B, t, h1, h2, h3⟩ := H.q
  exact ⟨p, cap, B, t, ⟨hB.blk h1.blk hg, h1.bs.bexN hB (fun _ => hb), h1.ne, h1.le⟩, h2, h3⟩
theorem refNew_lt7 (p : Option Addr) (cap : Nat) (L : List Nat) (w : World) (h : ByS w p cap L) (hn : L.length ≤ 3000000) :
    Calls Try.prog 25 #[.slice p L.length cap] w fun e w' => ∃ g b, e = .returned (.pointer (some ⟨g, 0, none⟩)) ∧ w.heap.size ≤ g ∧ b < w'.heap.size ∧ RdQ w' g b (rs0 L) ∧ Below w.heap.size w w' := by
  refine (refNewReader_any p cap L w h hn).mono ?_
  rintro e w' ⟨g, q, b, c, h1, h2, h3, h4, h5⟩
  by_cases hc : 0 < c
  · exact ⟨g, b, h1, h2, (h4.bs.ptr hc).2, ⟨q, c, L, 0, h4, by omega, fun _ => ⟨rfl, rfl, rfl⟩⟩, h5⟩
  · have hL : L = [] := List.eq_nil_of_length_eq_zero (by have := h4.bs.le; omega)
    subst hL
    exact ⟨g, g, h1, h2, h4.blk.lt, ⟨q, c, [], 0, ⟨h4.blk, ⟨h4.bs.byte, h4.bs.le, fun h => absurd h hc, fun i hi => absurd hi (by simp)⟩, fun h => absurd h hc, h4.le⟩, by simp, fun _ => ⟨rfl, rfl, rfl⟩⟩, h5⟩
theorem rdN_z {α : Type} {pr : List Nat → PR α} {s : RS} (h : s.e ≠ 0 → s.R = []) : (rdN pr s).e ≠ 0 → (rdN pr s).R = [] := by
  unfold rdN
  split
  · exact h
  · split
    · exact fun h => absurd rfl h
    · exact fun _ => rfl
theorem OwnT.bexN {w w' : World} {base g : Nat} {v : Value} {l : List Vt} (h : OwnT w base v l) (hB : Bex g w w') (hne : ∀ k, v.ownBlock = some k → k ≠ g) : OwnT w' base v l := by
  refine ⟨h.1, ?_⟩
  rcases h.2 with h2 | ⟨k, cap, cur, h1, h2, h3, r⟩
  · exact .inl h2
  · exact .inr ⟨k, cap, cur, h1, h2, (hB.block k (Array.getElem?_eq_some_iff.1 h3).1 (hne k (by rw [h1]; rfl))).trans h3, r⟩
/-- The answer's reader under way, the commit in its box B, the votes in a row of one's own. -/
structure RcI (w W : World) (g b B : Nat) (hh : Int) (pp : List Nat) (s : RS) (sb so : Value) (lo : List Vt) : Prop where
  rd : RdQ W g b s
  kc : Blk W B (cC hh pp sb) 63
  own : OwnT W (B + 1) so lo
  res : DRes w W (cC 0 zh32 (.slice none 0 0)) 0 0
  hg : w.heap.size + 1 < g
  gB : g < B
  bB : b < B
section
variable {w W W' : World} {g b B : Nat} {hh : Int} {pp : List Nat} {s s1 : RS} {sb so so' : Value} {lo : List Vt} {v : Vt}
theorem RcI.read (D : RcI w W g b B hh pp s sb so lo) (h1 : RdQ W' g b s1) (hx : Bex g W W') : RcI w W' g b B hh pp s1 sb so lo :=
  ⟨h1, hx.blk D.kc (by have := D.gB; omega), D.own.bex hx (by have := D.gB; omega), D.res.bex hx D.hg, D.hg, D.gB, D.bB⟩
theorem RcI.below (D : RcI w W g b B hh pp s sb so lo) (h : Below W.heap.size W W') : RcI w W' g b B hh pp s sb so lo :=
  ⟨D.rd.below h, h.blk' D.kc, D.own.below h, D.res.below h, D.hg, D.gB, D.bB⟩
theorem RcI.drew (D : RcI w W g b B hh pp s sb so lo) : RcI w W.drew g b B hh pp s sb so lo := D.below (Below.refl _ _).drew
theorem RcI.big (D : RcI w W g b B hh pp s sb so lo) : B + 1 ≤ W.heap.size := D.kc.lt
theorem RcI.app {W2 : World} (D : RcI w W g b B hh pp s sb so lo) (h0 : Below W.heap.size W W2) (hgr : W2.grownBy W' so.ownBlock) (ho : OwnT W' (B + 1) so' (lo ++ [v])) : RcI w W' g b B hh pp s sb so' (lo ++ [v]) := by
  have b1 : Below (B + 1) W W' := (h0.mono D.big).grown hgr (Nat.le_trans D.big h0.size) (fun k hk => (D.own.lt hk).1)
  have h1 := D.gB
  have h2 := D.bB
  exact ⟨D.rd.lower b1 (by omega) (by omega), D.kc.below b1 (by omega), ho, D.res.belowB b1 (by have := D.hg; omega), D.hg, D.gB, D.bB⟩
theorem RcI.bexB (D : RcI w W g b B hh pp s sb so lo) (hx : Bex B W W') {h2 : Int} {p2 : List Nat} {sb2 : Value} (hk : Blk W' B (cC h2 p2 sb2) 63) : RcI w W' g b B h2 p2 s sb2 so lo :=
  ⟨D.rd.bexC hx (by have := D.gB; omega) (by have := D.bB; omega), hk, D.own.bex hx (by omega), D.res.bex hx (by have := D.hg; have := D.gB; omega), D.hg, D.gB, D.bB⟩
theorem RcI.set (D : RcI w W g b B hh pp s sb so lo) (hp : pp.length = 32) : RcI w (W.setCell ⟨B, 33, none⟩ so) g b B hh pp s so so lo :=
  D.bexB ((Bex.refl _ W).setCell 33 so) (cC_set (s2 := so) hp ▸ D.kc.set 33 so)
theorem RcI.setH (D : RcI w W g b B hh pp s sb so lo) (h2 : Int) : RcI w (W.setCell ⟨B, 0, none⟩ (.int .i64 h2)) g b B h2 pp s sb so lo :=
  D.bexB ((Bex.refl _ W).setCell 0 _) (D.kc.set 0 (.int .i64 h2))
theorem RcI.setP (D : RcI w W g b B hh pp s sb so lo) (p2 : List Nat) (hp : pp.length = 32) (hp2 : p2.length = 32) : RcI w (W.setCells B 1 (bvs p2)) g b B hh p2 s sb so lo := by
  refine D.bexB (Bex.sets B (bvs p2) 1 W) ?_
  have e : setsL (cC hh pp sb) 1 (bvs p2) = cC hh p2 sb := setsL_mid (bvs p2) [.int .i64 hh] (bvs pp) [sb] (by rw [bvs_len, bvs_len, hp, hp2])
  rw [← e]
  exact D.kc.sets (bvs p2) 1 W _
/-- A box behind all that. -/
theorem RcI.bexV {X : Nat} (D : RcI w W g b B hh pp s sb so lo) (hx : Bex X W W') (hX : B < X) (hne : ∀ k, so.ownBlock = some k → k ≠ X) : RcI w W' g b B hh pp s sb so lo :=
  ⟨D.rd.bexC hx (by have := D.gB; omega) (by have := D.bB; omega), hx.blk D.kc (by omega), D.own.bexN hx hne, D.res.bex hx (by have := D.hg; have := D.gB; omega), D.hg, D.gB, D.bB⟩
end
set_option maxRecDepth 100000 in
set_option maxHeartbeats 16000000 in
theorem rcdecode_any (a : Option Addr) (cap : Nat) (L : List Nat) (w : World) (h : ByS w a cap L) (hL : L.length ≤ 3000) :
    Calls Try.prog 51 #[.slice a L.length cap] w fun e w' => (∃ sv, e = .returned (.tuple #[.agg (cC (decC L).h (decC L).p sv).toArray, .agg #[.int .i64 ((decC L).e : Nat), .int .i64 (decC L).f]]) ∧ OwnT w' w.heap.size sv (decC L).l) ∧ Below w.heap.size w w' := by
  have hzz : ∀ w, (zeroValue 63).run Try.prog w = .ok (.agg (cC 0 zh32 (.slice none 0 0)).toArray) w := (zero_of_info (P := Try.prog) zero_com).1
  have hl0 := hidp (cC_len (h := 0) (sl := .slice none 0 0) (p := zh32) rfl)
  have ho0 := hidp (cC_one 0 zh32 none 0 0)
  have hby := hidp h.byte
  have hPB := hidp (cP_bytes h.byte)
  have hpp := hidp hPB.out.1
  have HA := hidp (fun o : Obj => ((Below.refl w.heap.size w).alloc (Nat.le_refl _) (.cells (cC 0 zh32 (.slice none 0 0)).toArray 63)).alloc (by simp) o)
  have HR := hidp (fun o : Obj => refNew_lt7 a cap L ((w.alloc (.cells (cC 0 zh32 (.slice none 0 0)).toArray 63)).alloc o) (h.below ((HA.out o).mono (Nat.le_refl _))) (by omega))
  have HZ : Hid (DRes w ((w.alloc (.cells (cC 0 zh32 (.slice none 0 0)).toArray 63)).alloc (.cells #[.int .i64 0, .int .i64 0] 55)) (cC 0 zh32 (.slice none 0 0)) 0 0) := hidp ⟨(Blk.new w (cC 0 zh32 (.slice none 0 0)) _).alloc _, Blk.new' _ [.int .i64 0, .int .i64 0] _ _ (by simp), HA.out _⟩
  have hLL := hidp hL
  obtain ⟨D, hD⟩ : ∃ D, D = decC L := ⟨_, rfl⟩
  rw [← hD]
  replace hD := hidp hD
  clear h hL
  go_enter Try.func51, Try.ntmps51
  go_wp2_with fail
  refine (HR.out _).mono ?_
  rintro e w1 ⟨g, b, rfl, hg, hb, hr, hB⟩
  have D0 : Hid (RcI w (w1.alloc (.cells (cC 0 zh32 (.slice none 0 0)).toArray 63)) g b w1.heap.size 0 zh32 (rs0 L) (.slice none 0 0) (.slice none 0 0) []) := hidp ⟨hr.below ((Below.refl _ w1).alloc (Nat.le_refl _) _), Blk.new w1 _ _, OwnT.nil _ _, (HZ.out.below hB).below ((Below.refl _ w1).alloc (Nat.le_refl _) _), by simp at hg; omega, hr.glt, hb⟩
  clear hg hb hr hB HR HA HZ
  go_wp2_with fail
  obtain ⟨B, hBe⟩ : ∃ B, B = w1.heap.size := ⟨_, rfl⟩
  rw [← hBe] at D0 ⊢
  obtain ⟨W1, hW1⟩ : ∃ W, W = w1.alloc (.cells (cC 0 zh32 (.slice none 0 0)).toArray 63) := ⟨_, rfl⟩
  rw [← hW1] at D0 ⊢
  clear hW1 hBe
  refine (refNum_any D0.out.rd).mono ?_
  rintro e w2 ⟨rfl, hr2, hx2⟩
  have D1 : Hid (RcI w w2 g b B 0 zh32 (cS1 L) (.slice none 0 0) (.slice none 0 0) []) := hidp (D0.out.read hr2 hx2)
  clear hr2 hx2 D0
  obtain ⟨hh, hhe⟩ : ∃ p, p = cH L := ⟨_, rfl⟩
  rw [show ((rdV pNum 0 (rs0 L) : Nat) : Int) = hh from by rw [hhe]; rfl]
  replace hhe := hidp hhe
  have k0 := D1.out.kc.cell 0
  have f0 := D1.out.kc.free 0
  rw [cC_0] at k0
  go_wp2_with fail
  have D2 := hidp (D1.out.setH hh)
  clear k0 f0 D1
  generalize (World.setCell _ _ _) = W2 at D2 ⊢
  refine (refHash_any D2.out.rd (Nat.lt_trans D2.out.bB D2.out.kc.lt)).mono ?_
  rintro e w3 ⟨rfl, hr3, hx3⟩
  have D3 : Hid (RcI w w3 g b B hh zh32 (cS2 L) (.slice none 0 0) (.slice none 0 0) []) := hidp (D2.out.read hr3 hx3)
  clear hr3 hx3 D2
  obtain ⟨pp, hpe⟩ : ∃ p, p = cP L := ⟨_, rfl⟩
  rw [show rdV (pRaw 32) hz32 (cS1 L) = pp from by rw [hpe]; rfl]
  rw [← hpe] at hpp
  replace hpe := hidp hpe
  have HSZ : Hid ((Try.prog.info? 34).map (·.size) = some (bvs pp).toArray.size) := hidp (by rw [List.size_toArray, bvs_len, hpp.out]; kernel_rfl)
  have HTH : Hid (w3.there B 1 (bvs pp).toArray.size) := hidp (D3.out.kc.there 1 _ (by rw [List.size_toArray, bvs_len, hpp.out, cC_len rfl]; omega))
  go_wp2_with (with_reducible refine (?_ : wpList _ _ _ _ _ _); refine wpList_store_mid rfl 34 _ _ rfl B 1 (bvs pp).toArray rfl rfl HTH.out HSZ.out (bvs_one _) ?_)
  have D4 := hidp (D3.out.setP pp rfl hpp.out)
  obtain ⟨W3, hW3⟩ : ∃ W, W = w3.setCells B 1 (bvs pp).toArray.toList := ⟨_, rfl⟩
  have hW3' : w3.setCells B 1 (bvs pp) = W3 := hW3.symm
  rw [hW3'] at D4
  rw [← hW3]
  clear HTH HSZ D3 hW3 hW3'
  have hz2 : (cS2 L).e ≠ 0 → (cS2 L).R = [] := rdN_z (rdN_z (fun h => absurd rfl h))
  refine (refRest_any D4.out.rd hz2).mono ?_
  rintro e w4 ⟨rfl, hB⟩
  have D5 := hidp (D4.out.below hB)
  clear hB D4 hz2
  have hsub : wrap64 ((L.length : Int) - ((cS2 L).R.length : Int)) = cA L := by unfold cA; rw [w64 _ (by have := hLL.out; have := cS2_le L; omega)]
  go_wp2_with fail
  refine (refNum_any D5.out.rd).mono ?_
  rintro e w6 ⟨rfl, hr6, hx6⟩
  try rw [hsub]
  have D6 : Hid (RcI w w6 g b B hh pp (cS3 L) (.slice none 0 0) (.slice none 0 0) []) := hidp (D5.out.read hr6 hx6)
  clear hr6 hx6 D5 hsub
  obtain ⟨n, hn⟩ : ∃ n, n = cN L := ⟨_, rfl⟩
  obtain ⟨s1, hs1⟩ : ∃ s, s = cS3 L := ⟨_, rfl⟩
  rw [show rdV pNum 0 (cS2 L) = n from by rw [hn]; rfl]
  rw [← hs1] at D6
  replace hs1 := hidp hs1
  replace hn := hidp hn
  by_cases h64 : 64 < n
  · have ht : decide ((64 : Int) < ((n : Nat) : Int)) = true := decide_eq_true (by omega)
    have hR := hidp (show D = dcE 4 (cA L) by rw [hD.out]; exact decC_long (by rw [← hn.out]; exact h64))
    obtain ⟨k0, k1, f0, f1⟩ := D6.out.res.fc
    generalize cA L = at_ at *
    clear h64 hD
    go_wp2_with first
      | (with_reducible refine (?_ : wpList _ _ _ _ _ _); refine wpList_buildG (by kernel_rfl) 63 _ rfl (cC 0 zh32 (.slice none 0 0)).toArray (by kernel_rfl) ?_)
      | (with_reducible refine (?_ : wpList _ _ _ _ _ _); refine wpList_store_blk rfl 63 _ _ rfl w.heap.size (cC 0 zh32 (.slice none 0 0)) (cC 0 zh32 (.slice none 0 0)) 63 rfl rfl D6.out.res.res (by rw [hl0.out]; kernel_rfl) rfl ho0.out ?_; intro w13 hw13; have F1 := hidp (show DRes w w13 (cC 0 zh32 (.slice none 0 0)) 0 0 by rw [hw13.out]; exact DRes.row (ds := (cC 0 zh32 (.slice none 0 0))) D6.out.res); obtain ⟨k0, k1, f0, f1⟩ := F1.out.fc)
    have F2 := hidp (F1.out.fin 4 at_)
    generalize (World.setCell _ _ _) = W at F2 ⊢
    refine bodyPost_ret (v := .tuple #[.agg (cC 0 zh32 (.slice none 0 0)).toArray, .agg [.int .i64 4, .int .i64 at_].toArray]) ?_ rfl ⟨⟨.slice none 0 0, by rw [hR.out]; rfl, by rw [hR.out]; exact OwnT.nil _ _⟩, F2.out.bel⟩
    exact results_rows2 Try.results51 _ _ w.heap.size 63 _ _ (w.heap.size + 1) 55 _ _ rfl F2.out.res Try.underlying63 rfl (by rw [hl0.out]; kernel_rfl) rfl F2.out.flt Try.underlying55 rfl (by kernel_rfl)
  have ht : decide ((64 : Int) < ((n : Nat) : Int)) = false := decide_eq_false (by omega)
  have H64 := hidp h64
  have hby1 := hidp (show ∀ x ∈ s1.R, x < 256 by rw [hs1.out]; exact (cS_byte hby.out).2.2)
  have D7 : Hid (RcI w w6 g b B hh pp (tF 0 s1).2 (.slice none 0 0) (.slice none 0 0) (tF 0 s1).1) := D6
  clear h64 D6
  go_wp2_with fail
  go_loopw [8, 9] (fun x _ wr => ∃ (i : Nat) (sv : Value), i ≤ n ∧ x = .int .i64 ((i : Nat) : Int) ∧ Hid (RcI w wr g b B hh pp (tF i s1).2 sv sv (tF i s1).1)) (fun x _ _ => n - (Go.RowKit.intOf x).toNat)
  case atStart => exact ⟨0, _, by omega, rfl, D7⟩
  case round =>
    obtain ⟨i, sv, hin, rfl, hr⟩ := hrel
    clear D7 ht
    obtain ⟨p5, n5, c5, hsv⟩ := hr.out.own.sl
    subst hsv
    by_cases hlt : i < n
    · have hadd := w64_nat (n := i) (by have := H64.out; omega)
      have hdec := hidp (And.intro hlt (dec_nat hlt))
      have hltz : (i : Int) < (n : Int) := by omega
      have hbg := hidp (show (tF i s1).1.length + 1 ≤ 2000 by rw [tF_len]; have := H64.out; omega)
      clear hlt hin
      go_wp2_with fail
      refine (refNum_any hr.out.rd).mono ?_
      rintro e w7 ⟨rfl, hr7, hx7⟩
      have T1 := hidp (hr.out.read hr7 hx7)
      clear hr7 hx7 hr
      obtain ⟨v, hv⟩ : ∃ v, v = tV (tF i s1).2 := ⟨_, rfl⟩
      have hva : ((rdV pNum 0 (tF i s1).2 : Nat) : Int) = v.a := by rw [hv]; rfl
      have hvs : rdV pWord 0 (rdN pNum (tF i s1).2) = v.s := by rw [hv]; rfl
      rw [hva]
      replace hv := hidp hv
      clear hva
      have hne := hidp (show ∀ k, (Value.slice p5 n5 c5).ownBlock = some k → k ≠ w7.heap.size from fun k hk => by have := (T1.out.own.lt hk).2; omega)
      have hgX := hidp (show w7.heap.size ≠ g ∧ B < w7.heap.size by have := T1.out.rd.glt; have := T1.out.kc.lt; omega)
      have T2 := hidp (fun o : Obj => T1.out.below ((Below.refl _ w7).alloc (Nat.le_refl _) o))
      have KV := hidp (Blk.new w7 [.int .i64 v.a, .int .u64 0] 85)
      clear T1
      go_wp2_with (with_reducible refine (?_ : wpList _ _ _ _ _ _); refine wpList_buildG (by kernel_rfl) 85 _ rfl #[.int .i64 v.a, .int .u64 0] (by kernel_rfl) ?_)
      refine (refWord_any (T2.out _).rd).mono ?_
      rintro e w8 ⟨rfl, hr8, hx8⟩
      have T3 := hidp ((T2.out _).read hr8 hx8)
      replace KV := hidp (hx8.blk KV.out hgX.out.1)
      clear hr8 hx8 T2
      rw [hvs]
      clear hvs
      have k1 := KV.out.cell 1
      have f1 := KV.out.free 1
      simp only [List.getElem?_cons_zero, List.getElem?_cons_succ] at k1
      have k33 := (T3.out.kc.cell 33).trans (cC_33 hpp.out)
      have hXB := hgX.out.2
      have T4 := hidp (T3.out.bexV (X := w7.heap.size) ((Bex.refl _ w8).setCell 1 (.int .u64 (v.s : Nat))) hgX.out.2 hne.out)
      have KV2 : Hid (Blk (w8.setCell ⟨w7.heap.size, 1, none⟩ (.int .u64 (v.s : Nat))) w7.heap.size [.int .i64 v.a, .int .u64 (v.s : Nat)] 85) := hidp (KV.out.set 1 (.int .u64 (v.s : Nat)))
      clear T3 KV
      have AL := hidp (fun o : Obj => (Below.refl (w8.setCell ⟨w7.heap.size, 1, none⟩ (.int .u64 (v.s : Nat))).heap.size (w8.setCell ⟨w7.heap.size, 1, none⟩ (.int .u64 (v.s : Nat)))).alloc (Nat.le_refl _) o)
      have OW := hidp (fun o : Obj => T4.out.own.below (AL.out o))
      have BG := hidp (fun o : Obj => (show B + 1 ≤ ((w8.setCell ⟨w7.heap.size, 1, none⟩ (.int .u64 (v.s : Nat))).alloc o).heap.size from Nat.le_trans T4.out.big (AL.out o).size))
      go_wp2_with first
        | (with_reducible refine (?_ : wpList _ _ _ _ _ _); go_loud (refine wpList_load_blkG (by kernel_rfl) 85 _ rfl w7.heap.size [.int .i64 v.a, .int .u64 (v.s : Nat)] 85 rfl KV2.out _ Try.underlying85 rfl (by kernel_rfl) ?_))
        | (at_builtin; go_loud (refine wpList_append_v1 rfl _ _ rfl (B + 1) (tF i s1).1 _ rfl (OW.out _) w8.heap.size v rfl (Blk.new' (w8.setCell ⟨w7.heap.size, 1, none⟩ (.int .u64 (v.s : Nat))) (tL v) _ _ (by simp)) hbg.out (BG.out _) ?_); intro v' wa ho4 hg4; obtain ⟨p6, n6, c6, hsv6⟩ := ho4.sl; subst hsv6; have H4 := hidp (T4.out.app (AL.out _) hg4 ho4); clear ho4 hg4; have k33' := (H4.out.kc.cell 33).trans (cC_33 hpp.out); have f33' := H4.out.kc.free 33)
      have H5 := hidp (H4.out.set hpp.out)
      rw [hv.out] at H5
      rw [hadd]
      exact ⟨⟨i + 1, _, hdec.out.1, rfl, H5⟩, hdec.out.2⟩
    · obtain rfl : i = n := by omega
      have hnz : ¬ ((i : Int) < (i : Int)) := by omega
      clear hlt hin
      go_wp2_with fail
      refine (refEnd_any hr.out.rd).mono ?_
      rintro e w11 ⟨rfl, hB⟩
      have E1 := hidp (hr.out.below hB)
      clear hB hr
      obtain ⟨ex, ey, hxy⟩ : ∃ x y, endS (tF i s1).2 = (x, y) := ⟨_, _, rfl⟩
      rw [hxy]
      have hno := hidp (show ∀ k, (Value.slice p5 n5 c5).ownBlock = some k → k ≠ w11.heap.size from fun k hk => by have := (E1.out.own.lt hk).2; omega)
      have E2 := hidp (fun o : Obj => E1.out.below ((Below.refl _ w11).alloc (Nat.le_refl _) o))
      have hne := hidp (show w11.heap.size ≠ w.heap.size ∧ w11.heap.size ≠ w.heap.size + 1 by have := E1.out.res.flt.lt; omega)
      have hBw := hidp (show B ≠ w.heap.size ∧ B ≠ w.heap.size + 1 ∧ B < w11.heap.size by have := E1.out.hg; have := E1.out.gB; have := E1.out.kc.lt; omega)
      have hl5 := hidp (cC_len (h := hh) (sl := .slice p5 n5 c5) hpp.out)
      have ho5 := hidp (cC_one hh pp p5 n5 c5)
      by_cases h0 : ex = 0
      · have hey : ey = 0 := by
          have z := endS_zero (s := (tF i s1).2) (by rw [hxy]; exact h0)
          have q : endS (tF i s1).2 = (0, 0) := by simp [endS, endE, z.1, z.2]
          rw [hxy] at q
          exact (Prod.mk.inj q).2
        subst h0
        subst hey
        have hTs := hidp (fun o : Obj => OwnT.tsz (E2.out o).own (tF_ok hby1.out i).2)
        have SF := hidp (Blk.new w11 [.int .i64 ((0 : Nat) : Int), .int .i64 ((0 : Nat) : Int)] 55)
        go_wp2_with (with_reducible refine (?_ : wpList _ _ _ _ _ _); refine wpList_load_blk rfl 63 _ rfl B (cC hh pp (.slice p5 n5 c5)) 63 rfl (E2.out _).kc _ Try.underlying63 rfl (by rw [hl5.out]; kernel_rfl) ?_)
        obtain ⟨b5, _, hT5, hn5, _⟩ := hTs.out (.cells #[.int .i64 ((0 : Nat) : Int), .int .i64 ((0 : Nat) : Int)] 55)
        have HC := hidp (rcheck_any hh pp hpp.out p5 b5 0 c5 (tF i s1).1 _ hT5)
        rw [← hn5] at HC
        clear hT5 hTs hn5
        refine HC.out.mono ?_
        rintro e w12 ⟨rfl, hB⟩
        have E3 := hidp ((E2.out (.cells #[.int .i64 ((0 : Nat) : Int), .int .i64 ((0 : Nat) : Int)] 55)).below hB)
        replace SF := hidp (hB.blk' SF.out)
        clear hB HC E2 E1
        have s0 := SF.out.cell 0
        have s2 := SF.out.free 0
        simp only [List.getElem?_cons_zero] at s0
        obtain ⟨n, hnn⟩ : ∃ n, n = chkC hh (tF i s1).1 := ⟨_, rfl⟩
        rw [← hnn]
        replace hnn := hidp hnn
        have hx6 := hidp ((Bex.refl w11.heap.size w12).setCell 0 (.int .i64 (n : Nat)))
        have hneo := hidp hno.out
        have SF6 := hidp (SF.out.set 0 (.int .i64 (n : Nat)))
        have E6 := hidp (E3.out.bexV hx6.out hBw.out.2.2 hneo.out)
        by_cases hc : n = 0
        · subst hc
          have hR := hidp (show D = ⟨hh, pp, (tF i s1).1, 0, 0⟩ by
            rw [hD.out, decC_ok (by rw [← hn.out]; exact H64.out) (by rw [← hn.out, ← hs1.out, hxy]) (by rw [← hhe.out, ← hn.out, ← hs1.out]; exact hnn.out.symm), ← hhe.out, ← hpe.out, ← hn.out, ← hs1.out])
          clear hD
          go_wp2_with fail
          clear s0 s2
          obtain ⟨w6', hw6⟩ : ∃ W, W = w12.setCell ⟨w11.heap.size, 0, none⟩ (.int .i64 0) := ⟨_, rfl⟩
          have hw6' : w12.setCell ⟨w11.heap.size, 0, none⟩ (.int .i64 ((0 : Nat) : Int)) = w6' := hw6.symm
          rw [hw6'] at SF6 E6
          rw [← hw6]
          clear hw6 hw6' SF E3 hx6
          have SF : Hid (Blk w6' w11.heap.size [.int .i64 0, .int .i64 0] 55) := SF6
          refine wp_region_held_drew (S := (fun w' => Blk w' w11.heap.size [.int .i64 0, .int .i64 0] 55 ∧ Blk w' B (cC hh pp (.slice p5 n5 c5)) 63)) (by kernel_rfl) ⟨SF.out.drew, E6.out.kc.drew⟩ (fun hS0 => ?_)
          refine wpAnyH_takeTo2 (i := 0) (oi := _) (v := .agg (cC hh pp (.slice p5 n5 c5)).toArray) (some 61) rfl rfl (by kernel_rfl) (by kernel_rfl) (by kernel_rfl) (fun _ _ _ h => h) (yieldsIf_load_mid rfl 63 _ rfl B 0 rfl (cC hh pp (.slice p5 n5 c5)) _ (fun w h j v hj => by rw [Nat.zero_add]; exact (h.2.cell j).trans hj) Try.underlying63 rfl (by rw [hl5.out]; kernel_rfl)) hS0 ?_
          try simp only [Act.put, List.setIfInBounds_toArray, List.set_cons_zero, List.set_cons_succ]
          refine wpAnyH_takeTo2 (i := 1) (oi := _) (v := .agg [.int .i64 0, .int .i64 0].toArray) (some 62) rfl rfl (by kernel_rfl) (by kernel_rfl) (by kernel_rfl) (fun _ _ _ h => h) (yieldsIf_load_mid rfl 55 _ rfl w11.heap.size 0 rfl [.int .i64 0, .int .i64 0] _ (fun w h j v hj => by rw [Nat.zero_add]; exact (h.1.cell j).trans hj) Try.underlying55 rfl (by kernel_rfl)) hS0 ?_
          try simp only [Act.put, List.setIfInBounds_toArray, List.set_cons_zero, List.set_cons_succ]
          refine wpAnyH_ready (rs := [2]) (by kernel_rfl) (by simp) ?_
          refine AllReadyH.cons (o := _) rfl (fun K hK => ?_) AllReadyH.nil
          refine if_intro (by rfl) ?_
          refine wp_store_row 63 _ _ rfl w.heap.size (cC hh pp (.slice p5 n5 c5)).toArray rfl rfl 63 (cC 0 zh32 (.slice none 0 0)).toArray E6.out.drew.res.res (by rw [List.size_toArray, hl5.out]; kernel_rfl) (by simp [hl0.out, hl5.out]) ho5.out ?_
          obtain ⟨w13, hw13⟩ : ∃ W, W = (w6'.drew).setRow w.heap.size (cC hh pp (.slice p5 n5 c5)).toArray := ⟨_, rfl⟩
          have F1 := hidp (show DRes w w13 (cC hh pp (.slice p5 n5 c5)) 0 0 by rw [hw13]; exact DRes.row (ds := (cC hh pp (.slice p5 n5 c5))) E6.out.drew.res)
          have S1 := hidp (show Blk w13 w11.heap.size [.int .i64 0, .int .i64 0] 55 by rw [hw13]; exact ((But.refl w.heap.size _).setRow _).blk hS0.1 hne.out.1)
          have S1h := hidp (show Blk w13 B (cC hh pp (.slice p5 n5 c5)) 63 by rw [hw13]; exact ((But.refl w.heap.size _).setRow _).blk hS0.2 hBw.out.1)
          have O1 := hidp (show OwnT w13 (B + 1) (.slice p5 n5 c5) (tF i s1).1 by rw [hw13]; exact E6.out.drew.own.bex (g := w.heap.size) (Bex.of_but ((But.refl w.heap.size _).setRow _)) (by have := E6.out.hg; have := E6.out.gB; omega))
          rw [← hw13]
          clear hw13
          refine hK.out _ _ ⟨S1.out, S1h.out⟩ (fun _ => ?_)
          clear hK K
          try simp only [Act.put, List.setIfInBounds_toArray, List.set_cons_zero, List.set_cons_succ]
          refine wpAnyH_ready (rs := [3]) (by kernel_rfl) (by simp) ?_
          refine AllReadyH.cons (o := _) rfl (fun K hK => ?_) AllReadyH.nil
          refine if_intro (by rfl) ?_
          obtain ⟨k0, k1, k2, k3⟩ := F1.out.fc
          go_simp
          have F2 := hidp (F1.out.fin 0 0)
          have S2 := hidp (show Blk ((w13.setCell ⟨w.heap.size + 1, 0, none⟩ (.int .i64 0)).setCell ⟨w.heap.size + 1, 1, none⟩ (.int .i64 0)) w11.heap.size [.int .i64 0, .int .i64 0] 55 from (S1.out.other _ _ hne.out.2).other _ _ hne.out.2)
          have S2h := hidp (show Blk ((w13.setCell ⟨w.heap.size + 1, 0, none⟩ (.int .i64 0)).setCell ⟨w.heap.size + 1, 1, none⟩ (.int .i64 0)) B (cC hh pp (.slice p5 n5 c5)) 63 from (S1h.out.other _ _ hBw.out.2.1).other _ _ hBw.out.2.1)
          have O2 := hidp (show OwnT ((w13.setCell ⟨w.heap.size + 1, 0, none⟩ (.int .i64 0)).setCell ⟨w.heap.size + 1, 1, none⟩ (.int .i64 0)) w.heap.size (.slice p5 n5 c5) (tF i s1).1 from (O1.out.bex (g := w.heap.size + 1) (((Bex.refl _ w13).setCell 0 (.int .i64 0)).setCell 1 (.int .i64 0)) (by have := E6.out.hg; have := E6.out.gB; omega)).base (by have := E6.out.hg; have := E6.out.gB; omega))
          refine hK.out _ _ ⟨S2.out, S2h.out⟩ (fun _ => ?_)
          clear hK K
          try simp only [Act.put, List.setIfInBounds_toArray, List.set_cons_zero, List.set_cons_succ]
          refine wpAnyH_done (by kernel_rfl) ?_ _
          clear k0 k1 k2 k3 S2 S2h
          generalize (World.setCell _ _ _) = W at F2 O2 ⊢
          go_wp2
          refine bodyPost_ret (v := .tuple #[.agg (cC hh pp (.slice p5 n5 c5)).toArray, .agg [.int .i64 0, .int .i64 0].toArray]) ?_ rfl ⟨⟨.slice p5 n5 c5, by rw [hR.out]; rfl, by rw [hR.out]; exact O2.out⟩, F2.out.bel⟩
          exact results_rows2 Try.results51 _ _ w.heap.size 63 _ _ (w.heap.size + 1) 55 _ _ rfl F2.out.res Try.underlying63 rfl (by rw [hl5.out]; kernel_rfl) rfl F2.out.flt Try.underlying55 rfl (by kernel_rfl)
        · have hR := hidp (show D = dcE n 0 by
            rw [hD.out, hnn.out, decC_chk (by rw [← hn.out]; exact H64.out) (by rw [← hn.out, ← hs1.out, hxy]) (by rw [← hhe.out, ← hn.out, ← hs1.out, ← hnn.out]; exact hc), ← hhe.out, ← hn.out, ← hs1.out])
          have hbn : (((n : Nat) : Int) != 0) = true := by rw [bne_iff_ne]; omega
          clear hD hc
          go_wp2_with fail
          clear s0 s2
          obtain ⟨w6', hw6⟩ : ∃ W, W = w12.setCell ⟨w11.heap.size, 0, none⟩ (.int .i64 (n : Nat)) := ⟨_, rfl⟩
          rw [← hw6] at SF6 E6 ⊢
          clear hw6 SF E3 hx6
          have SF : Hid (Blk w6' w11.heap.size [.int .i64 (n : Nat), .int .i64 0] 55) := SF6
          refine wp_region_held_drew (S := (fun w' => Blk w' w11.heap.size [.int .i64 (n : Nat), .int .i64 0] 55)) (by kernel_rfl) SF.out.drew (fun hS0 => ?_)
          refine wpAnyH_takeTo2 (i := 0) (oi := _) (v := .agg (cC 0 zh32 (.slice none 0 0)).toArray) (some 59) rfl rfl (by kernel_rfl) (by kernel_rfl) (by kernel_rfl) (fun _ _ _ h => h) (yieldsIf_build rfl 63 _ rfl (cC 0 zh32 (.slice none 0 0)).toArray (by kernel_rfl)) hS0 ?_
          try simp only [Act.put, List.setIfInBounds_toArray, List.set_cons_zero, List.set_cons_succ]
          refine wpAnyH_takeTo2 (i := 1) (oi := _) (v := .agg [.int .i64 (n : Nat), .int .i64 0].toArray) (some 60) rfl rfl (by kernel_rfl) (by kernel_rfl) (by kernel_rfl) (fun _ _ _ h => h) (yieldsIf_load_mid rfl 55 _ rfl w11.heap.size 0 rfl [.int .i64 (n : Nat), .int .i64 0] _ (fun w h j v hj => by rw [Nat.zero_add]; exact (h.cell j).trans hj) Try.underlying55 rfl (by kernel_rfl)) hS0 ?_
          try simp only [Act.put, List.setIfInBounds_toArray, List.set_cons_zero, List.set_cons_succ]
          refine wpAnyH_ready (rs := [2]) (by kernel_rfl) (by simp) ?_
          refine AllReadyH.cons (o := _) rfl (fun K hK => ?_) AllReadyH.nil
          refine if_intro (by rfl) ?_
          refine wp_store_row 63 _ _ rfl w.heap.size (cC 0 zh32 (.slice none 0 0)).toArray rfl rfl 63 (cC 0 zh32 (.slice none 0 0)).toArray E6.out.drew.res.res (by rw [List.size_toArray, hl0.out]; kernel_rfl) (by simp [hl0.out, hl0.out]) ho0.out ?_
          obtain ⟨w13, hw13⟩ : ∃ W, W = (w6'.drew).setRow w.heap.size (cC 0 zh32 (.slice none 0 0)).toArray := ⟨_, rfl⟩
          have F1 := hidp (show DRes w w13 (cC 0 zh32 (.slice none 0 0)) 0 0 by rw [hw13]; exact DRes.row (ds := (cC 0 zh32 (.slice none 0 0))) E6.out.drew.res)
          have S1 := hidp (show Blk w13 w11.heap.size [.int .i64 (n : Nat), .int .i64 0] 55 by rw [hw13]; exact ((But.refl w.heap.size _).setRow _).blk hS0 hne.out.1)
          rw [← hw13]
          clear hw13
          refine hK.out _ _ S1.out (fun _ => ?_)
          clear hK K
          try simp only [Act.put, List.setIfInBounds_toArray, List.set_cons_zero, List.set_cons_succ]
          refine wpAnyH_ready (rs := [3]) (by kernel_rfl) (by simp) ?_
          refine AllReadyH.cons (o := _) rfl (fun K hK => ?_) AllReadyH.nil
          refine if_intro (by rfl) ?_
          obtain ⟨k0, k1, k2, k3⟩ := F1.out.fc
          go_simp
          have F2 := hidp (F1.out.fin (n : Nat) 0)
          have S2 := hidp (show Blk ((w13.setCell ⟨w.heap.size + 1, 0, none⟩ (.int .i64 (n : Nat))).setCell ⟨w.heap.size + 1, 1, none⟩ (.int .i64 0)) w11.heap.size [.int .i64 (n : Nat), .int .i64 0] 55 from (S1.out.other _ _ hne.out.2).other _ _ hne.out.2)
          refine hK.out _ _ S2.out (fun _ => ?_)
          clear hK K
          try simp only [Act.put, List.setIfInBounds_toArray, List.set_cons_zero, List.set_cons_succ]
          refine wpAnyH_done (by kernel_rfl) ?_ _
          clear k0 k1 k2 k3 S2
          generalize (World.setCell _ _ _) = W at F2 ⊢
          go_wp2
          refine bodyPost_ret (v := .tuple #[.agg (cC 0 zh32 (.slice none 0 0)).toArray, .agg [.int .i64 (n : Nat), .int .i64 0].toArray]) ?_ rfl ⟨⟨.slice none 0 0, by rw [hR.out]; rfl, by rw [hR.out]; exact OwnT.nil _ _⟩, F2.out.bel⟩
          exact results_rows2 Try.results51 _ _ w.heap.size 63 _ _ (w.heap.size + 1) 55 _ _ rfl F2.out.res Try.underlying63 rfl (by rw [hl0.out]; kernel_rfl) rfl F2.out.flt Try.underlying55 rfl (by kernel_rfl)
      · have hR := hidp (show D = dcE ex (ey : Nat) by
          rw [hD.out, decC_end (by rw [← hn.out]; exact H64.out) (by rw [← hn.out, ← hs1.out, hxy]; exact h0), ← hn.out, ← hs1.out, hxy])
        have hbn : (((ex : Nat) : Int) != 0) = true := by rw [bne_iff_ne]; omega
        have hbe : (((ex : Nat) : Int) == 0) = false := by rw [beq_eq_false_iff_ne]; omega
        clear h0 hD
        go_wp2_with fail
        have E6 := hidp (E2.out (.cells #[.int .i64 (ex : Nat), .int .i64 (ey : Nat)] 55))
        have SF := hidp (Blk.new w11 [.int .i64 (ex : Nat), .int .i64 (ey : Nat)] 55)
        refine wp_region_held_drew (S := (fun w' => Blk w' w11.heap.size [.int .i64 (ex : Nat), .int .i64 (ey : Nat)] 55)) (by kernel_rfl) SF.out.drew (fun hS0 => ?_)
        refine wpAnyH_takeTo2 (i := 0) (oi := _) (v := .agg (cC 0 zh32 (.slice none 0 0)).toArray) (some 59) rfl rfl (by kernel_rfl) (by kernel_rfl) (by kernel_rfl) (fun _ _ _ h => h) (yieldsIf_build rfl 63 _ rfl (cC 0 zh32 (.slice none 0 0)).toArray (by kernel_rfl)) hS0 ?_
        try simp only [Act.put, List.setIfInBounds_toArray, List.set_cons_zero, List.set_cons_succ]
        refine wpAnyH_takeTo2 (i := 1) (oi := _) (v := .agg [.int .i64 (ex : Nat), .int .i64 (ey : Nat)].toArray) (some 60) rfl rfl (by kernel_rfl) (by kernel_rfl) (by kernel_rfl) (fun _ _ _ h => h) (yieldsIf_load_mid rfl 55 _ rfl w11.heap.size 0 rfl [.int .i64 (ex : Nat), .int .i64 (ey : Nat)] _ (fun w h j v hj => by rw [Nat.zero_add]; exact (h.cell j).trans hj) Try.underlying55 rfl (by kernel_rfl)) hS0 ?_
        try simp only [Act.put, List.setIfInBounds_toArray, List.set_cons_zero, List.set_cons_succ]
        refine wpAnyH_ready (rs := [2]) (by kernel_rfl) (by simp) ?_
        refine AllReadyH.cons (o := _) rfl (fun K hK => ?_) AllReadyH.nil
        refine if_intro (by rfl) ?_
        refine wp_store_row 63 _ _ rfl w.heap.size (cC 0 zh32 (.slice none 0 0)).toArray rfl rfl 63 (cC 0 zh32 (.slice none 0 0)).toArray E6.out.drew.res.res (by rw [List.size_toArray, hl0.out]; kernel_rfl) (by simp [hl0.out, hl0.out]) ho0.out ?_
        obtain ⟨w13, hw13⟩ : ∃ W, W = ((w11.alloc (.cells #[.int .i64 (ex : Nat), .int .i64 (ey : Nat)] 55)).drew).setRow w.heap.size (cC 0 zh32 (.slice none 0 0)).toArray := ⟨_, rfl⟩
        have F1 := hidp (show DRes w w13 (cC 0 zh32 (.slice none 0 0)) 0 0 by rw [hw13]; exact DRes.row (ds := (cC 0 zh32 (.slice none 0 0))) E6.out.drew.res)
        have S1 := hidp (show Blk w13 w11.heap.size [.int .i64 (ex : Nat), .int .i64 (ey : Nat)] 55 by rw [hw13]; exact ((But.refl w.heap.size _).setRow _).blk hS0 hne.out.1)
        rw [← hw13]
        clear hw13
        refine hK.out _ _ S1.out (fun _ => ?_)
        clear hK K
        try simp only [Act.put, List.setIfInBounds_toArray, List.set_cons_zero, List.set_cons_succ]
        refine wpAnyH_ready (rs := [3]) (by kernel_rfl) (by simp) ?_
        refine AllReadyH.cons (o := _) rfl (fun K hK => ?_) AllReadyH.nil
        refine if_intro (by rfl) ?_
        obtain ⟨k0, k1, k2, k3⟩ := F1.out.fc
        go_simp
        have F2 := hidp (F1.out.fin (ex : Nat) (ey : Nat))
        have S2 := hidp (show Blk ((w13.setCell ⟨w.heap.size + 1, 0, none⟩ (.int .i64 (ex : Nat))).setCell ⟨w.heap.size + 1, 1, none⟩ (.int .i64 (ey : Nat))) w11.heap.size [.int .i64 (ex : Nat), .int .i64 (ey : Nat)] 55 from (S1.out.other _ _ hne.out.2).other _ _ hne.out.2)
        refine hK.out _ _ S2.out (fun _ => ?_)
        clear hK K
        try simp only [Act.put, List.setIfInBounds_toArray, List.set_cons_zero, List.set_cons_succ]
        refine wpAnyH_done (by kernel_rfl) ?_ _
        clear k0 k1 k2 k3 S2
        generalize (World.setCell _ _ _) = W at F2 ⊢
        go_wp2
        refine bodyPost_ret (v := .tuple #[.agg (cC 0 zh32 (.slice none 0 0)).toArray, .agg [.int .i64 (ex : Nat), .int .i64 (ey : Nat)].toArray]) ?_ rfl ⟨⟨.slice none 0 0, by rw [hR.out]; rfl, by rw [hR.out]; exact OwnT.nil _ _⟩, F2.out.bel⟩
        exact results_rows2 Try.results51 _ _ w.heap.size 63 _ _ (w.heap.size + 1) 55 _ _ rfl F2.out.res Try.underlying63 rfl (by rw [hl0.out]; kernel_rfl) rfl F2.out.flt Try.underlying55 rfl (by kernel_rfl)
end Go.Proofs.Ytlcflcohlbckfaa
