/-
  Commit: the answer's Check, Of, laid.
-/
import Derived.Test.YtbhkjflpkpkdlaaL7k
namespace Go.Proofs.Ytbhkjflpkpkdlaa
open Go.RowKit Go.Lib
set_option linter.unusedSimpArgs false

theorem idx_facts {j n : Nat} (h : j + 1 < n) (hn : n ≤ 64) : decide ((0 : Int) < ((j + 1 : Nat) : Int)) = true ∧ (0 : Int) ≤ (j : Int) ∧ (j : Int) < (n : Int) ∧ (0 : Int) ≤ (j : Int) + 1 ∧ (j : Int) + 1 < (n : Int) ∧ IntKind.i64.wrap ((j : Int) + 1 - 1) = (j : Int) ∧ IntKind.i64.wrap (((j + 1 : Nat) : Int) - 1) = (j : Int) ∧ wrap64 (((j + 1 : Nat) : Int) - 1) = ((j : Nat) : Int) ∧ j < n ∧ IntKind.i64.wrap (j : Int) = (j : Int) ∧ wrap64 ((j : Nat) : Int) = ((j : Nat) : Int) :=
  ⟨decide_eq_true (by omega), by omega, by omega, by omega, by omega, by rw [IntKind.wrap_i64]; omega, by rw [IntKind.wrap_i64]; omega, by rw [w64 _ (by omega)]; omega, by omega, by rw [IntKind.wrap_i64]; omega, by rw [w64 _ (by omega)]⟩
theorem drewN_add (W : World) (n k : Nat) : (W.drewN n).drewN k = W.drewN (n + k) := by simp [World.drewN]; try omega
theorem dec_nat {n i : Nat} (h : i < n) : n - ((i + 1 : Nat) : Int).toNat < n - ((i : Nat) : Int).toNat := by omega
theorem dec_nat0 {n : Nat} (h : 0 < n) : n - (1 : Int).toNat < n - ((0 : Nat) : Int).toNat := by simp; omega
theorem w64_2 {j : Nat} (h : j ≤ 1000) : wrap64 ((j : Int) + 1 + 1) = ((j + 1 + 1 : Nat) : Int) := by rw [w64 _ (by omega)]; omega
theorem le_two {j n : Nat} (h : j + 1 < n) : j + 1 + 1 ≤ n := h
theorem le_1000 {j n : Nat} (h : j + 1 < n) (hn : n ≤ 64) : j ≤ 1000 := by omega
/-- Between two rounds of the answer's Check. -/
structure RkI (w wr : World) (i : Nat) (l : List Vt) (q : Int) : Prop where
  bel : Below w.heap.size w wr
  e : chkV (-1) l = chkV q (l.drop i)
  q0 : i = 0 → q = -1
  q1 : ∀ j u, i = j + 1 → l[j]? = some u → q = u.a
theorem RkI.next {w wr w' : World} {i : Nat} {l : List Vt} {q : Int} {v : Vt} (H : RkI w wr i l q) (hv : l[i]? = some v) (h0 : nextV q v = 0) (hb : Below w.heap.size w w') : RkI w w' (i + 1) l v.a := by
  refine ⟨hb, ?_, fun h => absurd h (by omega), fun j u hj hu => ?_⟩
  · rw [H.e]
    obtain ⟨hlt, rfl⟩ := List.getElem?_eq_some_iff.1 hv
    rw [List.drop_eq_getElem_cons hlt]
    simp only [chkV, h0, if_true]
  · obtain rfl : j = i := by omega
    rw [hv] at hu; cases hu; rfl
theorem RkI.fail {w wr : World} {i : Nat} {l : List Vt} {q : Int} {v : Vt} (H : RkI w wr i l q) (hv : l[i]? = some v) (h0 : nextV q v ≠ 0) : chkV (-1) l = nextV q v := by
  rw [H.e]
  obtain ⟨hlt, rfl⟩ := List.getElem?_eq_some_iff.1 hv
  rw [List.drop_eq_getElem_cons hlt]
  simp only [chkV]
  rw [if_neg h0]
set_option maxRecDepth 100000 in
set_option maxHeartbeats 4000000 in
theorem rcheck_any (h : Int) (p : List Nat) (hp : p.length = 32) (a : Option Addr) (b o cap : Nat) (l : List Vt) (w : World) (hT : Ts w a b o cap l) :
    Calls Try.prog 44 #[.agg (cC h p (.slice a l.length cap)).toArray] w fun e w' => e = .returned (.int .i64 (chkC h l : Nat)) ∧ Below w.heap.size w w' := by
  have hA := Blk.new w (cC h p (.slice a l.length cap)) 63
  have hB := hidp ((Below.refl w.heap.size w).alloc (Nat.le_refl _) (.cells (cC h p (.slice a l.length cap)).toArray 63))
  have c0 := hA.cell 0
  have c33 := hA.cell 33
  rw [cC_0] at c0
  rw [cC_33 hp] at c33
  unfold chkC
  by_cases h3 : h < 1 ∨ 1073741824 < h
  · rw [if_pos h3]
    by_cases h1 : h < 1
    · have t1 : decide (h < 1) = true := decide_eq_true h1
      clear hA hT h3 h1
      go_enter Try.func44, Try.ntmps44
      go_wp2_with fail
      go_ret
      exact ⟨rfl, hB.out⟩
    · have t1 : decide (h < 1) = false := decide_eq_false h1
      have t2 : decide (1073741824 < h) = true := decide_eq_true (by omega)
      clear hA hT h3 h1
      go_enter Try.func44, Try.ntmps44
      go_wp2_with fail
      go_ret
      exact ⟨rfl, hB.out⟩
  have t1 : decide (h < 1) = false := decide_eq_false (by omega)
  have t2 : decide (1073741824 < h) = false := decide_eq_false (by omega)
  rw [if_neg h3]
  clear h3
  by_cases h4 : 64 < l.length
  · have t3 : decide ((64 : Int) < ((l.length : Nat) : Int)) = true := decide_eq_true (by omega)
    rw [if_pos h4]
    clear hA hT h4
    go_enter Try.func44, Try.ntmps44
    go_wp2_with fail
    go_ret
    exact ⟨rfl, hB.out⟩
  have t3 : decide ((64 : Int) < ((l.length : Nat) : Int)) = false := decide_eq_false (by omega)
  have H4 := hidp (show l.length ≤ 64 by omega)
  rw [if_neg h4]
  have hlt0 := hA.lt
  have HT := hidp (hT.below hB.out)
  have H0 : Hid (RkI w (w.alloc (.cells (cC h p (.slice a l.length cap)).toArray 63)) 0 l (-1)) := hidp ⟨hB.out, by rw [List.drop_zero], fun _ => rfl, fun j u hj => by omega⟩
  have HC := hidp (show ∀ W, (∃ n, W = (w.alloc (.cells (cC h p (.slice a l.length cap)).toArray 63)).drewN n) → W.cell? ⟨w.heap.size, 33, none⟩ = some (.slice a l.length cap) ∧ Ts W a b o cap l from fun W ⟨n, hW⟩ => by subst hW; exact ⟨c33, HT.out.below ((Below.refl _ _).drewN n)⟩)
  obtain ⟨W0, hW0⟩ : ∃ W, W = w.alloc (.cells (cC h p (.slice a l.length cap)).toArray 63) := ⟨_, rfl⟩
  rw [← hW0] at H0 HC
  clear hA hT h4
  go_enter Try.func44, Try.ntmps44
  go_wp2_with fail
  rw [← hW0]
  clear hW0 c0 c33 HT
  go_loopw [3] (fun x wr => ∃ i : Nat, ∃ q, i ≤ l.length ∧ x = .int .i64 ((i : Nat) : Int) ∧ Hid (RkI w wr i l q ∧ ∃ n, wr = W0.drewN n)) (fun x _ => l.length - (Go.RowKit.intOf x).toNat)
  case atStart => exact ⟨0, -1, by omega, rfl, hidp ⟨H0.out, 0, rfl⟩⟩
  case round =>
    obtain ⟨i, q, hi, rfl, hr⟩ := hrel
    clear H0 t1 t2 t3
    obtain ⟨c33, hTr⟩ := HC.out wr hr.out.2
    by_cases hlt : i < l.length
    · obtain ⟨v, hv, hok, hae, hbl, c0, c1⟩ := hTr.at hlt
      have HV := hidp hv
      have HK := hidp hlt
      have hadd := w64_nat (n := i) (by have := H4.out; omega)
      have hltz : (i : Int) < (l.length : Int) := by omega
      have HN := hidp hr.out.2
      by_cases hr3 : v.a < 0 ∨ 63 < v.a
      · have hf := hidp (hr.out.1.fail hv (by unfold nextV; rw [if_pos hr3]; decide))
        have hf2 := hidp (show chkV (-1) l = 3 by rw [hf.out]; unfold nextV; rw [if_pos hr3])
        have hb := hidp hr.out.1.bel
        clear hf hr hv hok hTr
        subst hae
        by_cases h1 : v.a < 0
        · have t1 : decide (v.a < 0) = true := decide_eq_true h1
          clear hr3 h1
          go_wp2_with fail
          go_ret
          exact ⟨by rw [hf2.out]; rfl, hb.out⟩
        · have t1 : decide (v.a < 0) = false := decide_eq_false h1
          have t2 : decide ((64 : Int) ≤ v.a) = true := decide_eq_true (by omega)
          clear hr3 h1
          go_wp2_with fail
          go_ret
          exact ⟨by rw [hf2.out]; rfl, hb.out⟩
      have t1 : decide (v.a < 0) = false := decide_eq_false (by omega)
      have t2 : decide ((64 : Int) ≤ v.a) = false := decide_eq_false (by omega)
      rcases Nat.eq_zero_or_pos i with rfl | hpos
      · have hn : nextV q v = 0 := by unfold nextV; rw [if_neg hr3, if_neg (by rw [hr.out.1.q0 rfl]; omega)]
        have hb := hidp (And.intro hr.out.1 hn)
        have c0z : wr.cell? ⟨b, o, none⟩ = some (.int .i64 v.a) := by simpa using c0
        clear hr hr3 hn hTr hok hv
        subst hae
        go_wp2_with fail
        go_quiet (fail)
        have H2 := hidp (hb.out.1.next HV.out hb.out.2 (hb.out.1.bel.drewN nq))
        have HN2 := hidp (show ∃ n, wr.drewN nq = W0.drewN n by obtain ⟨n, rfl⟩ := HN.out; exact ⟨n + nq, drewN_add W0 n nq⟩)
        clear hb
        go_wp2_with fail
        exact ⟨⟨0 + 1, _, HK.out, rfl, hidp ⟨H2.out, HN2.out⟩⟩, dec_nat0 HK.out⟩
      · obtain ⟨j, rfl⟩ : ∃ j, i = j + 1 := ⟨i - 1, by omega⟩
        obtain ⟨u, hu, huk, _, _, d0, d1⟩ := hTr.at (show j < l.length by omega)
        have hqu : q = u.a := hr.out.1.q1 j u rfl hu
        obtain ⟨hp0, bm0, bm1, bm2, bm3, bm4, bm5, bm6, bm7, bm8, bm9⟩ := idx_facts HK.out H4.out
        by_cases h9 : v.a ≤ u.a
        · have t9 : decide (v.a ≤ u.a) = true := decide_eq_true h9
          have hne : nextV q v = 9 := by unfold nextV; rw [if_neg hr3, if_pos (by rw [hqu]; exact h9)]
          have hf2 := hidp (show chkV (-1) l = 9 by rw [hr.out.1.fail hv (by rw [hne]; decide), hne])
          have hb := hidp hr.out.1.bel
          clear hr hv hok hTr hu huk hqu h9 hr3 hne
          subst hae
          go_wp2_with fail
          go_quiet (fail)
          go_wp2_with fail
          go_ret
          exact ⟨by rw [hf2.out]; rfl, hb.out.drewN nq⟩
        · have t9 : decide (v.a ≤ u.a) = false := decide_eq_false h9
          have hn : nextV q v = 0 := by unfold nextV; rw [if_neg hr3, if_neg (by rw [hqu]; omega)]
          have hb := hidp (And.intro hr.out.1 hn)
          clear hr hv hok hTr hu huk hqu h9 hr3 hn
          subst hae
          go_wp2_with fail
          go_quiet (fail)
          have H2 := hidp (hb.out.1.next HV.out hb.out.2 (hb.out.1.bel.drewN nq))
          have HN2 := hidp (show ∃ n, wr.drewN nq = W0.drewN n by obtain ⟨n, rfl⟩ := HN.out; exact ⟨n + nq, drewN_add W0 n nq⟩)
          clear hb
          go_wp2_with fail
          rw [w64_2 (le_1000 HK.out H4.out)]
          exact ⟨⟨j + 1 + 1, _, le_two HK.out, rfl, hidp ⟨H2.out, HN2.out⟩⟩, dec_nat HK.out⟩
    · have hb := hidp hr.out.1.bel
      have hl := hidp (show chkV (-1) l = 0 by rw [hr.out.1.e, List.drop_eq_nil_of_le (by omega)]; rfl)
      obtain rfl : i = l.length := by omega
      clear hr hlt hTr
      go_wp2_with fail
      go_ret
      exact ⟨by rw [hl.out]; rfl, hb.out⟩
end Go.Proofs.Ytbhkjflpkpkdlaa
