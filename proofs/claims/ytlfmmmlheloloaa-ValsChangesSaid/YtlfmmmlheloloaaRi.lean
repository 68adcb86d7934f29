/-
  The walk of ValsChanges.
-/
import Derived.Test.YtlfmmmlheloloaaRg
import Derived.Test.YtlfmmmlheloloaaRh
import Derived.Test.YtlfmmmlheloloaaVp
namespace Go.Proofs.Ytlfmmmlheloloaa
open Go.RowKit Go.Lib Go.Maps

theorem chgO_len (l c : List Vd) : (chgO l c).1.length ≤ 64 := by
  unfold chgO
  (repeat' split) <;> simp <;> omega
theorem overVals_zero (p : Option Addr) (cap : Nat) (w : World) : Calls Try.prog 50 #[.slice p 0 cap] w fun e w' => e = .returned (.tuple #[]) ∧ w' = w := by
  go_enter Try.func50, Try.ntmps50
  go_wp2_with fail
  go_loopw [2] (fun x wr => x = .int .i64 0 ∧ wr = w) (fun _ _ => 0)
  case atStart => exact ⟨rfl, rfl⟩
  case round =>
    obtain ⟨rfl, rfl⟩ := hrel
    go_wp2_with fail
    refine bodyPost_end (results_none rfl _ _ _) rfl ?_
    exact ⟨rfl, rfl⟩
/-- Written over: all but its own block stays. -/
theorem overVals_any (p : Option Addr) (b cap : Nat) (m : List Vd) (w : World) (hv : Vs w p b 0 cap m) (ho : Ow w b m.length) (hm : m.length ≤ 64) :
    Calls Try.prog 50 #[.slice p m.length cap] w fun e w' => e = .returned (.tuple #[]) ∧ Bex b w w' := by
  rcases Nat.eq_zero_or_pos m.length with h0 | h0
  · rw [h0]
    refine (overVals_zero p cap w).mono ?_
    rintro e w' ⟨rfl, rfl⟩
    exact ⟨rfl, Bex.refl _ _⟩
  · obtain ⟨cs, h1, h2⟩ := ho h0
    obtain ⟨rfl, _⟩ := hv.ptr (by have := hv.le; omega)
    exact overVals_some b m.length cap cs.length cs w h1 rfl h2 (by omega)

set_option maxRecDepth 100000 in
set_option maxHeartbeats 4000000 in
theorem vchg_long1 (a : Option Addr) (cap : Nat) (l : List Vd) (a2 : Option Addr) (cap2 : Nat) (c : List Vd) (w : World) (hl : 80 < l.length) : Calls Try.prog 10 #[.slice a l.length cap, .slice a2 c.length cap2] w fun e w' => e = .returned (.bool true) ∧ Below w.heap.size w w' := by
  have hV : Hid (Below w.heap.size w w) := hidp (Below.refl _ _)
  go_enter Try.func10, Try.ntmps10
  go_wp2_with fail
  refine (vawake_any w).mono ?_
  rintro e w1 ⟨rfl, hB⟩
  have hT := hidp (show Below w.heap.size w w1 from hB)
  replace hV := hidp (hV.out.trans (hT.out.mono hV.out.size))
  clear hB hT
  go_wp2_with fail
  go_ret
  exact ⟨rfl, hV.out⟩
set_option maxRecDepth 100000 in
set_option maxHeartbeats 4000000 in
theorem vchg_long2 (a : Option Addr) (cap : Nat) (l : List Vd) (a2 : Option Addr) (cap2 : Nat) (c : List Vd) (w : World) (hl : l.length ≤ 80) (hc : 80 < c.length) : Calls Try.prog 10 #[.slice a l.length cap, .slice a2 c.length cap2] w fun e w' => e = .returned (.bool true) ∧ Below w.heap.size w w' := by
  have hV : Hid (Below w.heap.size w w) := hidp (Below.refl _ _)
  go_enter Try.func10, Try.ntmps10
  go_wp2_with fail
  refine (vawake_any w).mono ?_
  rintro e w1 ⟨rfl, hB⟩
  have hT := hidp (show Below w.heap.size w w1 from hB)
  replace hV := hidp (hV.out.trans (hT.out.mono hV.out.size))
  clear hB hT
  go_wp2_with fail
  go_ret
  exact ⟨rfl, hV.out⟩
set_option maxRecDepth 100000 in
set_option maxHeartbeats 16000000 in
theorem vchg_any (a : Option Addr) (b o cap : Nat) (l : List Vd) (a2 : Option Addr) (b2 o2 cap2 : Nat) (c : List Vd) (w : World) (h1 : Vs w a b o cap l) (h2 : Vs w a2 b2 o2 cap2 c) : Calls Try.prog 10 #[.slice a l.length cap, .slice a2 c.length cap2] w fun e w' => e = .returned (.bool true) ∧ Below w.heap.size w w' := by
  by_cases hl : 80 < l.length
  · exact vchg_long1 a cap l a2 cap2 c w hl
  by_cases hc : 80 < c.length
  · exact vchg_long2 a cap l a2 cap2 c w (by omega) hc
  have hV : Hid (Below w.heap.size w w) := hidp (Below.refl _ _)
  have H1 := hidp h1
  have H2 := hidp h2
  have HN := hidp (show l.length ≤ 80 ∧ c.length ≤ 80 from ⟨by omega, by omega⟩)
  have hl8 : l.length ≤ 80 := by omega
  have hc8 : c.length ≤ 80 := by omega
  have K1 := hidp h1.ok
  have K9 := hidp (And.intro (fun W (hW : Below w.heap.size w W) => h1.below hW) (fun W (hW : Below w.heap.size w W) => h2.below hW))
  have K2 := hidp h2.ok
  have SV : ∀ p b o cap p2 b2 o2 cap2 (m : List Vd) W, Vs W p b o cap m → Vs W p2 b2 o2 cap2 m → m.length ≤ 80 → Calls Try.prog 49 #[.slice p m.length cap, .slice p2 m.length cap2] W fun e w' => e = .returned (.bool true) ∧ Below W.heap.size W w' := fun p b o cap p2 b2 o2 cap2 m W h1 h2 hm => by
    have q := sameVals_any p b o cap m p2 b2 o2 cap2 m W h1 h2 (by omega)
    rw [decide_eq_true (rfl : m = m)] at q
    exact q
  replace SV := hidp SV
  have e0 : ∀ n : Nat, (((n : Nat) : Int) == ((n : Nat) : Int)) = true := fun n => by simp
  clear h1 h2 hl hc
  go_enter Try.func10, Try.ntmps10
  go_wp2_with fail
  refine (copyVals_any a b o cap l _ H1.out (by have := HN.out; omega)).mono ?_
  rintro e w1 ⟨v1, rfl, hq, hB⟩
  have hT := hidp (show Below w.heap.size w w1 from hB)
  replace H1 := hidp (H1.out.below hT.out)
  replace H2 := hidp (H2.out.below hT.out)
  replace hV := hidp (hV.out.trans (hT.out.mono hV.out.size))
  obtain ⟨p1, q1, m1, rfl, hq1, hs⟩ := hq.vs K1.out
  have V1 := hidp hs
  have B1 := hidp (fun (h0 : 0 < m1) => (hs.ptr h0).2)
  clear hB hT hs hq
  go_wp2_with fail
  refine (copyVals_any a2 b2 o2 cap2 c _ H2.out (by have := HN.out; omega)).mono ?_
  rintro e w2 ⟨v2, rfl, hq, hB⟩
  have hT := hidp (show Below w1.heap.size w1 w2 from hB)
  replace H1 := hidp (H1.out.below hT.out)
  replace H2 := hidp (H2.out.below hT.out)
  replace V1 := hidp (V1.out.below hT.out)
  replace hV := hidp (hV.out.trans (hT.out.mono hV.out.size))
  obtain ⟨p2, q2, m2, rfl, hq2, hs⟩ := hq.vs K2.out
  have V2 := hidp hs
  have B2 := hidp (fun (h0 : 0 < m2) => (hs.ptr h0).2)
  replace B1 := hidp (fun (h0 : 0 < m1) => Nat.lt_of_lt_of_le (B1.out h0) hT.out.size)
  have hVz := hidp hV.out.size
  clear hB hT hs hq
  go_wp2_with fail
  refine (change_own p1 q1 0 m1 l p2 q2 0 m2 c _ V1.out V2.out (by have := HN.out; omega) (by have := HN.out; omega)).mono ?_
  rintro e w3 ⟨⟨pa, ba, ca, rfl, hba, hs, how⟩, hB⟩
  have hT := hidp (show Below w2.heap.size w2 w3 from hB)
  replace H1 := hidp (H1.out.below hT.out)
  replace H2 := hidp (H2.out.below hT.out)
  replace V1 := hidp (V1.out.below hT.out)
  replace V2 := hidp (V2.out.below hT.out)
  replace hV := hidp (hV.out.trans (hT.out.mono hV.out.size))
  have A1 := hidp hs
  have OW := hidp how
  have BA := hidp hba
  clear hB hT hs how hba
  go_wp2_with fail
  refine (refchange_any a b o cap l a2 b2 o2 cap2 c _ H1.out H2.out HN.out.2).mono ?_
  rintro e w4 ⟨⟨pb, bb, cb, rfl, hs⟩, hB⟩
  have hT := hidp (show Below w3.heap.size w3 w4 from hB)
  replace H1 := hidp (H1.out.below hT.out)
  replace H2 := hidp (H2.out.below hT.out)
  replace V1 := hidp (V1.out.below hT.out)
  replace V2 := hidp (V2.out.below hT.out)
  replace A1 := hidp (A1.out.below hT.out)
  replace hV := hidp (hV.out.trans (hT.out.mono hV.out.size))
  have R1 := hidp (hs)
  replace OW := hidp (fun h0 => by obtain ⟨cs, hb1, hb2⟩ := OW.out h0; exact ⟨cs, hT.out.blk' hb1, hb2⟩ : Ow w4 ba (chgO l c).1.length)
  clear hB hT hs
  have HM := hidp (chgO_len l c)
  generalize (chgO l c).1 = m at *
  generalize (chgO l c).2 = x at *
  go_wp2_with fail
  refine (SV.out _ _ _ _ _ _ _ _ m _ A1.out R1.out (by have := HM.out; omega)).mono ?_
  rintro e w5 ⟨rfl, hB⟩
  have hT := hidp (show Below w4.heap.size w4 w5 from hB)
  replace H1 := hidp (H1.out.below hT.out)
  replace H2 := hidp (H2.out.below hT.out)
  replace V1 := hidp (V1.out.below hT.out)
  replace V2 := hidp (V2.out.below hT.out)
  replace A1 := hidp (A1.out.below hT.out)
  replace hV := hidp (hV.out.trans (hT.out.mono hV.out.size))
  replace OW := hidp (fun h0 => by obtain ⟨cs, hb1, hb2⟩ := OW.out h0; exact ⟨cs, hT.out.blk' hb1, hb2⟩ : Ow w5 ba m.length)
  clear hB hT R1
  go_wp2_with fail
  refine (overVals_any pa ba ca m _ A1.out OW.out HM.out).mono ?_
  rintro e w6 ⟨rfl, hB⟩
  have hT := hidp (show Below w.heap.size w5 w6 from hB.below (Nat.le_trans hVz.out BA.out) hV.out.size)
  replace V1 := hidp (V1.out.bex hB (fun h0 e => by have := B1.out h0; have := BA.out; omega))
  replace V2 := hidp (V2.out.bex hB (fun h0 e => by have := B2.out h0; have := BA.out; omega))
  replace hV := hidp (hV.out.trans hT.out)
  replace H1 := hidp (K9.out.1 _ hV.out)
  replace H2 := hidp (K9.out.2 _ hV.out)
  clear hB hT A1 OW
  go_wp2_with fail
  refine (SV.out _ _ _ _ _ _ _ _ l _ V1.out H1.out (by have := HN.out; omega)).mono ?_
  rintro e w7 ⟨rfl, hB⟩
  have hT := hidp (show Below w6.heap.size w6 w7 from hB)
  replace H2 := hidp (H2.out.below hT.out)
  replace V2 := hidp (V2.out.below hT.out)
  replace hV := hidp (hV.out.trans (hT.out.mono hV.out.size))
  clear hB hT V1 H1
  go_wp2_with fail
  refine (SV.out _ _ _ _ _ _ _ _ c _ V2.out H2.out (by have := HN.out; omega)).mono ?_
  rintro e w8 ⟨rfl, hB⟩
  have hT := hidp (show Below w7.heap.size w7 w8 from hB)
  replace hV := hidp (hV.out.trans (hT.out.mono hV.out.size))
  clear hB hT V2 H2
  go_wp2_with fail
  refine (vawake_any _).mono ?_
  rintro e w9 ⟨rfl, hB⟩
  have hT := hidp (show Below w8.heap.size w8 w9 from hB)
  replace hV := hidp (hV.out.trans (hT.out.mono hV.out.size))
  clear hB hT
  go_wp2_with fail
  go_ret
  exact ⟨rfl, hV.out⟩
end Go.Proofs.Ytlfmmmlheloloaa
