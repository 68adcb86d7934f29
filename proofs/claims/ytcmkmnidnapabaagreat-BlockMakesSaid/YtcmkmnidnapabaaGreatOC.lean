/-
  OverCommit.
-/
import Derived.Test.YtcmkmnidnapabaaGreatTE
import Derived.Test.YtcmkmnidnapabaaGreatUj

/-! OC: OverCommit. -/
namespace Go.Proofs.YtcmkmnidnapabaaGreat
set_option linter.unusedSimpArgs false
open Go.RowKit Go.Lib

structure OvC (w wr : World) (cs : List Value) (g m : Nat) : Prop where
  blk : ∃ ds, Blk wr g ds 169 ∧ ds.length = m
  bex : Bex g w wr
  kc : Blk wr w.heap.size cs 82
theorem two_in {w : World} {g m i : Nat} {cs : List Value} (h : Blk w g cs 169) (hl : cs.length = m) (hi : i * 2 + 1 < m) : ∃ u0 u1, w.cell? ⟨g, i * 2, none⟩ = some u0 ∧ w.cell? ⟨g, i * 2 + 1, none⟩ = some u1 :=
  ⟨cs[i * 2], cs[i * 2 + 1], (h.cell _).trans (List.getElem?_eq_getElem (by omega)), (h.cell _).trans (List.getElem?_eq_getElem (by omega))⟩
set_option maxRecDepth 100000 in
set_option maxHeartbeats 4000000 in
theorem overC_some (h : Int) (p : List Nat) (hp : p.length = 32) (g n cap m : Nat) (ds : List Value) (w : World) (hd : Blk w g ds 169) (hm : ds.length = m) (hn : n * 2 ≤ m) (hn2 : n ≤ 1000) :
    Calls Tryz.prog 128 #[.agg (cC h p (.slice (some ⟨g, 0, none⟩) n cap)).toArray] w fun e w' => e = .returned (.tuple #[]) ∧ Bex g w w' := by
  have hlt := hd.lt
  have H0 : Hid (OvC w (w.alloc (.cells (cC h p (.slice (some ⟨g, 0, none⟩) n cap)).toArray 82)) (cC h p (.slice (some ⟨g, 0, none⟩) n cap)) g m) := hidp ⟨⟨ds, hd.alloc _, hm⟩, (Bex.refl g w).alloc _, Blk.new _ _ _⟩
  have HN := hidp (And.intro hn (And.intro hn2 (show g ≠ w.heap.size ∧ g ≤ w.heap.size by omega)))
  have hpp := hidp hp
  clear hd hm hn hn2 hlt hp
  go_enter Tryz.func128, Tryz.ntmps128
  go_wp2_with fail
  go_loopw [2] (fun x wr => ∃ i : Nat, i ≤ n ∧ x = .int .i64 ((i : Nat) : Int) ∧ Hid (OvC w wr (cC h p (.slice (some ⟨g, 0, none⟩) n cap)) g m)) (fun x _ => n - (Go.RowKit.intOf x).toNat)
  case atStart => exact ⟨0, by omega, rfl, H0⟩
  case round =>
    obtain ⟨i, hi, rfl, hr⟩ := hrel
    clear H0
    have c33 := (hr.out.kc.cell 33).trans (cC_33 hpp.out)
    by_cases hlt : i < n
    · obtain ⟨cs', hb, hl⟩ := hr.out.blk
      obtain ⟨u0, u1, c0, c1⟩ := two_in hb hl (i := i) (by have := HN.out; omega)
      have f0 := hb.free (i * 2)
      have f1 := hb.free (i * 2 + 1)
      have hgl := hb.lt
      have HB := hidp (And.intro hb hl)
      have HX := hidp (And.intro hr.out.bex (And.intro hlt hr.out.kc))
      have hadd := w64_nat (n := i) (by have := HN.out; omega)
      have hltz : (i : Int) < (n : Int) := by omega
      clear hb hl hr hi hlt
      go_wp2_with (with_reducible refine (?_ : wpList _ _ _ _ _ _); refine wpList_buildG (by kernel_rfl) 169 _ rfl #[.int .i64 (-7), .int .u64 0] (by kernel_rfl) ?_)
      have hb5 := (HB.out.1.set (i * 2) (.int .i64 (-7))).set (i * 2 + 1) (.int .u64 0)
      have hx5 := (HX.out.1.setCell (i * 2) (.int .i64 (-7))).setCell (i * 2 + 1) (.int .u64 0)
      have hk5 := (HX.out.2.2.other ⟨g, i * 2, none⟩ (.int .i64 (-7)) HN.out.2.2.1.symm).other ⟨g, i * 2 + 1, none⟩ (.int .u64 0) HN.out.2.2.1.symm
      rw [hadd]
      exact ⟨⟨i + 1, HX.out.2.1, rfl, hidp ⟨⟨_, hb5, by simp only [List.length_set]; exact HB.out.2⟩, hx5, hk5⟩⟩, dec_nat HX.out.2.1⟩
    · have hx := hidp hr.out.bex
      obtain rfl : i = n := by omega
      have hnz : ¬ ((i : Int) < (i : Int)) := by omega
      clear hr hlt hi
      go_wp2_with fail
      refine bodyPost_end (results_none rfl _ _ _) rfl ?_
      exact ⟨rfl, hx.out⟩
set_option maxRecDepth 100000 in
set_option maxHeartbeats 4000000 in
theorem overC_zero (h : Int) (p : List Nat) (hp : p.length = 32) (a : Option Addr) (cap : Nat) (w : World) :
    Calls Tryz.prog 128 #[.agg (cC h p (.slice a 0 cap)).toArray] w fun e w' => e = .returned (.tuple #[]) ∧ Below w.heap.size w w' := by
  have hA := hidp (Blk.new w (cC h p (.slice a 0 cap)) 82)
  have hB := hidp ((Below.refl w.heap.size w).alloc (Nat.le_refl _) (.cells (cC h p (.slice a 0 cap)).toArray 82))
  have c33 := (hA.out.cell 33).trans (cC_33 hp)
  go_enter Tryz.func128, Tryz.ntmps128
  go_wp2_with fail
  go_loopw [2] (fun x wr => x = .int .i64 0 ∧ wr = (w.alloc (.cells (cC h p (.slice a 0 cap)).toArray 82))) (fun _ _ => 0)
  case atStart => exact ⟨rfl, rfl⟩
  case round =>
    obtain ⟨rfl, rfl⟩ := hrel
    go_wp2_with fail
    refine bodyPost_end (results_none rfl _ _ _) rfl ?_
    exact ⟨rfl, hB.out⟩
/-- Written over: only what it has of its own. -/
theorem overC_own (h : Int) (p : List Nat) (hp : p.length = 32) (sv : Value) (B : Nat) (l : List Vt) (w : World) (ho : OwnT w B sv l) (hl : l.length ≤ 1000) :
    Calls Tryz.prog 128 #[.agg (cC h p sv).toArray] w fun e w' => e = .returned (.tuple #[]) ∧ ((∃ g, sv.ownBlock = some g ∧ B ≤ g ∧ g < w.heap.size ∧ Bex g w w') ∨ Below w.heap.size w w') := by
  rcases ho.2 with ⟨h1, h2⟩ | ⟨g, cap, cur, h1, h2, h3, h4, h5, h6, h7⟩
  · subst h1
    refine (overC_zero h p hp none 0 w).mono ?_
    rintro e w' ⟨rfl, hb⟩
    exact ⟨rfl, .inr hb⟩
  · subst h1
    have hlt : g < w.heap.size := (Array.getElem?_eq_some_iff.1 h3).1
    refine (overC_some h p hp g l.length cap (cap * 2) cur.toList w (by unfold Blk; simpa using h3) (by simpa using h6) (by omega) hl).mono ?_
    rintro e w' ⟨rfl, hb⟩
    exact ⟨rfl, .inl ⟨g, rfl, h2, hlt, hb⟩⟩
theorem overC_any (h : Int) (p : List Nat) (hp : p.length = 32) (sv : Value) (B : Nat) (l : List Vt) (w : World) (ho : OwnT w B sv l) (hB : B ≤ w.heap.size) (hl : l.length ≤ 1000) :
    Calls Tryz.prog 128 #[.agg (cC h p sv).toArray] w fun e w' => e = .returned (.tuple #[]) ∧ Below B w w' := by
  refine (overC_own h p hp sv B l w ho hl).mono ?_
  rintro e w' ⟨rfl, ⟨g, _, h2, _, hb⟩ | hb⟩
  · exact ⟨rfl, hb.below h2 hB⟩
  · exact ⟨rfl, hb.mono hB⟩
end Go.Proofs.YtcmkmnidnapabaaGreat

