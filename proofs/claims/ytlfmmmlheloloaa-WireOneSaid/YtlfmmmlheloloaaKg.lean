/-
  Contracts: Pick, a reader of any bytes, again of any kind.
-/
import Derived.Test.YtlfmmmlheloloaaKf
namespace Go.Proofs.Ytlfmmmlheloloaa
open Go.RowKit Go.Lib Go.Maps

theorem Pick_any (x : Int) (n : Nat) (w : World) (hn : 0 < n) (hn2 : n ≤ 1000) :
    Calls Try.prog 44 #[.int .i64 x, .int .i64 n] w fun e w' => (∃ r : Nat, r < n ∧ e = .returned (.int .i64 r)) ∧ w' = w := by
  have hm := Int.tmod_lt_of_pos x (show (0 : Int) < (n : Int) by omega)
  have hm2 : -(n : Int) < x.tmod n := by
    have h1 := Int.tmod_lt_of_pos (-x) (show (0 : Int) < (n : Int) by omega)
    rw [Int.neg_tmod] at h1
    omega
  have hz : ((n : Int) == 0) = false := by rw [beq_eq_false_iff_ne]; omega
  have hle : decide ((n : Int) ≤ 0) = false := decide_eq_false (by omega)
  have hnz : ¬ (n : Int) = 0 := by omega
  generalize hr : x.tmod (n : Int) = r at hm hm2
  by_cases h0 : r < 0
  · have ht : decide (r < 0) = true := decide_eq_true h0
    have hw : wrap64 (r + n) = r + n := w64 _ (by omega)
    have hw0 : wrap64 r = r := w64 _ (by omega)
    have HH := hidp (And.intro hm (And.intro hm2 h0))
    clear hm hm2 h0
    go_enter Try.func44, Try.ntmps44
    go_wp2
    go_ret
    exact ⟨⟨(r + n).toNat, by have := HH.out; omega, ret_int (by have := HH.out; omega)⟩, rfl⟩
  · have ht : decide (r < 0) = false := decide_eq_false h0
    have hw0 : wrap64 r = r := w64 _ (by omega)
    have HH := hidp (And.intro hm (And.intro hm2 h0))
    clear hm hm2 h0
    go_enter Try.func44, Try.ntmps44
    go_wp2
    go_ret
    exact ⟨⟨r.toNat, by have := HH.out; omega, ret_int (by have := HH.out; omega)⟩, rfl⟩

theorem pNum_ne {R : List Nat} {x : Nat} (h : pNum R = .er x) : x ≠ 0 := by
  cases R with
  | nil => cases h; decide
  | cons k R =>
    rw [pNum_cons] at h
    split at h
    · cases h; decide
    split at h
    · cases h; decide
    split at h
    · cases h; decide
    · cases h
theorem pText_ne {R : List Nat} {most : Int} {x : Nat} (h : pText R most = .er x) : x ≠ 0 := by
  unfold pText pLen at h
  cases hn : pNum R with
  | er y => rw [hn] at h; cases h; exact pNum_ne hn
  | ok v n =>
    rw [hn] at h
    simp only at h
    split at h
    · rename_i hq
      cases h
      split at hq
      · cases hq; decide
      · cases hq
    · split at h
      · cases h; decide
      · cases h
theorem pWord_ne {R : List Nat} {x : Nat} (h : pWord R = .er x) : x ≠ 0 := by
  unfold pWord at h
  split at h
  · cases h; decide
  · cases h
theorem pPace_ne {R : List Nat} {x : Nat} (h : pPace R = .er x) : x ≠ 0 := by
  unfold pPace at h
  split at h
  · cases h; decide
  split at h
  · cases h
  · cases h; decide
theorem pBool_ne {R : List Nat} {x : Nat} (h : pBool R = .er x) : x ≠ 0 := by
  cases R with
  | nil => cases h; decide
  | cons k R =>
    rw [pBool_cons] at h
    split at h
    · cases h; decide
    · cases h
theorem again_any {w : World} {gr t b : Nat} {R : List Nat} {gw lim : Nat} {v : Value} {X : List Nat} (hr : RdX w gr t b R 0 0) (hw : Wr w gw lim v X 0) (hgr : gr < gw) (hb : b < gw) (hfit : X.length + R.length ≤ lim) (k : Nat) (hk : k < 8) :
    Calls Try.prog 45 #[.pointer (some ⟨gr, 0, none⟩), .pointer (some ⟨gw, 0, none⟩), .int .i64 (k : Nat)] w fun e w' =>
      (∃ n, n ≤ R.length ∧ AgP w gr (t + n) b (R.drop n) gw lim (X ++ R.take n) e w') ∨ (∃ x, x ≠ 0 ∧ AgE w gr t b x e w') := by
  obtain ⟨p, o, cap, hr⟩ := hr
  rcases (show k = 0 ∨ k = 1 ∨ k = 2 ∨ k = 3 ∨ k = 4 ∨ k = 5 ∨ k = 6 ∨ k = 7 by omega) with rfl | rfl | rfl | rfl | rfl | rfl | rfl | rfl
  · cases hq : pNum R with
    | ok v0 n => exact (again0_ok hr hw hgr hb hfit v0 n hq).mono fun e w' h => .inl ⟨n, (by obtain ⟨_, _, _, _, h, _⟩ := pNum_form hr.bs.byte hq; exact h), h⟩
    | er x => exact (again0_er hr hw hgr hb x (pNum_ne hq) hq).mono fun e w' h => .inr ⟨x, pNum_ne hq, h⟩
  · cases hq : pText R 1000 with
    | ok v0 n => exact (again1_ok hr hw hgr hb hfit v0 n hq).mono fun e w' h => .inl ⟨n, (by obtain ⟨_, _, _, _, h⟩ := pText_form hr.bs.byte hq; exact h), h⟩
    | er x => exact (again1_er hr hw hgr hb x (pText_ne hq) hq).mono fun e w' h => .inr ⟨x, pText_ne hq, h⟩
  · cases hq : pText R 1000 with
    | ok v0 n => exact (again2_ok hr hw hgr hb hfit v0 n hq).mono fun e w' h => .inl ⟨n, (by obtain ⟨_, _, _, _, h⟩ := pText_form hr.bs.byte hq; exact h), h⟩
    | er x => exact (again2_er hr hw hgr hb x (pText_ne hq) hq).mono fun e w' h => .inr ⟨x, pText_ne hq, h⟩
  · cases hq : pRaw 32 R with
    | ok v0 n => exact (again3_ok hr hw hgr hb hfit v0 n hq).mono fun e w' h => .inl ⟨n, (by obtain ⟨_, h1, h2⟩ := pRaw_ok hq; omega), h⟩
    | er x => exact (again3_er hr hw hgr hb x ((by have := (pRaw_er hq).1; omega)) hq).mono fun e w' h => .inr ⟨x, (by have := (pRaw_er hq).1; omega), h⟩
  · cases hq : pRaw 4 R with
    | ok v0 n => exact (again4_ok hr hw hgr hb hfit v0 n hq).mono fun e w' h => .inl ⟨n, (by obtain ⟨_, h1, h2⟩ := pRaw_ok hq; omega), h⟩
    | er x => exact (again4_er hr hw hgr hb x ((by have := (pRaw_er hq).1; omega)) hq).mono fun e w' h => .inr ⟨x, (by have := (pRaw_er hq).1; omega), h⟩
  · cases hq : pWord R with
    | ok v0 n => exact (again5_ok hr hw hgr hb hfit v0 n hq).mono fun e w' h => .inl ⟨n, (pWord_form hr.bs.byte hq).2.2.1, h⟩
    | er x => exact (again5_er hr hw hgr hb x ((pWord_ne hq)) hq).mono fun e w' h => .inr ⟨x, (pWord_ne hq), h⟩
  · cases hq : pPace R with
    | ok v0 n => exact (again6_ok hr hw hgr hb hfit v0 n hq).mono fun e w' h => .inl ⟨n, (pPace_form hr.bs.byte hq).2.2.2.1, h⟩
    | er x => exact (again6_er hr hw hgr hb x ((pPace_ne hq)) hq).mono fun e w' h => .inr ⟨x, (pPace_ne hq), h⟩
  · cases hq : pBool R with
    | ok v0 n => exact (again7_ok hr hw hgr hb hfit v0 n hq).mono fun e w' h => .inl ⟨n, (pBool_form hq).2.2, h⟩
    | er x => exact (again7_er hr hw hgr hb x ((pBool_ne hq)) hq).mono fun e w' h => .inr ⟨x, (pBool_ne hq), h⟩
theorem newReader_any (p : Option Addr) (b o cap : Nat) (L : List Nat) (w : World) (h : Bs w p b o L cap) (hn : L.length ≤ 4000000) :
    Calls Try.prog 26 #[.slice p L.length cap] w fun e w' => ∃ g b', e = .returned (.pointer (some ⟨g, 0, none⟩)) ∧ w.heap.size ≤ g ∧ b' < w'.heap.size ∧ RdX w' g 0 b' L 0 0 ∧ Below w.heap.size w w' := by
  have HC := hidp (clone_any p b o cap L w h hn)
  have HN := hidp hn
  clear h hn
  go_enter Try.func26, Try.ntmps26
  go_wp2_with (go_at_call 84; refine HC.out.mono ?_; rintro e w1 ⟨⟨v, rfl, p, b, cap', rfl, hb, hp, hs⟩, hB⟩; have hX := hidp (And.intro hb (And.intro hp (And.intro hs hB))); clear hb hp hs hB)
  go_ret
  have hB2 : Below w1.heap.size w1 (w1.alloc (.cells #[.pointer (some ⟨w1.heap.size, 0, none⟩), .int .i64 (0 : Nat), .slice p L.length cap', .int .i64 (0 : Nat), .int .i64 (0 : Nat)] 64)) := (Below.refl _ w1).alloc (Nat.le_refl _) _
  have hs2 := hX.out.2.2.1.below hB2
  by_cases h0 : 0 < cap'
  · exact ⟨w1.heap.size, b, rfl, hX.out.2.2.2.size, by have := (hX.out.2.2.1.ptr h0).2; simp; omega, ⟨p, 0, cap', Blk.new w1 [.pointer (some ⟨w1.heap.size, 0, none⟩), .int .i64 (0 : Nat), .slice p L.length cap', .int .i64 (0 : Nat), .int .i64 (0 : Nat)] _, hs2, fun h0 => by have := (hX.out.2.2.1.ptr h0).2; omega, by have := HN.out; omega⟩, btrans hX.out.2.2.2 hB2⟩
  · exact ⟨w1.heap.size, w1.heap.size, rfl, hX.out.2.2.2.size, by simp, ⟨p, 0, cap', Blk.new w1 [.pointer (some ⟨w1.heap.size, 0, none⟩), .int .i64 (0 : Nat), .slice p L.length cap', .int .i64 (0 : Nat), .int .i64 (0 : Nat)] _, ⟨hs2.byte, hs2.le, fun h => absurd h h0, fun i hi => absurd hi (by have := hs2.le; omega)⟩, fun h => absurd h h0, by have := HN.out; omega⟩, btrans hX.out.2.2.2 hB2⟩
end Go.Proofs.Ytlfmmmlheloloaa
