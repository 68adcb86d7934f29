/-
  Commit: the laws' examples.
-/
import Derived.Test.YtbhkjflpkpkdlaaL7l
namespace Go.Proofs.Ytbhkjflpkpkdlaa
open Go.RowKit Go.Lib
set_option linter.unusedSimpArgs false

def Tz (W : World) (p : Option Addr) (b c : Nat) (l : List Vt) : Prop := Ts W p b 0 c l ∧ (p = none → c = 0)
theorem Tz.below {W W' : World} {p : Option Addr} {b c : Nat} {l : List Vt} (h : Tz W p b c l) (hB : Below W.heap.size W W') : Tz W' p b c l := ⟨h.1.below hB, h.2⟩
def OfP (w : World) (hgt : Int) (l : List Vt) (n : Nat) (e : Ending) (w' : World) : Prop := ∃ p b c, e = .returned (.agg (cC hgt ph1 (.slice p n c)).toArray) ∧ Tz w' p b c l ∧ Below w.heap.size w w'
def iL (v : Vt) : List Value := [.int .i64 v.a, .int .i64 (v.s : Nat)]
theorem flatI_at : ∀ (l : List Vt) (i : Nat) (v : Vt), l[i]? = some v → ∀ j c, (iL v)[j]? = some c → (l.flatMap iL)[i * 2 + j]? = some c
  | [], _, _, h, _, _, _ => by simp at h
  | u :: l, 0, v, h, j, c, hc => by
    simp only [List.getElem?_cons_zero, Option.some.injEq] at h
    subst h
    have hj : j < 2 := (List.getElem?_eq_some_iff.1 hc).1
    rw [List.flatMap_cons, List.getElem?_append_left (show 0 * 2 + j < (iL u).length by show 0 * 2 + j < 2; omega), Nat.zero_mul, Nat.zero_add]
    exact hc
  | u :: l, i + 1, v, h, j, c, hc => by
    have hl : (iL u).length = 2 := rfl
    rw [List.flatMap_cons, List.getElem?_append_right (by rw [hl]; omega), hl, show (i + 1) * 2 + j - 2 = i * 2 + j by omega]
    exact flatI_at l i v (by simpa using h) j c hc
def okL (l : List Vt) : Bool := l.all (fun v => decide (-1000 ≤ v.a) && decide (v.a ≤ 1000) && decide (v.s ≤ 1000))
theorem okL_at {l : List Vt} (h : okL l = true) : ∀ v ∈ l, VtOk v ∧ v.s ≤ 1000 := by
  intro v hv
  unfold okL at h
  rw [List.all_eq_true] at h
  have q := h v hv
  simp only [Bool.and_eq_true, decide_eq_true_eq] at q
  exact ⟨⟨by omega, by omega⟩, q.2⟩
theorem of_lit (hgt : Int) (l : List Vt) (n : Nat) (cells : Array Value) (hc : cells = (l.flatMap iL).toArray) (N2 : Nat) (hN2 : N2 = l.length * 2) (hn : n = l.length) (hle : l.length ≤ 100) (hok : okL l = true) (w : World) :
    Calls Try.prog 102 #[.int .i64 hgt, .slice (some ⟨w.heap.size, 0, none⟩) N2 N2] (w.alloc (.cells cells 3)) (OfP w hgt l n) := by
  subst hc
  have hk := Blk.new w (l.flatMap iL) 3
  have ha := (Below.refl w.heap.size w).alloc (Nat.le_refl _) (.cells (l.flatMap iL).toArray 3)
  refine (of_any hgt _ w.heap.size N2 l _ (fun j v hv => ⟨rfl, ?_, ?_⟩) N2 hN2 hle (fun v hv => (okL_at hok v hv).2)).mono ?_
  · rw [hk.cell (j * 2)]; exact flatI_at l j v hv 0 _ rfl
  · rw [hk.cell (j * 2 + 1)]; exact flatI_at l j v hv 1 _ rfl
  · rintro e w' ⟨sv, rfl, ho, hb⟩
    obtain ⟨p, c, rfl, hz⟩ := ho.slice
    obtain ⟨b, _, ht, _, _⟩ := ho.tsz (fun u hu => (okL_at hok u hu).1)
    exact ⟨p, b, c, by rw [hn], ⟨ht, hz⟩, ha.trans (hb.mono ha.size)⟩
theorem of_nil (hgt : Int) (w : World) : Calls Try.prog 102 #[.int .i64 hgt, .slice none 0 0] w (OfP w hgt [] 0) := by
  refine (of_any hgt none 0 0 [] w (fun j v hv => by simp at hv) 0 rfl (by decide) (by simp)).mono ?_
  rintro e w' ⟨sv, rfl, ho, hb⟩
  obtain ⟨p, c, rfl, hz⟩ := ho.slice
  obtain ⟨b, _, ht, _, _⟩ := ho.tsz (by simp)
  exact ⟨p, b, c, rfl, ⟨ht, hz⟩, hb⟩
set_option maxRecDepth 100000 in
set_option maxHeartbeats 16000000 in
theorem cawake_any (w : World) : Calls Try.prog 33 #[] w fun e w' => e = .returned (.bool true) ∧ Below w.heap.size w w' := by
  have hV : Hid (Below w.heap.size w w) := hidp (Below.refl _ _)
  go_enter Try.func33, Try.ntmps33
  have HQ := hidp (of_lit 5 [⟨0, 7⟩, ⟨3, 9⟩] 2 #[.int .i64 0, .int .i64 7, .int .i64 3, .int .i64 9] rfl 4 rfl rfl (by decide) (by decide) w)
  go_wp2_with fail
  refine HQ.out.mono ?_
  rintro e w1 ⟨p1, b1, c1, rfl, hts, hB⟩
  have hT := hidp hB
  replace hV := hidp (hV.out.trans (hT.out.mono hV.out.size))
  have T1 := hidp (show Tz _ p1 b1 c1 [⟨0, 7⟩, ⟨3, 9⟩] from hts)
  clear HQ hB hT hts
  have HQ := hidp (show Calls Try.prog 36 #[.agg (cC 5 ph1 (.slice p1 2 c1)).toArray, .int .i64 3] w1 fun e w' => e = .returned (.tuple #[.int .u64 9, .bool true]) ∧ Below w1.heap.size w1 w' from cof_any 5 ph1 rfl p1 b1 0 c1 [⟨0, 7⟩, ⟨3, 9⟩] 3 w1 T1.out.1 (by decide))
  go_wp2_with fail
  refine HQ.out.mono ?_
  rintro e w2 ⟨rfl, hB⟩
  have hT := hidp hB
  clear T1
  replace hV := hidp (hV.out.trans (hT.out.mono hV.out.size))
  clear HQ hB hT
  have HQ := hidp (of_lit 5 [⟨3, 9⟩] 1 #[.int .i64 3, .int .i64 9] rfl 2 rfl rfl (by decide) (by decide) w2)
  go_wp2_with fail
  refine HQ.out.mono ?_
  rintro e w3 ⟨p2, b2, c2, rfl, hts, hB⟩
  have hT := hidp hB
  replace hV := hidp (hV.out.trans (hT.out.mono hV.out.size))
  have T2 := hidp (show Tz _ p2 b2 c2 [⟨3, 9⟩] from hts)
  clear HQ hB hT hts
  have HQ := hidp (of_lit 5 [⟨0, 7⟩, ⟨3, 9⟩] 2 #[.int .i64 0, .int .i64 7, .int .i64 3, .int .i64 9] rfl 4 rfl rfl (by decide) (by decide) w3)
  go_wp2_with fail
  refine HQ.out.mono ?_
  rintro e w4 ⟨p3, b3, c3, rfl, hts, hB⟩
  have hT := hidp hB
  replace T2 := hidp (T2.out.below hT.out)
  replace hV := hidp (hV.out.trans (hT.out.mono hV.out.size))
  have T3 := hidp (show Tz _ p3 b3 c3 [⟨0, 7⟩, ⟨3, 9⟩] from hts)
  clear HQ hB hT hts
  have HQ := hidp (show Calls Try.prog 103 #[.agg (cC 5 ph1 (.slice p2 1 c2)).toArray, .int .i64 0, .int .i64 7, .agg (cC 5 ph1 (.slice p3 2 c3)).toArray, .int .i64 0] w4 fun e w' => e = .returned (.bool true) ∧ Below w4.heap.size w4 w' from by
    have q := adds_any 5 ph1 rfl p2 b2 0 c2 [⟨3, 9⟩] 0 7 5 ph1 rfl p3 b3 0 c3 [⟨0, 7⟩, ⟨3, 9⟩] 0 w4 T2.out.1 T2.out.2 T3.out.1 ⟨by decide, by decide⟩ (by decide)
    rw [show sameR (addO 5 ph1 [⟨3, 9⟩] ⟨0, 7⟩) 5 ph1 [⟨0, 7⟩, ⟨3, 9⟩] 0 = true from by decide] at q
    exact q)
  go_wp2_with fail
  refine HQ.out.mono ?_
  rintro e w5 ⟨rfl, hB⟩
  have hT := hidp hB
  clear T2
  clear T3
  replace hV := hidp (hV.out.trans (hT.out.mono hV.out.size))
  clear HQ hB hT
  have HQ := hidp (of_nil 0 w5)
  go_wp2_with fail
  refine HQ.out.mono ?_
  rintro e w6 ⟨p4, b4, c4, rfl, hts, hB⟩
  have hT := hidp hB
  replace hV := hidp (hV.out.trans (hT.out.mono hV.out.size))
  have T4 := hidp (show Tz _ p4 b4 c4 [] from hts)
  clear HQ hB hT hts
  have HQ := hidp (show Calls Try.prog 43 #[.agg (cC 0 ph1 (.slice p4 0 c4)).toArray] w6 fun e w' => e = .returned (.int .i64 3) ∧ Below w6.heap.size w6 w' from ccheck_any 0 ph1 rfl p4 b4 0 c4 [] w6 T4.out.1)
  go_wp2_with fail
  refine HQ.out.mono ?_
  rintro e w7 ⟨rfl, hB⟩
  have hT := hidp hB
  clear T4
  replace hV := hidp (hV.out.trans (hT.out.mono hV.out.size))
  clear HQ hB hT
  have HQ := hidp (of_lit 5 [⟨0, 7⟩] 1 #[.int .i64 0, .int .i64 7] rfl 2 rfl rfl (by decide) (by decide) w7)
  go_wp2_with fail
  refine HQ.out.mono ?_
  rintro e w8 ⟨p5, b5, c5, rfl, hts, hB⟩
  have hT := hidp hB
  replace hV := hidp (hV.out.trans (hT.out.mono hV.out.size))
  have T5 := hidp (show Tz _ p5 b5 c5 [⟨0, 7⟩] from hts)
  clear HQ hB hT hts
  have HQ := hidp (of_lit 5 [⟨0, 7⟩, ⟨3, 9⟩] 2 #[.int .i64 0, .int .i64 7, .int .i64 3, .int .i64 9] rfl 4 rfl rfl (by decide) (by decide) w8)
  go_wp2_with fail
  refine HQ.out.mono ?_
  rintro e w9 ⟨p6, b6, c6, rfl, hts, hB⟩
  have hT := hidp hB
  replace T5 := hidp (T5.out.below hT.out)
  replace hV := hidp (hV.out.trans (hT.out.mono hV.out.size))
  have T6 := hidp (show Tz _ p6 b6 c6 [⟨0, 7⟩, ⟨3, 9⟩] from hts)
  clear HQ hB hT hts
  have HQ := hidp (of_lit 5 [⟨0, 7⟩, ⟨3, 9⟩] 2 #[.int .i64 0, .int .i64 7, .int .i64 3, .int .i64 9] rfl 4 rfl rfl (by decide) (by decide) w9)
  go_wp2_with fail
  refine HQ.out.mono ?_
  rintro e w10 ⟨p7, b7, c7, rfl, hts, hB⟩
  have hT := hidp hB
  replace T5 := hidp (T5.out.below hT.out)
  replace T6 := hidp (T6.out.below hT.out)
  replace hV := hidp (hV.out.trans (hT.out.mono hV.out.size))
  have T7 := hidp (show Tz _ p7 b7 c7 [⟨0, 7⟩, ⟨3, 9⟩] from hts)
  clear HQ hB hT hts
  have HQ := hidp (show Calls Try.prog 50 #[.agg (cC 5 ph1 (.slice p5 1 c5)).toArray, .agg (cC 5 ph1 (.slice p6 2 c6)).toArray, .agg (cC 5 ph1 (.slice p7 2 c7)).toArray, .int .i64 0] w10 fun e w' => e = .returned (.bool true) ∧ Below w10.heap.size w10 w' from by
    have q := joins_any 5 ph1 rfl p5 b5 0 c5 [⟨0, 7⟩] 5 ph1 rfl p6 b6 0 c6 [⟨0, 7⟩, ⟨3, 9⟩] 5 ph1 rfl p7 b7 0 c7 [⟨0, 7⟩, ⟨3, 9⟩] 0 w10 T5.out.1 T6.out.1 T7.out.1
    rw [show sameR (joinO 5 ph1 [⟨0, 7⟩] 5 ph1 [⟨0, 7⟩, ⟨3, 9⟩]) 5 ph1 [⟨0, 7⟩, ⟨3, 9⟩] 0 = true from by decide] at q
    exact q)
  go_wp2_with fail
  refine HQ.out.mono ?_
  rintro e w11 ⟨rfl, hB⟩
  have hT := hidp hB
  clear T5
  clear T6
  clear T7
  replace hV := hidp (hV.out.trans (hT.out.mono hV.out.size))
  clear HQ hB hT
  go_wp2_with fail
  go_ret
  exact ⟨rfl, hV.out⟩
end Go.Proofs.Ytbhkjflpkpkdlaa
