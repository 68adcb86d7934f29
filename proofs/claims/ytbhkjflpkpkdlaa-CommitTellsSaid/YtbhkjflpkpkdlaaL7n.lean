/-
  The walk of CommitKnown.
-/
import Derived.Test.YtbhkjflpkpkdlaaL7m
namespace Go.Proofs.Ytbhkjflpkpkdlaa
open Go.RowKit Go.Lib
set_option linter.unusedSimpArgs false

def vs3 : List Vd := [⟨1627389952, 1⟩, ⟨1644167168, 1⟩, ⟨1660944384, 1⟩]
theorem ks_blk {w : World} {b : Nat} {l : List Nat} (h : Blk w b (l.flatMap kL) 36) (hok : ∀ k ∈ l, k < 4294967296) : Ks w (some ⟨b, 0, none⟩) b 0 l.length l :=
  ⟨hok, Nat.le_refl _, fun _ => ⟨rfl, h.lt⟩, fun i v hi j c hc => by rw [Nat.zero_add, h.cell]; exact flatK_at l i v hi j c hc⟩
theorem vs_blk {w : World} {b : Nat} {l : List Vd} {T : TypeId} (h : Blk w b (l.flatMap vL) T) (hok : ∀ k ∈ l, VdOk k) : Vs w (some ⟨b, 0, none⟩) b 0 l.length l :=
  ⟨hok, Nat.le_refl _, fun _ => ⟨rfl, h.lt⟩, fun i v hi j c hc => by rw [Nat.zero_add, h.cell]; exact flat_at l i v hi j c hc⟩
theorem vs3_ok : ∀ v ∈ vs3, VdOk v := by
  intro v hv
  simp only [vs3, List.mem_cons, List.not_mem_nil, or_false] at hv
  rcases hv with rfl | rfl | rfl <;> exact ⟨by decide, by decide⟩
set_option maxRecDepth 100000 in
set_option maxHeartbeats 4000000 in
theorem keys_any (w : World) : Calls Try.prog 108 #[] w fun e w' => e = .returned (.slice (some ⟨w.heap.size, 0, none⟩) 3 3) ∧ Vs w' (some ⟨w.heap.size, 0, none⟩) w.heap.size 0 3 vs3 ∧ Below w.heap.size w w' := by
  have HV := hidp (vs_blk (Blk.new w (vs3.flatMap vL) 142) vs3_ok)
  have HB := hidp ((Below.refl w.heap.size w).alloc (Nat.le_refl _) (.cells (vs3.flatMap vL).toArray 142))
  go_enter Try.func108, Try.ntmps108
  go_wp2
  go_ret
  exact ⟨rfl, HV.out, HB.out⟩
set_option maxRecDepth 100000 in
set_option maxHeartbeats 32000000 in
theorem lawKnown_w (w : World) : Calls Try.prog 48 #[] w fun e w' => e = .returned (.bool true) ∧ Below w.heap.size w w' := by
  have hV : Hid (Below w.heap.size w w) := hidp (Below.refl _ _)
  go_enter Try.func48, Try.ntmps48
  have HQ := hidp (of_nil 5 w)
  go_wp2_with fail
  refine HQ.out.mono ?_
  rintro e w1 ⟨p1, b1, c1, rfl, hts, hB⟩
  have hT := hidp hB
  replace hV := hidp (hV.out.trans (hT.out.mono hV.out.size))
  have T1 := hidp (show Tz _ p1 b1 c1 [] from hts)
  clear HQ hB hT hts
  have HQ := hidp (show Calls Try.prog 36 #[.agg (cC 5 ph1 (.slice p1 0 c1)).toArray, .int .i64 0] w1 fun e w' => e = .returned (.tuple #[.int .u64 0, .bool false]) ∧ Below w1.heap.size w1 w' from cof_any 5 ph1 rfl p1 b1 0 c1 [] 0 w1 T1.out.1 (by decide))
  go_wp2_with fail
  refine HQ.out.mono ?_
  rintro e w2 ⟨rfl, hB⟩
  have hT := hidp hB
  clear T1
  replace hV := hidp (hV.out.trans (hT.out.mono hV.out.size))
  clear HQ hB hT
  have HQ := hidp (of_lit 5 [⟨0, 7⟩, ⟨2, 9⟩] 2 #[.int .i64 0, .int .i64 7, .int .i64 2, .int .i64 9] rfl 4 rfl rfl (by decide) (by decide) w2)
  go_wp2_with fail
  refine HQ.out.mono ?_
  rintro e w3 ⟨p2, b2, c2, rfl, hts, hB⟩
  have hT := hidp hB
  replace hV := hidp (hV.out.trans (hT.out.mono hV.out.size))
  have T2 := hidp (show Tz _ p2 b2 c2 [⟨0, 7⟩, ⟨2, 9⟩] from hts)
  clear HQ hB hT hts
  have HQ := hidp (keys_any w3)
  go_wp2_with fail
  refine HQ.out.mono ?_
  rintro e w4 ⟨rfl, hvs, hB⟩
  have hT := hidp hB
  replace T2 := hidp (T2.out.below hT.out)
  replace hV := hidp (hV.out.trans (hT.out.mono hV.out.size))
  have K4 := hidp (hvs)
  clear HQ hB hT hvs
  have HQ := hidp (show Calls Try.prog 40 #[.agg (cC 5 ph1 (.slice p2 2 c2)).toArray, .slice (some ⟨w3.heap.size, 0, none⟩) 3 3] w4 fun e w' => ∃ p' b' c', e = .returned (.tuple #[.slice p' 2 c', .int .i64 0]) ∧ Ks w' p' b' 0 c' [1627389952, 1660944384] ∧ Below w4.heap.size w4 w' from by
    refine (cwho_any 5 ph1 rfl p2 b2 0 c2 [⟨0, 7⟩, ⟨2, 9⟩] (some ⟨w3.heap.size, 0, none⟩) w3.heap.size 0 3 vs3 w4 T2.out.1 K4.out).mono ?_
    rw [show whoO 5 [⟨0, 7⟩, ⟨2, 9⟩] vs3 = ([1627389952, 1660944384], 0) from by decide]
    rintro e w' ⟨sv, rfl, ho, hb⟩
    obtain ⟨p', b', c', rfl, _, hk⟩ := ho.ks (by decide)
    exact ⟨p', b', c', rfl, hk, hb⟩)
  go_wp2_with fail
  refine HQ.out.mono ?_
  rintro e w5 ⟨p3, b3, c3, rfl, hk, hB⟩
  have hT := hidp hB
  clear T2
  clear K4
  replace hV := hidp (hV.out.trans (hT.out.mono hV.out.size))
  have T3 := hidp (hk)
  clear HQ hB hT hk
  have HQ := hidp (of_lit 5 [⟨3, 9⟩] 1 #[.int .i64 3, .int .i64 9] rfl 2 rfl rfl (by decide) (by decide) w5)
  go_wp2_with fail
  refine HQ.out.mono ?_
  rintro e w6 ⟨p4, b4, c4, rfl, hts, hB⟩
  have hT := hidp hB
  replace T3 := hidp (T3.out.below hT.out)
  replace hV := hidp (hV.out.trans (hT.out.mono hV.out.size))
  have T4 := hidp (show Tz _ p4 b4 c4 [⟨3, 9⟩] from hts)
  clear HQ hB hT hts
  have HQ := hidp (keys_any w6)
  go_wp2_with fail
  refine HQ.out.mono ?_
  rintro e w7 ⟨rfl, hvs, hB⟩
  have hT := hidp hB
  replace T3 := hidp (T3.out.below hT.out)
  replace T4 := hidp (T4.out.below hT.out)
  replace hV := hidp (hV.out.trans (hT.out.mono hV.out.size))
  have K7 := hidp (hvs)
  clear HQ hB hT hvs
  have HQ := hidp (show Calls Try.prog 40 #[.agg (cC 5 ph1 (.slice p4 1 c4)).toArray, .slice (some ⟨w6.heap.size, 0, none⟩) 3 3] w7 fun e w' => ∃ sv, e = .returned (.tuple #[sv, .int .i64 3]) ∧ Below w7.heap.size w7 w' from by
    refine (cwho_any 5 ph1 rfl p4 b4 0 c4 [⟨3, 9⟩] (some ⟨w6.heap.size, 0, none⟩) w6.heap.size 0 3 vs3 w7 T4.out.1 K7.out).mono ?_
    rw [show whoO 5 [⟨3, 9⟩] vs3 = ([], 3) from by decide]
    rintro e w' ⟨sv, rfl, ho, hb⟩
    exact ⟨sv, rfl, hb⟩)
  go_wp2_with fail
  refine HQ.out.mono ?_
  rintro e w8 ⟨sv5, rfl, hB⟩
  have hT := hidp hB
  clear T4
  clear K7
  replace T3 := hidp (T3.out.below hT.out)
  replace hV := hidp (hV.out.trans (hT.out.mono hV.out.size))
  clear HQ hB hT
  have HQ := hidp (of_lit 5 [⟨0, 7⟩, ⟨3, 9⟩] 2 #[.int .i64 0, .int .i64 7, .int .i64 3, .int .i64 9] rfl 4 rfl rfl (by decide) (by decide) w8)
  go_wp2_with fail
  refine HQ.out.mono ?_
  rintro e w9 ⟨p6, b6, c6, rfl, hts, hB⟩
  have hT := hidp hB
  replace T3 := hidp (T3.out.below hT.out)
  replace hV := hidp (hV.out.trans (hT.out.mono hV.out.size))
  have T6 := hidp (show Tz _ p6 b6 c6 [⟨0, 7⟩, ⟨3, 9⟩] from hts)
  clear HQ hB hT hts
  have HQ := hidp (show Calls Try.prog 43 #[.agg (cC 5 ph1 (.slice p6 2 c6)).toArray] w9 fun e w' => e = .returned (.int .i64 0) ∧ Below w9.heap.size w9 w' from ccheck_any 5 ph1 rfl p6 b6 0 c6 [⟨0, 7⟩, ⟨3, 9⟩] w9 T6.out.1)
  go_wp2_with fail
  refine HQ.out.mono ?_
  rintro e w10 ⟨rfl, hB⟩
  have hT := hidp hB
  clear T6
  replace T3 := hidp (T3.out.below hT.out)
  replace hV := hidp (hV.out.trans (hT.out.mono hV.out.size))
  clear HQ hB hT
  have HQ := hidp (of_lit 5 [⟨3, 1⟩, ⟨3, 1⟩] 2 #[.int .i64 3, .int .i64 1, .int .i64 3, .int .i64 1] rfl 4 rfl rfl (by decide) (by decide) w10)
  go_wp2_with fail
  refine HQ.out.mono ?_
  rintro e w11 ⟨p7, b7, c7, rfl, hts, hB⟩
  have hT := hidp hB
  replace T3 := hidp (T3.out.below hT.out)
  replace hV := hidp (hV.out.trans (hT.out.mono hV.out.size))
  have T7 := hidp (show Tz _ p7 b7 c7 [⟨3, 1⟩, ⟨3, 1⟩] from hts)
  clear HQ hB hT hts
  have HQ := hidp (show Calls Try.prog 43 #[.agg (cC 5 ph1 (.slice p7 2 c7)).toArray] w11 fun e w' => e = .returned (.int .i64 9) ∧ Below w11.heap.size w11 w' from ccheck_any 5 ph1 rfl p7 b7 0 c7 [⟨3, 1⟩, ⟨3, 1⟩] w11 T7.out.1)
  go_wp2_with fail
  refine HQ.out.mono ?_
  rintro e w12 ⟨rfl, hB⟩
  have hT := hidp hB
  clear T7
  replace T3 := hidp (T3.out.below hT.out)
  replace hV := hidp (hV.out.trans (hT.out.mono hV.out.size))
  clear HQ hB hT
  have HQ := hidp (of_lit 5 [⟨64, 1⟩] 1 #[.int .i64 64, .int .i64 1] rfl 2 rfl rfl (by decide) (by decide) w12)
  go_wp2_with fail
  refine HQ.out.mono ?_
  rintro e w13 ⟨p8, b8, c8, rfl, hts, hB⟩
  have hT := hidp hB
  replace T3 := hidp (T3.out.below hT.out)
  replace hV := hidp (hV.out.trans (hT.out.mono hV.out.size))
  have T8 := hidp (show Tz _ p8 b8 c8 [⟨64, 1⟩] from hts)
  clear HQ hB hT hts
  have HQ := hidp (show Calls Try.prog 43 #[.agg (cC 5 ph1 (.slice p8 1 c8)).toArray] w13 fun e w' => e = .returned (.int .i64 3) ∧ Below w13.heap.size w13 w' from ccheck_any 5 ph1 rfl p8 b8 0 c8 [⟨64, 1⟩] w13 T8.out.1)
  go_wp2_with fail
  refine HQ.out.mono ?_
  rintro e w14 ⟨rfl, hB⟩
  have hT := hidp hB
  clear T8
  replace T3 := hidp (T3.out.below hT.out)
  replace hV := hidp (hV.out.trans (hT.out.mono hV.out.size))
  clear HQ hB hT
  have HQ := hidp (of_lit 5 [⟨3, 9⟩] 1 #[.int .i64 3, .int .i64 9] rfl 2 rfl rfl (by decide) (by decide) w14)
  go_wp2_with fail
  refine HQ.out.mono ?_
  rintro e w15 ⟨p9, b9, c9, rfl, hts, hB⟩
  have hT := hidp hB
  replace T3 := hidp (T3.out.below hT.out)
  replace hV := hidp (hV.out.trans (hT.out.mono hV.out.size))
  have T9 := hidp (show Tz _ p9 b9 c9 [⟨3, 9⟩] from hts)
  clear HQ hB hT hts
  have HQ := hidp (show Calls Try.prog 103 #[.agg (cC 5 ph1 (.slice p9 1 c9)).toArray, .int .i64 3, .int .i64 9, .agg (cC 0 zh32 (.slice none 0 0)).toArray, .int .i64 8] w15 fun e w' => e = .returned (.bool true) ∧ Below w15.heap.size w15 w' from by
    have q := adds_any 5 ph1 rfl p9 b9 0 c9 [⟨3, 9⟩] 3 9 0 zh32 rfl none 0 0 0 [] 8 w15 T9.out.1 T9.out.2 (Ts.nil _ _ _) ⟨by decide, by decide⟩ (by decide)
    rw [show sameR (addO 5 ph1 [⟨3, 9⟩] ⟨3, 9⟩) 0 zh32 [] 8 = true from by decide] at q
    exact q)
  go_wp2_with (with_reducible refine (?_ : wpList _ _ _ _ _ _); refine wpList_buildG (by kernel_rfl) 63 _ rfl (cC 0 zh32 (.slice none 0 0)).toArray (by kernel_rfl) ?_)
  refine HQ.out.mono ?_
  rintro e w16 ⟨rfl, hB⟩
  have hT := hidp hB
  clear T9
  replace T3 := hidp (T3.out.below hT.out)
  replace hV := hidp (hV.out.trans (hT.out.mono hV.out.size))
  clear HQ hB hT
  have HQ := hidp (of_nil 5 w16)
  go_wp2_with fail
  refine HQ.out.mono ?_
  rintro e w17 ⟨p10, b10, c10, rfl, hts, hB⟩
  have hT := hidp hB
  replace T3 := hidp (T3.out.below hT.out)
  replace hV := hidp (hV.out.trans (hT.out.mono hV.out.size))
  have T10 := hidp (show Tz _ p10 b10 c10 [] from hts)
  clear HQ hB hT hts
  have HQ := hidp (show Calls Try.prog 103 #[.agg (cC 5 ph1 (.slice p10 0 c10)).toArray, .int .i64 (-1), .int .i64 1, .agg (cC 0 zh32 (.slice none 0 0)).toArray, .int .i64 3] w17 fun e w' => e = .returned (.bool true) ∧ Below w17.heap.size w17 w' from by
    have q := adds_any 5 ph1 rfl p10 b10 0 c10 [] (-1) 1 0 zh32 rfl none 0 0 0 [] 3 w17 T10.out.1 T10.out.2 (Ts.nil _ _ _) ⟨by decide, by decide⟩ (by decide)
    rw [show sameR (addO 5 ph1 [] ⟨(-1), 1⟩) 0 zh32 [] 3 = true from by decide] at q
    exact q)
  go_wp2_with (with_reducible refine (?_ : wpList _ _ _ _ _ _); refine wpList_buildG (by kernel_rfl) 63 _ rfl (cC 0 zh32 (.slice none 0 0)).toArray (by kernel_rfl) ?_)
  refine HQ.out.mono ?_
  rintro e w18 ⟨rfl, hB⟩
  have hT := hidp hB
  clear T10
  replace T3 := hidp (T3.out.below hT.out)
  replace hV := hidp (hV.out.trans (hT.out.mono hV.out.size))
  clear HQ hB hT
  have HQ := hidp (show Calls Try.prog 42 #[.slice p3 2 c3, .slice (some ⟨w18.heap.size, 0, none⟩) 2 2] (w18.alloc (.cells #[.int .u8 97, .int .u8 0, .int .u8 0, .int .u8 0, .int .u8 99, .int .u8 0, .int .u8 0, .int .u8 0] 36)) fun e w' => e = .returned (.bool true) ∧ Below w18.heap.size w18 w' from by
    have ha := (Below.refl w18.heap.size w18).alloc (Nat.le_refl _) (.cells #[.int .u8 97, .int .u8 0, .int .u8 0, .int .u8 0, .int .u8 99, .int .u8 0, .int .u8 0, .int .u8 0] 36)
    have hcs : (#[.int .u8 97, .int .u8 0, .int .u8 0, .int .u8 0, .int .u8 99, .int .u8 0, .int .u8 0, .int .u8 0] : Array Value) = ([1627389952, 1660944384].flatMap kL).toArray := by kernel_rfl
    refine (sameKeys_any p3 b3 0 c3 [1627389952, 1660944384] (some ⟨w18.heap.size, 0, none⟩) w18.heap.size 0 2 [1627389952, 1660944384] _ (T3.out.below ha) (ks_blk (show Blk _ w18.heap.size ([1627389952, 1660944384].flatMap kL) 36 from by rw [hcs]; exact Blk.new _ _ _) (by decide)) (by decide)).mono ?_
    rw [show decide ([1627389952, 1660944384] = [1627389952, 1660944384]) = true from by decide]
    rintro e w' ⟨rfl, hb⟩
    exact ⟨rfl, ha.trans (hb.mono ha.size)⟩)
  go_wp2_with fail
  refine HQ.out.mono ?_
  rintro e w19 ⟨rfl, hB⟩
  have hT := hidp hB
  clear T3
  replace hV := hidp (hV.out.trans (hT.out.mono hV.out.size))
  clear HQ hB hT
  have HQ := hidp (cawake_any w19)
  go_wp2_with fail
  refine HQ.out.mono ?_
  rintro e w20 ⟨rfl, hB⟩
  have hT := hidp hB
  replace hV := hidp (hV.out.trans (hT.out.mono hV.out.size))
  clear HQ hB hT
  have HQ := hidp (of_lit 5 [⟨0, 7⟩] 1 #[.int .i64 0, .int .i64 7] rfl 2 rfl rfl (by decide) (by decide) w20)
  go_wp2_with fail
  refine HQ.out.mono ?_
  rintro e w21 ⟨p11, b11, c11, rfl, hts, hB⟩
  have hT := hidp hB
  replace hV := hidp (hV.out.trans (hT.out.mono hV.out.size))
  have T11 := hidp (show Tz _ p11 b11 c11 [⟨0, 7⟩] from hts)
  clear HQ hB hT hts
  have HQ := hidp (of_lit 5 [⟨0, 8⟩] 1 #[.int .i64 0, .int .i64 8] rfl 2 rfl rfl (by decide) (by decide) w21)
  go_wp2_with fail
  refine HQ.out.mono ?_
  rintro e w22 ⟨p12, b12, c12, rfl, hts, hB⟩
  have hT := hidp hB
  replace T11 := hidp (T11.out.below hT.out)
  replace hV := hidp (hV.out.trans (hT.out.mono hV.out.size))
  have T12 := hidp (show Tz _ p12 b12 c12 [⟨0, 8⟩] from hts)
  clear HQ hB hT hts
  have HQ := hidp (show Calls Try.prog 50 #[.agg (cC 5 ph1 (.slice p11 1 c11)).toArray, .agg (cC 5 ph1 (.slice p12 1 c12)).toArray, .agg (cC 0 zh32 (.slice none 0 0)).toArray, .int .i64 8] w22 fun e w' => e = .returned (.bool true) ∧ Below w22.heap.size w22 w' from by
    have q := joins_any 5 ph1 rfl p11 b11 0 c11 [⟨0, 7⟩] 5 ph1 rfl p12 b12 0 c12 [⟨0, 8⟩] 0 zh32 rfl none 0 0 0 [] 8 w22 T11.out.1 T12.out.1 (Ts.nil _ _ _)
    rw [show sameR (joinO 5 ph1 [⟨0, 7⟩] 5 ph1 [⟨0, 8⟩]) 0 zh32 [] 8 = true from by decide] at q
    exact q)
  go_wp2_with (with_reducible refine (?_ : wpList _ _ _ _ _ _); refine wpList_buildG (by kernel_rfl) 63 _ rfl (cC 0 zh32 (.slice none 0 0)).toArray (by kernel_rfl) ?_)
  refine HQ.out.mono ?_
  rintro e w23 ⟨rfl, hB⟩
  have hT := hidp hB
  clear T11
  clear T12
  replace hV := hidp (hV.out.trans (hT.out.mono hV.out.size))
  clear HQ hB hT
  have HQ := hidp (of_nil 5 w23)
  go_wp2_with fail
  refine HQ.out.mono ?_
  rintro e w24 ⟨p13, b13, c13, rfl, hts, hB⟩
  have hT := hidp hB
  replace hV := hidp (hV.out.trans (hT.out.mono hV.out.size))
  have T13 := hidp (show Tz _ p13 b13 c13 [] from hts)
  clear HQ hB hT hts
  have HQ := hidp (of_nil 6 w24)
  go_wp2_with fail
  refine HQ.out.mono ?_
  rintro e w25 ⟨p14, b14, c14, rfl, hts, hB⟩
  have hT := hidp hB
  replace T13 := hidp (T13.out.below hT.out)
  replace hV := hidp (hV.out.trans (hT.out.mono hV.out.size))
  have T14 := hidp (show Tz _ p14 b14 c14 [] from hts)
  clear HQ hB hT hts
  have HQ := hidp (show Calls Try.prog 50 #[.agg (cC 5 ph1 (.slice p13 0 c13)).toArray, .agg (cC 6 ph1 (.slice p14 0 c14)).toArray, .agg (cC 0 zh32 (.slice none 0 0)).toArray, .int .i64 9] w25 fun e w' => e = .returned (.bool true) ∧ Below w25.heap.size w25 w' from by
    have q := joins_any 5 ph1 rfl p13 b13 0 c13 [] 6 ph1 rfl p14 b14 0 c14 [] 0 zh32 rfl none 0 0 0 [] 9 w25 T13.out.1 T14.out.1 (Ts.nil _ _ _)
    rw [show sameR (joinO 5 ph1 [] 6 ph1 []) 0 zh32 [] 9 = true from by decide] at q
    exact q)
  go_wp2_with (with_reducible refine (?_ : wpList _ _ _ _ _ _); refine wpList_buildG (by kernel_rfl) 63 _ rfl (cC 0 zh32 (.slice none 0 0)).toArray (by kernel_rfl) ?_)
  refine HQ.out.mono ?_
  rintro e w26 ⟨rfl, hB⟩
  have hT := hidp hB
  clear T13
  clear T14
  replace hV := hidp (hV.out.trans (hT.out.mono hV.out.size))
  clear HQ hB hT
  go_wp2_with fail
  go_ret
  exact ⟨rfl, hV.out⟩
end Go.Proofs.Ytbhkjflpkpkdlaa
