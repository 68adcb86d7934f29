/-
  The reference of layer 5: Less, by definition.
-/
import Derived.Test.YtdiklimikkplcaaUa
import Derived.Deep.QuietTactic
namespace Go.Proofs.Ytdiklimikkplcaa
open Go.RowKit Go.Lib Go.Maps

def lex4 (x0 x1 x2 x3 y0 y1 y2 y3 : Nat) : Bool := if x0 ≠ y0 then decide (x0 < y0) else if x1 ≠ y1 then decide (x1 < y1) else if x2 ≠ y2 then decide (x2 < y2) else if x3 ≠ y3 then decide (x3 < y3) else false
theorem lex4_lt (a b : Nat) (ha : a < 4294967296) (hb : b < 4294967296) : lex4 (kd a 3) (kd a 2) (kd a 1) (kd a 0) (kd b 3) (kd b 2) (kd b 1) (kd b 0) = decide (a < b) := by
  have ea := kd_sum a ha
  have eb := kd_sum b hb
  have a2 := kd_lt a 2
  have a1 := kd_lt a 1
  have a0 := kd_lt a 0
  have b2 := kd_lt b 2
  have b1 := kd_lt b 1
  have b0 := kd_lt b 0
  unfold lex4
  split
  · rw [decide_eq_decide]; omega
  · split
    · rw [decide_eq_decide]; omega
    · split
      · rw [decide_eq_decide]; omega
      · split
        · rw [decide_eq_decide]; omega
        · symm; rw [decide_eq_false_iff_not]; omega
structure LessI (w wr : World) (k : Nat) (x0 x1 x2 x3 y0 y1 y2 y3 : Nat) : Prop where
  bx : Blk wr w.heap.size [.int .u8 (x0 : Nat), .int .u8 (x1 : Nat), .int .u8 (x2 : Nat), .int .u8 (x3 : Nat)] 36
  by_ : Blk wr (w.heap.size + 1) [.int .u8 (y0 : Nat), .int .u8 (y1 : Nat), .int .u8 (y2 : Nat), .int .u8 (y3 : Nat)] 36
  bel : Below w.heap.size w wr
  e0 : 0 < k → x0 = y0
  e1 : 1 < k → x1 = y1
  e2 : 2 < k → x2 = y2
  e3 : 3 < k → x3 = y3
set_option maxRecDepth 100000 in
set_option maxHeartbeats 4000000 in
theorem less_w (x0 x1 x2 x3 y0 y1 y2 y3 : Nat) (w : World) :
    Calls Try.prog 160 #[.agg #[.int .u8 (x0 : Nat), .int .u8 (x1 : Nat), .int .u8 (x2 : Nat), .int .u8 (x3 : Nat)], .agg #[.int .u8 (y0 : Nat), .int .u8 (y1 : Nat), .int .u8 (y2 : Nat), .int .u8 (y3 : Nat)]] w fun e w' => e = .returned (.bool (lex4 x0 x1 x2 x3 y0 y1 y2 y3)) ∧ Below w.heap.size w w' := by
  have H0 : Hid (LessI w ((w.alloc (.cells #[.int .u8 (x0 : Nat), .int .u8 (x1 : Nat), .int .u8 (x2 : Nat), .int .u8 (x3 : Nat)] 36)).alloc (.cells #[.int .u8 (y0 : Nat), .int .u8 (y1 : Nat), .int .u8 (y2 : Nat), .int .u8 (y3 : Nat)] 36)) 0 x0 x1 x2 x3 y0 y1 y2 y3) := hidp ⟨(Blk.new w [.int .u8 (x0 : Nat), .int .u8 (x1 : Nat), .int .u8 (x2 : Nat), .int .u8 (x3 : Nat)] _).alloc _, Blk.new' (w.alloc _) [.int .u8 (y0 : Nat), .int .u8 (y1 : Nat), .int .u8 (y2 : Nat), .int .u8 (y3 : Nat)] _ _ (by simp), ((Below.refl _ w).alloc (Nat.le_refl _) _).alloc (by simp) _, by omega, by omega, by omega, by omega⟩
  go_enter Try.func160, Try.ntmps160
  go_wp2_with fail
  go_loopw [5] (fun x wr => ∃ k : Nat, k ≤ 4 ∧ x = .int .i64 ((k : Nat) : Int) ∧ Hid (LessI w wr k x0 x1 x2 x3 y0 y1 y2 y3)) (fun x _ => 4 - (Go.RowKit.intOf x).toNat)
  case atStart => exact ⟨0, by omega, rfl, H0⟩
  case round =>
    obtain ⟨k, hk, rfl, hr⟩ := hrel
    clear H0
    have c0 := hr.out.bx.cell 0
    have c1 := hr.out.bx.cell 1
    have c2 := hr.out.bx.cell 2
    have c3 := hr.out.bx.cell 3
    have d0 := hr.out.by_.cell 0
    have d1 := hr.out.by_.cell 1
    have d2 := hr.out.by_.cell 2
    have d3 := hr.out.by_.cell 3
    simp only [List.getElem?_cons_zero, List.getElem?_cons_succ] at c0 c1 c2 c3 d0 d1 d2 d3
    have l1 := hr.out.bx.lt
    have l2 := hr.out.by_.lt
    obtain rfl | rfl | rfl | rfl | rfl : k = 0 ∨ k = 1 ∨ k = 2 ∨ k = 3 ∨ k = 4 := by omega
    · by_cases he : x0 = y0
      · have hq : (((x0 : Nat) : Int) != ((y0 : Nat) : Int)) = false := by simp [he]
        have HE := hidp he
        clear he
        go_wp2_with fail
        go_quiet (fail)
        have H1 : Hid (LessI w (wr.drewN nq) 1 x0 x1 x2 x3 y0 y1 y2 y3) := hidp ⟨hr.out.bx, hr.out.by_, hr.out.bel.drewN nq, fun h => HE.out, fun h => by omega, fun h => by omega, fun h => by omega⟩
        clear hr c0 c1 c2 c3 d0 d1 d2 d3 l1 l2
        go_wp2_with fail
        exact ⟨⟨1, by omega, rfl, H1⟩, by decide⟩
      · have hq : (((x0 : Nat) : Int) != ((y0 : Nat) : Int)) = true := by rw [bne_iff_ne]; omega
        have hx : lex4 x0 x1 x2 x3 y0 y1 y2 y3 = decide (x0 < y0) := by
          unfold lex4
          simp only [ne_eq, he, not_false_eq_true, if_true]
        have HX := hidp hx
        clear he hx
        go_wp2_with fail
        go_quiet (fail)
        go_wp2_with fail
        go_quiet (fail)
        go_wp2_with fail
        go_ret
        exact ⟨by rw [HX.out]; rfl, (hr.out.bel.drewN _).drewN _⟩
    · by_cases he : x1 = y1
      · have hq : (((x1 : Nat) : Int) != ((y1 : Nat) : Int)) = false := by simp [he]
        have HE := hidp he
        clear he
        go_wp2_with fail
        go_quiet (fail)
        have H1 : Hid (LessI w (wr.drewN nq) 2 x0 x1 x2 x3 y0 y1 y2 y3) := hidp ⟨hr.out.bx, hr.out.by_, hr.out.bel.drewN nq, fun h => hr.out.e0 (by omega), fun h => HE.out, fun h => by omega, fun h => by omega⟩
        clear hr c0 c1 c2 c3 d0 d1 d2 d3 l1 l2
        go_wp2_with fail
        exact ⟨⟨2, by omega, rfl, H1⟩, by decide⟩
      · have hq : (((x1 : Nat) : Int) != ((y1 : Nat) : Int)) = true := by rw [bne_iff_ne]; omega
        have hx : lex4 x0 x1 x2 x3 y0 y1 y2 y3 = decide (x1 < y1) := by
          unfold lex4
          simp only [hr.out.e0 (by omega), ne_eq, he, not_false_eq_true, if_true, not_true_eq_false, if_false]
        have HX := hidp hx
        clear he hx
        go_wp2_with fail
        go_quiet (fail)
        go_wp2_with fail
        go_quiet (fail)
        go_wp2_with fail
        go_ret
        exact ⟨by rw [HX.out]; rfl, (hr.out.bel.drewN _).drewN _⟩
    · by_cases he : x2 = y2
      · have hq : (((x2 : Nat) : Int) != ((y2 : Nat) : Int)) = false := by simp [he]
        have HE := hidp he
        clear he
        go_wp2_with fail
        go_quiet (fail)
        have H1 : Hid (LessI w (wr.drewN nq) 3 x0 x1 x2 x3 y0 y1 y2 y3) := hidp ⟨hr.out.bx, hr.out.by_, hr.out.bel.drewN nq, fun h => hr.out.e0 (by omega), fun h => hr.out.e1 (by omega), fun h => HE.out, fun h => by omega⟩
        clear hr c0 c1 c2 c3 d0 d1 d2 d3 l1 l2
        go_wp2_with fail
        exact ⟨⟨3, by omega, rfl, H1⟩, by decide⟩
      · have hq : (((x2 : Nat) : Int) != ((y2 : Nat) : Int)) = true := by rw [bne_iff_ne]; omega
        have hx : lex4 x0 x1 x2 x3 y0 y1 y2 y3 = decide (x2 < y2) := by
          unfold lex4
          simp only [hr.out.e0 (by omega), hr.out.e1 (by omega), ne_eq, he, not_false_eq_true, if_true, not_true_eq_false, if_false]
        have HX := hidp hx
        clear he hx
        go_wp2_with fail
        go_quiet (fail)
        go_wp2_with fail
        go_quiet (fail)
        go_wp2_with fail
        go_ret
        exact ⟨by rw [HX.out]; rfl, (hr.out.bel.drewN _).drewN _⟩
    · by_cases he : x3 = y3
      · have hq : (((x3 : Nat) : Int) != ((y3 : Nat) : Int)) = false := by simp [he]
        have HE := hidp he
        clear he
        go_wp2_with fail
        go_quiet (fail)
        have H1 : Hid (LessI w (wr.drewN nq) 4 x0 x1 x2 x3 y0 y1 y2 y3) := hidp ⟨hr.out.bx, hr.out.by_, hr.out.bel.drewN nq, fun h => hr.out.e0 (by omega), fun h => hr.out.e1 (by omega), fun h => hr.out.e2 (by omega), fun h => HE.out⟩
        clear hr c0 c1 c2 c3 d0 d1 d2 d3 l1 l2
        go_wp2_with fail
        exact ⟨⟨4, by omega, rfl, H1⟩, by decide⟩
      · have hq : (((x3 : Nat) : Int) != ((y3 : Nat) : Int)) = true := by rw [bne_iff_ne]; omega
        have hx : lex4 x0 x1 x2 x3 y0 y1 y2 y3 = decide (x3 < y3) := by
          unfold lex4
          simp only [hr.out.e0 (by omega), hr.out.e1 (by omega), hr.out.e2 (by omega), ne_eq, he, not_false_eq_true, if_true, not_true_eq_false, if_false]
        have HX := hidp hx
        clear he hx
        go_wp2_with fail
        go_quiet (fail)
        go_wp2_with fail
        go_quiet (fail)
        go_wp2_with fail
        go_ret
        exact ⟨by rw [HX.out]; rfl, (hr.out.bel.drewN _).drewN _⟩
    · have hx : lex4 x0 x1 x2 x3 y0 y1 y2 y3 = false := by
        unfold lex4
        simp only [hr.out.e0 (by omega), hr.out.e1 (by omega), hr.out.e2 (by omega), hr.out.e3 (by omega), ne_eq, not_true_eq_false, if_false]
      have HX := hidp hx
      clear hx
      go_wp2_with fail
      go_ret
      exact ⟨by rw [HX.out]; rfl, hr.out.bel⟩
theorem less_any (a b : Nat) (w : World) (ha : a < 4294967296) (hb : b < 4294967296) :
    Calls Try.prog 160 #[.agg #[.int .u8 (kd a 3 : Nat), .int .u8 (kd a 2 : Nat), .int .u8 (kd a 1 : Nat), .int .u8 (kd a 0 : Nat)], .agg #[.int .u8 (kd b 3 : Nat), .int .u8 (kd b 2 : Nat), .int .u8 (kd b 1 : Nat), .int .u8 (kd b 0 : Nat)]] w fun e w' => e = .returned (.bool (decide (a < b))) ∧ Below w.heap.size w w' := by
  have q := less_w (kd a 3) (kd a 2) (kd a 1) (kd a 0) (kd b 3) (kd b 2) (kd b 1) (kd b 0) w
  rw [lex4_lt a b ha hb] at q
  exact q
end Go.Proofs.Ytdiklimikkplcaa
