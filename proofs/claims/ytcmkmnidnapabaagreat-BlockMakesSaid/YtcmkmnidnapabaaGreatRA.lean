/-
  Texts Ra, Rb, Rc, one behind the other.
-/
import Derived.Test.YtcmkmnidnapabaaGreatUa
import Derived.Deep.QuietTactic
import Derived.Test.YtcmkmnidnapabaaGreatUb
import Derived.Deep.RegionHeld3

/-! Ra: The reference of layer 5: Less, by definition. -/
namespace Go.Proofs.YtcmkmnidnapabaaGreat
open Go.RowKit Go.Lib Go.Maps

def lex4 (x0 x1 x2 x3 y0 y1 y2 y3 : Nat) : Bool := if x0 ≠ y0 then decide (x0 < y0) else if x1 ≠ y1 then decide (x1 < y1) else if x2 ≠ y2 then decide (x2 < y2) else if x3 ≠ y3 then decide (x3 < y3) else false
theorem lex4_lt (a b : Nat) (ha : a < 4294967296) (hb : b < 4294967296) : lex4 (kd a 3) (kd a 2) (kd a 1) (kd a 0) (kd b 3) (kd b 2) (kd b 1) (kd b 0) = decide (a < b) := by
  have ea := kd_sum a ha
  have eb := kd_sum b hb
  have a2 := kd_lt a 2
  have a1 := kd_lt a 1
  have a0 := kd_lt a 0
  have b2 := kd_lt b 2
  have b1 := kd_lt b 1
  have b0 := kd_lt b 0
  unfold lex4
  split
  · rw [decide_eq_decide]; omega
  · split
    · rw [decide_eq_decide]; omega
    · split
      · rw [decide_eq_decide]; omega
      · split
        · rw [decide_eq_decide]; omega
        · symm; rw [decide_eq_false_iff_not]; omega
structure LessI (w wr : World) (k : Nat) (x0 x1 x2 x3 y0 y1 y2 y3 : Nat) : Prop where
  bx : Blk wr w.heap.size [.int .u8 (x0 : Nat), .int .u8 (x1 : Nat), .int .u8 (x2 : Nat), .int .u8 (x3 : Nat)] 24
  by_ : Blk wr (w.heap.size + 1) [.int .u8 (y0 : Nat), .int .u8 (y1 : Nat), .int .u8 (y2 : Nat), .int .u8 (y3 : Nat)] 24
  bel : Below w.heap.size w wr
  e0 : 0 < k → x0 = y0
  e1 : 1 < k → x1 = y1
  e2 : 2 < k → x2 = y2
  e3 : 3 < k → x3 = y3
set_option maxRecDepth 100000 in
set_option maxHeartbeats 4000000 in
theorem less_w (x0 x1 x2 x3 y0 y1 y2 y3 : Nat) (w : World) :
    Calls Tryz.prog 87 #[.agg #[.int .u8 (x0 : Nat), .int .u8 (x1 : Nat), .int .u8 (x2 : Nat), .int .u8 (x3 : Nat)], .agg #[.int .u8 (y0 : Nat), .int .u8 (y1 : Nat), .int .u8 (y2 : Nat), .int .u8 (y3 : Nat)]] w fun e w' => e = .returned (.bool (lex4 x0 x1 x2 x3 y0 y1 y2 y3)) ∧ Below w.heap.size w w' := by
  have H0 : Hid (LessI w ((w.alloc (.cells #[.int .u8 (x0 : Nat), .int .u8 (x1 : Nat), .int .u8 (x2 : Nat), .int .u8 (x3 : Nat)] 24)).alloc (.cells #[.int .u8 (y0 : Nat), .int .u8 (y1 : Nat), .int .u8 (y2 : Nat), .int .u8 (y3 : Nat)] 24)) 0 x0 x1 x2 x3 y0 y1 y2 y3) := hidp ⟨(Blk.new w [.int .u8 (x0 : Nat), .int .u8 (x1 : Nat), .int .u8 (x2 : Nat), .int .u8 (x3 : Nat)] _).alloc _, Blk.new' (w.alloc _) [.int .u8 (y0 : Nat), .int .u8 (y1 : Nat), .int .u8 (y2 : Nat), .int .u8 (y3 : Nat)] _ _ (by simp), ((Below.refl _ w).alloc (Nat.le_refl _) _).alloc (by simp) _, by omega, by omega, by omega, by omega⟩
  go_enter Tryz.func87, Tryz.ntmps87
  go_wp2_with fail
  go_loopw [5] (fun x wr => ∃ k : Nat, k ≤ 4 ∧ x = .int .i64 ((k : Nat) : Int) ∧ Hid (LessI w wr k x0 x1 x2 x3 y0 y1 y2 y3)) (fun x _ => 4 - (Go.RowKit.intOf x).toNat)
  case atStart => exact ⟨0, by omega, rfl, H0⟩
  case round =>
    obtain ⟨k, hk, rfl, hr⟩ := hrel
    clear H0
    have c0 := hr.out.bx.cell 0
    have c1 := hr.out.bx.cell 1
    have c2 := hr.out.bx.cell 2
    have c3 := hr.out.bx.cell 3
    have d0 := hr.out.by_.cell 0
    have d1 := hr.out.by_.cell 1
    have d2 := hr.out.by_.cell 2
    have d3 := hr.out.by_.cell 3
    simp only [List.getElem?_cons_zero, List.getElem?_cons_succ] at c0 c1 c2 c3 d0 d1 d2 d3
    have l1 := hr.out.bx.lt
    have l2 := hr.out.by_.lt
    obtain rfl | rfl | rfl | rfl | rfl : k = 0 ∨ k = 1 ∨ k = 2 ∨ k = 3 ∨ k = 4 := by omega
    · by_cases he : x0 = y0
      · have hq : (((x0 : Nat) : Int) != ((y0 : Nat) : Int)) = false := by simp [he]
        have HE := hidp he
        clear he
        go_wp2_with fail
        go_quiet (fail)
        have H1 : Hid (LessI w (wr.drewN nq) 1 x0 x1 x2 x3 y0 y1 y2 y3) := hidp ⟨hr.out.bx, hr.out.by_, hr.out.bel.drewN nq, fun h => HE.out, fun h => by omega, fun h => by omega, fun h => by omega⟩
        clear hr c0 c1 c2 c3 d0 d1 d2 d3 l1 l2
        go_wp2_with fail
        exact ⟨⟨1, by omega, rfl, H1⟩, by decide⟩
      · have hq : (((x0 : Nat) : Int) != ((y0 : Nat) : Int)) = true := by rw [bne_iff_ne]; omega
        have hx : lex4 x0 x1 x2 x3 y0 y1 y2 y3 = decide (x0 < y0) := by
          unfold lex4
          simp only [ne_eq, he, not_false_eq_true, if_true]
        have HX := hidp hx
        clear he hx
        go_wp2_with fail
        go_quiet (fail)
        go_wp2_with fail
        go_quiet (fail)
        go_wp2_with fail
        go_ret
        exact ⟨by rw [HX.out]; rfl, (hr.out.bel.drewN _).drewN _⟩
    · by_cases he : x1 = y1
      · have hq : (((x1 : Nat) : Int) != ((y1 : Nat) : Int)) = false := by simp [he]
        have HE := hidp he
        clear he
        go_wp2_with fail
        go_quiet (fail)
        have H1 : Hid (LessI w (wr.drewN nq) 2 x0 x1 x2 x3 y0 y1 y2 y3) := hidp ⟨hr.out.bx, hr.out.by_, hr.out.bel.drewN nq, fun h => hr.out.e0 (by omega), fun h => HE.out, fun h => by omega, fun h => by omega⟩
        clear hr c0 c1 c2 c3 d0 d1 d2 d3 l1 l2
        go_wp2_with fail
        exact ⟨⟨2, by omega, rfl, H1⟩, by decide⟩
      · have hq : (((x1 : Nat) : Int) != ((y1 : Nat) : Int)) = true := by rw [bne_iff_ne]; omega
        have hx : lex4 x0 x1 x2 x3 y0 y1 y2 y3 = decide (x1 < y1) := by
          unfold lex4
          simp only [hr.out.e0 (by omega), ne_eq, he, not_false_eq_true, if_true, not_true_eq_false, if_false]
        have HX := hidp hx
        clear he hx
        go_wp2_with fail
        go_quiet (fail)
        go_wp2_with fail
        go_quiet (fail)
        go_wp2_with fail
        go_ret
        exact ⟨by rw [HX.out]; rfl, (hr.out.bel.drewN _).drewN _⟩
    · by_cases he : x2 = y2
      · have hq : (((x2 : Nat) : Int) != ((y2 : Nat) : Int)) = false := by simp [he]
        have HE := hidp he
        clear he
        go_wp2_with fail
        go_quiet (fail)
        have H1 : Hid (LessI w (wr.drewN nq) 3 x0 x1 x2 x3 y0 y1 y2 y3) := hidp ⟨hr.out.bx, hr.out.by_, hr.out.bel.drewN nq, fun h => hr.out.e0 (by omega), fun h => hr.out.e1 (by omega), fun h => HE.out, fun h => by omega⟩
        clear hr c0 c1 c2 c3 d0 d1 d2 d3 l1 l2
        go_wp2_with fail
        exact ⟨⟨3, by omega, rfl, H1⟩, by decide⟩
      · have hq : (((x2 : Nat) : Int) != ((y2 : Nat) : Int)) = true := by rw [bne_iff_ne]; omega
        have hx : lex4 x0 x1 x2 x3 y0 y1 y2 y3 = decide (x2 < y2) := by
          unfold lex4
          simp only [hr.out.e0 (by omega), hr.out.e1 (by omega), ne_eq, he, not_false_eq_true, if_true, not_true_eq_false, if_false]
        have HX := hidp hx
        clear he hx
        go_wp2_with fail
        go_quiet (fail)
        go_wp2_with fail
        go_quiet (fail)
        go_wp2_with fail
        go_ret
        exact ⟨by rw [HX.out]; rfl, (hr.out.bel.drewN _).drewN _⟩
    · by_cases he : x3 = y3
      · have hq : (((x3 : Nat) : Int) != ((y3 : Nat) : Int)) = false := by simp [he]
        have HE := hidp he
        clear he
        go_wp2_with fail
        go_quiet (fail)
        have H1 : Hid (LessI w (wr.drewN nq) 4 x0 x1 x2 x3 y0 y1 y2 y3) := hidp ⟨hr.out.bx, hr.out.by_, hr.out.bel.drewN nq, fun h => hr.out.e0 (by omega), fun h => hr.out.e1 (by omega), fun h => hr.out.e2 (by omega), fun h => HE.out⟩
        clear hr c0 c1 c2 c3 d0 d1 d2 d3 l1 l2
        go_wp2_with fail
        exact ⟨⟨4, by omega, rfl, H1⟩, by decide⟩
      · have hq : (((x3 : Nat) : Int) != ((y3 : Nat) : Int)) = true := by rw [bne_iff_ne]; omega
        have hx : lex4 x0 x1 x2 x3 y0 y1 y2 y3 = decide (x3 < y3) := by
          unfold lex4
          simp only [hr.out.e0 (by omega), hr.out.e1 (by omega), hr.out.e2 (by omega), ne_eq, he, not_false_eq_true, if_true, not_true_eq_false, if_false]
        have HX := hidp hx
        clear he hx
        go_wp2_with fail
        go_quiet (fail)
        go_wp2_with fail
        go_quiet (fail)
        go_wp2_with fail
        go_ret
        exact ⟨by rw [HX.out]; rfl, (hr.out.bel.drewN _).drewN _⟩
    · have hx : lex4 x0 x1 x2 x3 y0 y1 y2 y3 = false := by
        unfold lex4
        simp only [hr.out.e0 (by omega), hr.out.e1 (by omega), hr.out.e2 (by omega), hr.out.e3 (by omega), ne_eq, not_true_eq_false, if_false]
      have HX := hidp hx
      clear hx
      go_wp2_with fail
      go_ret
      exact ⟨by rw [HX.out]; rfl, hr.out.bel⟩
theorem less_any (a b : Nat) (w : World) (ha : a < 4294967296) (hb : b < 4294967296) :
    Calls Tryz.prog 87 #[.agg #[.int .u8 (kd a 3 : Nat), .int .u8 (kd a 2 : Nat), .int .u8 (kd a 1 : Nat), .int .u8 (kd a 0 : Nat)], .agg #[.int .u8 (kd b 3 : Nat), .int .u8 (kd b 2 : Nat), .int .u8 (kd b 1 : Nat), .int .u8 (kd b 0 : Nat)]] w fun e w' => e = .returned (.bool (decide (a < b))) ∧ Below w.heap.size w w' := by
  have q := less_w (kd a 3) (kd a 2) (kd a 1) (kd a 0) (kd b 3) (kd b 2) (kd b 1) (kd b 0) w
  rw [lex4_lt a b ha hb] at q
  exact q
end Go.Proofs.YtcmkmnidnapabaaGreat

/-! Rb: The reference of layer 5: Check, Find, by definition. -/
namespace Go.Proofs.YtcmkmnidnapabaaGreat
open Go.RowKit Go.Lib Go.Maps

theorem Vs.drewN {w : World} {a : Option Addr} {b o cap : Nat} {l : List Vd} (h : Vs w a b o cap l) (n : Nat) : Vs (w.drewN n) a b o cap l := ⟨h.ok, h.le, h.ptr, h.cell⟩
def prevK (l : List Vd) (i : Nat) : Option Nat := if i = 0 then none else (l[i - 1]?).map (·.k)
theorem prevK_succ {l : List Vd} {i : Nat} {v : Vd} (hv : l[i]? = some v) : prevK l (i + 1) = some v.k := by
  unfold prevK
  rw [if_neg (by omega), Nat.add_sub_cancel, hv]; rfl
structure RcI (w wr : World) (i : Nat) (l : List Vd) : Prop where
  bel : Below w.heap.size w wr
  e : chkFrom 1 none l = chkFrom 1 (prevK l i) (l.drop i)
theorem RcI.next {w wr w' : World} {i : Nat} {l : List Vd} {v : Vd} (H : RcI w wr i l) (hv : l[i]? = some v) (h0 : nextE (prevK l i) v 1 = 0) (hb : Below w.heap.size w w') : RcI w w' (i + 1) l := by
  refine ⟨hb, ?_⟩
  rw [H.e, prevK_succ hv]
  obtain ⟨hlt, rfl⟩ := List.getElem?_eq_some_iff.1 hv
  rw [List.drop_eq_getElem_cons hlt]
  simp only [chkFrom, h0, if_true]
theorem RcI.fail {w wr : World} {i : Nat} {l : List Vd} {v : Vd} (H : RcI w wr i l) (hv : l[i]? = some v) {n : Nat} (h0 : nextE (prevK l i) v 1 = n) (hn : n ≠ 0) : chkFrom 1 none l = n := by
  rw [H.e]
  obtain ⟨hlt, rfl⟩ := List.getElem?_eq_some_iff.1 hv
  rw [List.drop_eq_getElem_cons hlt]
  simp only [chkFrom]
  rw [if_neg (by omega), h0]
theorem RcI.last {w wr : World} {i : Nat} {l : List Vd} (H : RcI w wr i l) (hi : l.length ≤ i) : chkFrom 1 none l = 0 := by
  rw [H.e, List.drop_eq_nil_of_le hi]
  cases prevK l i <;> rfl
/-- Two keys lie side by side. -/
def K2 (b x y ku kv : Nat) (W : World) : Prop := W.cell? ⟨b, x, none⟩ = some (.int .u8 (kd ku 3 : Nat)) ∧ W.cell? ⟨b, x + 1, none⟩ = some (.int .u8 (kd ku 2 : Nat)) ∧ W.cell? ⟨b, x + 2, none⟩ = some (.int .u8 (kd ku 1 : Nat)) ∧ W.cell? ⟨b, x + 3, none⟩ = some (.int .u8 (kd ku 0 : Nat)) ∧ W.cell? ⟨b, y, none⟩ = some (.int .u8 (kd kv 3 : Nat)) ∧ W.cell? ⟨b, y + 1, none⟩ = some (.int .u8 (kd kv 2 : Nat)) ∧ W.cell? ⟨b, y + 2, none⟩ = some (.int .u8 (kd kv 1 : Nat)) ∧ W.cell? ⟨b, y + 3, none⟩ = some (.int .u8 (kd kv 0 : Nat))
theorem K2.drew {b x y ku kv : Nat} {W : World} (h : Hid (K2 b x y ku kv W)) : Hid (K2 b x y ku kv W.drew) := hidp h.out
theorem K2.below {b x y ku kv : Nat} {W W' : World} (h : Hid (K2 b x y ku kv W)) (hB : Below W.heap.size W W') : Hid (K2 b x y ku kv W') := by
  obtain ⟨h0, h1, h2, h3, h4, h5, h6, h7⟩ := h.out
  exact hidp ⟨(hB.cell (cell_lt h0)).trans h0, (hB.cell (cell_lt h1)).trans h1, (hB.cell (cell_lt h2)).trans h2, (hB.cell (cell_lt h3)).trans h3, (hB.cell (cell_lt h4)).trans h4, (hB.cell (cell_lt h5)).trans h5, (hB.cell (cell_lt h6)).trans h6, (hB.cell (cell_lt h7)).trans h7⟩
theorem refcheck_long (a : Option Addr) (cap : Nat) (l : List Vd) (w : World) (h : l.length = 0 ∨ 64 < l.length) :
    Calls Tryz.prog 26 #[.slice a l.length cap] w fun e w' => e = .returned (.int .i64 (chk l : Nat)) ∧ Below w.heap.size w w' := by
  by_cases h6 : l.length = 0
  · have ht : (((l.length : Nat) : Int) == 0) = true := by simp [h6]
    have e : chk l = 6 := by unfold chk; simp [h6]
    rw [e]
    clear h h6 e
    go_enter Tryz.func26, Tryz.ntmps26
    go_wp2
    go_ret
    exact ⟨rfl, Below.refl _ _⟩
  · have h4 : 64 < l.length := by omega
    have ht : (((l.length : Nat) : Int) == 0) = false := by rw [beq_eq_false_iff_ne]; omega
    have ht2 : decide ((64 : Int) < ((l.length : Nat) : Int)) = true := decide_eq_true (by omega)
    have e : chk l = 4 := by unfold chk; simp [h6, h4]
    rw [e]
    clear h h6 h4 e
    go_enter Tryz.func26, Tryz.ntmps26
    go_wp2
    go_ret
    exact ⟨rfl, Below.refl _ _⟩
set_option maxRecDepth 100000 in
set_option maxHeartbeats 4000000 in
theorem refcheck_any (a : Option Addr) (b o cap : Nat) (l : List Vd) (w : World) (h : Vs w a b o cap l) :
    Calls Tryz.prog 26 #[.slice a l.length cap] w fun e w' => e = .returned (.int .i64 (chk l : Nat)) ∧ Below w.heap.size w w' := by
  by_cases h64 : l.length = 0 ∨ 64 < l.length
  · exact refcheck_long a cap l w h64
  have h6 : ¬ l.length = 0 := fun h => h64 (.inl h)
  have h4 : ¬ 64 < l.length := fun h => h64 (.inr h)
  have ht : (((l.length : Nat) : Int) == 0) = false := by rw [beq_eq_false_iff_ne]; omega
  have ht2 : decide ((64 : Int) < ((l.length : Nat) : Int)) = false := decide_eq_false (by omega)
  have e : chk l = chkFrom 1 none l := by unfold chk; rw [if_neg h6, if_neg h4]
  rw [e]
  have H := hidp h
  have H4 := hidp h4
  have H0 : Hid (RcI w w 0 l) := hidp ⟨Below.refl _ _, by rw [List.drop_zero]; rfl⟩
  clear h h6 h4 h64 e
  go_enter Tryz.func26, Tryz.ntmps26
  go_wp2_with fail
  go_loopw [3] (fun x wr => ∃ i : Nat, i ≤ l.length ∧ x = .int .i64 ((i : Nat) : Int) ∧ Hid (RcI w wr i l)) (fun x _ => l.length - (Go.RowKit.intOf x).toNat)
  case atStart => exact ⟨0, by omega, rfl, H0⟩
  case round =>
    obtain ⟨i, hi, rfl, hr⟩ := hrel
    clear H0 ht ht2
    by_cases hlt : i < l.length
    · obtain ⟨v, hv, hok, hae, hbl, c0, c1, c2, c3, c4⟩ := (H.out.below hr.out.bel).at hlt
      have HV := hidp hv
      have HK := hidp (And.intro hlt hok)
      have hadd := w64_nat (n := i) (by have := H4.out; omega)
      clear hv hok
      rcases Nat.eq_zero_or_pos i with rfl | hpos
      · have hne : nextE (prevK l 0) v 1 = if v.p < 1 ∨ 4611686018427387904 < v.p then 3 else 0 := rfl
        have HN := hidp hne
        clear hne c0 c1 c2 c3
        subst hae
        go_wp2_with fail
        go_quiet (fail)
        have c4' := (((H.out.below hr.out.bel).drewN nq).cell 0 v HV.out 4 _ rfl)
        have hbelW := hidp (show Below w.heap.size w (wr.drewN nq) from hr.out.bel.drewN nq)
        by_cases hp1 : v.p < 1 ∨ 4611686018427387904 < v.p
        · have hf := hidp (hr.out.fail HV.out (HN.out.trans (if_pos hp1)) (by decide))
          by_cases hp : v.p < 1
          · have hd : decide (v.p < 1) = true := decide_eq_true hp
            clear hr hp hp1
            go_wp2_with fail
            go_ret
            exact ⟨by rw [hf.out]; rfl, hbelW.out⟩
          · have hd : decide (v.p < 1) = false := decide_eq_false hp
            have hd2 : decide (4611686018427387904 < v.p) = true := decide_eq_true (by omega)
            clear hr hp hp1
            go_wp2_with fail
            go_ret
            exact ⟨by rw [hf.out]; rfl, hbelW.out⟩
        · have hd : decide (v.p < 1) = false := decide_eq_false (by omega)
          have hd2 : decide (4611686018427387904 < v.p) = false := decide_eq_false (by omega)
          have H2 := hidp (hr.out.next HV.out (HN.out.trans (if_neg hp1)) hbelW.out)
          clear hr hp1
          go_wp2_with fail
          exact ⟨⟨0 + 1, by have := HK.out.1; omega, rfl, H2⟩, by have h1 := HK.out.1; show l.length - (1 : Int).toNat < l.length - ((0 : Nat) : Int).toNat; simp; omega⟩
      · obtain ⟨j, rfl⟩ : ∃ j, i = j + 1 := ⟨i - 1, by omega⟩
        obtain ⟨u, hu, huk, _, _, d0, d1, d2, d3, d4⟩ := (H.out.below hr.out.bel).at (show j < l.length by omega)
        have hE := hidp (show K2 b (o + j * 5) (o + (j + 1) * 5) u.k v.k wr from ⟨d0, d1, d2, d3, c0, c1, c2, c3⟩)
        have HU := hidp huk
        have hP := hidp (prevK_succ hu)
        have hb0 := hidp hr.out.bel
        have hp0 : decide ((0 : Int) < ((j + 1 : Nat) : Int)) = true := decide_eq_true (by omega)
        have bm0 : (0 : Int) ≤ (j : Int) := by omega
        have bm1 : (j : Int) < (l.length : Int) := by omega
        have bm2 : (0 : Int) ≤ (j : Int) + 1 := by omega
        have bm3 : (j : Int) + 1 < (l.length : Int) := by omega
        have bm4 : IntKind.i64.wrap ((j : Int) + 1 - 1) = (j : Int) := by rw [IntKind.wrap_i64]; have := H4.out; omega
        have bm5 : IntKind.i64.wrap (((j + 1 : Nat) : Int) - 1) = (j : Int) := by rw [IntKind.wrap_i64]; have := H4.out; omega
        have bm6 : wrap64 (((j + 1 : Nat) : Int) - 1) = ((j : Nat) : Int) := by rw [w64 _ (by have := H4.out; omega)]; omega
        have bm7 : j < l.length := by omega
        have bm8 : IntKind.i64.wrap (j : Int) = (j : Int) := by rw [IntKind.wrap_i64]; have := H4.out; omega
        have bm9 : wrap64 ((j : Nat) : Int) = ((j : Nat) : Int) := by rw [w64 _ (by have := H4.out; omega)]
        clear hu huk d4
        subst hae
        by_cases hlk : u.k < v.k
        · have hdl : decide (u.k < v.k) = true := decide_eq_true hlk
          have HN := hidp (show nextE (prevK l (j + 1)) v 1 = if v.p < 1 ∨ 4611686018427387904 < v.p then 3 else 0 by
            rw [hP.out]; unfold nextE; rw [if_neg (by simp; omega)])
          clear hlk c0 c1 c2 c3 c4 d0 d1 d2 d3
          go_wp2_with fail
          go_region_held3 (fun W => W.cell? ⟨b, o + j * 5, none⟩ = some (.int .u8 (kd u.k 3 : Nat)) ∧ W.cell? ⟨b, o + j * 5 + 1, none⟩ = some (.int .u8 (kd u.k 2 : Nat)) ∧ W.cell? ⟨b, o + j * 5 + 2, none⟩ = some (.int .u8 (kd u.k 1 : Nat)) ∧ W.cell? ⟨b, o + j * 5 + 3, none⟩ = some (.int .u8 (kd u.k 0 : Nat)) ∧ W.cell? ⟨b, o + (j + 1) * 5, none⟩ = some (.int .u8 (kd v.k 3 : Nat)) ∧ W.cell? ⟨b, o + (j + 1) * 5 + 1, none⟩ = some (.int .u8 (kd v.k 2 : Nat)) ∧ W.cell? ⟨b, o + (j + 1) * 5 + 2, none⟩ = some (.int .u8 (kd v.k 1 : Nat)) ∧ W.cell? ⟨b, o + (j + 1) * 5 + 3, none⟩ = some (.int .u8 (kd v.k 0 : Nat)))
            (first | (with_reducible exact Hid.out (p := K2 b (o + j * 5) (o + (j + 1) * 5) u.k v.k _) (by with_reducible assumption)) | exact Hid.out (p := K2 b (o + j * 5) (o + (j + 1) * 5) u.k v.k _) (by with_reducible assumption) | exact Hid.out (p := K2 b (o + j * 5) (o + (j + 1) * 5) u.k v.k _) (K2.drew (by with_reducible assumption)))
            (first
             | (go_at_call 87; refine (less_any u.k v.k _ HU.out.k HK.out.2.k).mono ?_; rintro e w2 ⟨rfl, hb⟩; have hB2 := hidp (show Below w.heap.size w w2 from by first | exact hb0.out.trans (hb.mono hb0.out.size) | exact hb0.out.drew.trans (hb.mono hb0.out.size)); have hT := K2.below (by first | exact hE | exact K2.drew hE) hb; clear hb))
          have c4' := (H.out.below hB2.out).cell (j + 1) v HV.out 4 _ rfl
          have hbelW := hidp (show Below w.heap.size w w2 from hB2.out)
          by_cases hp1 : v.p < 1 ∨ 4611686018427387904 < v.p
          · have hf := hidp (hr.out.fail HV.out (HN.out.trans (if_pos hp1)) (by decide))
            by_cases hp : v.p < 1
            · have hd : decide (v.p < 1) = true := decide_eq_true hp
              clear hr hp hp1
              go_wp2_with fail
              go_ret
              exact ⟨by rw [hf.out]; rfl, hbelW.out⟩
            · have hd : decide (v.p < 1) = false := decide_eq_false hp
              have hd2 : decide (4611686018427387904 < v.p) = true := decide_eq_true (by omega)
              clear hr hp hp1
              go_wp2_with fail
              go_ret
              exact ⟨by rw [hf.out]; rfl, hbelW.out⟩
          · have hd : decide (v.p < 1) = false := decide_eq_false (by omega)
            have hd2 : decide (4611686018427387904 < v.p) = false := decide_eq_false (by omega)
            have H2 := hidp (hr.out.next HV.out (HN.out.trans (if_neg hp1)) hbelW.out)
            clear hr hp1
            go_wp2_with fail
            rw [show wrap64 ((j : Int) + 1 + 1) = ((j + 1 + 1 : Nat) : Int) by rw [w64 _ (by have := H4.out; have := HK.out.1; omega)]; omega]
            exact ⟨⟨j + 1 + 1, by have := HK.out.1; omega, rfl, H2⟩, by have h1 := HK.out.1; show l.length - ((j + 1 + 1 : Nat) : Int).toNat < l.length - ((j + 1 : Nat) : Int).toNat; omega⟩
        · have hdl : decide (u.k < v.k) = false := decide_eq_false hlk
          have HN := hidp (show nextE (prevK l (j + 1)) v 1 = 9 by
            rw [hP.out]; unfold nextE; rw [if_pos (by simp; omega)])
          have hf := hidp (hr.out.fail HV.out HN.out (by decide))
          clear hlk c0 c1 c2 c3 c4 d0 d1 d2 d3 hr
          go_wp2_with fail
          go_region_held3 (fun W => W.cell? ⟨b, o + j * 5, none⟩ = some (.int .u8 (kd u.k 3 : Nat)) ∧ W.cell? ⟨b, o + j * 5 + 1, none⟩ = some (.int .u8 (kd u.k 2 : Nat)) ∧ W.cell? ⟨b, o + j * 5 + 2, none⟩ = some (.int .u8 (kd u.k 1 : Nat)) ∧ W.cell? ⟨b, o + j * 5 + 3, none⟩ = some (.int .u8 (kd u.k 0 : Nat)) ∧ W.cell? ⟨b, o + (j + 1) * 5, none⟩ = some (.int .u8 (kd v.k 3 : Nat)) ∧ W.cell? ⟨b, o + (j + 1) * 5 + 1, none⟩ = some (.int .u8 (kd v.k 2 : Nat)) ∧ W.cell? ⟨b, o + (j + 1) * 5 + 2, none⟩ = some (.int .u8 (kd v.k 1 : Nat)) ∧ W.cell? ⟨b, o + (j + 1) * 5 + 3, none⟩ = some (.int .u8 (kd v.k 0 : Nat)))
            (first | (with_reducible exact Hid.out (p := K2 b (o + j * 5) (o + (j + 1) * 5) u.k v.k _) (by with_reducible assumption)) | exact Hid.out (p := K2 b (o + j * 5) (o + (j + 1) * 5) u.k v.k _) (by with_reducible assumption) | exact Hid.out (p := K2 b (o + j * 5) (o + (j + 1) * 5) u.k v.k _) (K2.drew (by with_reducible assumption)))
            (first
             | (go_at_call 87; refine (less_any u.k v.k _ HU.out.k HK.out.2.k).mono ?_; rintro e w2 ⟨rfl, hb⟩; have hB2 := hidp (show Below w.heap.size w w2 from by first | exact hb0.out.trans (hb.mono hb0.out.size) | exact hb0.out.drew.trans (hb.mono hb0.out.size)); have hT := K2.below (by first | exact hE | exact K2.drew hE) hb; clear hb))
          go_wp2_with fail
          go_ret
          exact ⟨by rw [hf.out]; rfl, hB2.out⟩
    · have hl := hr.out.last (by omega)
      have hb := hidp (And.intro hl hr.out.bel)
      obtain rfl : i = l.length := by omega
      clear hr hl hlt
      go_wp2_with fail
      go_ret
      exact ⟨by rw [hb.out.1]; rfl, hb.out.2⟩
end Go.Proofs.YtcmkmnidnapabaaGreat

/-! Rc: The reference of layer 5: Find, by definition; the kit's CopyVals, OverVals. -/
namespace Go.Proofs.YtcmkmnidnapabaaGreat
open Go.RowKit Go.Lib Go.Maps

structure RfI (w wr : World) (i : Nat) (l : List Vd) (k : Nat) : Prop where
  key : Blk wr w.heap.size [.int .u8 (kd k 3 : Nat), .int .u8 (kd k 2 : Nat), .int .u8 (kd k 1 : Nat), .int .u8 (kd k 0 : Nat)] 24
  bel : Below w.heap.size w wr
  lo : ∀ j u, j < i → l[j]? = some u → u.k ≠ k
end Go.Proofs.YtcmkmnidnapabaaGreat
