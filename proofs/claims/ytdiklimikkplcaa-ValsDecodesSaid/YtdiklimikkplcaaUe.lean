/-
  Texts Vm, Vn, Vo, one behind the other.
-/
import Derived.Test.YtdiklimikkplcaaVl
import Derived.Test.YtdiklimikkplcaaVh
import Derived.Test.YtdiklimikkplcaaUa
import Derived.Deep.RegionHeld3
import Derived.Deep.AppendLies

/-! Vm: The law's own small functions: keys and validators made of numbers; lists side by side. -/
namespace Go.Proofs.Ytdiklimikkplcaa
open Go.RowKit Go.Lib Go.Maps

theorem kd_small {n : Nat} (h : n < 256) : kd n 3 = 0 ∧ kd n 2 = 0 ∧ kd n 1 = 0 ∧ kd n 0 = n := by
  unfold kd
  simp only [Nat.reducePow]
  omega
theorem key_any (n : Nat) (w : World) (h : n < 256) : Calls Try.prog 157 #[.int .u8 (n : Nat)] w fun e w' => e = .returned (.agg #[.int .u8 (kd n 3 : Nat), .int .u8 (kd n 2 : Nat), .int .u8 (kd n 1 : Nat), .int .u8 (kd n 0 : Nat)]) ∧ Below w.heap.size w w' := by
  obtain ⟨h3, h2, h1, h0⟩ := kd_small h
  rw [h3, h2, h1, h0]
  clear h3 h2 h1 h0 h
  go_enter Try.func157, Try.ntmps157
  go_wp2
  exact bodyPost_ret (v := .agg #[.int .u8 0, .int .u8 0, .int .u8 0, .int .u8 (n : Nat)]) (by simp [results, Try.results157, go_sem]) rfl ⟨rfl, (Below.refl _ w).alloc (Nat.le_refl _) _⟩

def ivs (zs : List Nat) : List Value := zs.map fun z => Value.int .i64 (z : Nat)
/-- Validators made of numbers, in pairs. -/
def ofL : List Nat → List Vd
  | k :: p :: r => ⟨k, (p : Nat)⟩ :: ofL r
  | _ => []
theorem ofL_take : ∀ (i : Nat) (zs : List Nat), 2 * i + 1 < zs.length → ofL (zs.take (2 * (i + 1))) = ofL (zs.take (2 * i)) ++ [⟨zs.getD (2 * i) 0, ((zs.getD (2 * i + 1) 0 : Nat) : Int)⟩]
  | 0, k :: p :: r, _ => by simp [ofL]
  | i + 1, k :: p :: r, h => by
    have ih := ofL_take i r (by simp at h; omega)
    have e1 : (k :: p :: r).take (2 * (i + 1 + 1)) = k :: p :: r.take (2 * (i + 1)) := by rw [show 2 * (i + 1 + 1) = (2 * (i + 1)) + 1 + 1 by omega]; rfl
    have e2 : (k :: p :: r).take (2 * (i + 1)) = k :: p :: r.take (2 * i) := by rw [show 2 * (i + 1) = (2 * i) + 1 + 1 by omega]; rfl
    rw [e1, e2]
    simp only [ofL, ih, List.cons_append]
    rw [show 2 * (i + 1) = 2 * i + 1 + 1 by omega]
    rfl
  | _, [], h => by simp at h
  | i, [_], h => by simp at h
theorem ofL_len : ∀ zs : List Nat, (ofL zs).length = zs.length / 2
  | [] => rfl
  | [_] => by simp [ofL]
  | k :: p :: r => by simp only [ofL, List.length_cons, ofL_len r]; omega
theorem ofL_ok : ∀ zs : List Nat, (∀ z ∈ zs, z < 256) → ∀ v ∈ ofL zs, VdOk v
  | [], _, v, hv => by simp [ofL] at hv
  | [_], _, v, hv => by simp [ofL] at hv
  | k :: p :: r, h, v, hv => by
    have hk := h k (by simp)
    have hp := h p (by simp)
    simp only [ofL, List.mem_cons] at hv
    rcases hv with rfl | hv
    · exact ⟨by show k < _; omega, by show -9223372036854775808 ≤ ((p : Nat) : Int) ∧ ((p : Nat) : Int) ≤ 9223372036854775807; omega⟩
    · exact ofL_ok r (fun z hz => h z (by simp [hz])) v hv
theorem ofL_odd : ∀ (m : Nat) (zs : List Nat), zs.length = m + 1 → m % 2 = 0 → ofL (zs.take m) = ofL zs
  | 0, [a], _, _ => by simp [ofL]
  | m + 2, k :: p :: r, h, h2 => by
    have ih := ofL_odd m r (by simp at h; omega) (by omega)
    have e1 : (k :: p :: r).take (m + 2) = k :: p :: r.take m := rfl
    rw [e1]
    simp only [ofL, ih]
  | 1, _, _, h2 => by omega
/-- Two numbers lie in a block. -/
def IS (x a b : Nat) (u v : Nat) (W : World) : Prop := W.cell? ⟨x, a, none⟩ = some (.int .i64 (u : Nat)) ∧ W.cell? ⟨x, b, none⟩ = some (.int .i64 (v : Nat))
theorem IS.drew {x a b u v : Nat} {W : World} (h : Hid (IS x a b u v W)) : Hid (IS x a b u v W.drew) := hidp h.out
theorem IS.below {x a b u v : Nat} {W W' : World} (h : Hid (IS x a b u v W)) (hB : Below W.heap.size W W') : Hid (IS x a b u v W') :=
  hidp ⟨(hB.cell (cell_lt h.out.1)).trans h.out.1, (hB.cell (cell_lt h.out.2)).trans h.out.2⟩
theorem IS.alloc {x a b u v : Nat} {W : World} (h : Hid (IS x a b u v W)) (o : Obj) : Hid (IS x a b u v (W.alloc o)) := IS.below h ((Below.refl _ W).alloc (Nat.le_refl _) o)
theorem IS.grown {x a b u v : Nat} {W W' : World} {row : Option Nat} (h : Hid (IS x a b u v W)) (hg : W.grownBy W' row) (hne : row ≠ some x) : Hid (IS x a b u v W') :=
  have e := hg.block x (cell_lt h.out.1) (fun e => hne e.symm)
  hidp ⟨(World.cell?_of_block (w := W) (a := ⟨x, a, none⟩) e).trans h.out.1, (World.cell?_of_block (w := W) (a := ⟨x, b, none⟩) e).trans h.out.2⟩
structure OfI (w wr : World) (x i : Nat) (zs : List Nat) (v : Value) : Prop where
  own : OwnV wr w.heap.size v (ofL (zs.take (2 * i)))
  bel : Below w.heap.size w wr
theorem OfI.next {w wr w4 w7 : World} {x i : Nat} {zs : List Nat} {v v' : Value} {o : Obj} (H : OfI w wr x i zs v) (hi : 2 * i + 1 < zs.length) (h4 : Below wr.heap.size wr w4)
    (ho : w7.ownsRow w.heap.size 122 5 v' ((ofL (zs.take (2 * i))).length + 1) ((ofL (zs.take (2 * i))).flatMap vL ++ vL ⟨zs.getD (2 * i) 0, ((zs.getD (2 * i + 1) 0 : Nat) : Int)⟩)) (hg : (w4.alloc o).grownBy w7 v.ownBlock) : OfI w w7 x (i + 1) zs v' := by
  have b4 : Below wr.heap.size wr (w4.alloc o) := h4.alloc h4.size o
  have r4 := H.own.below b4
  refine ⟨?_, (H.bel.trans (b4.mono H.bel.size)).grown hg (Nat.le_trans H.bel.size b4.size) (fun j e => (r4.lt e).1)⟩
  rw [ofL_take i zs hi]
  exact OwnV.snoc ho
set_option maxRecDepth 100000 in
set_option maxHeartbeats 2000000 in
theorem of_any (x : Nat) (zs : List Nat) (w : World) (hb : Blk w x (ivs zs) 3) (hz : ∀ z ∈ zs, z < 256) (hl : zs.length ≤ 200) :
    Calls Try.prog 97 #[.slice (some ⟨x, 0, none⟩) zs.length zs.length] w fun e w' => ∃ p b cap, e = .returned (.slice p (ofL zs).length cap) ∧ w.heap.size ≤ b ∧ Vs w' p b 0 cap (ofL zs) ∧ Below w.heap.size w w' := by
  obtain ⟨i0, hi, hz0, hz1, hz2⟩ := info_parts info_val
  have HB := hidp hb
  have HZ := hidp hz
  have H0 : Hid (OfI w w x 0 zs (.slice none 0 0)) := hidp ⟨by rw [Nat.mul_zero, List.take_zero]; exact OwnV.nil _ _, Below.refl _ _⟩
  have hxw := hb.lt
  clear hb hz
  go_enter Try.func97, Try.ntmps97
  go_wp2_with fail
  go_loopw [3, 4] (fun v y wr => ∃ m i : Nat, m ≤ zs.length + 1 ∧ y = .int .i64 ((m : Nat) : Int) ∧ Hid (OfI w wr x i zs v ∧ m = 2 * i)) (fun _ y _ => zs.length + 2 - (Go.RowKit.intOf y).toNat)
  case atStart => exact ⟨0, 0, by omega, rfl, hidp ⟨H0.out, rfl⟩⟩
  case round =>
    obtain ⟨m, i, hin, rfl, hr⟩ := hrel
    clear H0
    by_cases hlt : m + 1 < zs.length
    · obtain ⟨a, ha⟩ : ∃ a, a = zs.getD m 0 := ⟨_, rfl⟩
      obtain ⟨b, hbb⟩ : ∃ b, b = zs.getD (m + 1) 0 := ⟨_, rfl⟩
      have hget : ∀ j, j < zs.length → (ivs zs)[j]? = some (.int .i64 (zs.getD j 0 : Nat)) := fun j hj => by
        unfold ivs
        rw [List.getElem?_map, List.getElem?_eq_getElem hj, List.getD_eq_getElem?_getD, List.getElem?_eq_getElem hj]; rfl
      have ha256 : a < 256 := by rw [ha, List.getD_eq_getElem?_getD, List.getElem?_eq_getElem (show m < zs.length by omega)]; exact HZ.out _ (List.getElem_mem _)
      have hbw := HB.out.below hr.out.1.bel hxw
      have c0 : wr.cell? ⟨x, m, none⟩ = some (.int .i64 (a : Nat)) := by rw [ha]; exact (hbw.cell _).trans (hget _ (by omega))
      have c1 : wr.cell? ⟨x, m + 1, none⟩ = some (.int .i64 (b : Nat)) := by rw [hbb]; exact (hbw.cell _).trans (hget _ hlt)
      have hE := hidp (show IS x m (m + 1) a b wr from ⟨c0, c1⟩)
      have hAB := hidp (And.intro ha (And.intro hbb ha256))
      have hE2 := hidp (show zs.getD (2 * i) 0 = a ∧ zs.getD (2 * i + 1) 0 = b by rw [← hr.out.2]; exact ⟨ha.symm, hbb.symm⟩)
      have bm0 : (0 : Int) ≤ (m : Int) := by omega
      have bm1 : (m : Int) < (zs.length : Int) := by omega
      have bm2 : (0 : Int) ≤ (m : Int) + 1 := by omega
      have bm3 : (m : Int) + 1 < (zs.length : Int) := by omega
      have bm4 : IntKind.i64.wrap ((m : Int) + 1) = (m : Int) + 1 := by rw [IntKind.wrap_i64]; omega
      have hwa : IntKind.u8.wrap (a : Int) = (a : Int) := by simp only [IntKind.wrap, IntKind.bits, IntKind.signed]; simp; omega
      have hlen := hidp (show (ofL (zs.take (2 * i))).length ≤ 200 by rw [ofL_len, List.length_take]; omega)
      have HO := hidp (fun W (hW : Below wr.heap.size wr W) (o : Obj) => (show (W.alloc o).ownsRow w.heap.size 122 5 _ (ofL (zs.take (2 * i))).length ((ofL (zs.take (2 * i))).flatMap vL) ∧ w.heap.size ≤ (W.alloc o).heap.size from ⟨hr.out.1.own.below (hW.alloc hW.size o), Nat.le_trans hr.out.1.bel.size (hW.alloc hW.size o).size⟩))
      clear hget hbw ha hbb
      go_wp2_with fail
      clear c0 c1
      go_region_held3 (fun W => W.cell? ⟨x, m, none⟩ = some (.int .i64 (a : Nat)) ∧ W.cell? ⟨x, m + 1, none⟩ = some (.int .i64 (b : Nat)))
        (first | (with_reducible exact Hid.out (p := IS x m (m + 1) a b _) (by with_reducible assumption)) | exact Hid.out (p := IS x m (m + 1) a b _) (by with_reducible assumption) | exact Hid.out (p := IS x m (m + 1) a b _) (IS.drew (by with_reducible assumption)) | exact Hid.out (p := IS x m (m + 1) a b _) (IS.alloc (by with_reducible assumption) _))
        (first
         | (go_at_call 157; refine (key_any a _ hAB.out.2.2).mono ?_; rintro e w4 ⟨rfl, hb4⟩; have h4 := hidp (show Below wr.heap.size wr w4 from by first | exact hb4 | exact (Below.refl wr.heap.size wr).drew.trans hb4); have hT := IS.below (by first | exact hE | exact IS.drew hE) hb4; clear hb4)
         | (refine step_append_lies _ (by rfl) _ _ 61 (by rfl) w.heap.size 122 i0 _ 5 16 Try.underlying61 hi hz0 hz1 hz2 (by rfl) (by decide) _ _ _ (by rfl) (HO.out w4 h4.out _).1 ⟨w4.heap.size, 0, none⟩ 1 1 (vL ⟨a, (b : Nat)⟩) (by rfl) (by rfl) (new_cells w4 (vL ⟨a, (b : Nat)⟩) _) (vL_one _) (by decide) (by have := hlen.out; unfold maxLen; omega) (by have := hlen.out; omega) (HO.out w4 h4.out _).2 _ (by rfl) ?_; intro gv cv w7 ho7 hg7 _ _; have H7 := hidp (hr.out.1.next (by have := hr.out.2; omega) h4.out (by rw [hE2.out.1, hE2.out.2]; exact ho7) hg7); have hT7 := IS.grown (IS.alloc hT _) hg7 (fun e => by have := hr.out.1.own.lt e; omega); clear ho7 hg7))
      go_wp2_with fail
      rw [show ((m : Int) + 2) = ((m + 2 : Nat) : Int) by omega]
      exact ⟨⟨m + 2, i + 1, by omega, rfl, hidp ⟨H7.out, by have := hr.out.2; omega⟩⟩, by show zs.length + 2 - ((m + 2 : Nat) : Int).toNat < zs.length + 2 - ((m : Nat) : Int).toNat; omega⟩
    · have hx : ofL (zs.take (2 * i)) = ofL zs := by
        have h2 := hr.out.2
        rcases Nat.lt_or_ge (2 * i) zs.length with h | h
        · have e := ofL_odd (2 * i) zs (by omega) (by omega)
          exact e
        · rw [List.take_of_length_le h]
      have hV := (hr.out.1.own.vs (by rw [hx]; exact ofL_ok zs HZ.out))
      rw [hx] at hV
      obtain ⟨p, pb, pc, rfl, hpb, hvs⟩ := hV
      have hP := hidp (And.intro hpb (And.intro hvs hr.out.1.bel))
      clear hr hvs hx
      go_wp2_with fail
      go_ret
      exact ⟨p, pb, pc, rfl, hP.out.1, hP.out.2.1, hP.out.2.2⟩
end Go.Proofs.Ytdiklimikkplcaa

/-! Vn: Lists of validators side by side; so many of them; changes. -/
namespace Go.Proofs.Ytdiklimikkplcaa
open Go.RowKit Go.Lib Go.Maps

structure SvI (w wr : World) (i : Nat) (b : Bool) (l1 l2 : List Vd) : Prop where
  bel : Below w.heap.size w wr
  yes : b = true → l1.length = l2.length ∧ l1.take i = l2.take i
  no : b = false → l1 ≠ l2
theorem SvI.next {w wr W : World} {i : Nat} {l1 l2 : List Vd} {u v : Vd} (H : SvI w wr i true l1 l2) (hu : l1[i]? = some u) (hv : l2[i]? = some v) (hB : Below wr.heap.size wr W) : SvI w W (i + 1) (decide (u = v)) l1 l2 := by
  obtain ⟨h1, h2⟩ := H.yes rfl
  obtain ⟨hlt, rfl⟩ := List.getElem?_eq_some_iff.1 hu
  obtain ⟨hlt2, rfl⟩ := List.getElem?_eq_some_iff.1 hv
  refine ⟨H.bel.trans (hB.mono H.bel.size), fun h => ⟨h1, ?_⟩, fun h e => ?_⟩
  · rw [List.take_succ_eq_append_getElem hlt, List.take_succ_eq_append_getElem hlt2, h2, of_decide_eq_true h]
  · subst e
    exact of_decide_eq_false h rfl
theorem SvI.last {w wr : World} {i : Nat} {b : Bool} {l1 l2 : List Vd} (H : SvI w wr i b l1 l2) (h : b = false ∨ l1.length ≤ i) : b = decide (l1 = l2) := by
  cases b with
  | false => rw [decide_eq_false (H.no rfl)]
  | true =>
    obtain ⟨h1, h2⟩ := H.yes rfl
    have h3 : l1.length ≤ i := h.resolve_left (by simp)
    rw [List.take_of_length_le h3, List.take_of_length_le (by omega)] at h2
    rw [decide_eq_true h2]
set_option maxRecDepth 100000 in
set_option maxHeartbeats 2000000 in
theorem sameVals_any (a1 : Option Addr) (b1 o1 cap1 : Nat) (l1 : List Vd) (a2 : Option Addr) (b2 o2 cap2 : Nat) (l2 : List Vd) (w : World) (h1 : Vs w a1 b1 o1 cap1 l1) (h2 : Vs w a2 b2 o2 cap2 l2) (hl : l1.length ≤ 1000000) :
    Calls Try.prog 38 #[.slice a1 l1.length cap1, .slice a2 l2.length cap2] w fun e w' => e = .returned (.bool (decide (l1 = l2))) ∧ Below w.heap.size w w' := by
  have H1 := hidp h1
  have H2 := hidp h2
  have HL := hidp hl
  have hgv := guard_val
  have H0 : Hid (SvI w w 0 (((l1.length : Nat) : Int) == ((l2.length : Nat) : Int)) l1 l2) := hidp ⟨Below.refl _ _, fun h => ⟨by have := eq_of_beq h; omega, rfl⟩, fun h e => by subst e; simp at h⟩
  clear h1 h2 hl
  go_enter Try.func38, Try.ntmps38
  go_wp2_with fail
  go_loopw [5, 6] (fun x y wr => ∃ (i : Nat) (b : Bool), i ≤ l1.length ∧ x = .bool b ∧ y = .int .i64 ((i : Nat) : Int) ∧ Hid (SvI w wr i b l1 l2)) (fun _ y _ => l1.length - (Go.RowKit.intOf y).toNat)
  case atStart => exact ⟨0, _, by omega, rfl, rfl, H0⟩
  case round =>
    obtain ⟨i, b, hi, rfl, rfl, hr⟩ := hrel
    clear H0
    by_cases hlt : b = true ∧ i < l1.length
    · obtain ⟨rfl, hlt⟩ := hlt
      have hll := (hr.out.yes rfl).1
      obtain ⟨u, hu, huk, rfl, hbl1, c0, c1, c2, c3, c4⟩ := (H1.out.below hr.out.bel).at hlt
      obtain ⟨v, hv, hvk, rfl, hbl2, d0, d1, d2, d3, d4⟩ := (H2.out.below hr.out.bel).at (show i < l2.length by omega)
      have he := run_eq_val u v huk.k hvk.k
      have HU := hidp (And.intro hu hv)
      have HI := hidp (And.intro hlt HL.out)
      have hlt2 : i < l2.length := by omega
      clear hu hv huk hvk
      go_wp2_with fail
      go_quiet (fail)
      have H3 := hidp (hr.out.next HU.out.1 HU.out.2 ((Below.refl _ wr).drewN nq))
      clear hr c0 c1 c2 c3 c4 d0 d1 d2 d3 d4
      go_wp2_with fail
      have hi3 := HI.out
      rw [w64_nat (n := i) (by omega)]
      exact ⟨⟨i + 1, _, by omega, rfl, rfl, H3⟩, by show l1.length - ((i + 1 : Nat) : Int).toNat < l1.length - ((i : Nat) : Int).toNat; omega⟩
    · have hb := hidp (And.intro (hr.out.last (by cases b <;> simp_all)) hr.out.bel)
      clear hr
      cases b with
      | false =>
        go_wp2_with fail
        go_ret
        exact ⟨by rw [← hb.out.1]; rfl, hb.out.2⟩
      | true =>
        have hil : i = l1.length := by simp at hlt; omega
        subst hil
        clear hlt
        go_wp2_with fail
        go_ret
        exact ⟨by rw [← hb.out.1]; rfl, hb.out.2⟩
end Go.Proofs.Ytdiklimikkplcaa

/-! Vo: Changes as the law asks for them; so many validators; the chapter's examples, plain. -/
namespace Go.Proofs.Ytdiklimikkplcaa
open Go.RowKit Go.Lib Go.Maps

set_option maxRecDepth 100000 in
theorem changes_yes (a1 : Option Addr) (b1 o1 cap1 : Nat) (l : List Vd) (a2 : Option Addr) (b2 o2 cap2 : Nat) (c : List Vd) (a3 : Option Addr) (b3 o3 cap3 : Nat) (m : List Vd) (x : Nat) (w : World) (h1 : Vs w a1 b1 o1 cap1 l) (h2 : Vs w a2 b2 o2 cap2 c) (h3 : Vs w a3 b3 o3 cap3 m)
    (hl : l.length ≤ 1000000) (hc : c.length ≤ 1000000) (hm : m.length ≤ 1000000) (hO : chgO l c = (m, x)) :
    Calls Try.prog 100 #[.slice a1 l.length cap1, .slice a2 c.length cap2, .slice a3 m.length cap3, .int .i64 (x : Nat)] w fun e w' => e = .returned (.bool true) ∧ Below w.heap.size w w' := by
  have HC := change_any a1 b1 o1 cap1 l a2 b2 o2 cap2 c w h1 h2 hc hl
  rw [hO] at HC
  replace HC := hidp HC
  have H3 := hidp h3
  have HM := hidp hm
  clear h1 h2 h3 hl hc hm hO
  go_enter Try.func100, Try.ntmps100
  go_wp2_with fail
  refine HC.out.mono ?_
  rintro e w2 ⟨⟨p, b, cap, rfl, hb, hv⟩, hB⟩
  have HV := hidp hv
  have HB := hidp hB
  clear hb hv hB
  go_wp2_with fail
  refine (sameVals_any p b 0 cap m a3 b3 o3 cap3 m w2 HV.out (H3.out.below HB.out) HM.out).mono ?_
  rintro e w3 ⟨rfl, hB⟩
  have hB3 := hidp (HB.out.trans (hB.mono HB.out.size))
  clear hB
  rw [decide_eq_true (rfl : m = m)]
  go_wp2_with fail
  go_ret
  exact ⟨rfl, hB3.out⟩

def manyL (n : Nat) : List Vd := (List.range n).map (fun i => ⟨i, 1⟩)
theorem manyL_len (n : Nat) : (manyL n).length = n := by unfold manyL; simp
theorem manyL_succ (n : Nat) : manyL (n + 1) = manyL n ++ [⟨n, 1⟩] := by unfold manyL; rw [List.range_succ, List.map_append]; rfl
theorem manyL_ok {n : Nat} (h : n ≤ 256) : ∀ v ∈ manyL n, VdOk v := by
  intro v hv
  unfold manyL at hv
  obtain ⟨i, hi, rfl⟩ := List.mem_map.1 hv
  rw [List.mem_range] at hi
  exact ⟨by show i < _; omega, by show (-9223372036854775808 : Int) ≤ 1 ∧ (1 : Int) ≤ 9223372036854775807; decide⟩
theorem k1 : chk (ofL [1, 5, 2, 7]) = 0 := by decide +kernel
theorem k2 : wv (sumN ((ofL [1, 5, 2, 7]).map (·.p))) = .agg #[.int .u64 0, .int .u64 12] := rfl
theorem k3 : chk (ofL [10, 5]) = 0 := by decide +kernel
theorem k4 : encB (ofL [10, 5]) = [1, 1, 0, 0, 0, 10, 1, 5] := by decide +kernel
theorem k5 : decO [1, 1, 0, 0, 0, 10, 1, 5] = (ofL [10, 5], 0, 0) := by decide +kernel
theorem k6 : chgO (ofL [1, 5, 2, 7]) (ofL [1, 0, 3, 2]) = (ofL [2, 7, 3, 2], 0) := by
  have e : mrg (ofL [1, 5, 2, 7]) (ofL [1, 0, 3, 2]) = ofL [1, 0, 2, 7, 3, 2] := by simp [mrg, ofL]
  unfold chgO
  rw [e]
  decide +kernel
theorem k7 : chgO (ofL [1, 5]) (ofL [1, 0]) = ([], 6) := by
  have e : mrg (ofL [1, 5]) (ofL [1, 0]) = ofL [1, 0] := by simp [mrg, ofL]
  unfold chgO
  rw [e]
  decide +kernel
theorem k8 : chgO (ofL [1, 5]) (ofL [2, 0]) = ([], 10) := by
  have e : mrg (ofL [1, 5]) (ofL [2, 0]) = ofL [1, 5, 2, 0] := by simp [mrg, ofL]
  unfold chgO
  rw [e]
  decide +kernel
theorem k9 : chgO (ofL [1, 5]) (ofL [1, 9]) = (ofL [1, 9], 0) := by
  have e : mrg (ofL [1, 5]) (ofL [1, 9]) = ofL [1, 9] := by simp [mrg, ofL]
  unfold chgO
  rw [e]
  decide +kernel
theorem k10 : chgO (ofL [1, 5]) (ofL [3, 1, 2, 1]) = ([], 9) := by
  have e : mrg (ofL [1, 5]) (ofL [3, 1, 2, 1]) = ofL [1, 5, 3, 1, 2, 1] := by simp [mrg, ofL]
  unfold chgO
  rw [e]
  decide +kernel
theorem k11 : chk [] = 6 := by decide +kernel
theorem k12 : chk (ofL [2, 1, 1, 1]) = 9 := by decide +kernel
theorem k13 : chk (ofL [1, 1, 1, 1]) = 9 := by decide +kernel
theorem k14 : chk (ofL [1, 0]) = 3 := by decide +kernel
theorem k15 : chk (manyL 65) = 4 := by unfold chk; rw [manyL_len]; rfl
theorem k16 : fnd (ofL [1, 5, 2, 7]) 2 = some 1 := by decide +kernel
end Go.Proofs.Ytdiklimikkplcaa
