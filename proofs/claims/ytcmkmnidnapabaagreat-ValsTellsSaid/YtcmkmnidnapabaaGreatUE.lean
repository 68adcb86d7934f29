/-
  Texts Ue, Vp, one behind the other.
-/
import Derived.Test.YtcmkmnidnapabaaGreatVl
import Derived.Test.YtcmkmnidnapabaaGreatVh
import Derived.Test.YtcmkmnidnapabaaGreatUa
import Derived.Test.YtcmkmnidnapabaaGreatCV
import Derived.Deep.RegionHeld3
import Derived.Deep.AppendLies

/-! Ue: Texts Vm, Vn, Vo, one behind the other. -/
namespace Go.Proofs.YtcmkmnidnapabaaGreat
open Go.RowKit Go.Lib Go.Maps

theorem kd_small {n : Nat} (h : n < 256) : kd n 3 = 0 ∧ kd n 2 = 0 ∧ kd n 1 = 0 ∧ kd n 0 = n := by
  unfold kd
  simp only [Nat.reducePow]
  omega
theorem key_any (n : Nat) (w : World) (h : n < 256) : Calls Tryz.prog 139 #[.int .u8 (n : Nat)] w fun e w' => e = .returned (.agg #[.int .u8 (kd n 3 : Nat), .int .u8 (kd n 2 : Nat), .int .u8 (kd n 1 : Nat), .int .u8 (kd n 0 : Nat)]) ∧ Below w.heap.size w w' := by
  obtain ⟨h3, h2, h1, h0⟩ := kd_small h
  rw [h3, h2, h1, h0]
  clear h3 h2 h1 h0 h
  go_enter Tryz.func139, Tryz.ntmps139
  go_wp2
  exact bodyPost_ret (v := .agg #[.int .u8 0, .int .u8 0, .int .u8 0, .int .u8 (n : Nat)]) (by simp [results, Tryz.results139, go_sem]) rfl ⟨rfl, (Below.refl _ w).alloc (Nat.le_refl _) _⟩

def ivs (zs : List Nat) : List Value := zs.map fun z => Value.int .i64 (z : Nat)
/-- Validators made of numbers, in pairs. -/
def ofL : List Nat → List Vd
  | k :: p :: r => ⟨k, (p : Nat)⟩ :: ofL r
  | _ => []
theorem ofL_take : ∀ (i : Nat) (zs : List Nat), 2 * i + 1 < zs.length → ofL (zs.take (2 * (i + 1))) = ofL (zs.take (2 * i)) ++ [⟨zs.getD (2 * i) 0, ((zs.getD (2 * i + 1) 0 : Nat) : Int)⟩]
  | 0, k :: p :: r, _ => by simp [ofL]
  | i + 1, k :: p :: r, h => by
    have ih := ofL_take i r (by simp at h; omega)
    have e1 : (k :: p :: r).take (2 * (i + 1 + 1)) = k :: p :: r.take (2 * (i + 1)) := by rw [show 2 * (i + 1 + 1) = (2 * (i + 1)) + 1 + 1 by omega]; rfl
    have e2 : (k :: p :: r).take (2 * (i + 1)) = k :: p :: r.take (2 * i) := by rw [show 2 * (i + 1) = (2 * i) + 1 + 1 by omega]; rfl
    rw [e1, e2]
    simp only [ofL, ih, List.cons_append]
    rw [show 2 * (i + 1) = 2 * i + 1 + 1 by omega]
    rfl
  | _, [], h => by simp at h
  | i, [_], h => by simp at h
theorem ofL_len : ∀ zs : List Nat, (ofL zs).length = zs.length / 2
  | [] => rfl
  | [_] => by simp [ofL]
  | k :: p :: r => by simp only [ofL, List.length_cons, ofL_len r]; omega
theorem ofL_ok : ∀ zs : List Nat, (∀ z ∈ zs, z < 256) → ∀ v ∈ ofL zs, VdOk v
  | [], _, v, hv => by simp [ofL] at hv
  | [_], _, v, hv => by simp [ofL] at hv
  | k :: p :: r, h, v, hv => by
    have hk := h k (by simp)
    have hp := h p (by simp)
    simp only [ofL, List.mem_cons] at hv
    rcases hv with rfl | hv
    · exact ⟨by show k < _; omega, by show -9223372036854775808 ≤ ((p : Nat) : Int) ∧ ((p : Nat) : Int) ≤ 9223372036854775807; omega⟩
    · exact ofL_ok r (fun z hz => h z (by simp [hz])) v hv
theorem ofL_odd : ∀ (m : Nat) (zs : List Nat), zs.length = m + 1 → m % 2 = 0 → ofL (zs.take m) = ofL zs
  | 0, [a], _, _ => by simp [ofL]
  | m + 2, k :: p :: r, h, h2 => by
    have ih := ofL_odd m r (by simp at h; omega) (by omega)
    have e1 : (k :: p :: r).take (m + 2) = k :: p :: r.take m := rfl
    rw [e1]
    simp only [ofL, ih]
  | 1, _, _, h2 => by omega
/-- Two numbers lie in a block. -/
def IS (x a b : Nat) (u v : Nat) (W : World) : Prop := W.cell? ⟨x, a, none⟩ = some (.int .i64 (u : Nat)) ∧ W.cell? ⟨x, b, none⟩ = some (.int .i64 (v : Nat))
theorem IS.drew {x a b u v : Nat} {W : World} (h : Hid (IS x a b u v W)) : Hid (IS x a b u v W.drew) := hidp h.out
theorem IS.below {x a b u v : Nat} {W W' : World} (h : Hid (IS x a b u v W)) (hB : Below W.heap.size W W') : Hid (IS x a b u v W') :=
  hidp ⟨(hB.cell (cell_lt h.out.1)).trans h.out.1, (hB.cell (cell_lt h.out.2)).trans h.out.2⟩
theorem IS.alloc {x a b u v : Nat} {W : World} (h : Hid (IS x a b u v W)) (o : Obj) : Hid (IS x a b u v (W.alloc o)) := IS.below h ((Below.refl _ W).alloc (Nat.le_refl _) o)
theorem IS.grown {x a b u v : Nat} {W W' : World} {row : Option Nat} (h : Hid (IS x a b u v W)) (hg : W.grownBy W' row) (hne : row ≠ some x) : Hid (IS x a b u v W') :=
  have e := hg.block x (cell_lt h.out.1) (fun e => hne e.symm)
  hidp ⟨(World.cell?_of_block (w := W) (a := ⟨x, a, none⟩) e).trans h.out.1, (World.cell?_of_block (w := W) (a := ⟨x, b, none⟩) e).trans h.out.2⟩
structure OfI (w wr : World) (x i : Nat) (zs : List Nat) (v : Value) : Prop where
  own : OwnV wr w.heap.size v (ofL (zs.take (2 * i)))
  bel : Below w.heap.size w wr
theorem OfI.next {w wr w4 w7 : World} {x i : Nat} {zs : List Nat} {v v' : Value} {o : Obj} (H : OfI w wr x i zs v) (hi : 2 * i + 1 < zs.length) (h4 : Below wr.heap.size wr w4)
    (ho : w7.ownsRow w.heap.size 111 5 v' ((ofL (zs.take (2 * i))).length + 1) ((ofL (zs.take (2 * i))).flatMap vL ++ vL ⟨zs.getD (2 * i) 0, ((zs.getD (2 * i + 1) 0 : Nat) : Int)⟩)) (hg : (w4.alloc o).grownBy w7 v.ownBlock) : OfI w w7 x (i + 1) zs v' := by
  have b4 : Below wr.heap.size wr (w4.alloc o) := h4.alloc h4.size o
  have r4 := H.own.below b4
  refine ⟨?_, (H.bel.trans (b4.mono H.bel.size)).grown hg (Nat.le_trans H.bel.size b4.size) (fun j e => (r4.lt e).1)⟩
  rw [ofL_take i zs hi]
  exact OwnV.snoc ho
set_option maxRecDepth 100000 in
set_option maxHeartbeats 2000000 in
theorem of_any (x : Nat) (zs : List Nat) (w : World) (hb : Blk w x (ivs zs) 3) (hz : ∀ z ∈ zs, z < 256) (hl : zs.length ≤ 200) :
    Calls Tryz.prog 69 #[.slice (some ⟨x, 0, none⟩) zs.length zs.length] w fun e w' => ∃ p b cap, e = .returned (.slice p (ofL zs).length cap) ∧ w.heap.size ≤ b ∧ Vs w' p b 0 cap (ofL zs) ∧ Below w.heap.size w w' := by
  obtain ⟨i0, hi, hz0, hz1, hz2⟩ := info_parts info_val
  have HB := hidp hb
  have HZ := hidp hz
  have H0 : Hid (OfI w w x 0 zs (.slice none 0 0)) := hidp ⟨by rw [Nat.mul_zero, List.take_zero]; exact OwnV.nil _ _, Below.refl _ _⟩
  have hxw := hb.lt
  clear hb hz
  go_enter Tryz.func69, Tryz.ntmps69
  go_wp2_with fail
  go_loopw [3, 4] (fun v y wr => ∃ m i : Nat, m ≤ zs.length + 1 ∧ y = .int .i64 ((m : Nat) : Int) ∧ Hid (OfI w wr x i zs v ∧ m = 2 * i)) (fun _ y _ => zs.length + 2 - (Go.RowKit.intOf y).toNat)
  case atStart => exact ⟨0, 0, by omega, rfl, hidp ⟨H0.out, rfl⟩⟩
  case round =>
    obtain ⟨m, i, hin, rfl, hr⟩ := hrel
    clear H0
    by_cases hlt : m + 1 < zs.length
    · obtain ⟨a, ha⟩ : ∃ a, a = zs.getD m 0 := ⟨_, rfl⟩
      obtain ⟨b, hbb⟩ : ∃ b, b = zs.getD (m + 1) 0 := ⟨_, rfl⟩
      have hget : ∀ j, j < zs.length → (ivs zs)[j]? = some (.int .i64 (zs.getD j 0 : Nat)) := fun j hj => by
        unfold ivs
        rw [List.getElem?_map, List.getElem?_eq_getElem hj, List.getD_eq_getElem?_getD, List.getElem?_eq_getElem hj]; rfl
      have ha256 : a < 256 := by rw [ha, List.getD_eq_getElem?_getD, List.getElem?_eq_getElem (show m < zs.length by omega)]; exact HZ.out _ (List.getElem_mem _)
      have hbw := HB.out.below hr.out.1.bel hxw
      have c0 : wr.cell? ⟨x, m, none⟩ = some (.int .i64 (a : Nat)) := by rw [ha]; exact (hbw.cell _).trans (hget _ (by omega))
      have c1 : wr.cell? ⟨x, m + 1, none⟩ = some (.int .i64 (b : Nat)) := by rw [hbb]; exact (hbw.cell _).trans (hget _ hlt)
      have hE := hidp (show IS x m (m + 1) a b wr from ⟨c0, c1⟩)
      have hAB := hidp (And.intro ha (And.intro hbb ha256))
      have hE2 := hidp (show zs.getD (2 * i) 0 = a ∧ zs.getD (2 * i + 1) 0 = b by rw [← hr.out.2]; exact ⟨ha.symm, hbb.symm⟩)
      have bm0 : (0 : Int) ≤ (m : Int) := by omega
      have bm1 : (m : Int) < (zs.length : Int) := by omega
      have bm2 : (0 : Int) ≤ (m : Int) + 1 := by omega
      have bm3 : (m : Int) + 1 < (zs.length : Int) := by omega
      have bm4 : IntKind.i64.wrap ((m : Int) + 1) = (m : Int) + 1 := by rw [IntKind.wrap_i64]; omega
      have hwa : IntKind.u8.wrap (a : Int) = (a : Int) := by simp only [IntKind.wrap, IntKind.bits, IntKind.signed]; simp; omega
      have hlen := hidp (show (ofL (zs.take (2 * i))).length ≤ 200 by rw [ofL_len, List.length_take]; omega)
      have HO := hidp (fun W (hW : Below wr.heap.size wr W) (o : Obj) => (show (W.alloc o).ownsRow w.heap.size 111 5 _ (ofL (zs.take (2 * i))).length ((ofL (zs.take (2 * i))).flatMap vL) ∧ w.heap.size ≤ (W.alloc o).heap.size from ⟨hr.out.1.own.below (hW.alloc hW.size o), Nat.le_trans hr.out.1.bel.size (hW.alloc hW.size o).size⟩))
      clear hget hbw ha hbb
      go_wp2_with fail
      clear c0 c1
      go_region_held3 (fun W => W.cell? ⟨x, m, none⟩ = some (.int .i64 (a : Nat)) ∧ W.cell? ⟨x, m + 1, none⟩ = some (.int .i64 (b : Nat)))
        (first | (with_reducible exact Hid.out (p := IS x m (m + 1) a b _) (by with_reducible assumption)) | exact Hid.out (p := IS x m (m + 1) a b _) (by with_reducible assumption) | exact Hid.out (p := IS x m (m + 1) a b _) (IS.drew (by with_reducible assumption)) | exact Hid.out (p := IS x m (m + 1) a b _) (IS.alloc (by with_reducible assumption) _))
        (first
         | (go_at_call 139; refine (key_any a _ hAB.out.2.2).mono ?_; rintro e w4 ⟨rfl, hb4⟩; have h4 := hidp (show Below wr.heap.size wr w4 from by first | exact hb4 | exact (Below.refl wr.heap.size wr).drew.trans hb4); have hT := IS.below (by first | exact hE | exact IS.drew hE) hb4; clear hb4)
         | (refine step_append_lies _ (by rfl) _ _ 22 (by rfl) w.heap.size 111 i0 _ 5 16 Tryz.underlying22 hi hz0 hz1 hz2 (by rfl) (by decide) _ _ _ (by rfl) (HO.out w4 h4.out _).1 ⟨w4.heap.size, 0, none⟩ 1 1 (vL ⟨a, (b : Nat)⟩) (by rfl) (by rfl) (new_cells w4 (vL ⟨a, (b : Nat)⟩) _) (vL_one _) (by decide) (by have := hlen.out; unfold maxLen; omega) (by have := hlen.out; omega) (HO.out w4 h4.out _).2 _ (by rfl) ?_; intro gv cv w7 ho7 hg7 _ _; have H7 := hidp (hr.out.1.next (by have := hr.out.2; omega) h4.out (by rw [hE2.out.1, hE2.out.2]; exact ho7) hg7); have hT7 := IS.grown (IS.alloc hT _) hg7 (fun e => by have := hr.out.1.own.lt e; omega); clear ho7 hg7))
      go_wp2_with fail
      rw [show ((m : Int) + 2) = ((m + 2 : Nat) : Int) by omega]
      exact ⟨⟨m + 2, i + 1, by omega, rfl, hidp ⟨H7.out, by have := hr.out.2; omega⟩⟩, by show zs.length + 2 - ((m + 2 : Nat) : Int).toNat < zs.length + 2 - ((m : Nat) : Int).toNat; omega⟩
    · have hx : ofL (zs.take (2 * i)) = ofL zs := by
        have h2 := hr.out.2
        rcases Nat.lt_or_ge (2 * i) zs.length with h | h
        · have e := ofL_odd (2 * i) zs (by omega) (by omega)
          exact e
        · rw [List.take_of_length_le h]
      have hV := (hr.out.1.own.vs (by rw [hx]; exact ofL_ok zs HZ.out))
      rw [hx] at hV
      obtain ⟨p, pb, pc, rfl, hpb, hvs⟩ := hV
      have hP := hidp (And.intro hpb (And.intro hvs hr.out.1.bel))
      clear hr hvs hx
      go_wp2_with fail
      go_ret
      exact ⟨p, pb, pc, rfl, hP.out.1, hP.out.2.1, hP.out.2.2⟩
end Go.Proofs.YtcmkmnidnapabaaGreat

/-! Vo: Changes as the law asks for them; so many validators; the chapter's examples, plain. -/
namespace Go.Proofs.YtcmkmnidnapabaaGreat
open Go.RowKit Go.Lib Go.Maps

set_option maxRecDepth 100000 in
theorem changes_yes (a1 : Option Addr) (b1 o1 cap1 : Nat) (l : List Vd) (a2 : Option Addr) (b2 o2 cap2 : Nat) (c : List Vd) (a3 : Option Addr) (b3 o3 cap3 : Nat) (m : List Vd) (x : Nat) (w : World) (h1 : Vs w a1 b1 o1 cap1 l) (h2 : Vs w a2 b2 o2 cap2 c) (h3 : Vs w a3 b3 o3 cap3 m)
    (hl : l.length ≤ 1000000) (hc : c.length ≤ 1000000) (hm : m.length ≤ 1000000) (hO : chgO l c = (m, x)) :
    Calls Tryz.prog 71 #[.slice a1 l.length cap1, .slice a2 c.length cap2, .slice a3 m.length cap3, .int .i64 (x : Nat)] w fun e w' => e = .returned (.bool true) ∧ Below w.heap.size w w' := by
  have HC := change_any a1 b1 o1 cap1 l a2 b2 o2 cap2 c w h1 h2 hc hl
  rw [hO] at HC
  replace HC := hidp HC
  have H3 := hidp h3
  have HM := hidp hm
  clear h1 h2 h3 hl hc hm hO
  go_enter Tryz.func71, Tryz.ntmps71
  go_wp2_with fail
  refine HC.out.mono ?_
  rintro e w2 ⟨⟨p, b, cap, rfl, hb, hv⟩, hB⟩
  have HV := hidp hv
  have HB := hidp hB
  clear hb hv hB
  go_wp2_with fail
  refine (sameVals_any p b 0 cap m a3 b3 o3 cap3 m w2 HV.out (H3.out.below HB.out) HM.out).mono ?_
  rintro e w3 ⟨rfl, hB⟩
  have hB3 := hidp (HB.out.trans (hB.mono HB.out.size))
  clear hB
  rw [decide_eq_true (rfl : m = m)]
  go_wp2_with fail
  go_ret
  exact ⟨rfl, hB3.out⟩

def manyL (n : Nat) : List Vd := (List.range n).map (fun i => ⟨i, 1⟩)
theorem manyL_len (n : Nat) : (manyL n).length = n := by unfold manyL; simp
theorem manyL_succ (n : Nat) : manyL (n + 1) = manyL n ++ [⟨n, 1⟩] := by unfold manyL; rw [List.range_succ, List.map_append]; rfl
theorem manyL_ok {n : Nat} (h : n ≤ 256) : ∀ v ∈ manyL n, VdOk v := by
  intro v hv
  unfold manyL at hv
  obtain ⟨i, hi, rfl⟩ := List.mem_map.1 hv
  rw [List.mem_range] at hi
  exact ⟨by show i < _; omega, by show (-9223372036854775808 : Int) ≤ 1 ∧ (1 : Int) ≤ 9223372036854775807; decide⟩
theorem k1 : chk (ofL [1, 5, 2, 7]) = 0 := by decide +kernel
theorem k2 : wv (sumN ((ofL [1, 5, 2, 7]).map (·.p))) = .agg #[.int .u64 0, .int .u64 12] := rfl
theorem k3 : chk (ofL [10, 5]) = 0 := by decide +kernel
theorem k4 : encB (ofL [10, 5]) = [1, 1, 0, 0, 0, 10, 1, 5] := by decide +kernel
theorem k5 : decO [1, 1, 0, 0, 0, 10, 1, 5] = (ofL [10, 5], 0, 0) := by decide +kernel
theorem k6 : chgO (ofL [1, 5, 2, 7]) (ofL [1, 0, 3, 2]) = (ofL [2, 7, 3, 2], 0) := by
  have e : mrg (ofL [1, 5, 2, 7]) (ofL [1, 0, 3, 2]) = ofL [1, 0, 2, 7, 3, 2] := by simp [mrg, ofL]
  unfold chgO
  rw [e]
  decide +kernel
theorem k7 : chgO (ofL [1, 5]) (ofL [1, 0]) = ([], 6) := by
  have e : mrg (ofL [1, 5]) (ofL [1, 0]) = ofL [1, 0] := by simp [mrg, ofL]
  unfold chgO
  rw [e]
  decide +kernel
theorem k8 : chgO (ofL [1, 5]) (ofL [2, 0]) = ([], 10) := by
  have e : mrg (ofL [1, 5]) (ofL [2, 0]) = ofL [1, 5, 2, 0] := by simp [mrg, ofL]
  unfold chgO
  rw [e]
  decide +kernel
theorem k9 : chgO (ofL [1, 5]) (ofL [1, 9]) = (ofL [1, 9], 0) := by
  have e : mrg (ofL [1, 5]) (ofL [1, 9]) = ofL [1, 9] := by simp [mrg, ofL]
  unfold chgO
  rw [e]
  decide +kernel
theorem k10 : chgO (ofL [1, 5]) (ofL [3, 1, 2, 1]) = ([], 9) := by
  have e : mrg (ofL [1, 5]) (ofL [3, 1, 2, 1]) = ofL [1, 5, 3, 1, 2, 1] := by simp [mrg, ofL]
  unfold chgO
  rw [e]
  decide +kernel
theorem k11 : chk [] = 6 := by decide +kernel
theorem k12 : chk (ofL [2, 1, 1, 1]) = 9 := by decide +kernel
theorem k13 : chk (ofL [1, 1, 1, 1]) = 9 := by decide +kernel
theorem k14 : chk (ofL [1, 0]) = 3 := by decide +kernel
theorem k15 : chk (manyL 65) = 4 := by unfold chk; rw [manyL_len]; rfl
theorem k16 : fnd (ofL [1, 5, 2, 7]) 2 = some 1 := by decide +kernel
end Go.Proofs.YtcmkmnidnapabaaGreat

/-! Vp: The walk of landfalllaw05's awake. -/
namespace Go.Proofs.YtcmkmnidnapabaaGreat
open Go.RowKit Go.Lib Go.Maps

theorem weq12 (w : World) : (binOp .eql 29 (.agg #[.int .u64 0, .int .u64 12]) (.agg #[.int .u64 0, .int .u64 12])).run Tryz.prog w = .ok (.bool true) w := by kernel_rfl
set_option maxRecDepth 100000 in
set_option maxHeartbeats 16000000 in
theorem vawake_any (w : World) : Calls Tryz.prog 14 #[] w fun e w' => e = .returned (.bool true) ∧ Below w.heap.size w w' := by
  have hV : Hid (Below w.heap.size w w) := hidp (Below.refl _ _)
  have HT : ∀ p b c W, Vs W p b 0 c (ofL [1, 5, 2, 7]) → Calls Tryz.prog 16 #[.slice p 2 c] W fun e w' => e = .returned (.tuple #[.agg #[.int .u64 0, .int .u64 12], .int .i64 0]) ∧ Below W.heap.size W w' := fun p b c W h => by
    have q := total_ok p b 0 c _ W h k1
    rw [k2] at q
    exact q
  have HE : ∀ p b c W, Vs W p b 0 c (ofL [10, 5]) → Calls Tryz.prog 20 #[.slice p 1 c] W (DoneP W [1, 1, 0, 0, 0, 10, 1, 5]) := fun p b c W h => by
    have q := encode_ok p b 0 c _ W h k3
    rw [k4] at q
    exact q
  have HD : ∀ p b c W, Bs W p b 0 [1, 1, 0, 0, 0, 10, 1, 5] c → Calls Tryz.prog 70 #[.slice p 8 c] W fun e w' => (∃ p b c, e = .returned (.tuple #[.slice p 1 c, .agg #[.int .i64 0, .int .i64 0]]) ∧ W.heap.size ≤ b ∧ Vs w' p b 0 c (ofL [10, 5])) ∧ Below W.heap.size W w' := fun p b c W h => by
    have q := decode_any p b 0 c [1, 1, 0, 0, 0, 10, 1, 5] W h (by decide)
    rw [k5] at q
    exact q
  have HC : ∀ p b c W, Vs W p b 0 c (ofL [1, 5, 2, 7]) → Calls Tryz.prog 25 #[.slice p 2 c] W fun e w' => e = .returned (.int .i64 0) ∧ Below W.heap.size W w' := fun p b c W h => by
    have q := check_any p b 0 c _ W h
    rw [k1] at q
    exact q
  replace HT := hidp HT
  replace HE := hidp HE
  replace HD := hidp HD
  replace HC := hidp HC
  have e1 := weq12
  have e2 := eql_f00
  go_enter Tryz.func14, Tryz.ntmps14
  go_wp2_with fail
  have hal := hidp (fun o : Obj => (Below.refl w.heap.size w).alloc (Nat.le_refl _) o)
  refine (of_any w.heap.size [1, 5, 2, 7] _ (Blk.new w (ivs [1, 5, 2, 7]) _) (by decide) (by decide)).mono ?_
  rintro e w1 ⟨pV1, qV1, mV1, rfl, _, hv, hB⟩
  have hT := hidp (show Below w.heap.size w w1 from ((hal.out _).trans (hB.mono (hal.out _).size)))
  replace hV := hidp (hV.out.trans (hT.out.mono hV.out.size))
  have V1 := hidp (hv)
  clear hv hB hal hT
  go_wp2_with fail
  refine (HT.out _ _ _ _ V1.out).mono ?_
  rintro e w2 ⟨rfl, hB⟩
  have hT := hidp (show Below w1.heap.size w1 w2 from hB)
  replace hV := hidp (hV.out.trans (hT.out.mono hV.out.size))
  clear hB hT V1 HT
  go_wp2_with fail
  have hal := hidp (fun o o' : Obj => ((Below.refl w2.heap.size w2).alloc (Nat.le_refl _) o).alloc (by simp) o')
  refine (of_any (w2.heap.size + 1) [10, 5] _ (Blk.new' (w2.alloc _) (ivs [10, 5]) _ _ (by simp)) (by decide) (by decide)).mono ?_
  rintro e w3 ⟨pV2, qV2, mV2, rfl, _, hv, hB⟩
  have hT := hidp (show Below w2.heap.size w2 w3 from ((hal.out _ _).trans (hB.mono (hal.out _ _).size)))
  replace hV := hidp (hV.out.trans (hT.out.mono hV.out.size))
  have V2 := hidp (hv)
  have T1 := hidp (hB.blk' ((Blk.new w2 [.int .u64 0, .int .u64 12] 29).alloc _))
  have L1 := hidp (show w2.heap.size < w3.heap.size from by have := hB.size; simp at this; omega)
  clear hv hB hal hT
  go_wp2_with fail
  refine (HE.out _ _ _ _ V2.out).mono ?_
  rintro e w4 ⟨⟨pe, qe, me, rfl, _, _, hs⟩, hB⟩
  have hT := hidp (show Below w3.heap.size w3 w4 from hB)
  replace T1 := hidp (hT.out.blk' T1.out)
  replace L1 := hidp (Nat.lt_of_lt_of_le L1.out hT.out.size)
  replace hV := hidp (hV.out.trans (hT.out.mono hV.out.size))
  have S1 := hidp (hs)
  clear hB hT hs V2 HE
  go_wp2_with fail
  refine (HD.out _ _ _ _ S1.out).mono ?_
  rintro e w5 ⟨⟨pd, qd, md, rfl, _, hv⟩, hB⟩
  have hT := hidp (show Below w4.heap.size w4 w5 from hB)
  replace T1 := hidp (hT.out.blk' T1.out)
  replace L1 := hidp (Nat.lt_of_lt_of_le L1.out hT.out.size)
  replace S1 := hidp (S1.out.below hT.out)
  replace hV := hidp (hV.out.trans (hT.out.mono hV.out.size))
  have D1 := hidp (hv)
  clear hB hT hv HD
  go_wp2_with fail
  have hal := hidp (fun o o' : Obj => ((Below.refl w5.heap.size w5).alloc (Nat.le_refl _) o).alloc (by simp) o')
  refine (of_any (w5.heap.size + 1) [1, 5, 2, 7] _ (Blk.new' (w5.alloc _) (ivs [1, 5, 2, 7]) _ _ (by simp)) (by decide) (by decide)).mono ?_
  rintro e w6 ⟨pV3, qV3, mV3, rfl, _, hv, hB⟩
  have hT := hidp (show Below w5.heap.size w5 w6 from ((hal.out _ _).trans (hB.mono (hal.out _ _).size)))
  replace T1 := hidp (hT.out.blk' T1.out)
  replace L1 := hidp (Nat.lt_of_lt_of_le L1.out hT.out.size)
  replace S1 := hidp (S1.out.below hT.out)
  replace D1 := hidp (D1.out.below hT.out)
  replace hV := hidp (hV.out.trans (hT.out.mono hV.out.size))
  have V3 := hidp (hv)
  have T6 := hidp (hB.blk' ((Blk.new w5 [.int .i64 0, .int .i64 0] 52).alloc _))
  have L6 := hidp (show w5.heap.size < w6.heap.size from by have := hB.size; simp at this; omega)
  clear hv hB hal hT
  go_wp2_with fail
  refine (HC.out _ _ _ _ V3.out).mono ?_
  rintro e w7 ⟨rfl, hB⟩
  have hT := hidp (show Below w6.heap.size w6 w7 from hB)
  replace T1 := hidp (hT.out.blk' T1.out)
  replace L1 := hidp (Nat.lt_of_lt_of_le L1.out hT.out.size)
  replace S1 := hidp (S1.out.below hT.out)
  replace D1 := hidp (D1.out.below hT.out)
  replace T6 := hidp (hT.out.blk' T6.out)
  replace L6 := hidp (Nat.lt_of_lt_of_le L6.out hT.out.size)
  replace hV := hidp (hV.out.trans (hT.out.mono hV.out.size))
  clear hB hT V3 HC
  have x0 := T1.out.cell 0
  have x1 := T1.out.cell 1
  have y0 := T6.out.cell 0
  have y1 := T6.out.cell 1
  simp only [List.getElem?_cons_zero, List.getElem?_cons_succ] at x0 x1 y0 y1
  have l1 := L1.out
  have l6 := L6.out
  have hal0 := hidp ((Below.refl w7.heap.size w7).alloc (Nat.le_refl _) (.cells #[.int .u8 1, .int .u8 1, .int .u8 0, .int .u8 0, .int .u8 0, .int .u8 10, .int .u8 1, .int .u8 5] 5))
  go_wp2_with fail
  refine (sameBytes_yes (S1.out.below hal0.out) (arr_bs (X := [1, 1, 0, 0, 0, 10, 1, 5]) (by decide) (Blk.new w7 (bvs [1, 1, 0, 0, 0, 10, 1, 5]) _))).mono ?_
  rintro e wx ⟨rfl, hwx⟩
  subst hwx
  clear S1
  go_wp2_with fail
  have hal := hidp (fun o o' : Obj => ((Below.refl w7.heap.size w7).alloc (Nat.le_refl _) o).alloc (by simp) o')
  refine (of_any (w7.heap.size + 1) [10, 5] _ (Blk.new' (w7.alloc _) (ivs [10, 5]) _ _ (by simp)) (by decide) (by decide)).mono ?_
  rintro e w8 ⟨pV4, qV4, mV4, rfl, _, hv, hB⟩
  have hT := hidp (show Below w7.heap.size w7 w8 from ((hal.out _ _).trans (hB.mono (hal.out _ _).size)))
  replace D1 := hidp (D1.out.below hT.out)
  replace hV := hidp (hV.out.trans (hT.out.mono hV.out.size))
  have V4 := hidp (hv)
  clear hv hB hal hT
  clear x0 x1 y0 y1 l1 l6 T1 L1 T6 L6
  go_wp2_with fail
  refine (sameVals_any pd qd 0 md (ofL [10, 5]) pV4 qV4 0 mV4 (ofL [10, 5]) _ D1.out V4.out (by decide)).mono ?_
  rintro e w9 ⟨rfl, hB⟩
  have hT := hidp (show Below w8.heap.size w8 w9 from hB)
  replace hV := hidp (hV.out.trans (hT.out.mono hV.out.size))
  clear hB hT D1 V4
  rw [decide_eq_true (rfl : ofL [10, 5] = ofL [10, 5])]
  go_wp2_with fail
  have hal := hidp (fun o : Obj => (Below.refl w9.heap.size w9).alloc (Nat.le_refl _) o)
  refine (of_any w9.heap.size [1, 5, 2, 7] _ (Blk.new w9 (ivs [1, 5, 2, 7]) _) (by decide) (by decide)).mono ?_
  rintro e w10 ⟨pV5, qV5, mV5, rfl, _, hv, hB⟩
  have hT := hidp (show Below w9.heap.size w9 w10 from ((hal.out _).trans (hB.mono (hal.out _).size)))
  replace hV := hidp (hV.out.trans (hT.out.mono hV.out.size))
  have V5 := hidp (hv)
  clear hv hB hal hT
  go_wp2_with fail
  have hal := hidp (fun o : Obj => (Below.refl w10.heap.size w10).alloc (Nat.le_refl _) o)
  refine (of_any w10.heap.size [1, 0, 3, 2] _ (Blk.new w10 (ivs [1, 0, 3, 2]) _) (by decide) (by decide)).mono ?_
  rintro e w11 ⟨pV6, qV6, mV6, rfl, _, hv, hB⟩
  have hT := hidp (show Below w10.heap.size w10 w11 from ((hal.out _).trans (hB.mono (hal.out _).size)))
  replace V5 := hidp (V5.out.below hT.out)
  replace hV := hidp (hV.out.trans (hT.out.mono hV.out.size))
  have V6 := hidp (hv)
  clear hv hB hal hT
  go_wp2_with fail
  have hal := hidp (fun o : Obj => (Below.refl w11.heap.size w11).alloc (Nat.le_refl _) o)
  refine (of_any w11.heap.size [2, 7, 3, 2] _ (Blk.new w11 (ivs [2, 7, 3, 2]) _) (by decide) (by decide)).mono ?_
  rintro e w12 ⟨pV7, qV7, mV7, rfl, _, hv, hB⟩
  have hT := hidp (show Below w11.heap.size w11 w12 from ((hal.out _).trans (hB.mono (hal.out _).size)))
  replace V5 := hidp (V5.out.below hT.out)
  replace V6 := hidp (V6.out.below hT.out)
  replace hV := hidp (hV.out.trans (hT.out.mono hV.out.size))
  have V7 := hidp (hv)
  clear hv hB hal hT
  go_wp2_with fail
  refine (changes_yes pV5 qV5 0 mV5 (ofL [1, 5, 2, 7]) pV6 qV6 0 mV6 (ofL [1, 0, 3, 2]) pV7 qV7 0 mV7 (ofL [2, 7, 3, 2]) 0 _ V5.out V6.out V7.out (by decide) (by decide) (by decide) k6).mono ?_
  rintro e w13 ⟨rfl, hB⟩
  have hT := hidp (show Below w12.heap.size w12 w13 from hB)
  replace hV := hidp (hV.out.trans (hT.out.mono hV.out.size))
  clear hB hT V5 V6 V7
  go_wp2_with fail
  go_ret
  exact ⟨rfl, hV.out⟩
end Go.Proofs.YtcmkmnidnapabaaGreat
