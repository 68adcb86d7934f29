/-
  Commit: votes, keys, commits side by side; what adds and joins of the laws tell.
-/
import Derived.Test.YtbhkjflpkpkdlaaL7i
namespace Go.Proofs.Ytbhkjflpkpkdlaa
open Go.RowKit Go.Lib
set_option linter.unusedSimpArgs false

theorem fields_vote : (Try.prog.fieldsOf 83).toList.map (fun f => (f.type, f.offset, f.name == "_")) = [(3, 0, false), (37, 1, false)] := by kernel_rfl
theorem struct_vote : Try.prog.underlying 83 = some (.struct (Try.prog.fieldsOf 83)) := by kernel_rfl
theorem part_va (a b : Value) (w : World) : (part 3 #[a, b] 0).run Try.prog w = .ok a w := by kernel_rfl
theorem part_vs (a b : Value) (w : World) : (part 37 #[a, b] 1).run Try.prog w = .ok b w := by kernel_rfl
set_option maxRecDepth 20000 in
theorem run_eqIn_vote (d : Nat) (u v : Vt) (w : World) : (Op.equalIn (d + 3) 83 (.agg #[.int .i64 u.a, .int .u64 (u.s : Nat)]) (.agg #[.int .i64 v.a, .int .u64 (v.s : Nat)])).run Try.prog w = .ok (decide (u = v)) w := by
  rw [show d + 3 = (d + 2) + 1 from rfl, run_equalIn_agg w (d + 2) 83 _ _ struct_vote (by kernel_rfl)]
  have hf := fields_vote
  obtain ⟨f0, r, h0, h1, h2⟩ := List.map_eq_cons_iff.1 hf
  obtain ⟨f1, r', h3, h4, h5⟩ := List.map_eq_cons_iff.1 h2
  obtain rfl := List.map_eq_nil_iff.1 h5
  rw [h0, h3]
  simp only [Prod.mk.injEq, beq_eq_false_iff_ne] at h1 h4
  obtain ⟨t0, o0, n0⟩ := h1
  obtain ⟨t1, o1, n1⟩ := h4
  have e : decide (u = v) = ((u.a == v.a) && ((u.s : Int) == (v.s : Int))) := by
    obtain ⟨a, b⟩ := u
    obtain ⟨c, d⟩ := v
    simp only [Vt.mk.injEq]
    by_cases h : a = c <;> by_cases h' : b = d <;> simp [h, h'] <;> omega
  rw [e]
  simp only [Op.eqFields, n0, n1, t0, t1, o0, o1, ne_eq, not_false_eq_true, if_true, Sem.run_bind, part_va, Result.andThen_ok, run_equalIn_int w (d + 1) 3 .i64 .i64 _ _ Try.underlying3]
  cases (u.a == v.a)
  · rfl
  · simp only [Bool.not_true, Bool.false_eq_true, if_false, Sem.run_bind, part_vs, Result.andThen_ok, run_equalIn_int w (d + 1) 37 .u64 .u64 _ _ Try.underlying37]
    cases ((u.s : Int) == (v.s : Int)) <;> rfl
set_option maxRecDepth 20000 in
theorem run_eq_vote (u v : Vt) (w : World) : (binOp .eql 83 (.agg #[.int .i64 u.a, .int .u64 (u.s : Nat)]) (.agg #[.int .i64 v.a, .int .u64 (v.s : Nat)])).run Try.prog w = .ok (.bool (decide (u = v))) w := by
  rw [run_eql_struct, run_eqIn_vote 9997 u v]; rfl
theorem guard_vote : Try.prog.eqGuardType Try.prog.depth 83 = false := by kernel_rfl
/-- Two lists side by side. -/
structure SqI {α : Type} (w wr : World) (i : Nat) (b : Bool) (l1 l2 : List α) : Prop where
  bel : Below w.heap.size w wr
  yes : b = true → l1.length = l2.length ∧ l1.take i = l2.take i
  no : b = false → l1 ≠ l2
theorem SqI.next {α : Type} [DecidableEq α] {w wr W : World} {i : Nat} {l1 l2 : List α} {u v : α} (H : SqI w wr i true l1 l2) (hu : l1[i]? = some u) (hv : l2[i]? = some v) (hB : Below wr.heap.size wr W) : SqI w W (i + 1) (decide (u = v)) l1 l2 := by
  obtain ⟨h1, h2⟩ := H.yes rfl
  obtain ⟨hlt, rfl⟩ := List.getElem?_eq_some_iff.1 hu
  obtain ⟨hlt2, rfl⟩ := List.getElem?_eq_some_iff.1 hv
  refine ⟨H.bel.trans (hB.mono H.bel.size), fun h => ⟨h1, ?_⟩, fun h e => ?_⟩
  · rw [List.take_succ_eq_append_getElem hlt, List.take_succ_eq_append_getElem hlt2, h2, of_decide_eq_true h]
  · subst e
    exact of_decide_eq_false h rfl
theorem SqI.last {α : Type} [DecidableEq α] {w wr : World} {i : Nat} {b : Bool} {l1 l2 : List α} (H : SqI w wr i b l1 l2) (h : b = false ∨ l1.length ≤ i) : b = decide (l1 = l2) := by
  cases b with
  | false => rw [decide_eq_false (H.no rfl)]
  | true =>
    obtain ⟨h1, h2⟩ := H.yes rfl
    have h3 : l1.length ≤ i := h.resolve_left (by simp)
    rw [List.take_of_length_le h3, List.take_of_length_le (by omega)] at h2
    rw [decide_eq_true h2]
set_option maxRecDepth 100000 in
set_option maxHeartbeats 2000000 in
theorem sameVotes_any (a1 : Option Addr) (b1 o1 cap1 : Nat) (l1 : List Vt) (a2 : Option Addr) (b2 o2 cap2 : Nat) (l2 : List Vt) (w : World) (h1 : Ts w a1 b1 o1 cap1 l1) (h2 : Ts w a2 b2 o2 cap2 l2) (hl : l1.length ≤ 1000000) :
    Calls Try.prog 107 #[.slice a1 l1.length cap1, .slice a2 l2.length cap2] w fun e w' => e = .returned (.bool (decide (l1 = l2))) ∧ Below w.heap.size w w' := by
  have H1 := hidp h1
  have H2 := hidp h2
  have HL := hidp hl
  have hgv := guard_vote
  have H0 : Hid (SqI w w 0 (((l1.length : Nat) : Int) == ((l2.length : Nat) : Int)) l1 l2) := hidp ⟨Below.refl _ _, fun h => ⟨by have := eq_of_beq h; omega, rfl⟩, fun h e => by subst e; simp at h⟩
  clear h1 h2 hl
  go_enter Try.func107, Try.ntmps107
  go_wp2_with fail
  go_loopw [5, 6] (fun x y wr => ∃ (i : Nat) (b : Bool), i ≤ l1.length ∧ x = .bool b ∧ y = .int .i64 ((i : Nat) : Int) ∧ Hid (SqI w wr i b l1 l2)) (fun _ y _ => l1.length - (Go.RowKit.intOf y).toNat)
  case atStart => exact ⟨0, _, by omega, rfl, rfl, H0⟩
  case round =>
    obtain ⟨i, b, hi, rfl, rfl, hr⟩ := hrel
    clear H0
    by_cases hlt : b = true ∧ i < l1.length
    · obtain ⟨rfl, hlt⟩ := hlt
      have hll := (hr.out.yes rfl).1
      obtain ⟨u, hu, huk, rfl, hbl1, c0, c1⟩ := (H1.out.below hr.out.bel).at hlt
      obtain ⟨v, hv, hvk, rfl, hbl2, d0, d1⟩ := (H2.out.below hr.out.bel).at (show i < l2.length by omega)
      have he := run_eq_vote u v
      have HU := hidp (And.intro hu hv)
      have HI := hidp (And.intro hlt HL.out)
      have hlt2 : i < l2.length := by omega
      clear hu hv huk hvk
      go_wp2_with fail
      go_quiet (fail)
      have H3 := hidp (hr.out.next HU.out.1 HU.out.2 ((Below.refl _ wr).drewN nq))
      clear hr c0 c1 d0 d1
      go_wp2_with fail
      have hi3 := HI.out
      rw [w64_nat (n := i) (by omega)]
      exact ⟨⟨i + 1, _, by omega, rfl, rfl, H3⟩, by show l1.length - ((i + 1 : Nat) : Int).toNat < l1.length - ((i : Nat) : Int).toNat; omega⟩
    · have hb := hidp (And.intro (hr.out.last (by cases b <;> simp_all)) hr.out.bel)
      clear hr
      cases b with
      | false =>
        go_wp2_with fail
        go_ret
        exact ⟨by rw [← hb.out.1]; rfl, hb.out.2⟩
      | true =>
        have hil : i = l1.length := by simp at hlt; omega
        subst hil
        clear hlt
        go_wp2_with fail
        go_ret
        exact ⟨by rw [← hb.out.1]; rfl, hb.out.2⟩
set_option maxRecDepth 100000 in
set_option maxHeartbeats 2000000 in
theorem sameKeys_any (a1 : Option Addr) (b1 o1 cap1 : Nat) (l1 : List Nat) (a2 : Option Addr) (b2 o2 cap2 : Nat) (l2 : List Nat) (w : World) (h1 : Ks w a1 b1 o1 cap1 l1) (h2 : Ks w a2 b2 o2 cap2 l2) (hl : l1.length ≤ 1000000) :
    Calls Try.prog 42 #[.slice a1 l1.length cap1, .slice a2 l2.length cap2] w fun e w' => e = .returned (.bool (decide (l1 = l2))) ∧ Below w.heap.size w w' := by
  have H1 := hidp h1
  have H2 := hidp h2
  have HL := hidp hl
  have hgv := guard_key
  have H0 : Hid (SqI w w 0 (((l1.length : Nat) : Int) == ((l2.length : Nat) : Int)) l1 l2) := hidp ⟨Below.refl _ _, fun h => ⟨by have := eq_of_beq h; omega, rfl⟩, fun h e => by subst e; simp at h⟩
  clear h1 h2 hl
  go_enter Try.func42, Try.ntmps42
  go_wp2_with fail
  go_loopw [5, 6] (fun x y wr => ∃ (i : Nat) (b : Bool), i ≤ l1.length ∧ x = .bool b ∧ y = .int .i64 ((i : Nat) : Int) ∧ Hid (SqI w wr i b l1 l2)) (fun _ y _ => l1.length - (Go.RowKit.intOf y).toNat)
  case atStart => exact ⟨0, _, by omega, rfl, rfl, H0⟩
  case round =>
    obtain ⟨i, b, hi, rfl, rfl, hr⟩ := hrel
    clear H0
    by_cases hlt : b = true ∧ i < l1.length
    · obtain ⟨rfl, hlt⟩ := hlt
      have hll := (hr.out.yes rfl).1
      obtain ⟨u, hu, huk, rfl, hbl1, c0, c1, c2, c3⟩ := (H1.out.below hr.out.bel).at hlt
      obtain ⟨v, hv, hvk, rfl, hbl2, d0, d1, d2, d3⟩ := (H2.out.below hr.out.bel).at (show i < l2.length by omega)
      have he := run_eq_key u v huk hvk
      have HU := hidp (And.intro hu hv)
      have HI := hidp (And.intro hlt HL.out)
      have hlt2 : i < l2.length := by omega
      clear hu hv huk hvk
      go_wp2_with fail
      go_quiet (fail)
      have H3 := hidp (hr.out.next HU.out.1 HU.out.2 ((Below.refl _ wr).drewN nq))
      clear hr c0 c1 c2 c3 d0 d1 d2 d3
      go_wp2_with fail
      have hi3 := HI.out
      rw [w64_nat (n := i) (by omega)]
      exact ⟨⟨i + 1, _, by omega, rfl, rfl, H3⟩, by show l1.length - ((i + 1 : Nat) : Int).toNat < l1.length - ((i : Nat) : Int).toNat; omega⟩
    · have hb := hidp (And.intro (hr.out.last (by cases b <;> simp_all)) hr.out.bel)
      clear hr
      cases b with
      | false =>
        go_wp2_with fail
        go_ret
        exact ⟨by rw [← hb.out.1]; rfl, hb.out.2⟩
      | true =>
        have hil : i = l1.length := by simp at hlt; omega
        subst hil
        clear hlt
        go_wp2_with fail
        go_ret
        exact ⟨by rw [← hb.out.1]; rfl, hb.out.2⟩
def sameC (h1 : Int) (p1 : List Nat) (l1 : List Vt) (h2 : Int) (p2 : List Nat) (l2 : List Vt) : Bool := decide (h1 = h2) && (decide (p1 = p2) && decide (l1 = l2))
set_option maxRecDepth 100000 in
set_option maxHeartbeats 4000000 in
theorem sameCommit_any (h1 : Int) (p1 : List Nat) (hp1 : p1.length = 32) (a1 : Option Addr) (b1 o1 c1 : Nat) (l1 : List Vt) (h2 : Int) (p2 : List Nat) (hp2 : p2.length = 32) (a2 : Option Addr) (b2 o2 c2 : Nat) (l2 : List Vt) (w : World) (hT1 : Ts w a1 b1 o1 c1 l1) (hT2 : Ts w a2 b2 o2 c2 l2) (hl : l1.length ≤ 1000000) :
    Calls Try.prog 46 #[.agg (cC h1 p1 (.slice a1 l1.length c1)).toArray, .agg (cC h2 p2 (.slice a2 l2.length c2)).toArray] w fun e w' => e = .returned (.bool (sameC h1 p1 l1 h2 p2 l2)) ∧ Below w.heap.size w w' := by
  have HB := hidp (((Below.refl w.heap.size w).alloc (Nat.le_refl _) (.cells (cC h1 p1 (.slice a1 l1.length c1)).toArray 63)).alloc (by simp) (.cells (cC h2 p2 (.slice a2 l2.length c2)).toArray 63))
  have K1 := (Blk.new w (cC h1 p1 (.slice a1 l1.length c1)) 63).alloc (.cells (cC h2 p2 (.slice a2 l2.length c2)).toArray 63)
  have K2 : Blk ((w.alloc (.cells (cC h1 p1 (.slice a1 l1.length c1)).toArray 63)).alloc (.cells (cC h2 p2 (.slice a2 l2.length c2)).toArray 63)) (w.heap.size + 1) (cC h2 p2 (.slice a2 l2.length c2)) 63 := Blk.new' _ _ _ _ (by simp)
  have d1 := K1.cell 0
  have d2 := K2.cell 0
  rw [cC_0] at d1 d2
  have d33 := (K1.cell 33).trans (cC_33 hp1)
  have e33 := (K2.cell 33).trans (cC_33 hp2)
  have HV := hidp (sameVotes_any a1 b1 o1 c1 l1 a2 b2 o2 c2 l2 _ (hT1.below HB.out) (hT2.below HB.out) hl)
  have nq := fun w => run_eql_hash p1 p2 hp1 hp2 w
  have gh := guard_hash
  have hpp := hidp (And.intro hp1 hp2)
  have HK1 := hidp K1
  have HK2 := hidp K2
  clear K1 K2 hT1 hT2 hl hp1 hp2
  obtain ⟨r, hr⟩ : ∃ r, r = sameC h1 p1 l1 h2 p2 l2 := ⟨_, rfl⟩
  rw [← hr]
  replace hr := hidp hr
  by_cases hh : h1 = h2
  case neg =>
    have hR := hidp (show r = false by rw [hr.out]; unfold sameC; rw [decide_eq_false hh]; rfl)
    have hbn : (h1 == h2) = false := by rw [beq_eq_false_iff_ne]; exact hh
    clear hh hr
    go_enter Try.func46, Try.ntmps46
    go_wp2_with fail
    go_ret
    exact ⟨by rw [hR.out]; rfl, HB.out⟩
  have hbn : (h1 == h2) = true := by simp [hh]
  replace hh := hidp hh
  by_cases hpq : p1 = p2
  case neg =>
    have hR := hidp (show r = false by rw [hr.out]; unfold sameC; rw [decide_eq_false hpq]; simp)
    have hpn : decide (p1 = p2) = false := decide_eq_false hpq
    clear hr hpq
    go_enter Try.func46, Try.ntmps46
    go_wp2_with first
      | (with_reducible refine (?_ : wpList _ _ _ _ _ _); refine wpList_load_midD 12 rfl (by kernel_rfl) 34 _ rfl w.heap.size 1 rfl (bvs p1) _ (rangeAt_p HK1.out) Try.underlying34 rfl (by rw [bvs_len, hpp.out.1]; kernel_rfl) ?_)
      | (with_reducible refine (?_ : wpList _ _ _ _ _ _); refine wpList_load_midD 14 rfl (by kernel_rfl) 34 _ rfl (w.heap.size + 1) 1 rfl (bvs p2) _ (rangeAt_p HK2.out) Try.underlying34 rfl (by rw [bvs_len, hpp.out.2]; kernel_rfl) ?_)
    go_ret
    exact ⟨by rw [hR.out]; rfl, HB.out⟩
  have hpn : decide (p1 = p2) = true := decide_eq_true hpq
  replace hpq := hidp hpq
  have hR := hidp (show r = decide (l1 = l2) by rw [hr.out]; unfold sameC; rw [decide_eq_true hh.out, decide_eq_true hpq.out]; simp)
  clear hr
  go_enter Try.func46, Try.ntmps46
  go_wp2_with first
    | (with_reducible refine (?_ : wpList _ _ _ _ _ _); refine wpList_load_midD 12 rfl (by kernel_rfl) 34 _ rfl w.heap.size 1 rfl (bvs p1) _ (rangeAt_p HK1.out) Try.underlying34 rfl (by rw [bvs_len, hpp.out.1]; kernel_rfl) ?_)
    | (with_reducible refine (?_ : wpList _ _ _ _ _ _); refine wpList_load_midD 14 rfl (by kernel_rfl) 34 _ rfl (w.heap.size + 1) 1 rfl (bvs p2) _ (rangeAt_p HK2.out) Try.underlying34 rfl (by rw [bvs_len, hpp.out.2]; kernel_rfl) ?_)
  refine HV.out.mono ?_
  rintro e w2 ⟨rfl, hb⟩
  have hB2 := hidp (HB.out.trans (hb.mono HB.out.size))
  clear hb
  go_wp2_with fail
  go_ret
  exact ⟨by rw [hR.out]; rfl, hB2.out⟩
end Go.Proofs.Ytbhkjflpkpkdlaa
