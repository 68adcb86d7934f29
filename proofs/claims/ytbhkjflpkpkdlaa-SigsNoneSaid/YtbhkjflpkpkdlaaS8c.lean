/-
  Sigs: what New, valid, Has and Len do.
-/
import Derived.Test.YtbhkjflpkpkdlaaS8b
import Derived.Test.YtbhkjflpkpkdlaaLh
namespace Go.Proofs.Ytbhkjflpkpkdlaa
open Go.RowKit Go.Lib Go.Maps
set_option linter.unusedSimpArgs false
set_option linter.unusedVariables false

/-- A table lies in block t, its map in block b: these signatures, in the order in which they came. -/
structure Tab (W : World) (t b most : Nat) (l : List Sg) : Prop where
  k : Blk W t [.pointer (some ⟨t, 0, none⟩), .int .i64 (most : Nat), .map (some b)] 102
  m : W.ownsMap Try.prog 158 (unitElem (H := Unit)) b l.length (TD l)
  ok : ∀ x ∈ l, SgOk x
  nd : l.Nodup
  le : l.length ≤ most
  hm : most ≤ 4096
theorem ownsMap_heap {W W' : World} {P : Program} {k : TypeId} {R : Value → Option (DataW Unit × List MemPlace)} {b n : Nat} {D : DataW Unit} (h : W.ownsMap P k R b n D) (e : W'.heap[b]? = W.heap[b]?) : W'.ownsMap P k R b n D := by
  obtain ⟨es, clock, h1, r⟩ := h
  exact ⟨es, clock, e.trans h1, r⟩
theorem Tab.below {W W' : World} {t b most : Nat} {l : List Sg} (H : Tab W t b most l) (hb : Below W.heap.size W W') : Tab W' t b most l :=
  ⟨hb.blk' H.k, ownsMap_heap H.m (hb.block b H.m.lt), H.ok, H.nd, H.le, H.hm⟩
theorem Tab.alloc {W : World} {t b most : Nat} {l : List Sg} (H : Tab W t b most l) (o : Obj) : Tab (W.alloc o) t b most l := H.below ((Below.refl _ W).alloc (Nat.le_refl _) o)
theorem Tab.drew {W : World} {t b most : Nat} {l : List Sg} (H : Tab W t b most l) : Tab W.drew t b most l := H.below (Below.refl _ W).drew
theorem Tab.bex {W W' : World} {g t b most : Nat} {l : List Sg} (H : Tab W t b most l) (hb : Bex g W W') (h1 : g ≠ t) (h2 : g ≠ b) : Tab W' t b most l :=
  ⟨hb.blk H.k (Ne.symm h1), ownsMap_heap H.m (hb.block b H.m.lt (Ne.symm h2)), H.ok, H.nd, H.le, H.hm⟩
theorem Tab.c0 {W : World} {t b most : Nat} {l : List Sg} (H : Tab W t b most l) : W.cell? ⟨t, 0, none⟩ = some (.pointer (some ⟨t, 0, none⟩)) := H.k.cell 0
theorem Tab.c1 {W : World} {t b most : Nat} {l : List Sg} (H : Tab W t b most l) : W.cell? ⟨t, 1, none⟩ = some (.int .i64 (most : Nat)) := H.k.cell 1
theorem Tab.c2 {W : World} {t b most : Nat} {l : List Sg} (H : Tab W t b most l) : W.cell? ⟨t, 2, none⟩ = some (.map (some b)) := H.k.cell 2
theorem Tab.look {W : World} {t b most : Nat} {l : List Sg} (H : Tab W t b most l) {x : Sg} (hx : SgOk x) :
    (Instr.lookup 100 (.map (some b)) (.agg (sC x).toArray) true).run Try.prog W = .ok (.tuple #[.agg #[], .bool (decide (x ∈ l))]) W := by
  have hz : (zeroValue 157).run Try.prog W = .ok (.agg #[]) W := by kernel_rfl
  obtain ⟨v, ps, h1, h2⟩ := H.m.look_ok sg_law Try.underlying100 hz (unitElem_mk (H := Unit)) (kl_of hx)
  obtain ⟨rfl, _⟩ := unitElem_inv h2
  rw [h1, TD_has H.ok hx, List.contains_eq_mem]
theorem Tab.len {W : World} {t b most : Nat} {l : List Sg} (H : Tab W t b most l) (ty : TypeId) : (Builtin.len_ #[100] ty #[.map (some b)]).run Try.prog W = .ok (.int .i64 (l.length : Nat)) W := by
  rw [H.m.len Try.underlying100 ty, TD_size H.ok H.nd]

theorem t_eq_same (g : Nat) (w : World) : (binOp .eql 89 (.pointer (some ⟨g, 0, none⟩)) (.pointer (some ⟨g, 0, none⟩))).run Try.prog w = .ok (.bool true) w := by
  obtain ⟨j, hj⟩ : ∃ j, Try.prog.info? 102 = some j := Option.isSome_iff_exists.1 (by kernel_rfl)
  exact run_eql_ptr_same w _ Try.underlying89 hj
theorem t_eq_nil (a : Addr) (w : World) : (binOp .eql 89 (.pointer none) (.pointer (some a))).run Try.prog w = .ok (.bool false) w := by
  have h : ∀ d : Nat, (Op.equalIn (d + 1) 89 (.pointer none) (.pointer (some a))).run Try.prog w = .ok false w := fun d => by
    simp [Op.equalIn, run_underlying Try.underlying89]
  simp only [binOp]
  simp [Op.equal, Op.maxDepth, h 9999]
theorem t_ne_nil (a : Addr) (w : World) : (binOp .neq 89 (.pointer (some a)) (.pointer none)).run Try.prog w = .ok (.bool true) w := by
  have h : ∀ d : Nat, (Op.equalIn (d + 1) 89 (.pointer (some a)) (.pointer none)).run Try.prog w = .ok false w := fun d => by
    simp [Op.equalIn, run_underlying Try.underlying89]
  simp only [binOp]
  simp [Op.equal, Op.maxDepth, h 9999]
theorem t_nil_ne (w : World) : (binOp .neq 89 (.pointer none) (.pointer none)).run Try.prog w = .ok (.bool false) w := by kernel_rfl
set_option maxRecDepth 20000 in
theorem tvalid_yes {w : World} {t b most : Nat} {l : List Sg} (H : Tab w t b most l) :
    Calls Try.prog 115 #[.pointer (some ⟨t, 0, none⟩)] w fun e w' => e = .returned (.bool true) ∧ w = w' := by
  have h0 := H.c0
  have q1 := t_eq_same t w
  have q2 := t_ne_nil ⟨t, 0, none⟩ w
  clear H
  go_enter Try.func115, Try.ntmps115
  go_wp2
  go_ret
  exact ⟨rfl, rfl⟩
set_option maxRecDepth 20000 in
theorem tvalid_nil (w : World) : Calls Try.prog 115 #[.pointer none] w fun e w' => e = .returned (.bool false) ∧ w = w' := by
  have q1 := t_nil_ne w
  go_enter Try.func115, Try.ntmps115
  go_wp2
  go_ret
  exact ⟨rfl, rfl⟩
set_option maxRecDepth 20000 in
theorem tvalid_no {w : World} {g : Nat} (h0 : w.cell? ⟨g, 0, none⟩ = some (.pointer none)) :
    Calls Try.prog 115 #[.pointer (some ⟨g, 0, none⟩)] w fun e w' => e = .returned (.bool false) ∧ w = w' := by
  have q1 := t_eq_nil ⟨g, 0, none⟩ w
  have q2 := t_ne_nil ⟨g, 0, none⟩ w
  go_enter Try.func115, Try.ntmps115
  go_wp2
  go_ret
  exact ⟨rfl, rfl⟩
/-- A table that is none: nil, or one that nobody made. -/
def BadT (w : World) (x : Value) : Prop := x = .pointer none ∨ ∃ g, x = .pointer (some ⟨g, 0, none⟩) ∧ w.cell? ⟨g, 0, none⟩ = some (.pointer none)
theorem BadT.below {w w' : World} {x : Value} (h : BadT w x) (hB : Below w.heap.size w w') : BadT w' x := by
  rcases h with rfl | ⟨g, rfl, hc⟩
  · exact .inl rfl
  · exact .inr ⟨g, rfl, (hB.cell (cell_lt hc)).trans hc⟩
theorem tvalid_bad {w : World} {x : Value} (h : BadT w x) : Calls Try.prog 115 #[x] w fun e w' => e = .returned (.bool false) ∧ w = w' := by
  rcases h with rfl | ⟨g, rfl, hc⟩
  · exact tvalid_nil w
  · exact tvalid_no hc

set_option maxRecDepth 20000 in
theorem tlen_any {w : World} {t b most : Nat} {l : List Sg} (H : Tab w t b most l) :
    Calls Try.prog 60 #[.pointer (some ⟨t, 0, none⟩)] w fun e w' => e = .returned (.int .i64 (l.length : Nat)) ∧ w = w' := by
  have h2 := H.c2
  have hv := hidp (tvalid_yes H)
  have hlen := fun ty => H.len ty
  clear H
  go_enter Try.func60, Try.ntmps60
  go_wp2_with fail
  refine hv.out.mono ?_
  rintro e w1 ⟨rfl, rfl⟩
  go_wp2
  go_ret
  exact ⟨rfl, rfl⟩
/-- Has under way: the table, and the signature in its box. -/
structure HsI (w W : World) (t b most : Nat) (l : List Sg) (x : Sg) : Prop where
  tab : Tab W t b most l
  kx : Blk W w.heap.size (sC x) 97
  bel : Below w.heap.size w W
theorem HsI.below {w W W' : World} {t b most : Nat} {l : List Sg} {x : Sg} (H : HsI w W t b most l x) (hb : Below W.heap.size W W') : HsI w W' t b most l x := ⟨H.tab.below hb, hb.blk' H.kx, H.bel.trans (hb.mono H.bel.size)⟩
theorem HsI.start {w : World} {t b most : Nat} {l : List Sg} {x : Sg} (H : Tab w t b most l) : HsI w (w.alloc (.cells (sC x).toArray 97)) t b most l x := ⟨H.alloc _, Blk.new _ _ _, (Below.refl _ w).alloc (Nat.le_refl _) _⟩
set_option maxRecDepth 100000 in
set_option maxHeartbeats 2000000 in
theorem thas_any {w : World} {t b most : Nat} {l : List Sg} {x : Sg} (H : Tab w t b most l) (hx : SgOk x) :
    Calls Try.prog 58 #[.pointer (some ⟨t, 0, none⟩), .agg (sC x).toArray] w fun e w' => e = .returned (.bool (decide (x ∈ l))) ∧ Below w.heap.size w w' := by
  have HI := hidp (HsI.start (x := x) H)
  have hls := hidp (sC_len hx)
  have hok := hidp hx
  clear H hx
  go_enter Try.func58, Try.ntmps58
  go_wp2_with fail
  refine (tvalid_yes HI.out.tab).mono ?_
  rintro e w1 ⟨rfl, rfl⟩
  go_wp2_with fail
  have hT := hidp (HI.out.below (Below.refl _ _).drew)
  refine wp_region_held_drew (S := fun W => HsI w W t b most l x) (by kernel_rfl) hT.out (fun hHeld => ?_)
  try simp only [Act.put, List.setIfInBounds_toArray, List.set_cons_zero, List.set_cons_succ]
  refine wpAnyH_takeTo2 (i := 0) (oi := _) (v := ?_) (some 11) rfl rfl (by kernel_rfl) (by kernel_rfl) (by kernel_rfl) (fun _ _ _ h => h) (Or.inl ⟨by rfl, ?_⟩) hHeld ?_
  rotate_left
  · intro w hSw
    go_simp
    try with_reducible rfl
  try simp only [Act.put, List.setIfInBounds_toArray, List.set_cons_zero, List.set_cons_succ]
  refine wpAnyH_takeTo2 (i := 1) (oi := _) (v := ?_) (some 12) rfl rfl (by kernel_rfl) (by kernel_rfl) (by kernel_rfl) (fun _ _ _ h => h) (Or.inl ⟨by rfl, ?_⟩) hHeld ?_
  rotate_left
  · intro w hSw
    go_simp
    try with_reducible rfl
  try simp only [Act.put, List.setIfInBounds_toArray, List.set_cons_zero, List.set_cons_succ]
  refine wpAnyH_takeTo2 (i := 2) (oi := _) (v := ?_) (some 13) rfl rfl (by kernel_rfl) (by kernel_rfl) (by kernel_rfl) (fun _ _ _ h => h) (Or.inl ⟨by rfl, ?_⟩) hHeld ?_
  rotate_left
  · intro w hSw
    go_simp
    try with_reducible rfl
  try simp only [Act.put, List.setIfInBounds_toArray, List.set_cons_zero, List.set_cons_succ]
  refine wpAnyH_takeTo2 (i := 3) (oi := _) (v := ?_) (some 14) rfl rfl (by kernel_rfl) (by kernel_rfl) (by kernel_rfl) (fun _ _ _ h => h) (Or.inl ⟨by rfl, ?_⟩) hHeld ?_
  rotate_left
  · intro w hSw
    have q := hSw.tab.c2
    go_simp
    try with_reducible rfl
  try simp only [Act.put, List.setIfInBounds_toArray, List.set_cons_zero, List.set_cons_succ]
  refine wpAnyH_takeTo2 (i := 4) (oi := _) (v := .agg (sC x).toArray) (some 15) rfl rfl (by kernel_rfl) (by kernel_rfl) (by kernel_rfl) (fun _ _ _ h => h) (yieldsIf_load_mid (by rfl) 97 _ rfl (w.heap.size) 0 rfl (sC x) _ (fun w' hw' j v hj => by rw [Nat.zero_add]; exact ((hw'.kx).cell j).trans hj) Try.underlying97 rfl (by rw [hls.out]; kernel_rfl)) hHeld ?_
  try simp only [Act.put, List.setIfInBounds_toArray, List.set_cons_zero, List.set_cons_succ]
  refine wpAnyH_takeTo2 (i := 5) (oi := _) (v := ?_) (some 16) rfl rfl (by kernel_rfl) (by kernel_rfl) (by kernel_rfl) (fun _ _ _ h => h) (Or.inl ⟨by rfl, ?_⟩) hHeld ?_
  rotate_left
  · intro w hSw
    have q := hSw.tab.look hok.out
    go_simp
    try with_reducible rfl
  try simp only [Act.put, List.setIfInBounds_toArray, List.set_cons_zero, List.set_cons_succ]
  refine wpAnyH_takeTo2 (i := 6) (oi := _) (v := ?_) (some 10) rfl rfl (by kernel_rfl) (by kernel_rfl) (by kernel_rfl) (fun _ _ _ h => h) (Or.inl ⟨by rfl, ?_⟩) hHeld ?_
  rotate_left
  · intro w hSw
    go_simp
    try with_reducible rfl
  try simp only [Act.put, List.setIfInBounds_toArray, List.set_cons_zero, List.set_cons_succ]
  refine wpAnyH_takeTo2 (i := 7) (oi := _) (v := ?_) (some 17) rfl rfl (by kernel_rfl) (by kernel_rfl) (by kernel_rfl) (fun _ _ _ h => h) (Or.inl ⟨by rfl, ?_⟩) hHeld ?_
  rotate_left
  · intro w hSw
    go_simp
    try with_reducible rfl
  try simp only [Act.put, List.setIfInBounds_toArray, List.set_cons_zero, List.set_cons_succ]
  refine wpAnyH_takeTo2 (i := 8) (oi := _) (v := ?_) (some 18) rfl rfl (by kernel_rfl) (by kernel_rfl) (by kernel_rfl) (fun _ _ _ h => h) (Or.inl ⟨by rfl, ?_⟩) hHeld ?_
  rotate_left
  · intro w hSw
    go_simp
    try with_reducible rfl
  try simp only [Act.put, List.setIfInBounds_toArray, List.set_cons_zero, List.set_cons_succ]
  refine wpAnyH_ready (rs := [9]) (by kernel_rfl) (by simp) ?_
  refine AllReadyH.cons (o := _) rfl (fun K hK => ?_) AllReadyH.nil
  go_simp
  have hal := hidp (fun W : World => (Below.refl W.heap.size W).alloc (Nat.le_refl _) (.cells #[] 157))
  replace hT := hidp (hT.out.below (hal.out _))
  clear hal
  refine hK.out _ _ (hT.out) (fun hHeld' => ?_)
  clear hK K hHeld
  have hHeld := hHeld'
  clear hHeld'
  try simp only [Act.put, List.setIfInBounds_toArray, List.set_cons_zero, List.set_cons_succ]
  refine wpAnyH_ready (rs := [10]) (by kernel_rfl) (by simp) ?_
  refine AllReadyH.cons (o := _) rfl (fun K hK => ?_) AllReadyH.nil
  go_simp
  refine hK.out _ _ (by exact hT.out) (fun hHeld' => ?_)
  clear hK K hHeld
  have hHeld := hHeld'
  clear hHeld'
  try simp only [Act.put, List.setIfInBounds_toArray, List.set_cons_zero, List.set_cons_succ]
  refine wpAnyH_takeTo2 (i := 11) (oi := _) (v := ?_) (some 6) rfl rfl (by kernel_rfl) (by kernel_rfl) (by kernel_rfl) (fun _ _ _ h => h) (Or.inl ⟨by rfl, ?_⟩) hHeld ?_
  rotate_left
  · intro w hSw
    go_simp
    try with_reducible rfl
  try simp only [Act.put, List.setIfInBounds_toArray, List.set_cons_zero, List.set_cons_succ]
  refine wpAnyH_done (by kernel_rfl) ?_ _
  clear hHeld
  go_wp2
  go_ret
  exact ⟨rfl, hT.out.bel⟩
/-- What Add makes of a table, and tells. -/
def addS (most : Nat) (l : List Sg) (x : Sg) : List Sg × Nat := if x ∈ l then (l, 8) else if most ≤ l.length then (l, 7) else (l ++ [x], 0)
theorem Tab.ne {W : World} {t b most : Nat} {l : List Sg} (H : Tab W t b most l) : t ≠ b := by
  intro e
  obtain ⟨es, clock, h1, _⟩ := H.m
  have h2 := H.k
  unfold Blk at h2
  rw [e, h1] at h2
  cases h2
theorem Tab.store {W : World} {t b most : Nat} {l : List Sg} (H : Tab W t b most l) {x : Sg} (hx : SgOk x) (h1 : x ∉ l) (h2 : ¬ most ≤ l.length) :
    ∃ W', (Instr.mapUpdate 100 (.map (some b)) (.agg (sC x).toArray) (.agg #[])).run Try.prog W = .ok () W' ∧ Tab W' t b most (l ++ [x]) ∧ Bex b W W' := by
  obtain ⟨W', hr, ho, hg⟩ := H.m.store sg_law Try.underlying100 (by have := H.le; have := H.hm; unfold maxLen; omega) (kl_of hx) (unitElem_mk (H := Unit))
  have hgr := hg.grown
  have hb : Bex b W W' := ⟨hgr.os, hgr.tape, hgr.output, hgr.size, fun k hk hne => hgr.block k hk (fun e => hne (by simpa using e))⟩
  refine ⟨W', hr, ⟨hb.blk H.k H.ne, ?_, ?_, ?_, ?_, H.hm⟩, hb⟩
  · rw [List.length_append, ← TD_snoc]
    exact ho
  · intro y hy
    rcases List.mem_append.1 hy with hy | hy
    · exact H.ok y hy
    · rw [List.mem_singleton.1 hy]
      exact hx
  · rw [List.nodup_append]
    exact ⟨H.nd, by simp, fun a ha c hc e => h1 (by rw [List.mem_singleton.1 hc] at e; exact e ▸ ha)⟩
  · rw [List.length_append]
    simp
    omega
structure HsU (w W : World) (t b : Nat) (x : Sg) : Prop where
  c2 : W.cell? ⟨t, 2, none⟩ = some (.map (some b))
  kx : Blk W w.heap.size (sC x) 97
set_option maxRecDepth 100000 in
set_option maxHeartbeats 2000000 in
theorem tadd_any {w : World} {t b most : Nat} {l : List Sg} {x : Sg} (H : Tab w t b most l) (hx : SgOk x) :
    Calls Try.prog 54 #[.pointer (some ⟨t, 0, none⟩), .agg (sC x).toArray] w fun e w' => e = .returned (.int .i64 ((addS most l x).2 : Nat)) ∧ Tab w' t b most (addS most l x).1 ∧ Bex b w w' := by
  have HI := hidp (HsI.start (x := x) H)
  have hls := hidp (sC_len hx)
  have hok := hidp hx
  have hbl := hidp H.m.lt
  obtain ⟨r, hr⟩ : ∃ r, r = addS most l x := ⟨_, rfl⟩
  rw [← hr]
  replace hr := hidp hr
  clear H hx
  go_enter Try.func54, Try.ntmps54
  go_wp2_with fail
  refine (tvalid_yes HI.out.tab).mono ?_
  rintro e w1 ⟨rfl, rfl⟩
  go_wp2_with first
    | (with_reducible refine (?_ : wpList _ _ _ _ _ _); refine wpList_load_blk rfl 97 _ rfl w.heap.size (sC x) 97 rfl HI.out.kx _ Try.underlying97 rfl (by rw [hls.out]; kernel_rfl) ?_)
  refine (thas_any HI.out.tab hok.out).mono ?_
  rintro e w2 ⟨rfl, hb⟩
  replace HI := hidp (HI.out.below hb)
  clear hb
  by_cases h1 : x ∈ l
  · have h1d : decide (x ∈ l) = true := decide_eq_true h1
    have hR := hidp (show r = (l, 8) by rw [hr.out]; unfold addS; rw [if_pos h1])
    rw [h1d]
    clear h1 h1d hr
    go_wp2
    go_ret
    rw [hR.out]
    exact ⟨rfl, HI.out.tab, Bex.of_below HI.out.bel⟩
  have h1d : decide (x ∈ l) = false := decide_eq_false h1
  rw [h1d]
  replace h1 := hidp h1
  clear h1d
  go_wp2_with fail
  have hT := hidp (HI.out.below (Below.refl _ _).drew)
  refine wp_region_held_drew (S := fun W => HsI w W t b most l x) (by kernel_rfl) hT.out (fun hHeld => ?_)
  try simp only [Act.put, List.setIfInBounds_toArray, List.set_cons_zero, List.set_cons_succ]
  refine wpAnyH_takeTo2 (i := 0) (oi := _) (v := ?_) (some 14) rfl rfl (by kernel_rfl) (by kernel_rfl) (by kernel_rfl) (fun _ _ _ h => h) (Or.inl ⟨by rfl, ?_⟩) hHeld ?_
  rotate_left
  · intro w hSw
    go_simp
    try with_reducible rfl
  try simp only [Act.put, List.setIfInBounds_toArray, List.set_cons_zero, List.set_cons_succ]
  refine wpAnyH_takeTo2 (i := 1) (oi := _) (v := ?_) (some 15) rfl rfl (by kernel_rfl) (by kernel_rfl) (by kernel_rfl) (fun _ _ _ h => h) (Or.inl ⟨by rfl, ?_⟩) hHeld ?_
  rotate_left
  · intro w hSw
    go_simp
    try with_reducible rfl
  try simp only [Act.put, List.setIfInBounds_toArray, List.set_cons_zero, List.set_cons_succ]
  refine wpAnyH_takeTo2 (i := 2) (oi := _) (v := ?_) (some 16) rfl rfl (by kernel_rfl) (by kernel_rfl) (by kernel_rfl) (fun _ _ _ h => h) (Or.inl ⟨by rfl, ?_⟩) hHeld ?_
  rotate_left
  · intro w hSw
    go_simp
    try with_reducible rfl
  try simp only [Act.put, List.setIfInBounds_toArray, List.set_cons_zero, List.set_cons_succ]
  refine wpAnyH_takeTo2 (i := 3) (oi := _) (v := ?_) (some 17) rfl rfl (by kernel_rfl) (by kernel_rfl) (by kernel_rfl) (fun _ _ _ h => h) (Or.inl ⟨by rfl, ?_⟩) hHeld ?_
  rotate_left
  · intro w hSw
    have q := hSw.tab.c2
    go_simp
    try with_reducible rfl
  try simp only [Act.put, List.setIfInBounds_toArray, List.set_cons_zero, List.set_cons_succ]
  refine wpAnyH_takeTo2 (i := 4) (oi := _) (v := ?_) (some 18) rfl rfl (by kernel_rfl) (by kernel_rfl) (by kernel_rfl) (fun _ _ _ h => h) (Or.inl ⟨by rfl, ?_⟩) hHeld ?_
  rotate_left
  · intro w hSw
    have q := fun ty => hSw.tab.len ty
    go_simp
    try with_reducible rfl
  try simp only [Act.put, List.setIfInBounds_toArray, List.set_cons_zero, List.set_cons_succ]
  refine wpAnyH_takeTo2 (i := 5) (oi := _) (v := ?_) (some 19) rfl rfl (by kernel_rfl) (by kernel_rfl) (by kernel_rfl) (fun _ _ _ h => h) (Or.inl ⟨by rfl, ?_⟩) hHeld ?_
  rotate_left
  · intro w hSw
    go_simp
    try with_reducible rfl
  try simp only [Act.put, List.setIfInBounds_toArray, List.set_cons_zero, List.set_cons_succ]
  refine wpAnyH_takeTo2 (i := 6) (oi := _) (v := ?_) (some 20) rfl rfl (by kernel_rfl) (by kernel_rfl) (by kernel_rfl) (fun _ _ _ h => h) (Or.inl ⟨by rfl, ?_⟩) hHeld ?_
  rotate_left
  · intro w hSw
    go_simp
    try with_reducible rfl
  try simp only [Act.put, List.setIfInBounds_toArray, List.set_cons_zero, List.set_cons_succ]
  refine wpAnyH_takeTo2 (i := 7) (oi := _) (v := ?_) (some 21) rfl rfl (by kernel_rfl) (by kernel_rfl) (by kernel_rfl) (fun _ _ _ h => h) (Or.inl ⟨by rfl, ?_⟩) hHeld ?_
  rotate_left
  · intro w hSw
    go_simp
    try with_reducible rfl
  try simp only [Act.put, List.setIfInBounds_toArray, List.set_cons_zero, List.set_cons_succ]
  refine wpAnyH_takeTo2 (i := 8) (oi := _) (v := ?_) (some 22) rfl rfl (by kernel_rfl) (by kernel_rfl) (by kernel_rfl) (fun _ _ _ h => h) (Or.inl ⟨by rfl, ?_⟩) hHeld ?_
  rotate_left
  · intro w hSw
    have q := hSw.tab.c1
    go_simp
    try with_reducible rfl
  try simp only [Act.put, List.setIfInBounds_toArray, List.set_cons_zero, List.set_cons_succ]
  refine wpAnyH_takeTo2 (i := 9) (oi := _) (v := ?_) (some 23) rfl rfl (by kernel_rfl) (by kernel_rfl) (by kernel_rfl) (fun _ _ _ h => h) (Or.inl ⟨by rfl, ?_⟩) hHeld ?_
  rotate_left
  · intro w hSw
    go_simp
    try with_reducible rfl
  try simp only [Act.put, List.setIfInBounds_toArray, List.set_cons_zero, List.set_cons_succ]
  refine wpAnyH_takeTo2 (i := 10) (oi := _) (v := ?_) (some 13) rfl rfl (by kernel_rfl) (by kernel_rfl) (by kernel_rfl) (fun _ _ _ h => h) (Or.inl ⟨by rfl, ?_⟩) hHeld ?_
  rotate_left
  · intro w hSw
    go_simp
    try with_reducible rfl
  try simp only [Act.put, List.setIfInBounds_toArray, List.set_cons_zero, List.set_cons_succ]
  refine wpAnyH_done (by kernel_rfl) ?_ _
  clear hHeld HI
  have HI := hT
  clear hT
  by_cases h2 : most ≤ l.length
  · have h2d : decide (most ≤ l.length) = true := decide_eq_true h2
    rw [h2d]
    have hR := hidp (show r = (l, 7) by rw [hr.out]; unfold addS; rw [if_neg h1.out, if_pos h2])
    clear h2 hr h2d
    go_wp2
    go_ret
    rw [hR.out]
    exact ⟨rfl, HI.out.tab, Bex.of_below HI.out.bel⟩
  have h2d : decide (most ≤ l.length) = false := decide_eq_false h2
  rw [h2d]
  have hR := hidp (show r = (l ++ [x], 0) by rw [hr.out]; unfold addS; rw [if_neg h1.out, if_neg h2])
  replace h2 := hidp h2
  clear hr h2d
  go_wp2_with fail
  have hT := hidp (HI.out.below (Below.refl _ _).drew)
  refine wp_region_held_drew (S := fun W => HsU w W t b x) (by kernel_rfl) ⟨hT.out.tab.c2, hT.out.kx⟩ (fun hHeld => ?_)
  try simp only [Act.put, List.setIfInBounds_toArray, List.set_cons_zero, List.set_cons_succ]
  refine wpAnyH_takeTo2 (i := 0) (oi := _) (v := ?_) (some 24) rfl rfl (by kernel_rfl) (by kernel_rfl) (by kernel_rfl) (fun _ _ _ h => h) (Or.inl ⟨by rfl, ?_⟩) hHeld ?_
  rotate_left
  · intro w hSw
    go_simp
    try with_reducible rfl
  try simp only [Act.put, List.setIfInBounds_toArray, List.set_cons_zero, List.set_cons_succ]
  refine wpAnyH_takeTo2 (i := 1) (oi := _) (v := ?_) (some 25) rfl rfl (by kernel_rfl) (by kernel_rfl) (by kernel_rfl) (fun _ _ _ h => h) (Or.inl ⟨by rfl, ?_⟩) hHeld ?_
  rotate_left
  · intro w hSw
    go_simp
    try with_reducible rfl
  try simp only [Act.put, List.setIfInBounds_toArray, List.set_cons_zero, List.set_cons_succ]
  refine wpAnyH_takeTo2 (i := 2) (oi := _) (v := ?_) (some 26) rfl rfl (by kernel_rfl) (by kernel_rfl) (by kernel_rfl) (fun _ _ _ h => h) (Or.inl ⟨by rfl, ?_⟩) hHeld ?_
  rotate_left
  · intro w hSw
    go_simp
    try with_reducible rfl
  try simp only [Act.put, List.setIfInBounds_toArray, List.set_cons_zero, List.set_cons_succ]
  refine wpAnyH_takeTo2 (i := 3) (oi := _) (v := ?_) (some 27) rfl rfl (by kernel_rfl) (by kernel_rfl) (by kernel_rfl) (fun _ _ _ h => h) (Or.inl ⟨by rfl, ?_⟩) hHeld ?_
  rotate_left
  · intro w hSw
    have q := hSw.c2
    go_simp
    try with_reducible rfl
  try simp only [Act.put, List.setIfInBounds_toArray, List.set_cons_zero, List.set_cons_succ]
  refine wpAnyH_takeTo2 (i := 4) (oi := _) (v := .agg (sC x).toArray) (some 28) rfl rfl (by kernel_rfl) (by kernel_rfl) (by kernel_rfl) (fun _ _ _ h => h) (yieldsIf_load_mid (by rfl) 97 _ rfl (w.heap.size) 0 rfl (sC x) _ (fun w' hw' j v hj => by rw [Nat.zero_add]; exact ((hw'.kx).cell j).trans hj) Try.underlying97 rfl (by rw [hls.out]; kernel_rfl)) hHeld ?_
  try simp only [Act.put, List.setIfInBounds_toArray, List.set_cons_zero, List.set_cons_succ]
  refine wpAnyH_takeTo2 (i := 5) (oi := _) (v := ?_) (some 29) rfl rfl (by kernel_rfl) (by kernel_rfl) (by kernel_rfl) (fun _ _ _ h => h) (Or.inl ⟨by rfl, ?_⟩) hHeld ?_
  rotate_left
  · intro w hSw
    go_simp
    try with_reducible rfl
  try simp only [Act.put, List.setIfInBounds_toArray, List.set_cons_zero, List.set_cons_succ]
  refine wpAnyH_ready (rs := [6]) (by kernel_rfl) (by simp) ?_
  refine AllReadyH.cons (o := _) rfl (fun K hK => ?_) AllReadyH.nil
  obtain ⟨w9, hr9, ht9, hb9⟩ := hT.out.tab.store hok.out h1.out h2.out
  go_simp
  have hF := hidp (And.intro ht9 ((Bex.of_below hT.out.bel).trans hb9))
  have hX := hidp (show HsU w w9 t b x from ⟨ht9.c2, hb9.blk hT.out.kx (Nat.ne_of_gt hbl.out)⟩)
  clear hr9 ht9 hb9
  refine hK.out _ _ (hX.out) (fun hHeld' => ?_)
  clear hK K hHeld
  have hHeld := hHeld'
  clear hHeld'
  try simp only [Act.put, List.setIfInBounds_toArray, List.set_cons_zero, List.set_cons_succ]
  refine wpAnyH_done (by kernel_rfl) ?_ _
  clear hHeld
  go_wp2
  go_ret
  rw [hR.out]
  exact ⟨rfl, hF.out.1, hF.out.2⟩
theorem table_zero (w : World) : (zeroValue 102).run Try.prog w = .ok (.agg #[.pointer none, .int .i64 0, .map none]) w := by kernel_rfl
theorem Tab.made (w : World) (most : Nat) (hm : most ≤ 4096) : Tab ((w.alloc (.map #[] 0)).alloc (.cells #[.pointer (some ⟨w.heap.size + 1, 0, none⟩), .int .i64 (most : Nat), .map (some w.heap.size)] 102)) (w.heap.size + 1) w.heap.size most [] := by
  have hb := Blk.new' (w.alloc (.map #[] 0)) [.pointer (some ⟨w.heap.size + 1, 0, none⟩), .int .i64 (most : Nat), .map (some w.heap.size)] 102 (w.heap.size + 1) (by simp)
  have hm0 := World.ownsMap_made w Try.prog 158 (unitElem (H := Unit))
  exact ⟨hb, hm0.alloc _, by simp, List.nodup_nil, Nat.zero_le _, hm⟩
set_option maxRecDepth 100000 in
theorem tnew_ok (most : Nat) (hm : most ≤ 4096) (w : World) : Calls Try.prog 52 #[.int .i64 (most : Nat)] w fun e w' => (∃ t b, e = .returned (.tuple #[.pointer (some ⟨t, 0, none⟩), .int .i64 0]) ∧ w.heap.size ≤ t ∧ w.heap.size ≤ b ∧ Tab w' t b most []) ∧ Below w.heap.size w w' := by
  have HM := hidp (Tab.made w most hm)
  have HB := hidp (((Below.refl w.heap.size w).alloc (Nat.le_refl _) (.map #[] 0)).alloc (by simp) (.cells #[.pointer (some ⟨w.heap.size + 1, 0, none⟩), .int .i64 (most : Nat), .map (some w.heap.size)] 102))
  have hmm := @run_makeMap Try.prog
  have t1 : decide ((most : Int) < 0) = false := decide_eq_false (by omega)
  have t2 : decide ((4096 : Int) < (most : Int)) = false := decide_eq_false (by omega)
  clear hm
  go_enter Try.func52, Try.ntmps52
  go_wp2
  go_ret2
  exact ⟨⟨w.heap.size + 1, w.heap.size, rfl, by omega, Nat.le_refl _, HM.out⟩, HB.out⟩
set_option maxRecDepth 100000 in
theorem tnew_bad (most : Int) (hm : most < 0 ∨ 4096 < most) (w : World) : Calls Try.prog 52 #[.int .i64 most] w fun e w' => e = .returned (.tuple #[.pointer none, .int .i64 3]) ∧ Below w.heap.size w w' := by
  by_cases h1 : most < 0
  · have t1 : decide (most < 0) = true := decide_eq_true h1
    clear hm h1
    go_enter Try.func52, Try.ntmps52
    go_wp2
    go_ret2
    exact ⟨rfl, Below.refl _ _⟩
  · have t1 : decide (most < 0) = false := decide_eq_false h1
    have t2 : decide (4096 < most) = true := decide_eq_true (by omega)
    clear hm h1
    go_enter Try.func52, Try.ntmps52
    go_wp2
    go_ret2
    exact ⟨rfl, Below.refl _ _⟩
end Go.Proofs.Ytbhkjflpkpkdlaa
