/-
  Contract: what the rounds of a block begin with.
-/
import Derived.Test.YtdiklimikkplcaaHe
namespace Go.Proofs.Ytdiklimikkplcaa
open Go.RowKit

theorem wpList_copy_blk {P : Program} {w : World} {ops : Array Oper} {rest : List Oper} {o : Oper} {a : Act} {Q : Exit → Act → World → Prop} (hgd : o.guard = none) (d s : Operand) (dT sT : TypeId)
    (ho : o.op = .call { callee := .builtin .copy, args := #[d, s], argTypes := #[dT, sT] }) (elem : TypeId) (hu : P.underlying dT = some (.slice elem)) (hsz : (P.info? elem).map (·.size) = some 1)
    (g off dLen dCap : Nat) (ad : Addr) (sLen sCap : Nat) (hd : a.eval d = .slice (some ⟨g, off, none⟩) dLen dCap) (hs : a.eval s = .slice (some ad) sLen sCap)
    (cur : List Value) (t : TypeId) (hg : Blk w g cur t) (cs : List Value) (hn : cs.length = Nat.min sLen dLen)
    (hsrc : ∀ j v, cs[j]? = some v → w.cell? (ad.add j) = some v) (hfit : off + cs.length ≤ cur.length) (h1 : ∀ v ∈ cs, v.oneCell' = true)
    (h : ∀ w', Hid (Blk w' g (splice cur off cs) t ∧ But g w w') → wpList P ops Q rest (a.put o.dst (goInt cs.length)) w') : wpList P ops Q (o :: rest) a w := by
  refine wpList_copy_own hgd d s dT sT ho elem hu hsz g off dLen dCap ad sLen sCap hd hs cur.toArray t hg cs hn hsrc (by simpa using hfit) h1 ?_
  refine h _ (hidp ⟨?_, (But.refl g w).setRow _⟩)
  exact Blk.row hg
theorem wvs_oneL (v : List Nat) : ∀ x ∈ wvs v, x.oneCell' = true := by
  intro x hx
  simp only [wvs, List.mem_map] at hx
  obtain ⟨n, _, rfl⟩ := hx; rfl
/-- Eight words laid at the head, eight behind them. -/
theorem splice_begin {h : List Nat} (h8 : h.length = 8) : splice (splice (wvs (List.replicate 16 0)) 0 (wvs h)) 8 (wvs initL) = wvs (h ++ initL) := by
  have e1 : splice (wvs (List.replicate 16 0)) 0 (wvs h) = wvs (h ++ List.replicate 8 0) := by
    unfold splice; rw [wvs_len, h8]
    unfold wvs
    simp
  rw [e1]
  unfold splice
  have e2 : (wvs (h ++ List.replicate 8 0)).take 8 = wvs h := by unfold wvs; rw [List.map_append, List.take_append_of_le_length (by simp [h8])]; exact List.take_of_length_le (by simp [h8])
  have e3 : (wvs (h ++ List.replicate 8 0)).drop (8 + (wvs initL).length) = [] := by
    apply List.drop_eq_nil_of_le; unfold wvs; simp [h8, initL]
  rw [e2, e3]
  unfold wvs
  simp
theorem begin_sets {h : List Nat} (h8 : h.length = 8) (t mark : Nat) : (((h ++ initL).set 12 (xorW 0x510e527f (t % 4294967296))).set 13 (xorW 0x9b05688c (t / 4294967296 % 4294967296))).set 14 (xorW 0x1f83d9ab mark) = beginL h t mark := by
  rw [List.set_append_right _ _ (by omega), List.set_append_right _ _ (by omega), List.set_append_right _ _ (by omega), h8]
  rfl
theorem app_get {h : List Nat} (h8 : h.length = 8) (i : Nat) : (h ++ initL).getD (8 + i) 0 = initL.getD i 0 := by
  rw [List.getD_eq_getElem?_getD, List.getD_eq_getElem?_getD, List.getElem?_append_right (by omega), h8, show 8 + i - 8 = i by omega]

/-- What 'begin' knows between its statements. -/
structure BegS (w wd : World) (g : Nat) (sf : Value) (n : Nat) (h bl : List Nat) (c : Nat) (cur : List Value) : Prop where
  st : St wd g sf n h bl
  res : Blk wd w.heap.size (wvs (List.replicate 16 0)) 213
  row : Blk wd (w.heap.size + 1) cur 213
  ini : Blk wd c (wvs initL) 136
  bel : Below w.heap.size w wd
  hc : w.heap.size + 2 ≤ c
  hg : g < w.heap.size
theorem BegS.drew {w wd : World} {g : Nat} {sf : Value} {n : Nat} {h bl : List Nat} {c : Nat} {cur : List Value} (H : BegS w wd g sf n h bl c cur) : BegS w wd.drew g sf n h bl c cur :=
  ⟨H.st.drew, H.res.drew, H.row.drew, H.ini.drew, H.bel.drew, H.hc, H.hg⟩
theorem BegS.but {w wd w' : World} {g : Nat} {sf : Value} {n : Nat} {h bl : List Nat} {c : Nat} {cur cur' : List Value} (H : BegS w wd g sf n h bl c cur) (hb : But (w.heap.size + 1) wd w') (hr : Blk w' (w.heap.size + 1) cur' 213) : BegS w w' g sf n h bl c cur' :=
  ⟨⟨hb.blk H.st.blk (by have := H.hg; omega), H.st.words, H.st.bytes⟩, hb.blk H.res (by omega), hr, hb.blk H.ini (by have := H.hc; omega), H.bel.trans (hb.below (by omega)), H.hc, H.hg⟩
theorem BegS.set {w wd : World} {g : Nat} {sf : Value} {n : Nat} {h bl : List Nat} {c : Nat} {v : List Nat} (H : BegS w wd g sf n h bl c (wvs v)) (i x : Nat) : BegS w (wd.setCell ⟨w.heap.size + 1, i, none⟩ (.int .u32 (x : Nat))) g sf n h bl c (wvs (v.set i x)) :=
  H.but ((But.refl _ wd).setCell _ _) (wvs_set v i x ▸ H.row.set i _)

set_option maxRecDepth 20000 in
set_option maxHeartbeats 4000000 in
theorem begin_any (g : Nat) (sf : Value) (n : Nat) (h bl : List Nat) (mark : Nat) (w : World) (hs : St w g sf n h bl) (hn : n ≤ 9223372036854775807) (hm : mark < W32) :
    Calls Try.prog 193 #[.pointer (some ⟨g, 0, none⟩), .int .u32 (mark : Nat)] w fun e w' => e = .returned (.agg (wvs (beginL h n mark)).toArray) ∧ Below w.heap.size w w' := by
  have HS := hidp hs
  have HN := hidp hn
  have HI := hidp (fun w => initial_any w)
  obtain ⟨lo, hlo⟩ : ∃ r, r = n % 4294967296 := ⟨_, rfl⟩
  obtain ⟨hi, hhi⟩ : ∃ r, r = n / 4294967296 % 4294967296 := ⟨_, rfl⟩
  have HH := hidp (fun w hc => halves_any g n w hn hc)
  rw [← hlo, ← hhi] at HH
  have e12 := xor_word (a := 0x510e527f) (b := lo) (by decide) (by rw [hlo]; exact Nat.mod_lt _ (by decide))
  have e13 := xor_word (a := 0x9b05688c) (b := hi) (by decide) (by rw [hhi]; exact Nat.mod_lt _ (by decide))
  have e14 := xor_word (a := 0x1f83d9ab) (b := mark) (by decide) hm
  have HL := hidp hlo
  have HU := hidp hhi
  clear hs hn hm hlo hhi
  go_enter Try.func193, Try.ntmps193
  obtain ⟨w0, hw0⟩ : ∃ r, r = (w.alloc (.cells (wvs (List.replicate 16 0)).toArray 213)).alloc (.cells (wvs (List.replicate 16 0)).toArray 213) := ⟨_, rfl⟩
  have H0 : Hid (St w0 g sf n h bl ∧ Blk w0 w.heap.size (wvs (List.replicate 16 0)) 213 ∧ Blk w0 (w.heap.size + 1) (wvs (List.replicate 16 0)) 213 ∧ Below w.heap.size w w0 ∧ w0.heap.size = w.heap.size + 2 ∧ g < w.heap.size) :=
    hidp (hw0 ▸ ⟨(HS.out.alloc _).alloc _, (Blk.new w _ _).alloc _, Blk.new' _ _ _ _ (by simp), ((Below.refl _ _).alloc (Nat.le_refl _) _).alloc (by simp) _, by simp, HS.out.lt⟩)
  have HW0 := hidp hw0
  clear hw0
  go_wp2_with fail
  have hcall : Hid (∀ {f : Ending → World → Prop}, (∀ w1, Hid (Below w0.heap.size w0 w1) → f (.returned (.agg (wvs initL).toArray)) w1) → Calls Try.prog 164 #[] ((w.alloc (.cells (wvs (List.replicate 16 0)).toArray 213)).alloc (.cells (wvs (List.replicate 16 0)).toArray 213)) f) := hidp (fun hf => HW0.out ▸ (HI.out w0).mono (by rintro e w1 ⟨rfl, hB⟩; exact hf w1 (hidp hB)))
  refine hcall.out ?_
  intro w1 hB1
  clear hcall HI HW0
  have hz := Blk.new w1 (wvs (List.replicate 8 0)) 136
  have hz := hidp hz
  go_wp2_with (refine wpList_store_blk rfl 136 _ _ rfl w1.heap.size (wvs initL) (wvs (List.replicate 8 0)) 136 rfl rfl hz.out (by kernel_rfl) rfl (wvs_one _) ?_; intro w2 hw2)
  have H2 : Hid (BegS w w2 g sf n h bl w1.heap.size (wvs (List.replicate 16 0))) := by
    have hsz := H0.out.2.2.2.2.1
    have hle := hB1.out.size
    have hg := H0.out.2.2.2.2.2
    have hbt : But w1.heap.size (w1.alloc (.cells (wvs (List.replicate 8 0)).toArray 136)) w2 := hw2.out ▸ (But.refl _ _).setRow _
    refine hidp ⟨⟨hbt.blk (((H0.out.1.below hB1.out).alloc _).blk) (by omega), HS.out.words, HS.out.bytes⟩, hbt.blk ((H0.out.2.1.below hB1.out (by omega)).alloc _) (by omega), hbt.blk ((H0.out.2.2.1.below hB1.out (by omega)).alloc _) (by omega), hw2.out ▸ hz.out.row, ?_, by omega, hg⟩
    exact ((H0.out.2.2.2.1.trans (hB1.out.mono (by omega))).alloc (by omega) _).trans (hbt.below (by omega))
  clear hz hw2 hB1 H0 HS
  refine region_tail 5 (by kernel_rfl) (by kernel_rfl) ?_
  intro wd hwd
  have H3 := hidp (hwd.out.symm ▸ H2.out.drew)
  clear H2 hwd
  simp only [List.take_succ_cons, List.take_zero, List.drop_succ_cons, List.drop_zero]
  repeat still_step
  try refine wpStill_nil ?_
  have h8 := hidp H3.out.st.words.1
  refine (wpList_copy_blk rfl (.tmp 10) (.tmp 14) 236 236 rfl 135 Try.underlying236 (by kernel_rfl) (w.heap.size + 1) 0 8 16 ⟨g, 2, none⟩ 8 8 rfl rfl _ 213 H3.out.row (wvs h) ?ha ?hb ?hc (wvs_oneL _) ?hd)
  case ha => rw [wvs_len, h8.out]; rfl
  case hb =>
    intro j v hj
    have hj8 : j < 8 := by have := (List.getElem?_eq_some_iff.1 hj).1; rwa [wvs_len, h8.out] at this
    rw [Addr.add_mid, H3.out.st.ch hj8, ← hj, wvs_get (by rw [h8.out]; exact hj8)]
  case hc => rw [wvs_len, wvs_len, h8.out]; decide
  intro w3 hw3
  have H4 := hidp (H3.out.but hw3.out.2 hw3.out.1)
  clear H3 hw3
  go_wp2_with fail
  refine region_tail 2 (by kernel_rfl) (by kernel_rfl) ?_
  intro wd4 hwd4
  have H5 := hidp (hwd4.out.symm ▸ H4.out.drew)
  clear H4 hwd4
  simp only [List.take_succ_cons, List.take_zero, List.drop_succ_cons, List.drop_zero]
  repeat still_step
  try refine wpStill_nil ?_
  refine (wpList_copy_blk rfl (.tmp 16) (.tmp 17) 236 236 rfl 135 Try.underlying236 (by kernel_rfl) (w.heap.size + 1) 8 8 8 ⟨w1.heap.size, 0, none⟩ 8 8 rfl rfl _ 213 H5.out.row (wvs initL) ?ka ?kb ?kc (wvs_oneL _) ?kd)
  case ka => rfl
  case kb =>
    intro j v hj
    rw [Addr.add_mid, Nat.zero_add, H5.out.ini.cell j, hj]
  case kc => rw [length_splice _ _ _ (by rw [wvs_len, wvs_len, h8.out]; decide), wvs_len]; decide
  intro w5 hw5
  have H6 := hidp (H5.out.but hw5.out.2 (splice_begin h8.out ▸ hw5.out.1))
  clear H5 hw5
  have hc1 := hidp H6.out.st.c1
  have r12 : w5.cell? ⟨w.heap.size + 1, 12, none⟩ = some (.int .u32 1359893119) := (H6.out.row.cell 12).trans ((wvs_get (by rw [List.length_append, h8.out]; decide)).trans (by rw [app_get h8.out 4]; rfl))
  have r13 : w5.cell? ⟨w.heap.size + 1, 13, none⟩ = some (.int .u32 2600822924) := (H6.out.row.cell 13).trans ((wvs_get (by rw [List.length_append, h8.out]; decide)).trans (by rw [app_get h8.out 5]; rfl))
  have r14 : w5.cell? ⟨w.heap.size + 1, 14, none⟩ = some (.int .u32 528734635) := (H6.out.row.cell 14).trans ((wvs_get (by rw [List.length_append, h8.out]; decide)).trans (by rw [app_get h8.out 6]; rfl))
  have f12 := H6.out.row.free 12
  have f13 := H6.out.row.free 13
  have f14 := H6.out.row.free 14
  have H7 := hidp (((H6.out.set 12 (xorW 0x510e527f lo)).set 13 (xorW 0x9b05688c hi)).set 14 (xorW 0x1f83d9ab mark))
  rw [HL.out, HU.out, begin_sets h8.out, ← HL.out, ← HU.out] at H7
  have l16 : Hid ((beginL h n mark).length = 16) := hidp (by unfold beginL; rw [List.length_append, h8.out]; rfl)
  simp only [Int.cast_ofNat_Int] at e12 e13 e14
  have e12 : bits .xor .u32 1359893119 (lo : Int) = _ := e12
  have e13 : bits .xor .u32 2600822924 (hi : Int) = _ := e13
  have e14 : bits .xor .u32 528734635 (mark : Int) = _ := e14
  go_wp2_with (first | (go_at_call 205; refine (HH.out w5 hc1.out).mono ?_; rintro e wx ⟨rfl, rfl⟩) | refine wpList_load_blk rfl 213 _ rfl (w.heap.size + 1) (wvs (beginL h n mark)) 213 rfl H7.out.row _ Try.underlying213 rfl (by rw [wvs_len, l16.out]; kernel_rfl) ?_ | (refine wpList_store_blk rfl 213 _ _ rfl w.heap.size (wvs (beginL h n mark)) _ 213 rfl rfl H7.out.res (by rw [wvs_len, l16.out]; kernel_rfl) (by rw [wvs_len, wvs_len, l16.out]; rfl) (wvs_one _) ?_; intro w6 hw6))
  have b2 : Blk w6 w.heap.size (wvs (beginL h n mark)) 213 := by rw [hw6.out]; exact H7.out.res.row
  refine bodyPost_ret (v := .agg (wvs (beginL h n mark)).toArray) ?_ rfl ⟨rfl, ?_⟩
  · exact results_cell_row Try.results193 _ _ w.heap.size 213 _ (0, 0) _ rfl b2 Try.underlying213 rfl (by rw [List.size_toArray, wvs_len, l16.out]; kernel_rfl)
  · rw [hw6.out]; exact below_setRow H7.out.bel (Nat.le_refl _) _
end Go.Proofs.Ytdiklimikkplcaa
