/-
  Texts Hf, Hg, Hh, one behind the other.
-/
import Derived.Test.YtcmkmnidnapabaaGreatH1
import Derived.Laws.RangeAny
import Derived.Lib.OthersKept

/-! Hf: Contract: what the rounds of a block begin with. -/
namespace Go.Proofs.YtcmkmnidnapabaaGreat
open Go.RowKit

theorem wpList_copy_blk {P : Program} {w : World} {ops : Array Oper} {rest : List Oper} {o : Oper} {a : Act} {Q : Exit → Act → World → Prop} (hgd : o.guard = none) (d s : Operand) (dT sT : TypeId)
    (ho : o.op = .call { callee := .builtin .copy, args := #[d, s], argTypes := #[dT, sT] }) (elem : TypeId) (hu : P.underlying dT = some (.slice elem)) (hsz : (P.info? elem).map (·.size) = some 1)
    (g off dLen dCap : Nat) (ad : Addr) (sLen sCap : Nat) (hd : a.eval d = .slice (some ⟨g, off, none⟩) dLen dCap) (hs : a.eval s = .slice (some ad) sLen sCap)
    (cur : List Value) (t : TypeId) (hg : Blk w g cur t) (cs : List Value) (hn : cs.length = Nat.min sLen dLen)
    (hsrc : ∀ j v, cs[j]? = some v → w.cell? (ad.add j) = some v) (hfit : off + cs.length ≤ cur.length) (h1 : ∀ v ∈ cs, v.oneCell' = true)
    (h : ∀ w', Hid (Blk w' g (splice cur off cs) t ∧ But g w w') → wpList P ops Q rest (a.put o.dst (goInt cs.length)) w') : wpList P ops Q (o :: rest) a w := by
  refine wpList_copy_own hgd d s dT sT ho elem hu hsz g off dLen dCap ad sLen sCap hd hs cur.toArray t hg cs hn hsrc (by simpa using hfit) h1 ?_
  refine h _ (hidp ⟨?_, (But.refl g w).setRow _⟩)
  exact Blk.row hg
theorem wvs_oneL (v : List Nat) : ∀ x ∈ wvs v, x.oneCell' = true := by
  intro x hx
  simp only [wvs, List.mem_map] at hx
  obtain ⟨n, _, rfl⟩ := hx; rfl
/-- Eight words laid at the head, eight behind them. -/
theorem splice_begin {h : List Nat} (h8 : h.length = 8) : splice (splice (wvs (List.replicate 16 0)) 0 (wvs h)) 8 (wvs initL) = wvs (h ++ initL) := by
  have e1 : splice (wvs (List.replicate 16 0)) 0 (wvs h) = wvs (h ++ List.replicate 8 0) := by
    unfold splice; rw [wvs_len, h8]
    unfold wvs
    simp
  rw [e1]
  unfold splice
  have e2 : (wvs (h ++ List.replicate 8 0)).take 8 = wvs h := by unfold wvs; rw [List.map_append, List.take_append_of_le_length (by simp [h8])]; exact List.take_of_length_le (by simp [h8])
  have e3 : (wvs (h ++ List.replicate 8 0)).drop (8 + (wvs initL).length) = [] := by
    apply List.drop_eq_nil_of_le; unfold wvs; simp [h8, initL]
  rw [e2, e3]
  unfold wvs
  simp
theorem begin_sets {h : List Nat} (h8 : h.length = 8) (t mark : Nat) : (((h ++ initL).set 12 (xorW 0x510e527f (t % 4294967296))).set 13 (xorW 0x9b05688c (t / 4294967296 % 4294967296))).set 14 (xorW 0x1f83d9ab mark) = beginL h t mark := by
  rw [List.set_append_right _ _ (by omega), List.set_append_right _ _ (by omega), List.set_append_right _ _ (by omega), h8]
  rfl
theorem app_get {h : List Nat} (h8 : h.length = 8) (i : Nat) : (h ++ initL).getD (8 + i) 0 = initL.getD i 0 := by
  rw [List.getD_eq_getElem?_getD, List.getD_eq_getElem?_getD, List.getElem?_append_right (by omega), h8, show 8 + i - 8 = i by omega]

/-- What 'begin' knows between its statements. -/
structure BegS (w wd : World) (g : Nat) (sf : Value) (n : Nat) (h bl : List Nat) (c : Nat) (cur : List Value) : Prop where
  st : St wd g sf n h bl
  res : Blk wd w.heap.size (wvs (List.replicate 16 0)) 261
  row : Blk wd (w.heap.size + 1) cur 261
  ini : Blk wd c (wvs initL) 203
  bel : Below w.heap.size w wd
  hc : w.heap.size + 2 ≤ c
  hg : g < w.heap.size
theorem BegS.drew {w wd : World} {g : Nat} {sf : Value} {n : Nat} {h bl : List Nat} {c : Nat} {cur : List Value} (H : BegS w wd g sf n h bl c cur) : BegS w wd.drew g sf n h bl c cur :=
  ⟨H.st.drew, H.res.drew, H.row.drew, H.ini.drew, H.bel.drew, H.hc, H.hg⟩
theorem BegS.but {w wd w' : World} {g : Nat} {sf : Value} {n : Nat} {h bl : List Nat} {c : Nat} {cur cur' : List Value} (H : BegS w wd g sf n h bl c cur) (hb : But (w.heap.size + 1) wd w') (hr : Blk w' (w.heap.size + 1) cur' 261) : BegS w w' g sf n h bl c cur' :=
  ⟨⟨hb.blk H.st.blk (by have := H.hg; omega), H.st.words, H.st.bytes⟩, hb.blk H.res (by omega), hr, hb.blk H.ini (by have := H.hc; omega), H.bel.trans (hb.below (by omega)), H.hc, H.hg⟩
theorem BegS.set {w wd : World} {g : Nat} {sf : Value} {n : Nat} {h bl : List Nat} {c : Nat} {v : List Nat} (H : BegS w wd g sf n h bl c (wvs v)) (i x : Nat) : BegS w (wd.setCell ⟨w.heap.size + 1, i, none⟩ (.int .u32 (x : Nat))) g sf n h bl c (wvs (v.set i x)) :=
  H.but ((But.refl _ wd).setCell _ _) (wvs_set v i x ▸ H.row.set i _)

set_option maxRecDepth 20000 in
set_option maxHeartbeats 4000000 in
theorem begin_any (g : Nat) (sf : Value) (n : Nat) (h bl : List Nat) (mark : Nat) (w : World) (hs : St w g sf n h bl) (hn : n ≤ 9223372036854775807) (hm : mark < W32) :
    Calls Tryz.prog 259 #[.pointer (some ⟨g, 0, none⟩), .int .u32 (mark : Nat)] w fun e w' => e = .returned (.agg (wvs (beginL h n mark)).toArray) ∧ Below w.heap.size w w' := by
  have HS := hidp hs
  have HN := hidp hn
  have HI := hidp (fun w => initial_any w)
  obtain ⟨lo, hlo⟩ : ∃ r, r = n % 4294967296 := ⟨_, rfl⟩
  obtain ⟨hi, hhi⟩ : ∃ r, r = n / 4294967296 % 4294967296 := ⟨_, rfl⟩
  have HH := hidp (fun w hc => halves_any g n w hn hc)
  rw [← hlo, ← hhi] at HH
  have e12 := xor_word (a := 0x510e527f) (b := lo) (by decide) (by rw [hlo]; exact Nat.mod_lt _ (by decide))
  have e13 := xor_word (a := 0x9b05688c) (b := hi) (by decide) (by rw [hhi]; exact Nat.mod_lt _ (by decide))
  have e14 := xor_word (a := 0x1f83d9ab) (b := mark) (by decide) hm
  have HL := hidp hlo
  have HU := hidp hhi
  clear hs hn hm hlo hhi
  go_enter Tryz.func259, Tryz.ntmps259
  obtain ⟨w0, hw0⟩ : ∃ r, r = (w.alloc (.cells (wvs (List.replicate 16 0)).toArray 261)).alloc (.cells (wvs (List.replicate 16 0)).toArray 261) := ⟨_, rfl⟩
  have H0 : Hid (St w0 g sf n h bl ∧ Blk w0 w.heap.size (wvs (List.replicate 16 0)) 261 ∧ Blk w0 (w.heap.size + 1) (wvs (List.replicate 16 0)) 261 ∧ Below w.heap.size w w0 ∧ w0.heap.size = w.heap.size + 2 ∧ g < w.heap.size) :=
    hidp (hw0 ▸ ⟨(HS.out.alloc _).alloc _, (Blk.new w _ _).alloc _, Blk.new' _ _ _ _ (by simp), ((Below.refl _ _).alloc (Nat.le_refl _) _).alloc (by simp) _, by simp, HS.out.lt⟩)
  have HW0 := hidp hw0
  clear hw0
  go_wp2_with fail
  have hcall : Hid (∀ {f : Ending → World → Prop}, (∀ w1, Hid (Below w0.heap.size w0 w1) → f (.returned (.agg (wvs initL).toArray)) w1) → Calls Tryz.prog 209 #[] ((w.alloc (.cells (wvs (List.replicate 16 0)).toArray 261)).alloc (.cells (wvs (List.replicate 16 0)).toArray 261)) f) := hidp (fun hf => HW0.out ▸ (HI.out w0).mono (by rintro e w1 ⟨rfl, hB⟩; exact hf w1 (hidp hB)))
  refine hcall.out ?_
  intro w1 hB1
  clear hcall HI HW0
  have hz := Blk.new w1 (wvs (List.replicate 8 0)) 203
  have hz := hidp hz
  go_wp2_with (refine wpList_store_blk rfl 203 _ _ rfl w1.heap.size (wvs initL) (wvs (List.replicate 8 0)) 203 rfl rfl hz.out (by kernel_rfl) rfl (wvs_one _) ?_; intro w2 hw2)
  have H2 : Hid (BegS w w2 g sf n h bl w1.heap.size (wvs (List.replicate 16 0))) := by
    have hsz := H0.out.2.2.2.2.1
    have hle := hB1.out.size
    have hg := H0.out.2.2.2.2.2
    have hbt : But w1.heap.size (w1.alloc (.cells (wvs (List.replicate 8 0)).toArray 203)) w2 := hw2.out ▸ (But.refl _ _).setRow _
    refine hidp ⟨⟨hbt.blk (((H0.out.1.below hB1.out).alloc _).blk) (by omega), HS.out.words, HS.out.bytes⟩, hbt.blk ((H0.out.2.1.below hB1.out (by omega)).alloc _) (by omega), hbt.blk ((H0.out.2.2.1.below hB1.out (by omega)).alloc _) (by omega), hw2.out ▸ hz.out.row, ?_, by omega, hg⟩
    exact ((H0.out.2.2.2.1.trans (hB1.out.mono (by omega))).alloc (by omega) _).trans (hbt.below (by omega))
  clear hz hw2 hB1 H0 HS
  refine region_tail 5 (by kernel_rfl) (by kernel_rfl) ?_
  intro wd hwd
  have H3 := hidp (hwd.out.symm ▸ H2.out.drew)
  clear H2 hwd
  simp only [List.take_succ_cons, List.take_zero, List.drop_succ_cons, List.drop_zero]
  repeat still_step
  try refine wpStill_nil ?_
  have h8 := hidp H3.out.st.words.1
  refine (wpList_copy_blk rfl (.tmp 10) (.tmp 14) 324 324 rfl 202 Tryz.underlying324 (by kernel_rfl) (w.heap.size + 1) 0 8 16 ⟨g, 2, none⟩ 8 8 rfl rfl _ 261 H3.out.row (wvs h) ?ha ?hb ?hc (wvs_oneL _) ?hd)
  case ha => rw [wvs_len, h8.out]; rfl
  case hb =>
    intro j v hj
    have hj8 : j < 8 := by have := (List.getElem?_eq_some_iff.1 hj).1; rwa [wvs_len, h8.out] at this
    rw [Addr.add_mid, H3.out.st.ch hj8, ← hj, wvs_get (by rw [h8.out]; exact hj8)]
  case hc => rw [wvs_len, wvs_len, h8.out]; decide
  intro w3 hw3
  have H4 := hidp (H3.out.but hw3.out.2 hw3.out.1)
  clear H3 hw3
  go_wp2_with fail
  refine region_tail 2 (by kernel_rfl) (by kernel_rfl) ?_
  intro wd4 hwd4
  have H5 := hidp (hwd4.out.symm ▸ H4.out.drew)
  clear H4 hwd4
  simp only [List.take_succ_cons, List.take_zero, List.drop_succ_cons, List.drop_zero]
  repeat still_step
  try refine wpStill_nil ?_
  refine (wpList_copy_blk rfl (.tmp 16) (.tmp 17) 324 324 rfl 202 Tryz.underlying324 (by kernel_rfl) (w.heap.size + 1) 8 8 8 ⟨w1.heap.size, 0, none⟩ 8 8 rfl rfl _ 261 H5.out.row (wvs initL) ?ka ?kb ?kc (wvs_oneL _) ?kd)
  case ka => rfl
  case kb =>
    intro j v hj
    rw [Addr.add_mid, Nat.zero_add, H5.out.ini.cell j, hj]
  case kc => rw [length_splice _ _ _ (by rw [wvs_len, wvs_len, h8.out]; decide), wvs_len]; decide
  intro w5 hw5
  have H6 := hidp (H5.out.but hw5.out.2 (splice_begin h8.out ▸ hw5.out.1))
  clear H5 hw5
  have hc1 := hidp H6.out.st.c1
  have r12 : w5.cell? ⟨w.heap.size + 1, 12, none⟩ = some (.int .u32 1359893119) := (H6.out.row.cell 12).trans ((wvs_get (by rw [List.length_append, h8.out]; decide)).trans (by rw [app_get h8.out 4]; rfl))
  have r13 : w5.cell? ⟨w.heap.size + 1, 13, none⟩ = some (.int .u32 2600822924) := (H6.out.row.cell 13).trans ((wvs_get (by rw [List.length_append, h8.out]; decide)).trans (by rw [app_get h8.out 5]; rfl))
  have r14 : w5.cell? ⟨w.heap.size + 1, 14, none⟩ = some (.int .u32 528734635) := (H6.out.row.cell 14).trans ((wvs_get (by rw [List.length_append, h8.out]; decide)).trans (by rw [app_get h8.out 6]; rfl))
  have f12 := H6.out.row.free 12
  have f13 := H6.out.row.free 13
  have f14 := H6.out.row.free 14
  have H7 := hidp (((H6.out.set 12 (xorW 0x510e527f lo)).set 13 (xorW 0x9b05688c hi)).set 14 (xorW 0x1f83d9ab mark))
  rw [HL.out, HU.out, begin_sets h8.out, ← HL.out, ← HU.out] at H7
  have l16 : Hid ((beginL h n mark).length = 16) := hidp (by unfold beginL; rw [List.length_append, h8.out]; rfl)
  simp only [Int.cast_ofNat_Int] at e12 e13 e14
  have e12 : bits .xor .u32 1359893119 (lo : Int) = _ := e12
  have e13 : bits .xor .u32 2600822924 (hi : Int) = _ := e13
  have e14 : bits .xor .u32 528734635 (mark : Int) = _ := e14
  go_wp2_with (first | (go_at_call 284; refine (HH.out w5 hc1.out).mono ?_; rintro e wx ⟨rfl, rfl⟩) | refine wpList_load_blk rfl 261 _ rfl (w.heap.size + 1) (wvs (beginL h n mark)) 261 rfl H7.out.row _ Tryz.underlying261 rfl (by rw [wvs_len, l16.out]; kernel_rfl) ?_ | (refine wpList_store_blk rfl 261 _ _ rfl w.heap.size (wvs (beginL h n mark)) _ 261 rfl rfl H7.out.res (by rw [wvs_len, l16.out]; kernel_rfl) (by rw [wvs_len, wvs_len, l16.out]; rfl) (wvs_one _) ?_; intro w6 hw6))
  have b2 : Blk w6 w.heap.size (wvs (beginL h n mark)) 261 := by rw [hw6.out]; exact H7.out.res.row
  refine bodyPost_ret (v := .agg (wvs (beginL h n mark)).toArray) ?_ rfl ⟨rfl, ?_⟩
  · exact results_cell_row Tryz.results259 _ _ w.heap.size 261 _ (0, 0) _ rfl b2 Tryz.underlying261 rfl (by rw [List.size_toArray, wvs_len, l16.out]; kernel_rfl)
  · rw [hw6.out]; exact below_setRow H7.out.bel (Nat.le_refl _) _
end Go.Proofs.YtcmkmnidnapabaaGreat

/-! Hg: Plain: the rows as a text; rounds, digit by digit. -/
namespace Go.Proofs.YtcmkmnidnapabaaGreat
open Go.RowKit Go.Lib

def hexC (d : Nat) : Nat := if d < 10 then 48 + d else 87 + d
theorem hexC_lt {d : Nat} (h : d < 16) : hexC d < 128 := by unfold hexC; split <;> omega
theorem hexV_hexC {d : Nat} (h : d < 16) : hexV (hexC d) = d := by
  unfold hexV hexC
  by_cases h1 : d < 10
  · rw [if_pos h1, if_pos (by omega)]; omega
  · rw [if_neg h1, if_neg (by omega), if_pos (by omega)]; omega
set_option maxRecDepth 20000 in
/-- The constant text of the rows. -/
def rowsS : ByteArray := ⟨#[48, 49, 50, 51, 52, 53, 54, 55, 56, 57, 97, 98, 99, 100, 101, 102, 101, 97, 52, 56, 57, 102, 100, 54, 49, 99, 48, 50, 98, 55, 53, 51, 98, 56, 99, 48, 53, 50, 102, 100, 97, 101, 51, 54, 55, 49, 57, 52, 55, 57, 51, 49, 100, 99, 98, 101, 50, 54, 53, 97, 52, 48, 102, 56, 57, 48, 53, 55, 50, 52, 97, 102, 101, 49, 98, 99, 54, 56, 51, 100, 50, 99, 54, 97, 48, 98, 56, 51, 52, 100, 55, 53, 102, 101, 49, 57, 99, 53, 49, 102, 101, 100, 52, 97, 48, 55, 54, 51, 57, 50, 56, 98, 100, 98, 55, 101, 99, 49, 51, 57, 53, 48, 102, 52, 56, 54, 50, 97, 54, 102, 101, 57, 98, 51, 48, 56, 99, 50, 100, 55, 49, 52, 97, 53, 97, 50, 56, 52, 55, 54, 49, 53, 102, 98, 57, 101, 51, 99, 100, 48]⟩
def digN (n : Nat) : Nat := tabL.getD n 0
theorem tab_lt : ∀ d ∈ tabL, d < 16 := by decide +kernel
theorem digN_lt (n : Nat) : digN n < 16 := by
  unfold digN
  rw [List.getD_eq_getElem?_getD]
  cases hi : tabL[n]? with
  | none => show 0 < 16; decide
  | some x => exact tab_lt x (List.mem_of_getElem? hi)
theorem rowsS_size : rowsS.size = 160 := by decide +kernel
theorem rowsS_all : ∀ n < 160, (rowsS.data.toList.getD n 0).toNat = hexC (digN n) := by decide +kernel
theorem rowsS_get {n : Nat} (h : n < rowsS.size) : (rowsS[n]'h).toNat = hexC (digN n) := by
  have h1 : n < 160 := by rw [← rowsS_size]; exact h
  have h2 : n < rowsS.data.toList.length := by simpa using h
  have e : rowsS[n]'h = rowsS.data.toList.getD n 0 := by
    rw [List.getD_eq_getElem?_getD, List.getElem?_eq_getElem h2]; rfl
  rw [e]; exact rowsS_all n h1

/-- The words and what was picked behind n digits. -/
def pickSt (v m : List Nat) : Nat → List Nat × List Nat
  | 0 => (v, List.replicate 16 0)
  | n + 1 =>
    let q := (pickSt v m n).2.set (n % 16) (m.getD (digN n) 0)
    if n % 16 = 15 then (roundL (pickSt v m n).1 q, q) else ((pickSt v m n).1, q)
theorem pickSt_end (v m : List Nat) {n : Nat} (h : n % 16 = 15) : pickSt v m (n + 1) = (roundL (pickSt v m n).1 ((pickSt v m n).2.set (n % 16) (m.getD (digN n) 0)), (pickSt v m n).2.set (n % 16) (m.getD (digN n) 0)) := by
  rw [pickSt]; simp only [h, if_true]
theorem pickSt_go (v m : List Nat) {n : Nat} (h : ¬ n % 16 = 15) : pickSt v m (n + 1) = ((pickSt v m n).1, (pickSt v m n).2.set (n % 16) (m.getD (digN n) 0)) := by
  rw [pickSt]; simp only [h, if_false]
theorem pickSt_len (v m : List Nat) : ∀ n, (pickSt v m n).2.length = 16
  | 0 => rfl
  | n + 1 => by
    by_cases h : n % 16 = 15
    · rw [pickSt_end v m h]; simp [pickSt_len v m n]
    · rw [pickSt_go v m h]; simp [pickSt_len v m n]
theorem pickSt_words {v : List Nat} (hv : Words 16 v) (m : List Nat) : ∀ n, Words 16 (pickSt v m n).1
  | 0 => hv
  | n + 1 => by
    by_cases h : n % 16 = 15
    · have e := congrArg Prod.fst (pickSt_end v m h)
      simp only at e
      rw [e]; exact roundL_words (pickSt_words hv m n) _
    · have e := congrArg Prod.fst (pickSt_go v m h)
      simp only at e
      rw [e]; exact pickSt_words hv m n
/-- k digits of a row, k < 16: the words stay, the first k are picked. -/
theorem pickSt_row (v m : List Nat) (r k : Nat) (hk : k ≤ 15) : (pickSt v m (16 * r + k)).1 = (pickSt v m (16 * r)).1 ∧ ∀ j, j < k → (pickSt v m (16 * r + k)).2[j]? = some (m.getD (digN (16 * r + j)) 0) := by
  induction k with
  | zero => rw [Nat.add_zero]; exact ⟨rfl, fun j hj => absurd hj (by omega)⟩
  | succ k ih =>
    have ih := ih (by omega)
    have hm : (16 * r + k) % 16 = k := by omega
    have e := pickSt_go v m (n := 16 * r + k) (by omega)
    rw [hm] at e
    rw [show 16 * r + (k + 1) = 16 * r + k + 1 by omega, e]
    refine ⟨ih.1, fun j hj => ?_⟩
    show ((pickSt v m (16 * r + k)).2.set k _)[j]? = _
    rw [List.getElem?_set]
    by_cases h : k = j
    · subst h; rw [if_pos rfl, if_pos (by rw [pickSt_len]; omega)]
    · rw [if_neg h]; exact ih.2 j (by omega)
theorem row_get : ∀ r < 10, (List.range 16).map (fun j => digN (16 * r + j)) = rowL r := by decide +kernel
theorem pickSt_rounds (v m : List Nat) (r : Nat) (hr : r ≤ 10) : (pickSt v m (16 * r)).1 = roundsL v m r := by
  induction r with
  | zero => rfl
  | succ r ih =>
    have hk := pickSt_row v m r 15 (by omega)
    have hm : (16 * r + 15) % 16 = 15 := by omega
    have e := pickSt_end v m (n := 16 * r + 15) hm
    rw [show 16 * (r + 1) = 16 * r + 15 + 1 by omega, e, hm, hk.1, ih (by omega)]
    have hp := pickSt_len v m (16 * r + 15)
    have h2 := hk.2
    generalize (pickSt v m (16 * r + 15)).2 = p at hp h2
    have eq : p.set 15 (m.getD (digN (16 * r + 15)) 0) = pickL m r := by
      unfold pickL
      rw [← row_get r (by omega), List.map_map]
      apply List.ext_getElem?
      intro j
      rw [List.getElem?_set, hp, List.getElem?_map]
      by_cases h : 15 = j
      · subst h; simp
      · rw [if_neg h]
        by_cases h3 : j < 15
        · rw [h2 j h3, List.getElem?_range (by omega)]; rfl
        · rw [List.getElem?_eq_none (by rw [hp]; omega), List.getElem?_eq_none (by simp; omega)]; rfl
    simp only [eq, roundsL]

/-- The eight words, the first i of them put together already. -/
def partH (h v : List Nat) (i : Nat) : List Nat := (List.range 8).map fun j => if j < i then xorW (xorW (h.getD j 0) (v.getD j 0)) (v.getD (j + 8) 0) else h.getD j 0
theorem partH_len (h v : List Nat) (i : Nat) : (partH h v i).length = 8 := by unfold partH; simp
theorem partH_get (h v : List Nat) {i : Nat} (hi : i < 8) : (partH h v i).getD i 0 = h.getD i 0 := by
  unfold partH
  rw [List.getD_eq_getElem?_getD, List.getElem?_map, List.getElem?_range hi]; simp
theorem partH_zero {h : List Nat} (h8 : h.length = 8) (v : List Nat) : partH h v 0 = h := by
  apply List.ext_getElem?
  intro j
  unfold partH
  rw [List.getElem?_map]
  by_cases hj : j < 8
  · rw [List.getElem?_range hj, List.getElem?_eq_getElem (by omega)]
    simp only [Option.map_some, Nat.not_lt_zero, if_false]
    rw [List.getD_eq_getElem?_getD, List.getElem?_eq_getElem (by omega)]; rfl
  · rw [List.getElem?_eq_none (by simp; omega), List.getElem?_eq_none (by omega)]; rfl
theorem partH_all (h v : List Nat) : partH h v 8 = (List.range 8).map fun i => xorW (xorW (h.getD i 0) (v.getD i 0)) (v.getD (i + 8) 0) := by
  unfold partH
  apply List.map_congr_left
  intro j hj
  rw [if_pos (by simpa using hj)]
theorem partH_set (h v : List Nat) {i : Nat} (hi : i < 8) : (partH h v i).set i (xorW (h.getD i 0) (xorW (v.getD i 0) (v.getD (i + 8) 0))) = partH h v (i + 1) := by
  have ha : xorW (h.getD i 0) (xorW (v.getD i 0) (v.getD (i + 8) 0)) = xorW (xorW (h.getD i 0) (v.getD i 0)) (v.getD (i + 8) 0) := by unfold xorW; rw [Nat.xor_assoc]
  rw [ha]
  apply List.ext_getElem?
  intro n
  unfold partH
  rw [List.getElem?_set]
  by_cases h' : i = n
  · subst h'; simp [hi]
  · simp only [h', if_false, List.getElem?_map]
    by_cases hn : n < 8
    · simp only [List.getElem?_range, hn, Option.map_some]
      by_cases h2 : n < i
      · rw [if_pos h2, if_pos (by omega)]
      · rw [if_neg h2, if_neg (by omega)]
    · rw [List.getElem?_eq_none (by simp; omega)]; rfl
theorem blockL_eq (h m : List Nat) (t mark : Nat) : partH h (pickSt (beginL h t mark) m 160).1 8 = blockL h m t mark := by
  rw [partH_all, show 160 = 16 * 10 from rfl, pickSt_rounds _ _ 10 (by omega)]
  rfl
theorem beginL_words {h : List Nat} (hh : Words 8 h) {t mark : Nat} (hm : mark < W32) : Words 16 (beginL h t mark) := by
  have hw : ∀ x ∈ [0x6a09e667, 0xbb67ae85, 0x3c6ef372, 0xa54ff53a, xorW 0x510e527f (t % 4294967296), xorW 0x9b05688c (t / 4294967296 % 4294967296), xorW 0x1f83d9ab mark, 0x5be0cd19], x < W32 := by
    intro x hx
    simp only [List.mem_cons, List.not_mem_nil, or_false] at hx
    rcases hx with rfl | rfl | rfl | rfl | rfl | rfl | rfl | rfl
    · decide
    · decide
    · decide
    · decide
    · exact xorW_lt (by decide) (Nat.mod_lt _ (by decide))
    · exact xorW_lt (by decide) (Nat.mod_lt _ (by decide))
    · exact xorW_lt (by decide) hm
    · decide
  unfold beginL
  refine ⟨by rw [List.length_append, hh.1]; rfl, fun x hx => ?_⟩
  rcases List.mem_append.1 hx with hx | hx
  · exact hh.2 x hx
  · exact hw x hx
theorem blockL_words {h m : List Nat} (hh : Words 8 h) {t mark : Nat} (hm : mark < W32) : Words 8 (blockL h m t mark) := by
  have hv := roundsL_words (beginL_words (t := t) hh hm) m 10
  unfold blockL
  refine ⟨by simp, fun x hx => ?_⟩
  simp only [List.mem_map] at hx
  obtain ⟨i, _, rfl⟩ := hx
  exact xorW_lt (xorW_lt (hh.get i) (hv.get i)) (hv.get (i + 8))
end Go.Proofs.YtcmkmnidnapabaaGreat

/-! Hh: Contract: a block put into the words. -/
namespace Go.Proofs.YtcmkmnidnapabaaGreat
open Go.RowKit Go.Lib

theorem But.iterAt {w w' : World} {k : Nat} (h : But k w w') (s : ByteArray) (pos : Nat) : But k w (w'.iterAt k s pos) :=
  h.trans ⟨rfl, rfl, rfl, iterAt_size _ _ _ _, fun _ hi => iterAt_other _ _ _ _ _ hi⟩

/-- What 'compress' knows between its statements: the state's block g; v, the block's words, what was picked, the text's iterator. -/
structure CmS (w wr : World) (g : Nat) (sf : Value) (n : Nat) (h bl : List Nat) (vb mb pb : Nat) (v p : List Nat) (pos : Nat) : Prop where
  st : St wr g sf n h bl
  rv : Blk wr vb (wvs v) 261
  rm : Blk wr mb (wvs (wordsL bl)) 261
  rp : Blk wr pb (wvs p) 261
  it : wr.heap[pb + 1]? = some (.stringIter rowsS pos)
  bex : Bex g w wr
  hv : w.heap.size ≤ vb
  hm : vb < mb
  hp : mb < pb
  hg : g < w.heap.size
theorem CmS.iter {w wr : World} {g : Nat} {sf : Value} {n : Nat} {h bl : List Nat} {vb mb pb : Nat} {v p : List Nat} {pos : Nat} (H : CmS w wr g sf n h bl vb mb pb v p pos) (pos' : Nat) : CmS w (wr.iterAt (pb + 1) rowsS pos') g sf n h bl vb mb pb v p pos' := by
  have hb := (But.refl (pb + 1) wr).iterAt rowsS pos'
  have h1 := H.hv; have h2 := H.hm; have h3 := H.hg; have h4 := H.hp
  exact ⟨⟨hb.blk H.st.blk (by omega), H.st.words, H.st.bytes⟩, hb.blk H.rv (by omega), hb.blk H.rm (by omega), hb.blk H.rp (by omega), iterAt_heap _ _ _ _ _ H.it, H.bex.butNew hb (by omega), h1, h2, h4, h3⟩
theorem CmS.pick {w wr : World} {g : Nat} {sf : Value} {n : Nat} {h bl : List Nat} {vb mb pb : Nat} {v p : List Nat} {pos : Nat} (H : CmS w wr g sf n h bl vb mb pb v p pos) (i x : Nat) : CmS w (wr.setCell ⟨pb, i, none⟩ (.int .u32 (x : Nat))) g sf n h bl vb mb pb v (p.set i x) pos := by
  have hb := (But.refl pb wr).setCell i (.int .u32 (x : Nat))
  have h1 := H.hv; have h2 := H.hm; have h3 := H.hg; have h4 := H.hp
  exact ⟨⟨hb.blk H.st.blk (by omega), H.st.words, H.st.bytes⟩, hb.blk H.rv (by omega), hb.blk H.rm (by omega), wvs_set p i x ▸ H.rp.set i _, (hb.block _ (by omega)).trans H.it, H.bex.butNew hb (by omega), h1, h2, h4, h3⟩
theorem CmS.row {w wr w' : World} {g : Nat} {sf : Value} {n : Nat} {h bl : List Nat} {vb mb pb : Nat} {v v' p : List Nat} {pos : Nat} (H : CmS w wr g sf n h bl vb mb pb v p pos) (hr : Row vb 261 wr w' v v') : CmS w w' g sf n h bl vb mb pb v' p pos := by
  have hb := hr.but
  have h1 := H.hv; have h2 := H.hm; have h3 := H.hg; have h4 := H.hp
  exact ⟨⟨hb.blk H.st.blk (by omega), H.st.words, H.st.bytes⟩, hr.new, hb.blk H.rm (by omega), hb.blk H.rp (by omega), (hb.block _ (by omega)).trans H.it, H.bex.butNew hb (by omega), h1, h2, h4, h3⟩
theorem CmS.drew {w wr : World} {g : Nat} {sf : Value} {n : Nat} {h bl : List Nat} {vb mb pb : Nat} {v p : List Nat} {pos : Nat} (H : CmS w wr g sf n h bl vb mb pb v p pos) : CmS w wr.drew g sf n h bl vb mb pb v p pos :=
  ⟨H.st.drew, H.rv.drew, H.rm.drew, H.rp.drew, H.it, H.bex.drew, H.hv, H.hm, H.hp, H.hg⟩
theorem CmS.seth {w wr : World} {g : Nat} {sf : Value} {n : Nat} {h bl : List Nat} {vb mb pb : Nat} {v p : List Nat} {pos : Nat} (H : CmS w wr g sf n h bl vb mb pb v p pos) {i x : Nat} (hi : i < 8) (hx : x < W32) : CmS w (wr.setCell ⟨g, 2 + i, none⟩ (.int .u32 (x : Nat))) g sf n (h.set i x) bl vb mb pb v p pos := by
  have hb := (But.refl g wr).setCell (2 + i) (.int .u32 (x : Nat))
  have h1 := H.hv; have h2 := H.hm; have h3 := H.hg; have h4 := H.hp
  exact ⟨H.st.seth hi hx, hb.blk H.rv (by omega), hb.blk H.rm (by omega), hb.blk H.rp (by omega), (hb.block _ (by omega)).trans H.it, H.bex.trans (Bex.of_but hb), h1, h2, h4, h3⟩

set_option maxRecDepth 20000 in
set_option maxHeartbeats 8000000 in
theorem compress_any (g : Nat) (sf : Value) (n : Nat) (h bl : List Nat) (mark : Nat) (w : World) (hs : St w g sf n h bl) (hn : n ≤ 9223372036854775807) (hm : mark < W32) :
    Calls Tryz.prog 211 #[.pointer (some ⟨g, 0, none⟩), .int .u32 (mark : Nat)] w fun e w' => e = .returned (.tuple #[]) ∧ St w' g sf n (blockL h (wordsL bl) n mark) bl ∧ Bex g w w' := by
  have HS := hidp hs
  have l16 : Hid ((beginL h n mark).length = 16) := hidp (by unfold beginL; rw [List.length_append, hs.words.1]; rfl)
  have HV := hidp (beginL_words (t := n) hs.words hm)
  have HBg := hidp (begin_any g sf n h bl mark w hs hn hm)
  have HM := hidp hm
  clear hs hn hm
  obtain ⟨v0, hv0⟩ : ∃ r, r = beginL h n mark := ⟨_, rfl⟩
  rw [← hv0] at l16 HV HBg
  have HV0 := hidp hv0
  clear hv0
  go_enter Tryz.func211, Tryz.ntmps211
  go_wp2_with fail
  refine HBg.out.mono ?_
  rintro e w1 ⟨rfl, hB1⟩
  have hz := hidp (Blk.new w1 (wvs (List.replicate 16 0)) 261)
  have hB1 := hidp hB1
  go_wp2_with (refine wpList_store_blk rfl 261 _ _ rfl w1.heap.size (wvs v0) (wvs (List.replicate 16 0)) 261 rfl rfl hz.out (by rw [wvs_len, l16.out]; kernel_rfl) (by rw [wvs_len, wvs_len, l16.out]; rfl) (wvs_one _) ?_; intro w2 hw2)
  have H2 : Hid (St w2 g sf n h bl ∧ Blk w2 w1.heap.size (wvs v0) 261 ∧ Below w.heap.size w w2 ∧ w.heap.size ≤ w1.heap.size ∧ g < w.heap.size) := by
    have hg := HS.out.lt
    have hle := hB1.out.size
    have hbt : But w1.heap.size (w1.alloc (.cells (wvs (List.replicate 16 0)).toArray 261)) w2 := hw2.out ▸ (But.refl _ _).setRow _
    exact hidp ⟨⟨hbt.blk ((HS.out.below hB1.out).alloc _).blk (by omega), HS.out.words, HS.out.bytes⟩, hw2.out ▸ hz.out.row, (hB1.out.alloc hle _).trans (hbt.below hle), hle, hg⟩
  clear hz hw2 hB1 HBg
  go_wp2_with fail
  refine (wordsOf_any g 10 bl w2 H2.out.1.lt HS.out.bytes H2.out.1.cb).mono ?_
  rintro e w3 ⟨rfl, hB3⟩
  have hz := hidp (Blk.new w3 (wvs (List.replicate 16 0)) 261)
  have hB3 := hidp hB3
  go_wp2_with (refine wpList_store_blk rfl 261 _ _ rfl w3.heap.size (wvs (wordsL bl)) (wvs (List.replicate 16 0)) 261 rfl rfl hz.out (by rw [wvs_len, wordsL_len]; kernel_rfl) (by rw [wvs_len, wvs_len, wordsL_len]; rfl) (wvs_one _) ?_; intro w4 hw4)
  have H4 : Hid (CmS w ((w4.alloc (.cells (wvs (List.replicate 16 0)).toArray 261)).iter rowsS 0) g sf n h bl w1.heap.size w3.heap.size w4.heap.size v0 (List.replicate 16 0) 0) := by
    have hle := H2.out.2.2.2.1
    have hg := H2.out.2.2.2.2
    have h23 := hB3.out.size
    have h12 := H2.out.2.1.lt
    have hbt : But w3.heap.size (w3.alloc (.cells (wvs (List.replicate 16 0)).toArray 261)) w4 := hw4.out ▸ (But.refl _ _).setRow _
    have hs4 : w4.heap.size = w3.heap.size + 1 := by rw [hbt.size]; simp
    have hbel : Below w.heap.size w w4 := ((H2.out.2.2.1.trans (hB3.out.mono (by omega))).alloc (by omega) _).trans (hbt.below (by omega))
    have hst : St w4 g sf n h bl := ⟨hbt.blk ((H2.out.1.below hB3.out).alloc _).blk (by omega), HS.out.words, HS.out.bytes⟩
    have hrv : Blk w4 w1.heap.size (wvs v0) 261 := hbt.blk ((H2.out.2.1.below hB3.out h12).alloc _) (by omega)
    have hrm : Blk w4 w3.heap.size (wvs (wordsL bl)) 261 := hw4.out ▸ hz.out.row
    refine hidp ⟨(hst.alloc _).alloc _, (hrv.alloc _).alloc _, (hrm.alloc _).alloc _, (Blk.new w4 _ _).alloc _, ?_, (Bex.of_below hbel).trans (((Bex.refl g w4).alloc _).alloc _), hle, by omega, by omega, hg⟩
    have e : (w4.alloc (.cells (wvs (List.replicate 16 0)).toArray 261)).heap.size = w4.heap.size + 1 := by simp
    rw [← e]
    exact World.iter_heap _ _ _
  clear hz hw4 hB3 H2
  go_loopw [20] (fun _ wr => ∃ k : Nat, k ≤ 160 ∧ Hid (CmS w wr g sf n h bl w1.heap.size w3.heap.size w4.heap.size (pickSt v0 (wordsL bl) k).1 (pickSt v0 (wordsL bl) k).2 k)) (fun _ wr => 160 - wr.iterPos (w4.heap.size + 1))
  case atStart => exact ⟨0, by omega, H4⟩
  case round =>
    obtain ⟨k, hk, hr⟩ := hrel
    clear H4
    by_cases h160 : k < 160
    · have hks : k < rowsS.size := by rw [rowsS_size]; exact h160
      have hasc : (rowsS[k]'hks).toNat < 128 := by rw [rowsS_get hks]; exact hexC_lt (digN_lt k)
      have hnx := fun ty => run_next_ascii_at (P := Tryz.prog) wr (w4.heap.size + 1) rowsS k ty hr.out.it hks hasc
      have Hn := hidp (hr.out.iter (k + 1))
      rw [rowsS_get hks] at hnx
      clear hks hasc
      generalize wr.iterAt (w4.heap.size + 1) rowsS (k + 1) = wn at hnx Hn
      have hvl := value_any (hexC (digN k)) wn (by have := hexC_lt (digN_lt k); omega)
      rw [hexV_hexC (digN_lt k), if_pos (digN_lt k), decide_eq_true (digN_lt k)] at hvl
      have hvl := hidp hvl
      have hd16 : ((digN k : Nat) : Int) < 16 := by have := digN_lt k; omega
      have hmc := (Hn.out.rm.cell (digN k)).trans (wvs_get (by rw [wordsL_len]; exact digN_lt k))
      have hpc := (Hn.out.rp.cell (k % 16)).trans (wvs_get (by rw [pickSt_len]; omega))
      have hpf := Hn.out.rp.free (k % 16)
      have hmod : ((k : Int)).tmod 16 = ((k % 16 : Nat) : Int) := by rw [Int.tmod_eq_emod_of_nonneg (by omega)]; omega
      have hk16 : ((k % 16 : Nat) : Int) < 16 := by omega
      generalize hq : k % 16 = q at hpc hpf hmod hk16
      generalize hdd : digN k = d at hnx hvl hd16 hmc
      generalize hmx : (wordsL bl).getD d 0 = mx at hmc
      have HX := hidp hmx
      clear hmx
      have HQ := hidp hq
      have HD := hidp hdd
      clear hq hdd
      have h160 := hidp h160
      by_cases h15 : q = 15
      · subst h15
        have Hp := hidp (Hn.out.pick 15 mx)
        have Hr := hidp (fun w' (hw : CmS w w' g sf n h bl w1.heap.size w3.heap.size w4.heap.size (pickSt v0 (wordsL bl) k).1 ((pickSt v0 (wordsL bl) k).2.set 15 mx) (k + 1)) => round_any w1.heap.size w4.heap.size 261 261 _ _ w' (pickSt_words HV.out _ k) (by rw [List.length_set, pickSt_len]) (by have h1 := hw.hm; have h2 := hw.hp; omega) hw.rv hw.rp)
        go_wp2_with (go_at_call 261; refine hvl.out.mono ?_; rintro e wx ⟨rfl, rfl⟩)
        refine (Hr.out _ Hp.out).mono ?_
        rintro e wy ⟨rfl, hy⟩
        have hy := hidp hy
        clear hvl hmc hpc hpf hmod hk16 hnx
        go_wp2_with fail
        have hy := hy.out
        refine ⟨⟨k + 1, by have := h160.out; omega, ?_⟩, ?_⟩
        · have e1 := congrArg Prod.fst (pickSt_end v0 (wordsL bl) HQ.out)
          have e2 := congrArg Prod.snd (pickSt_end v0 (wordsL bl) HQ.out)
          simp only [HQ.out, HD.out, HX.out] at e1 e2
          rw [e1, e2]
          exact hidp (Hp.out.row hy)
        · have e1 : wr.iterPos (w4.heap.size + 1) = k := by unfold World.iterPos; rw [hr.out.it]
          have e2 : wy.iterPos (w4.heap.size + 1) = k + 1 := by unfold World.iterPos; rw [(Hp.out.row hy).it]
          have := h160.out
          rw [e1, e2]; omega
      · have ht : ((q : Int) == 15) = false := by rw [beq_eq_false_iff_ne]; omega
        have h15 := hidp h15
        have Hp := hidp (Hn.out.pick q mx)
        go_wp2_with (go_at_call 261; refine hvl.out.mono ?_; rintro e wx ⟨rfl, rfl⟩)
        refine ⟨⟨k + 1, by have := h160.out; omega, ?_⟩, ?_⟩
        · have e1 := congrArg Prod.fst (pickSt_go v0 (wordsL bl) (n := k) (by rw [HQ.out]; exact h15.out))
          have e2 := congrArg Prod.snd (pickSt_go v0 (wordsL bl) (n := k) (by rw [HQ.out]; exact h15.out))
          simp only [HQ.out, HD.out, HX.out] at e1 e2
          rw [e1, e2]
          exact Hp
        · have e1 : wr.iterPos (w4.heap.size + 1) = k := by unfold World.iterPos; rw [hr.out.it]
          have e2 : (wx.setCell ⟨w4.heap.size, q, none⟩ (.int .u32 (mx : Nat))).iterPos (w4.heap.size + 1) = k + 1 := by unfold World.iterPos; rw [Hp.out.it]
          have := h160.out
          rw [e1, e2]; omega
    · obtain rfl : k = 160 := by omega
      have hnx := fun ty => run_next_end_at (P := Tryz.prog) wr (w4.heap.size + 1) rowsS 160 ty hr.out.it (by rw [rowsS_size]; omega)
      have VW := hidp (pickSt_words HV.out (wordsL bl) 160)
      have hR := hidp ((hr.out : CmS _ _ _ _ _ _ _ _ _ _ _ _ _))
      have hfin := hidp (blockL_eq h (wordsL bl) n mark)
      rw [← HV0.out] at hfin
      clear hr
      generalize (pickSt v0 (wordsL bl) 160).1 = v at VW hR hfin
      generalize (pickSt v0 (wordsL bl) 160).2 = p at hR
      have R0 : Hid (CmS w wr g sf n (partH h v 0) bl w1.heap.size w3.heap.size w4.heap.size v p 160) := by rw [partH_zero HS.out.words.1]; exact hR
      have HH := hidp HS.out.words
      clear HS hR HV HV0 HM l16 hk h160
      go_wp2
      go_loopw [39] (fun x wt => ∃ i : Nat, i ≤ 8 ∧ x = .int .i64 i ∧ Hid (CmS w wt g sf n (partH h v i) bl w1.heap.size w3.heap.size w4.heap.size v p 160)) (fun x _ => 8 - (intOf x).toNat)
      case atStart => exact ⟨0, by omega, rfl, R0⟩
      case round =>
        obtain ⟨i, hi, rfl, hr⟩ := hrel
        clear R0 hnx
        by_cases h8 : i < 8
        · have hx : ∀ (wd : World), CmS w wd g sf n (partH h v i) bl w1.heap.size w3.heap.size w4.heap.size v p 160 → wd.cell? ⟨g, 2 + i, none⟩ = some (.int .u32 (h.getD i 0 : Nat)) ∧ wd.cell? ⟨w1.heap.size, i, none⟩ = some (.int .u32 (v.getD i 0 : Nat)) ∧ wd.cell? ⟨w1.heap.size, i + 8, none⟩ = some (.int .u32 (v.getD (i + 8) 0 : Nat)) ∧ wd.frozen? ⟨g, 2 + i, none⟩ = false :=
            fun _ H => ⟨(H.st.ch h8).trans (by rw [partH_get h v h8]), (H.rv.cell i).trans (wvs_get (by rw [VW.out.1]; omega)), (H.rv.cell (i + 8)).trans (wvs_get (by rw [VW.out.1]; omega)), H.st.blk.free _⟩
          have hx := hidp hx
          have lx := xorW_lt (VW.out.get i) (VW.out.get (i + 8))
          have e1 := xor_word (VW.out.get i) (VW.out.get (i + 8))
          have e2 := xor_word (HH.out.get i) lx
          have hset := partH_set h v h8
          have lx2 := hidp (xorW_lt (HH.out.get i) lx)
          clear lx
          generalize h.getD i 0 = ha at hx e2 hset lx2
          generalize v.getD i 0 = va at hx e1 e2 hset lx2
          generalize v.getD (i + 8) 0 = vb at hx e1 e2 hset lx2
          have hset := hidp hset
          have hi8 : (i : Int) < 8 := by omega
          have hi16 : (i : Int) + 8 < 16 := by omega
          have hi17 : (i : Int) < 16 := by omega
          have hw8 : IntKind.i64.wrap ((i : Int) + 8) = (i : Int) + 8 := by rw [IntKind.wrap_i64]; omega
          have hw9 : (0 : Int) ≤ (i : Int) + 8 := by omega
          have hw10 : ((i : Int) + 8).toNat = i + 8 := by omega
          have h8 := hidp h8
          go_wp2
          refine region_tail 17 (by kernel_rfl) (by kernel_rfl) ?_
          intro wd hwd
          have hd := hidp (hwd.out.symm ▸ hr.out.drew)
          clear hr hwd
          obtain ⟨x1, x2, x3, x4⟩ := hx.out _ hd.out
          clear hx
          simp only [List.take_succ_cons, List.take_zero, List.drop_succ_cons, List.drop_zero]
          repeat still_step
          try refine wpStill_nil ?_
          go_wp2
          refine ⟨⟨i + 1, by have := h8.out; omega, by go_num, ?_⟩, by have := h8.out; simp [intOf]; omega⟩
          rw [← hset.out]
          exact hidp (hd.out.seth h8.out lx2.out)
        · obtain rfl : i = 8 := by omega
          go_wp2
          go_end0
          exact ⟨rfl, hfin.out ▸ hr.out.st, hr.out.bex⟩
end Go.Proofs.YtcmkmnidnapabaaGreat
