/-
  Texts Hi, Hj, Hk, Hl, Hm, one behind the other.
-/
import Derived.Test.YtcmkmnidnapabaaGreatH2
import Derived.Laws.CopyOwn
import Derived.Great.BuildSlice
import Derived.Deep.WholeRow
import Derived.LaidEqlPtr

/-! Hi: Plain: a state behind bytes; what more bytes make of it. -/
namespace Go.Proofs.YtcmkmnidnapabaaGreat
open Go.RowKit

def padL (l : List Nat) : List Nat := l ++ List.replicate (64 - l.length) 0
theorem padL_len {l : List Nat} (h : l.length ≤ 64) : (padL l).length = 64 := by unfold padL; simp; omega
theorem padL_bytes {l : List Nat} (h : l.length ≤ 64) (hb : ∀ x ∈ l, x < 256) : Bytes 64 (padL l) := by
  refine ⟨padL_len h, fun x hx => ?_⟩
  unfold padL at hx
  rcases List.mem_append.1 hx with hx | hx
  · exact hb x hx
  · rw [(List.mem_replicate.1 hx).2]; decide
theorem padL_nil : padL [] = List.replicate 64 0 := rfl
/-- What of the bytes lies in the last block. -/
def tailL (all : List Nat) : List Nat := all.drop (64 * aheadL all.length)
theorem tailL_len (all : List Nat) : (tailL all).length = filledN all.length := by
  unfold tailL aheadL filledN
  rw [List.length_drop]
  split <;> omega
theorem filledN_le (n : Nat) : filledN n ≤ 64 := by unfold filledN; split <;> omega
theorem wordL_pad {l : List Nat} (i : Nat) : wordL (padL l) i = wordL l i := by
  have e : ∀ j, (padL l).getD j 0 = l.getD j 0 := by
    intro j
    unfold padL
    rw [List.getD_eq_getElem?_getD, List.getD_eq_getElem?_getD, List.getElem?_append]
    split
    · rfl
    · rename_i hj
      rw [List.getElem?_eq_none (Nat.le_of_not_lt hj), List.getElem?_replicate]
      split <;> rfl
  unfold wordL
  rw [e, e, e, e]
theorem wordsL_pad (l : List Nat) : wordsL (padL l) = wordsL l := by
  unfold wordsL
  exact List.map_congr_left fun i _ => wordL_pad i
/-- Whole blocks hang on the bytes in them alone. -/
theorem fullL_app (a b : List Nat) (k : Nat) (h : 64 * k ≤ a.length) : fullL (a ++ b) k = fullL a k := by
  induction k with
  | zero => rfl
  | succ k ih =>
    have e : ((a ++ b).drop (64 * k)).take 64 = (a.drop (64 * k)).take 64 := by
      rw [List.drop_append_of_le_length (by omega), List.take_append_of_le_length (by rw [List.length_drop]; omega)]
    simp only [fullL]
    rw [ih (by omega), e]
theorem startL_words : Words 8 startL := by refine ⟨rfl, ?_⟩; decide
theorem fullL_words (b : List Nat) (k : Nat) : Words 8 (fullL b k) := by
  induction k with
  | zero => exact startL_words
  | succ k ih => exact blockL_words ih (by decide)

/-- The state's words and block behind bytes. -/
def hOf (all : List Nat) : List Nat := fullL all (aheadL all.length)
theorem hOf_words (all : List Nat) : Words 8 (hOf all) := fullL_words _ _
/-- The last block is full: it is put into the words. -/
theorem hOf_full {all : List Nat} (h : filledN all.length = 64) : blockL (hOf all) (wordsL (padL (tailL all))) all.length 0 = fullL all (aheadL all.length + 1) := by
  have hn : all.length = 64 * (aheadL all.length + 1) := by
    unfold filledN at h; unfold aheadL
    split at h <;> omega
  have e : tailL all = (all.drop (64 * aheadL all.length)).take 64 := by
    unfold tailL
    rw [List.take_of_length_le]
    rw [List.length_drop]; omega
  rw [wordsL_pad, e]
  unfold hOf
  simp only [fullL]
  rw [← hn]
/-- .. and the bytes that follow begin the next one. -/
theorem more_full {all piece : List Nat} (h : filledN all.length = 64) (h1 : 0 < piece.length) (h2 : piece.length ≤ 64) : hOf (all ++ piece) = fullL all (aheadL all.length + 1) ∧ tailL (all ++ piece) = piece := by
  have hn : all.length = 64 * (aheadL all.length + 1) := by
    unfold filledN at h; unfold aheadL
    split at h <;> omega
  have ha : aheadL (all ++ piece).length = aheadL all.length + 1 := by
    rw [List.length_append]
    generalize aheadL all.length = q at hn
    unfold aheadL; omega
  unfold hOf tailL
  rw [ha, ← hn]
  exact ⟨fullL_app _ _ _ (by omega), by rw [List.drop_append_of_le_length (Nat.le_refl _), List.drop_length, List.nil_append]⟩
/-- The last block is not full: what follows is laid behind what is in it. -/
theorem more_part {all piece : List Nat} (h : filledN all.length < 64) (h1 : 0 < piece.length) (h2 : piece.length ≤ 64 - filledN all.length) : hOf (all ++ piece) = hOf all ∧ tailL (all ++ piece) = tailL all ++ piece := by
  have ha : aheadL (all ++ piece).length = aheadL all.length := by
    rw [List.length_append]
    unfold filledN at h h2; unfold aheadL
    split at h <;> simp_all <;> omega
  have hle : 64 * aheadL all.length ≤ all.length := by unfold aheadL; omega
  unfold hOf tailL
  rw [ha]
  exact ⟨fullL_app _ _ _ hle, by rw [List.drop_append_of_le_length hle]⟩
/-- Bytes laid into a padded block behind those that are in it. -/
theorem splice_pad {x piece : List Nat} (h : x.length + piece.length ≤ 64) : splice (padL x) x.length piece = padL (x ++ piece) := by
  unfold splice padL
  rw [List.take_append_of_le_length (Nat.le_refl _), List.take_length, List.drop_append, List.drop_eq_nil_of_le (by omega), List.nil_append, List.drop_replicate, List.append_assoc, List.length_append]
  congr 3
  omega
theorem last_eq (all : List Nat) : blockL (hOf all) (wordsL (padL (tailL all))) all.length 0xffffffff = lastL all := by
  rw [wordsL_pad]; rfl

/-- A state lies in block g that has taken these bytes. -/
def So (w : World) (g : Nat) (sf : Value) (all : List Nat) : Prop := St w g sf all.length (hOf all) (padL (tailL all))
end Go.Proofs.YtcmkmnidnapabaaGreat

/-! Hj: Contract: a state takes bytes. -/
namespace Go.Proofs.YtcmkmnidnapabaaGreat
open Go.RowKit Go.Lib

theorem wpList_store_part {P : Program} {ops : Array Oper} {rest : List Oper} {o : Oper} {a : Act} {w : World} {Q : Exit → Act → World → Prop} (hgd : o.guard = none) (ty : TypeId) (x y : Operand) (ho : o.op = .store ty x y)
    (b off : Nat) (cs old : List Value) (T : TypeId) (hx : a.eval x = .pointer (some ⟨b, off, none⟩)) (hy : a.eval y = .agg cs.toArray) (hb : Blk w b old T)
    (hi : (P.info? ty).map (·.size) = some cs.length) (hfit : off + cs.length ≤ old.length) (h1 : ∀ v ∈ cs, v.oneCell' = true) (hd : o.dst = none)
    (h : ∀ w', Hid (Blk w' b (splice old off cs) T ∧ But b w w') → wpList P ops Q rest a w') : wpList P ops Q (o :: rest) a w := by
  refine wpList_plain hgd fun K hK => ?_
  have hst := run_storeCells_at P b off T cs 0 old.toArray w hb (by simpa using hfit) h1
  have hrun : (storeVar ty ⟨b, off, none⟩ (.agg cs.toArray)).run P w = .ok () (w.setRow b (old.take off ++ cs ++ old.drop (off + cs.length)).toArray) := by
    cases hq : P.info? ty with
    | none => simp [hq] at hi
    | some i =>
      have hs : cs.length = i.size := by simp [hq] at hi; omega
      simp only [Nat.add_zero] at hst
      simp [storeVar, sizeOf, typeInfo, hq, Value.cells, hs, hst]
  unfold Oper.wp execOp
  simp only [ho, hx, hy, Instr.storeAt, Instr.sureAddr, Sem.run_bind, Sem.run_pure, Result.andThen_ok, hrun]
  have hput : a.put o.dst undef = a := by rw [hd]; rfl
  refine Eq.mpr (congrArg (fun z => K z _) hput) (hK _ _ (h _ (hidp ⟨?_, (But.refl b w).setRow _⟩)))
  have := Blk.row (cs := splice old off cs) hb
  unfold splice at this ⊢
  rw [← List.append_assoc] at this ⊢
  exact this
theorem splice_clear {sf : Value} {n : Nat} {h x : List Nat} (h8 : h.length = 8) (hx : x.length = 64) : splice (stL sf n h x) 10 (bvs (List.replicate 64 0)) = stL sf n h (padL []) := by
  unfold splice stL
  have hw : (wvs h).length = 8 := by rw [wvs_len, h8]
  have hb : (bvs x).length = 64 := by rw [bvs_len, hx]
  rw [List.take_succ_cons, List.take_succ_cons, List.take_append, List.take_of_length_le (by omega), hw, Nat.sub_self, List.take_zero, List.append_nil, bvs_len, List.length_replicate, List.drop_eq_nil_of_le (by simp [hw, hb]), List.append_nil, padL_nil]
  rfl
theorem splice_st {sf : Value} {n : Nat} {h x piece : List Nat} (h8 : h.length = 8) (hl : x.length + piece.length ≤ 64) : splice (stL sf n h (padL x)) (10 + x.length) (bvs piece) = stL sf n h (padL (x ++ piece)) := by
  rw [← splice_pad hl]
  unfold splice stL
  rw [show 10 + x.length = (8 + x.length) + 1 + 1 by omega, List.take_succ_cons, List.take_succ_cons, bvs_len, show (8 + x.length) + 1 + 1 + piece.length = (8 + x.length + piece.length) + 1 + 1 by omega, List.drop_succ_cons, List.drop_succ_cons]
  have hw : (wvs h).length = 8 := by rw [wvs_len, h8]
  rw [List.take_append, List.take_of_length_le (by omega), hw, show 8 + x.length - 8 = x.length by omega, List.drop_append, List.drop_eq_nil_of_le (by omega), List.nil_append, hw, show 8 + x.length + piece.length - 8 = x.length + piece.length by omega]
  simp only [List.cons_append, List.append_assoc]
  unfold bvs
  rw [List.map_append, List.map_append, List.map_take, List.map_drop]
/-- The state at the end of a round. -/
theorem So.next {w : World} {g : Nat} {sf : Value} {cur piece h x : List Nat} (hb : Blk w g (stL sf (cur.length + piece.length) h (padL (x ++ piece))) 206) (h1 : hOf (cur ++ piece) = h) (h2 : tailL (cur ++ piece) = x ++ piece) (hx : ∀ y ∈ x ++ piece, y < 256) : So w g sf (cur ++ piece) := by
  have h3 := tailL_len (cur ++ piece)
  have h4 := filledN_le (cur ++ piece).length
  rw [h2] at h3
  unfold So
  rw [h1, h2, List.length_append]
  exact ⟨hb, h1 ▸ hOf_words _, padL_bytes (by omega) hx⟩

set_option maxRecDepth 20000 in
set_option maxHeartbeats 8000000 in
theorem take_any (g : Nat) (sf : Value) (all bs : List Nat) (p : Option Addr) (bb bo cap : Nat) (w : World) (hs : So w g sf all) (hb : Bsl w p bb bo bs cap) (hne : bb ≠ g) (ha : ∀ y ∈ all, y < 256) (hn : all.length + bs.length ≤ 9223372036854775807) :
    Calls Tryz.prog 156 #[.pointer (some ⟨g, 0, none⟩), .slice p bs.length cap] w fun e w' => e = .returned (.tuple #[]) ∧ So w' g sf (all ++ bs) ∧ Bex g w w' := by
  have HS := hidp hs
  have HB := hidp hb
  have HN := hidp hn
  have HE := hidp hne
  have HA : Hid (∀ y ∈ all, y < 256) := hidp ha
  clear hs hb hn hne ha
  go_enter Tryz.func156, Tryz.ntmps156
  go_wp2
  go_loopw [1] (fun x wr => ∃ (k : Nat) (q : Option Addr) (c : Nat), k ≤ bs.length ∧ x = .slice q (bs.length - k) c ∧ Hid (bs.length - k ≤ c ∧ (k < bs.length → q = some ⟨bb, bo + k, none⟩) ∧ So wr g sf (all ++ bs.take k) ∧ Bex g w wr)) (fun x _ => (match x with | .slice _ l _ => l | _ => 0))
  case atStart => exact ⟨0, p, cap, by omega, rfl, HB.out.le, fun h => (HB.out.ptr h).1, by rw [List.take_zero, List.append_nil]; exact HS.out, Bex.refl g w⟩
  case round =>
    obtain ⟨k, q, c, hk, rfl, hr⟩ := hrel
    by_cases hlt : k < bs.length
    · have hq := hr.out.2.1 hlt
      subst hq
      obtain ⟨cur, hcur⟩ : ∃ r, r = all ++ bs.take k := ⟨_, rfl⟩
      have hcl : cur.length = all.length + k := by rw [hcur, List.length_append, List.length_take]; omega
      have hcb : ∀ y ∈ cur, y < 256 := by
        intro y hy
        rw [hcur] at hy
        rcases List.mem_append.1 hy with hy | hy
        · exact HA.out y hy
        · exact HB.out.byte y (List.mem_of_mem_take hy)
      have hr2 : Hid (So wr g sf cur ∧ Bex g w wr ∧ bs.length - k ≤ c) := hidp ⟨hcur ▸ hr.out.2.2.1, hr.out.2.2.2, hr.out.1⟩
      have hnn : cur.length ≤ 9223372036854775807 := by have := HN.out; omega
      have hnext : ∀ m : Nat, cur ++ (bs.drop k).take m = all ++ bs.take (k + m) := by
        intro m
        rw [hcur, List.append_assoc, List.take_add]
      have hlen : (0 : Int) < ((bs.length - k : Nat) : Int) := by omega
      have HK := hidp (And.intro hlt hcl)
      have HCB := hidp hcb
      have hnext := hidp hnext
      have hnn := hidp hnn
      clear hr hcur hcl hcb hlt hk
      generalize hl : bs.length - k = l at hlen hr2
      have HL := hidp hl
      clear hl
      have hfl := filledN_le cur.length
      by_cases h64 : filledN cur.length = 64
      · have hc1 := hr2.out.1.c1
        have HF := hidp (fun w hc => h64 ▸ filled_any g cur.length w hnn.out hc)
        have h64 := hidp h64
        go_wp2_with (go_at_call 210; refine (HF.out _ hc1).mono ?_; rintro e wx ⟨rfl, rfl⟩)
        have hcmp := compress_any g sf cur.length _ _ 0 wx hr2.out.1 hnn.out (by decide)
        rw [hOf_full h64.out] at hcmp
        refine hcmp.mono ?_
        clear hcmp HF hc1
        rintro e w2 ⟨rfl, hst, hbx⟩
        have h2 := hidp (And.intro hst (hr2.out.2.1.trans hbx))
        clear hst hbx
        go_wp2_with (first | refine wpList_buildTo rfl 204 _ rfl _ rfl (bvs (List.replicate 64 0)).toArray (by kernel_rfl) ?_ | (refine wpList_store_part rfl 204 _ _ rfl g 10 (bvs (List.replicate 64 0)) _ 206 rfl rfl h2.out.1.blk (by kernel_rfl) (by rw [stL_len, bvs_len, h2.out.1.words.1, h2.out.1.bytes.1, List.length_replicate]; decide) (bvs_oneL _) rfl ?_; intro w3 h3))
        obtain ⟨x, hx⟩ : ∃ x : List Nat, x = [] := ⟨_, rfl⟩
        obtain ⟨hA, hhA⟩ : ∃ r, r = fullL cur (aheadL cur.length + 1) := ⟨_, rfl⟩
        have h4 : Hid (St w3 g sf cur.length hA (padL x) ∧ Bex g w w3) := by
          have e := splice_clear (sf := sf) (n := cur.length) (h := hA) (x := padL (tailL cur)) (hhA ▸ (fullL_words _ _).1) h2.out.1.bytes.1
          rw [← hhA] at h2 h3
          refine hidp ⟨⟨?_, h2.out.1.words, hx ▸ padL_bytes (by simp) (by simp)⟩, h2.out.2.trans (Bex.of_but h3.out.2)⟩
          rw [hx, ← e]; exact h3.out.1
        have hoff : filledN cur.length % 64 = x.length := by rw [h64.out, hx]; rfl
        have hx64 : x.length < 64 := by rw [hx]; decide
        have hmore : ∀ piece : List Nat, 0 < piece.length → piece.length ≤ 64 - x.length → hOf (cur ++ piece) = hA ∧ tailL (cur ++ piece) = x ++ piece := by
          intro piece h1 h2
          rw [hx, hhA]
          exact more_full h64.out h1 (by omega)
        have hxb : ∀ y ∈ x, y < 256 := by rw [hx]; simp
        clear h2 h3 hhA hx h64
        obtain ⟨m, hm⟩ : ∃ m, m = Nat.min l (64 - x.length) := ⟨_, rfl⟩
        obtain ⟨piece, hpc⟩ : ∃ r, r = (bs.drop k).take m := ⟨_, rfl⟩
        have hml : m ≤ l := by rw [hm]; exact Nat.min_le_left _ _
        have hmx : m ≤ 64 - x.length := by rw [hm]; exact Nat.min_le_right _ _
        have hm0 : 0 < m := by
          rw [hm]
          exact Nat.lt_min.2 ⟨by omega, by omega⟩
        have hpl : piece.length = m := by rw [hpc, List.length_take, List.length_drop]; have := HL.out; omega
        have hpx : ∀ y ∈ x ++ piece, y < 256 := by
          intro y hy
          rcases List.mem_append.1 hy with hy | hy
          · exact hxb y hy
          · exact HB.out.byte y (by rw [hpc] at hy; exact List.mem_of_mem_drop (List.mem_of_mem_take hy))
        have hmr := hidp (hmore piece (by omega) (by omega))
        have hnx := hidp (hnext.out m)
        rw [← hpc] at hnx
        have hge : ∀ j, j < m → piece.getD j 0 = bs.getD (k + j) 0 := by
          intro j hj
          rw [hpc, List.getD_eq_getElem?_getD, List.getD_eq_getElem?_getD, List.getElem?_take, if_pos hj, List.getElem?_drop]
        have hsl := run_slice_arr_l (P := Tryz.prog) (t := 204) (e := 5) (n := 64) Tryz.underlying204 (by kernel_rfl) g 10 hx64
        have hmod : ((filledN cur.length : Nat) : Int).tmod 64 = ((x.length : Nat) : Int) := by rw [Int.tmod_eq_emod_of_nonneg (by omega)]; omega
        have HF2 := hidp (fun w hc => filled_any g cur.length w hnn.out hc)
        generalize filledN cur.length = fl at hmod HF2
        have HP := hidp (And.intro hm (And.intro hml (And.intro hmx (And.intro hm0 hpl))))
        have HG := hidp hge
        have HX := hidp hpx
        have HX64 := hidp hx64
        clear hm hml hmx hm0 hpl hge hpx hx64 hoff hmore hxb hpc hfl
        refine region_tail 10 (by kernel_rfl) (by kernel_rfl) ?_
        intro wd hwd
        have h5 : Hid (St wd g sf cur.length hA (padL x) ∧ Bex g w wd) := hwd.out.symm ▸ hidp ⟨h4.out.1.drew, h4.out.2.drew⟩
        clear h4 hwd
        have hc5 := hidp h5.out.1.c1
        simp only [List.take_succ_cons, List.take_zero, List.drop_succ_cons, List.drop_zero]
        repeat still_step
        still_call (HF2.out _ hc5.out)
        repeat still_step
        try refine wpStill_nil ?_
        refine (wpList_copy_blk rfl (.tmp 27) (.tmp 28) 35 35 rfl 5 Tryz.underlying35 (by kernel_rfl) g (10 + x.length) (64 - x.length) (64 - x.length) ⟨bb, bo + k, none⟩ l c rfl rfl _ 206 h5.out.1.blk (bvs piece) ?kAX ?kBX ?kCX (bvs_oneL _) ?kDX)
        case kAX => rw [bvs_len, HP.out.2.2.2.2]; exact HP.out.1
        case kBX =>
          intro j v hj
          have hjm : j < m := by have := (List.getElem?_eq_some_iff.1 hj).1; rwa [bvs_len, HP.out.2.2.2.2] at this
          have hkj : k + j < bs.length := by have := HL.out; have := HP.out.2.1; have := HK.out; omega
          have hbbl := (HB.out.ptr (by omega)).2
          rw [Addr.add_mid, ← hj, bvs_get (by rw [HP.out.2.2.2.2]; exact hjm), HG.out j hjm, show bo + k + j = bo + (k + j) by omega, ← HB.out.here (k + j) hkj]
          simp only [World.cell?]
          rw [h5.out.2.block bb hbbl HE.out]
        case kCX =>
          rw [stL_len, bvs_len, h5.out.1.words.1, h5.out.1.bytes.1]
          have := HP.out; have := HX64.out; omega
        intro w6 h6
        have hsp := splice_st (sf := sf) (n := cur.length) (h := hA) (x := x) (piece := piece) h5.out.1.words.1 (by have := HP.out; have := HX64.out; omega)
        have h7 : Hid (Blk w6 g (stL sf cur.length hA (padL (x ++ piece))) 206 ∧ Bex g w w6) := hidp ⟨hsp ▸ h6.out.1, h5.out.2.trans (Bex.of_but h6.out.2)⟩
        clear hsp h6 h5 hsl hmod HF2
        have hct := hidp (fun hc hf => count_any g cur.length m w6 (by have := HP.out; have := HK.out; have := HL.out; have := HN.out; omega) hc hf)
        have hgi : goInt ↑(bvs piece).length = .int .i64 (m : Nat) := by rw [bvs_len, HP.out.2.2.2.2]; rfl
        rw [hgi]
        clear hgi
        have hk1 := hidp ((h7.out.1.cell 1).trans (stL_1 _ _ _ _))
        have hf1 := hidp (h7.out.1.free 1)
        have hmi : (m : Int) ≤ (l : Int) := by have := HP.out.2.1; omega
        go_wp2_with (go_at_call 212; refine (hct.out hk1.out hf1.out).mono ?_; rintro e w8 ⟨rfl, hw8⟩; have hw8 := hidp hw8)
        have h9 : Hid (So (w6.setCell ⟨g, 1, none⟩ (.int .i64 (cur.length + m : Nat))) g sf (cur ++ piece) ∧ Bex g w (w6.setCell ⟨g, 1, none⟩ (.int .i64 (cur.length + m : Nat)))) := by
          refine hidp ⟨So.next ?_ hmr.out.1 hmr.out.2 HX.out, h7.out.2.setCell _ _⟩
          rw [HP.out.2.2.2.2]
          exact h7.out.1.set 1 _
        have hkl := HL.out
        have hp := HP.out
        refine ⟨⟨k + m, if c = m then some ⟨bb, bo + k, none⟩ else some ⟨bb, bo + k + m, none⟩, c - m, by omega, ?_, hidp ⟨by have := hr2.out.2.2; omega, ?_, ?_, h9.out.2⟩⟩, ?_⟩
        · rw [show bs.length - (k + m) = l - m by omega]
        · intro hlt2
          have hc := hr2.out.2.2
          rw [if_neg (by omega), Nat.add_assoc]
        · rw [← hnx.out]; exact h9.out.1
        · show l - m < l
          omega
      · have hc1 := hr2.out.1.c1
        have HF := hidp (fun w hc => filled_any g cur.length w hnn.out hc)
        have ht : (((filledN cur.length : Nat) : Int) == 64) = false := by rw [beq_eq_false_iff_ne]; omega
        have ht := hidp ht
        have h4 : Hid (St wr g sf cur.length (hOf cur) (padL (tailL cur)) ∧ Bex g w wr) := hidp ⟨hr2.out.1, hr2.out.2.1⟩
        have htl := tailL_len cur
        have hoff : filledN cur.length % 64 = (tailL cur).length := by omega
        have hx64 : (tailL cur).length < 64 := by omega
        have hmore : ∀ piece : List Nat, 0 < piece.length → piece.length ≤ 64 - (tailL cur).length → hOf (cur ++ piece) = hOf cur ∧ tailL (cur ++ piece) = tailL cur ++ piece :=
          fun piece h1 h2 => more_part (by omega) h1 (by omega)
        have hxb : ∀ y ∈ tailL cur, y < 256 := fun y hy => HCB.out y (List.mem_of_mem_drop hy)
        clear htl h64
        generalize hOf cur = hA at h4 hmore
        generalize tailL cur = x at h4 hoff hx64 hmore hxb
        have hoff := hidp hoff
        have hx64 := hidp hx64
        have hfl := hidp hfl
        have ht := ht.out
        go_wp2_with (go_at_call 210; refine (HF.out _ hc1).mono ?_; rintro e wx ⟨rfl, rfl⟩)
        have hoff := hoff.out
        have hx64 := hx64.out
        have hfl := hfl.out
        obtain ⟨m, hm⟩ : ∃ m, m = Nat.min l (64 - x.length) := ⟨_, rfl⟩
        obtain ⟨piece, hpc⟩ : ∃ r, r = (bs.drop k).take m := ⟨_, rfl⟩
        have hml : m ≤ l := by rw [hm]; exact Nat.min_le_left _ _
        have hmx : m ≤ 64 - x.length := by rw [hm]; exact Nat.min_le_right _ _
        have hm0 : 0 < m := by
          rw [hm]
          exact Nat.lt_min.2 ⟨by omega, by omega⟩
        have hpl : piece.length = m := by rw [hpc, List.length_take, List.length_drop]; have := HL.out; omega
        have hpx : ∀ y ∈ x ++ piece, y < 256 := by
          intro y hy
          rcases List.mem_append.1 hy with hy | hy
          · exact hxb y hy
          · exact HB.out.byte y (by rw [hpc] at hy; exact List.mem_of_mem_drop (List.mem_of_mem_take hy))
        have hmr := hidp (hmore piece (by omega) (by omega))
        have hnx := hidp (hnext.out m)
        rw [← hpc] at hnx
        have hge : ∀ j, j < m → piece.getD j 0 = bs.getD (k + j) 0 := by
          intro j hj
          rw [hpc, List.getD_eq_getElem?_getD, List.getD_eq_getElem?_getD, List.getElem?_take, if_pos hj, List.getElem?_drop]
        have hsl := run_slice_arr_l (P := Tryz.prog) (t := 204) (e := 5) (n := 64) Tryz.underlying204 (by kernel_rfl) g 10 hx64
        have hmod : ((filledN cur.length : Nat) : Int).tmod 64 = ((x.length : Nat) : Int) := by rw [Int.tmod_eq_emod_of_nonneg (by omega)]; omega
        have HF2 := hidp (fun w hc => filled_any g cur.length w hnn.out hc)
        generalize filledN cur.length = fl at hmod HF2
        have HP := hidp (And.intro hm (And.intro hml (And.intro hmx (And.intro hm0 hpl))))
        have HG := hidp hge
        have HX := hidp hpx
        have HX64 := hidp hx64
        clear hm hml hmx hm0 hpl hge hpx hx64 hoff hmore hxb hpc hfl
        refine region_tail 10 (by kernel_rfl) (by kernel_rfl) ?_
        intro wd hwd
        have h5 : Hid (St wd g sf cur.length hA (padL x) ∧ Bex g w wd) := hwd.out.symm ▸ hidp ⟨h4.out.1.drew, h4.out.2.drew⟩
        clear h4 hwd
        have hc5 := hidp h5.out.1.c1
        simp only [List.take_succ_cons, List.take_zero, List.drop_succ_cons, List.drop_zero]
        repeat still_step
        still_call (HF2.out _ hc5.out)
        repeat still_step
        try refine wpStill_nil ?_
        refine (wpList_copy_blk rfl (.tmp 27) (.tmp 28) 35 35 rfl 5 Tryz.underlying35 (by kernel_rfl) g (10 + x.length) (64 - x.length) (64 - x.length) ⟨bb, bo + k, none⟩ l c rfl rfl _ 206 h5.out.1.blk (bvs piece) ?kEX ?kFX ?kGX (bvs_oneL _) ?kHX)
        case kEX => rw [bvs_len, HP.out.2.2.2.2]; exact HP.out.1
        case kFX =>
          intro j v hj
          have hjm : j < m := by have := (List.getElem?_eq_some_iff.1 hj).1; rwa [bvs_len, HP.out.2.2.2.2] at this
          have hkj : k + j < bs.length := by have := HL.out; have := HP.out.2.1; have := HK.out; omega
          have hbbl := (HB.out.ptr (by omega)).2
          rw [Addr.add_mid, ← hj, bvs_get (by rw [HP.out.2.2.2.2]; exact hjm), HG.out j hjm, show bo + k + j = bo + (k + j) by omega, ← HB.out.here (k + j) hkj]
          simp only [World.cell?]
          rw [h5.out.2.block bb hbbl HE.out]
        case kGX =>
          rw [stL_len, bvs_len, h5.out.1.words.1, h5.out.1.bytes.1]
          have := HP.out; have := HX64.out; omega
        intro w6 h6
        have hsp := splice_st (sf := sf) (n := cur.length) (h := hA) (x := x) (piece := piece) h5.out.1.words.1 (by have := HP.out; have := HX64.out; omega)
        have h7 : Hid (Blk w6 g (stL sf cur.length hA (padL (x ++ piece))) 206 ∧ Bex g w w6) := hidp ⟨hsp ▸ h6.out.1, h5.out.2.trans (Bex.of_but h6.out.2)⟩
        clear hsp h6 h5 hsl hmod HF2
        have hct := hidp (fun hc hf => count_any g cur.length m w6 (by have := HP.out; have := HK.out; have := HL.out; have := HN.out; omega) hc hf)
        have hgi : goInt ↑(bvs piece).length = .int .i64 (m : Nat) := by rw [bvs_len, HP.out.2.2.2.2]; rfl
        rw [hgi]
        clear hgi
        have hk1 := hidp ((h7.out.1.cell 1).trans (stL_1 _ _ _ _))
        have hf1 := hidp (h7.out.1.free 1)
        have hmi : (m : Int) ≤ (l : Int) := by have := HP.out.2.1; omega
        go_wp2_with (go_at_call 212; refine (hct.out hk1.out hf1.out).mono ?_; rintro e w8 ⟨rfl, hw8⟩; have hw8 := hidp hw8)
        have h9 : Hid (So (w6.setCell ⟨g, 1, none⟩ (.int .i64 (cur.length + m : Nat))) g sf (cur ++ piece) ∧ Bex g w (w6.setCell ⟨g, 1, none⟩ (.int .i64 (cur.length + m : Nat)))) := by
          refine hidp ⟨So.next ?_ hmr.out.1 hmr.out.2 HX.out, h7.out.2.setCell _ _⟩
          rw [HP.out.2.2.2.2]
          exact h7.out.1.set 1 _
        have hkl := HL.out
        have hp := HP.out
        refine ⟨⟨k + m, if c = m then some ⟨bb, bo + k, none⟩ else some ⟨bb, bo + k + m, none⟩, c - m, by omega, ?_, hidp ⟨by have := hr2.out.2.2; omega, ?_, ?_, h9.out.2⟩⟩, ?_⟩
        · rw [show bs.length - (k + m) = l - m by omega]
        · intro hlt2
          have hc := hr2.out.2.2
          rw [if_neg (by omega), Nat.add_assoc]
        · rw [← hnx.out]; exact h9.out.1
        · show l - m < l
          omega
    · have hk2 : bs.length - k = 0 := by omega
      obtain rfl : k = bs.length := by omega
      rw [hk2]
      go_wp2
      go_end0
      have h := hr.out.2.2.1
      rw [List.take_length] at h
      exact ⟨rfl, h, hr.out.2.2.2⟩
end Go.Proofs.YtcmkmnidnapabaaGreat

/-! Hk: Contracts: a new state; a word's bytes. -/
namespace Go.Proofs.YtcmkmnidnapabaaGreat
open Go.RowKit Go.Lib

def byteN (x i : Nat) : Nat := x / 256 ^ i % 256
/-- A row in which the first i bytes of a word lie from o on. -/
def putL (old : List Value) (o x : Nat) : Nat → List Value
  | 0 => old
  | i + 1 => (putL old o x i).set (o + i) (.int .u8 (byteN x i : Nat))
theorem putL_len (old : List Value) (o x i : Nat) : (putL old o x i).length = old.length := by
  induction i with
  | zero => rfl
  | succ i ih => rw [putL, List.length_set, ih]

set_option maxHeartbeats 2000000 in
theorem putWord_any (b o c x : Nat) (old : List Value) (T : TypeId) (w : World) (hw : Blk w b old T) (ho : o + 4 ≤ old.length) (hx : x < W32) :
    Calls Tryz.prog 213 #[.slice (some ⟨b, o, none⟩) 4 c, .int .u32 (x : Nat)] w fun e w' => e = .returned (.tuple #[]) ∧ Blk w' b (putL old o x 4) T ∧ But b w w' := by
  have HW := hidp hw
  have HO := hidp ho
  have hb0 : byteN x 0 = x % 256 := by unfold byteN; omega
  have hb1 : byteN x 1 = x / 256 % 256 := by unfold byteN; omega
  have hb2 : byteN x 2 = x / 65536 % 256 := by unfold byteN; omega
  have hb3 : byteN x 3 = x / 16777216 % 256 := by unfold byteN; omega
  have HB := hidp (And.intro hb0 (And.intro hb1 (And.intro hb2 hb3)))
  have HX := hidp hx
  clear hw ho hb0 hb1 hb2 hb3 hx
  go_enter Tryz.func213, Tryz.ntmps213
  go_wp2
  go_loopw [7] (fun i wr => ∃ n : Nat, n ≤ 4 ∧ i = .int .i64 n ∧ Hid (Blk wr b (putL old o x n) T ∧ But b w wr)) (fun i _ => 4 - (intOf i).toNat)
  case atStart => exact ⟨0, by omega, rfl, HW.out, But.refl b w⟩
  case round =>
    obtain ⟨n, hn, rfl, hr⟩ := hrel
    have hf := hr.out.1.free (o + n)
    have hc : n < 4 → ∃ ov, wr.cell? ⟨b, o + n, none⟩ = some ov := fun h => ⟨_, (hr.out.1.cell _).trans (List.getElem?_eq_getElem (by rw [putL_len]; have := HO.out; omega))⟩
    have hcl := HX.out
    unfold W32 at hcl
    rcases (show n = 4 ∨ n = 0 ∨ n = 1 ∨ n = 2 ∨ n = 3 by omega) with rfl | rfl | rfl | rfl | rfl
    · clear hc hf hcl
      go_wp2
      go_end0
      exact ⟨rfl, hr.out⟩
    · obtain ⟨ov, hc⟩ := hc (by decide)
      have e : (x : Int) % 256 = ((byteN x 0 : Nat) : Int) := by rw [HB.out.1]; omega
      clear hn hcl
      simp only [Nat.add_zero] at hc hf
      go_wp2
      refine ⟨⟨1, by decide, rfl, hidp ⟨?_, hr.out.2.setCell _ _⟩⟩, by decide⟩
      exact hr.out.1.set _ _
    · obtain ⟨ov, hc⟩ := hc (by decide)
      have e : (x : Int) / 256 % 256 = ((byteN x 1 : Nat) : Int) := by rw [HB.out.2.1]; omega
      clear hn hcl
      go_wp2
      refine ⟨⟨2, by decide, rfl, hidp ⟨?_, hr.out.2.setCell _ _⟩⟩, by decide⟩
      exact hr.out.1.set _ _
    · obtain ⟨ov, hc⟩ := hc (by decide)
      have e : (x : Int) / 65536 % 256 = ((byteN x 2 : Nat) : Int) := by rw [HB.out.2.2.1]; omega
      clear hn hcl
      go_wp2
      refine ⟨⟨3, by decide, rfl, hidp ⟨?_, hr.out.2.setCell _ _⟩⟩, by decide⟩
      exact hr.out.1.set _ _
    · obtain ⟨ov, hc⟩ := hc (by decide)
      have e : (x : Int) / 16777216 % 256 = ((byteN x 3 : Nat) : Int) := by rw [HB.out.2.2.2]; omega
      clear hn hcl
      go_wp2
      refine ⟨⟨4, by decide, rfl, hidp ⟨?_, hr.out.2.setCell _ _⟩⟩, by decide⟩
      exact hr.out.1.set _ _

/-! A new state. -/
theorem zero_state : (Tryz.prog.info? 206).map (fun i => (i.zero, i.size)) = some (some (.agg (stL (.pointer none) 0 (List.replicate 8 0) (padL [])).toArray), 74) := by kernel_rfl
theorem stL_one (sf : Value) (hs : sf.oneCell' = true) (n : Nat) (h bl : List Nat) : (stL sf n h bl).toArray.all (·.oneCell') = true := by
  rw [Array.all_eq_true_iff_forall_mem]
  intro x hx
  unfold stL at hx
  simp only [List.mem_toArray, List.mem_cons, List.mem_append] at hx
  rcases hx with rfl | rfl | hx | hx
  · exact hs
  · rfl
  · exact wvs_oneL _ x hx
  · exact bvs_oneL _ x hx
theorem So_nil {w : World} {g : Nat} {sf : Value} (h : Blk w g (stL sf 0 startL (padL [])) 206) : So w g sf [] := ⟨h, startL_words, padL_bytes (by decide) (fun x hx => absurd hx List.not_mem_nil)⟩

def stZ : List Value := stL (.pointer none) 0 (List.replicate 8 0) (padL [])
def stI : List Value := stL (.pointer none) 0 initL (padL [])
def stS : List Value := stL (.pointer none) 0 startL (padL [])
theorem start_mid (w w1 w2 : World) (hB1 : Below (w.alloc (.cells stZ.toArray 206)).heap.size (w.alloc (.cells stZ.toArray 206)) w1) (hw2 : w2 = (w1.alloc (.cells stZ.toArray 206)).setRow w1.heap.size stI.toArray) :
    w2.cell? ⟨w1.heap.size, 2, none⟩ = some (.int .u32 1779033703) ∧ w2.frozen? ⟨w1.heap.size, 2, none⟩ = false ∧ Blk (w2.setCell ⟨w1.heap.size, 2, none⟩ (.int .u32 1795745351)) w1.heap.size stS 206 ∧ Blk (w2.setCell ⟨w1.heap.size, 2, none⟩ (.int .u32 1795745351)) w.heap.size stZ 206 ∧ Below w.heap.size w (w2.setCell ⟨w1.heap.size, 2, none⟩ (.int .u32 1795745351)) := by
  have hs1 : (w.alloc (.cells stZ.toArray 206)).heap.size = w.heap.size + 1 := by simp
  have hB : Below (w.heap.size + 1) (w.alloc (.cells stZ.toArray 206)) w1 := hs1 ▸ hB1
  have hlt : w.heap.size < w1.heap.size := by have := hB.size; rw [hs1] at this; omega
  have hbt : But w1.heap.size (w1.alloc (.cells stZ.toArray 206)) w2 := hw2 ▸ (But.refl _ _).setRow _
  have h1 : Blk w2 w1.heap.size stI 206 := hw2 ▸ Blk.row (Blk.new w1 stZ _)
  have h2 : Blk w2 w.heap.size stZ 206 := hbt.blk (((Blk.new w _ _).below hB (by omega)).alloc _) (by omega)
  have h3 : Below w.heap.size w w2 := (((((Below.refl _ w).alloc (Nat.le_refl _) _).trans (hB.mono (by omega))).alloc (by omega) _)).trans (hbt.below (by omega))
  exact ⟨(h1.cell 2).trans rfl, h1.free 2, h1.set 2 (.int .u32 1795745351), h2.other _ _ (by show w.heap.size ≠ w1.heap.size; omega), h3.setCell (p := ⟨w1.heap.size, 2, none⟩) (Nat.le_of_lt hlt) _⟩

set_option maxRecDepth 20000 in
set_option maxHeartbeats 4000000 in
theorem start_any (w : World) : Calls Tryz.prog 155 #[] w fun e w' => e = .returned (.agg stS.toArray) ∧ Below w.heap.size w w' := by
  have hz : ∀ w, (zeroValue 206).run Tryz.prog w = .ok (.agg stZ.toArray) w := (zero_of_info (P := Tryz.prog) zero_state).1
  have hx : bits .xor .u32 1779033703 16842784 = 1795745351 := by decide
  go_enter Tryz.func155, Tryz.ntmps155
  go_wp2_with fail
  refine (initial_any _).mono ?_
  rintro e w1 ⟨rfl, hB1⟩
  have hB1 := hidp hB1
  have hz1 := hidp (Blk.new w1 stZ 206)
  go_wp2_with (first | refine wpList_buildTo rfl 206 _ rfl _ rfl stI.toArray (by kernel_rfl) ?_ | (refine wpList_store_blk rfl 206 _ _ rfl w1.heap.size stI stZ 206 rfl rfl hz1.out (by kernel_rfl) rfl (stL_one _ rfl _ _ _) ?_; intro w2 hw2; have hm := hidp (start_mid w w1 w2 hB1.out hw2.out); have hc := hm.out.1; have hf := hm.out.2.1) | refine wpList_load_blk rfl 206 _ rfl w1.heap.size stS 206 rfl hm.out.2.2.1 _ Tryz.underlying206 rfl (by kernel_rfl) ?_ | (refine wpList_store_blk rfl 206 _ _ rfl w.heap.size stS _ 206 rfl rfl hm.out.2.2.2.1 (by kernel_rfl) rfl (stL_one _ rfl _ _ _) ?_; intro w3 hw3))
  have b2 : Blk w3 w.heap.size stS 206 := by rw [hw3.out]; exact hm.out.2.2.2.1.row
  refine bodyPost_ret (v := .agg stS.toArray) ?_ rfl ⟨rfl, ?_⟩
  · exact results_cell_row Tryz.results155 _ _ w.heap.size 206 _ (0, 0) _ rfl b2 Tryz.underlying206 rfl (by kernel_rfl)
  · rw [hw3.out]; exact below_setRow hm.out.2.2.2.2 (Nat.le_refl _) _
end Go.Proofs.YtcmkmnidnapabaaGreat

/-! Hl: Contracts: the hash of what a state took; of bytes. -/
namespace Go.Proofs.YtcmkmnidnapabaaGreat
open Go.RowKit Go.Lib

/-- The bytes of the first i words. -/
def partB (h : List Nat) (i : Nat) : List Nat := (List.range 32).map fun j => if j < 4 * i then byteN (h.getD (j / 4) 0) (j % 4) else 0
theorem partB_len (h : List Nat) (i : Nat) : (partB h i).length = 32 := by unfold partB; simp
theorem partB_zero (h : List Nat) : partB h 0 = List.replicate 32 0 := by unfold partB; rfl
theorem partB_all (h : List Nat) : partB h 8 = bytesL h := by
  unfold partB bytesL byteN
  apply List.map_congr_left
  intro j hj
  have : j < 32 := by simpa using hj
  rw [if_pos (by omega)]
theorem partB_put (h : List Nat) {i : Nat} (hi : i < 8) : putL (bvs (partB h i)) (4 * i) (h.getD i 0) 4 = bvs (partB h (i + 1)) := by
  simp only [putL, Nat.add_zero, bvs_set]
  congr 1
  apply List.ext_getElem?
  intro n
  simp only [List.getElem?_set, List.length_set, partB_len]
  unfold partB
  simp only [List.getElem?_map]
  by_cases hn : n < 32
  · rw [List.getElem?_range hn]
    simp only [Option.map_some]
    by_cases h3 : 4 * i + 3 = n
    · subst h3
      have e1 : (4 * i + 3) / 4 = i := by omega
      have e2 : (4 * i + 3) % 4 = 3 := by omega
      have e3 : 4 * i + 3 < 4 * (i + 1) := by omega
      have e4 : 4 * i + 3 < 32 := by omega
      simp only [e1, e2, e3, e4, if_true]
    · by_cases h2 : 4 * i + 2 = n
      · subst h2
        have e1 : (4 * i + 2) / 4 = i := by omega
        have e2 : (4 * i + 2) % 4 = 2 := by omega
        have e3 : 4 * i + 2 < 4 * (i + 1) := by omega
        have e4 : 4 * i + 2 < 32 := by omega
        simp only [h3, if_false, e1, e2, e3, e4, if_true]
      · by_cases h1 : 4 * i + 1 = n
        · subst h1
          have e1 : (4 * i + 1) / 4 = i := by omega
          have e2 : (4 * i + 1) % 4 = 1 := by omega
          have e3 : 4 * i + 1 < 4 * (i + 1) := by omega
          have e4 : 4 * i + 1 < 32 := by omega
          simp only [h3, h2, if_false, e1, e2, e3, e4, if_true]
        · by_cases h0 : 4 * i = n
          · subst h0
            have e1 : 4 * i / 4 = i := by omega
            have e2 : 4 * i % 4 = 0 := by omega
            have e3 : 4 * i < 4 * (i + 1) := by omega
            have e4 : 4 * i < 32 := by omega
            simp only [h3, h2, h1, if_false, e1, e2, e3, e4, if_true]
          · simp only [h3, h2, h1, h0, if_false]
            by_cases hl : n < 4 * i
            · rw [if_pos hl, if_pos (by omega)]
            · rw [if_neg hl, if_neg (by omega)]
  · have e : (List.range 32)[n]? = none := List.getElem?_eq_none (by simp; omega)
    have h3 : ¬ 4 * i + 3 = n := by omega
    have h2 : ¬ 4 * i + 2 = n := by omega
    have h1 : ¬ 4 * i + 1 = n := by omega
    have h0 : ¬ 4 * i = n := by omega
    simp only [h3, h2, h1, h0, if_false, e, Option.map_none]
theorem hashL_len (b : List Nat) : (hashL b).length = 32 := by unfold hashL bytesL; simp
theorem lastL_words (b : List Nat) : Words 8 (lastL b) := blockL_words (fullL_words _ _) (by decide)

theorem run_index_word (h : List Nat) (h8 : h.length = 8) (i : Nat) (hi : i < 8) (w : World) : (Instr.index 203 (.agg (wvs h).toArray) (.int .i64 (i : Nat))).run Tryz.prog w = .ok (.int .u32 (h.getD i 0 : Nat)) w := by
  match h, h8 with
  | [a0, a1, a2, a3, a4, a5, a6, a7], _ =>
    rcases (show i = 0 ∨ i = 1 ∨ i = 2 ∨ i = 3 ∨ i = 4 ∨ i = 5 ∨ i = 6 ∨ i = 7 by omega) with rfl | rfl | rfl | rfl | rfl | rfl | rfl | rfl
    all_goals (show _ = _; kernel_rfl)

def zV32 : List Value := bvs (List.replicate 32 0)
/-- The copy that is ended: the state laid into the second new block. -/
theorem hash_mid {g : Nat} {sf : Value} {all : List Nat} {w w2 : World} (hs : So w g sf all) (hw2 : w2 = ((w.alloc (.cells zV32.toArray 39)).alloc (.cells stZ.toArray 206)).setRow (w.heap.size + 1) (stL sf all.length (hOf all) (padL (tailL all))).toArray) :
    St w2 (w.heap.size + 1) sf all.length (hOf all) (padL (tailL all)) ∧ Blk w2 w.heap.size zV32 39 ∧ Below w.heap.size w w2 ∧ w2.heap.size = w.heap.size + 2 := by
  have hz : Blk ((w.alloc (.cells zV32.toArray 39)).alloc (.cells stZ.toArray 206)) (w.heap.size + 1) stZ 206 := Blk.new' _ _ _ _ (by simp)
  have hr : Blk ((w.alloc (.cells zV32.toArray 39)).alloc (.cells stZ.toArray 206)) w.heap.size zV32 39 := (Blk.new w _ _).alloc _
  have hb : Below w.heap.size w ((w.alloc (.cells zV32.toArray 39)).alloc (.cells stZ.toArray 206)) := ((Below.refl _ w).alloc (Nat.le_refl _) _).alloc (by simp) _
  have hbt : But (w.heap.size + 1) ((w.alloc (.cells zV32.toArray 39)).alloc (.cells stZ.toArray 206)) w2 := hw2 ▸ (But.refl _ _).setRow _
  exact ⟨⟨hw2 ▸ hz.row, hs.words, hs.bytes⟩, hbt.blk hr (by omega), hb.trans (hbt.below (by omega)), by rw [hbt.size]; simp⟩
/-- Behind the last block: what is known of the world with the hash's own array. -/
theorem hash_mid2 {w w2 w3 : World} {sf : Value} {n : Nat} {h bl : List Nat} (h2 : Blk w2 w.heap.size zV32 39 ∧ Below w.heap.size w w2 ∧ w2.heap.size = w.heap.size + 2) (hst : St w3 (w.heap.size + 1) sf n h bl) (hbx : Bex (w.heap.size + 1) w2 w3) :
    (w3.alloc (.cells zV32.toArray 39)).rangeAt (w.heap.size + 1) 2 (wvs h) ∧ Blk (w3.alloc (.cells zV32.toArray 39)) w3.heap.size zV32 39 ∧ Blk (w3.alloc (.cells zV32.toArray 39)) w.heap.size zV32 39 ∧ Below w.heap.size w (w3.alloc (.cells zV32.toArray 39)) ∧ w.heap.size < w3.heap.size := by
  have hsz := hbx.size
  refine ⟨?_, Blk.new _ _ _, (hbx.blk h2.1 (by omega)).alloc _, (h2.2.1.trans (hbx.below (by omega) (by omega))).alloc (by omega) _, by omega⟩
  intro j v hj
  have hj8 : j < 8 := by have := (List.getElem?_eq_some_iff.1 hj).1; rwa [wvs_len, hst.words.1] at this
  rw [(hst.alloc _).ch hj8, ← hj, wvs_get (by rw [hst.words.1]; exact hj8)]

set_option maxRecDepth 20000 in
set_option maxHeartbeats 8000000 in
theorem hash_any (g : Nat) (sf : Value) (all : List Nat) (w : World) (hsf : sf.oneCell' = true) (hs : So w g sf all) (hn : all.length ≤ 9223372036854775807) :
    Calls Tryz.prog 157 #[.pointer (some ⟨g, 0, none⟩)] w fun e w' => e = .returned (.agg (bvs (hashL all)).toArray) ∧ Below w.heap.size w w' := by
  have HS := hidp hs
  have HN := hidp hn
  have hz : ∀ w, (zeroValue 206).run Tryz.prog w = .ok (.agg stZ.toArray) w := (zero_of_info (P := Tryz.prog) zero_state).1
  have hz2 := hidp (Blk.new' (w.alloc (.cells zV32.toArray 39)) stZ 206 (w.heap.size + 1) (by simp))
  have hl := hidp ((hs.alloc (.cells zV32.toArray 39)).blk)
  have hlen : Hid ((stL sf all.length (hOf all) (padL (tailL all))).length = 74) := hidp (by rw [stL_len, hs.words.1, hs.bytes.1])
  have hone := hidp (stL_one sf hsf all.length (hOf all) (padL (tailL all)))
  clear hs hn hsf
  go_enter Tryz.func157, Tryz.ntmps157
  go_wp2_with (first | refine wpList_load_blk rfl 206 _ rfl g _ 206 rfl hl.out _ Tryz.underlying206 rfl (by rw [hlen.out]; kernel_rfl) ?_ | (refine wpList_store_blk rfl 206 _ _ rfl (w.heap.size + 1) (stL sf all.length (hOf all) (padL (tailL all))) stZ 206 rfl rfl hz2.out (by rw [hlen.out]; kernel_rfl) (by rw [hlen.out]; rfl) hone.out ?_; intro w2 hw2; have h2 := hidp (hash_mid HS.out hw2.out)) | (go_at_call 211; refine (compress_any (w.heap.size + 1) sf all.length _ _ 0xffffffff w2 h2.out.1 HN.out (by decide)).mono ?_; rintro e w3 ⟨rfl, hst, hbx⟩; rw [last_eq] at hst; have h3 := hidp (hash_mid2 h2.out.2 hst hbx); have hw := hidp hst.words; clear hst hbx) | refine wpList_load_mid rfl 203 _ rfl (w.heap.size + 1) 2 rfl _ _ h3.out.1 Tryz.underlying203 rfl (by rw [wvs_len, hw.out.1]; kernel_rfl) ?_)
  go_loopw [13] (fun x wr => ∃ i : Nat, i ≤ 8 ∧ x = .int .i64 i ∧ Hid (Blk wr w3.heap.size (bvs (partB (lastL all) i)) 39 ∧ Blk wr w.heap.size zV32 39 ∧ Below w.heap.size w wr)) (fun x _ => 8 - (intOf x).toNat)
  case atStart => exact ⟨0, by omega, rfl, by rw [partB_zero]; exact h3.out.2.1, h3.out.2.2.1, h3.out.2.2.2.1⟩
  case round =>
    obtain ⟨i, hi, rfl, hr⟩ := hrel
    have hlt2 := hidp h3.out.2.2.2.2
    by_cases h : i < 8
    · have hix := run_index_word (lastL all) (lastL_words all).1 i h
      have hsl := run_slice_arr (P := Tryz.prog) (t := 39) (e := 5) (n := 32) Tryz.underlying39 (by kernel_rfl) w3.heap.size 0 (l := 4 * i) (h := 4 * i + 4) (by omega) (by omega) (by omega)
      rw [show 4 * i + 4 - 4 * i = 4 by omega, Nat.zero_add] at hsl
      have HP := hidp (putWord_any w3.heap.size (4 * i) (32 - 4 * i) ((lastL all).getD i 0) _ 39 wr hr.out.1 (by rw [bvs_len, partB_len]; omega) ((lastL_words all).get i))
      have hpp := hidp (partB_put (lastL all) h)
      generalize (lastL all).getD i 0 = x at hix HP hpp
      have h := hidp h
      clear h3
      simp only [Int.natCast_mul, Int.natCast_add, Int.cast_ofNat_Int] at hsl
      go_wp2_with (go_at_call 213; refine HP.out.mono ?_; rintro e w5 ⟨rfl, hp1, hp2⟩; have hp := hidp (And.intro hp1 hp2); clear hp1 hp2)
      have h8 := h.out
      refine ⟨⟨i + 1, by omega, by go_num, hidp ⟨?_, hp.out.2.blk hr.out.2.1 ?_, hr.out.2.2.trans (hp.out.2.below ?_)⟩⟩, by simp [intOf]; omega⟩
      · rw [← hpp.out]; exact hp.out.1
      · have := hlt2.out; omega
      · have := hlt2.out; omega
    · obtain rfl : i = 8 := by omega
      clear h3 hl
      have hb := hidp (partB_all (lastL all) ▸ hr.out.1)
      go_wp2_with (first | refine wpList_load_blk rfl 39 _ rfl w3.heap.size (bvs (hashL all)) 39 rfl hb.out _ Tryz.underlying39 rfl (by rw [bvs_len, hashL_len]; kernel_rfl) ?_ | (refine wpList_store_blk rfl 39 _ _ rfl w.heap.size (bvs (hashL all)) zV32 39 rfl rfl hr.out.2.1 (by rw [bvs_len, hashL_len]; kernel_rfl) (by rw [bvs_len, hashL_len]; rfl) (bvs_one _) ?_; intro w6 hw6))
      have b2 : Blk w6 w.heap.size (bvs (hashL all)) 39 := by rw [hw6.out]; exact hr.out.2.1.row
      refine bodyPost_ret (v := .agg (bvs (hashL all)).toArray) ?_ rfl ⟨rfl, ?_⟩
      · exact results_cell_row Tryz.results157 _ _ w.heap.size 39 _ (0, 0) _ rfl b2 Tryz.underlying39 rfl (by rw [List.size_toArray, bvs_len, hashL_len]; kernel_rfl)
      · rw [hw6.out]; exact below_setRow hr.out.2.2 (Nat.le_refl _) _
end Go.Proofs.YtcmkmnidnapabaaGreat

/-! Hm: Contracts: the hash of bytes; a state's methods. -/
namespace Go.Proofs.YtcmkmnidnapabaaGreat
open Go.RowKit Go.Lib

theorem Bsl.other {w : World} {p : Option Addr} {bb bo cap : Nat} {bs : List Nat} (h : Bsl w p bb bo bs cap) (g : Nat) (hg : w.heap.size ≤ g) : ∃ b', Bsl w p b' bo bs cap ∧ b' ≠ g := by
  by_cases h0 : 0 < bs.length
  · exact ⟨bb, h, by have := (h.ptr h0).2; omega⟩
  · exact ⟨g + 1, ⟨h.byte, h.le, fun h1 => absurd h1 h0, fun i hi => absurd hi (by omega)⟩, by omega⟩
theorem Bsl.below {w w' : World} {p : Option Addr} {bb bo cap : Nat} {bs : List Nat} (h : Bsl w p bb bo bs cap) (hB : Below w.heap.size w w') : Bsl w' p bb bo bs cap :=
  ⟨h.byte, h.le, fun h1 => ⟨(h.ptr h1).1, Nat.lt_of_lt_of_le (h.ptr h1).2 hB.size⟩, fun i hi => (hB.cell (p := ⟨bb, bo + i, none⟩) (h.ptr (by omega)).2).trans (h.here i hi)⟩
theorem Bsl.bex {g : Nat} {w w' : World} {p : Option Addr} {bb bo cap : Nat} {bs : List Nat} (h : Bsl w p bb bo bs cap) (hB : Bex g w w') (hne : bb ≠ g) : Bsl w' p bb bo bs cap := by
  refine ⟨h.byte, h.le, fun h1 => ⟨(h.ptr h1).1, Nat.lt_of_lt_of_le (h.ptr h1).2 hB.size⟩, fun i hi => ?_⟩
  rw [← h.here i hi]
  simp only [World.cell?]
  rw [hB.block bb (h.ptr (by omega)).2 hne]

/-- A new state laid behind 'start'. -/
theorem new_mid {w w1 w2 : World} (hB : Below w.heap.size w w1) (hw2 : w2 = (w1.alloc (.cells stZ.toArray 206)).setRow w1.heap.size stS.toArray) :
    So w2 w1.heap.size (.pointer none) [] ∧ Below w.heap.size w w2 ∧ w2.heap.size = w1.heap.size + 1 := by
  have hbt : But w1.heap.size (w1.alloc (.cells stZ.toArray 206)) w2 := hw2 ▸ (But.refl _ _).setRow _
  exact ⟨So_nil (hw2 ▸ Blk.row (Blk.new w1 stZ _)), (hB.alloc hB.size _).trans (hbt.below hB.size), by rw [hbt.size]; simp⟩
theorem sum_mid {w w1 w2 w3 : World} (hB : Below (w.alloc (.cells zV32.toArray 39)).heap.size (w.alloc (.cells zV32.toArray 39)) w1)
    (h2 : Below (w.alloc (.cells zV32.toArray 39)).heap.size (w.alloc (.cells zV32.toArray 39)) w2) (hs : w2.heap.size = w1.heap.size + 1) (hbx : Bex w1.heap.size w2 w3) : Below (w.heap.size + 1) (w.alloc (.cells zV32.toArray 39)) w3 ∧ w.heap.size + 1 ≤ w3.heap.size := by
  have hsz : (w.alloc (.cells zV32.toArray 39)).heap.size = w.heap.size + 1 := by simp
  rw [hsz] at hB h2
  have h1 := hB.size
  rw [hsz] at h1
  have h3 := hbx.size
  exact ⟨h2.trans (hbx.below h1 (by omega)), by omega⟩

set_option maxRecDepth 20000 in
set_option maxHeartbeats 8000000 in
theorem sum_any (bs : List Nat) (p : Option Addr) (bb bo cap : Nat) (w : World) (hb : Bsl w p bb bo bs cap) (hn : bs.length ≤ 9223372036854775807) :
    Calls Tryz.prog 84 #[.slice p bs.length cap] w fun e w' => e = .returned (.agg (bvs (hashL bs)).toArray) ∧ Below w.heap.size w w' := by
  have HB := hidp hb
  have HN := hidp hn
  have hz : ∀ w, (zeroValue 206).run Tryz.prog w = .ok (.agg stZ.toArray) w := (zero_of_info (P := Tryz.prog) zero_state).1
  have hr0 := hidp (Blk.new w zV32 39)
  have hbel0 : Hid (Below w.heap.size w (w.alloc (.cells zV32.toArray 39))) := hidp ((Below.refl _ w).alloc (Nat.le_refl _) _)
  have hsz0 : Hid ((w.alloc (.cells zV32.toArray 39)).heap.size = w.heap.size + 1) := hidp (by simp)
  clear hb hn
  go_enter Tryz.func84, Tryz.ntmps84
  go_wp2_with fail
  refine (start_any _).mono ?_
  rintro e w1 ⟨rfl, hB1⟩
  have hB1 := hidp hB1
  have hB1 : Hid (Below (w.alloc (.cells zV32.toArray 39)).heap.size (w.alloc (.cells zV32.toArray 39)) w1) := hB1
  have hz1 := hidp (Blk.new w1 stZ 206)
  go_wp2_with ((refine wpList_store_blk rfl 206 _ _ rfl w1.heap.size stS stZ 206 rfl rfl hz1.out (by kernel_rfl) rfl (stL_one _ rfl _ _ _) ?_; intro w2 hw2; have h2 := hidp (new_mid hB1.out hw2.out)))
  have hw2 : Hid (Below w.heap.size w w2 ∧ w.heap.size + 1 ≤ w1.heap.size) := by
    have h1 := hB1.out.size
    rw [hsz0.out] at h1
    exact hidp ⟨hbel0.out.trans (h2.out.2.1.mono (by rw [hsz0.out]; omega)), h1⟩
  obtain ⟨b', hb', hne⟩ := HB.out.other w1.heap.size (by have := hw2.out.2; omega)
  refine (take_any w1.heap.size (.pointer none) [] bs p b' bo cap w2 h2.out.1 (hb'.below hw2.out.1) hne (by simp) (by have := HN.out; simpa using this)).mono ?_
  rintro e w3 ⟨rfl, hso, hbx⟩
  rw [List.nil_append] at hso
  have h3 := hidp (sum_mid hB1.out h2.out.2.1 h2.out.2.2 hbx)
  have hso := hidp hso
  clear hbx hb' hne
  go_wp2_with fail
  refine (hash_any w1.heap.size (.pointer none) bs w3 rfl hso.out HN.out).mono ?_
  rintro e w4 ⟨rfl, hB4⟩
  have h4 : Hid (Blk w4 w.heap.size zV32 39 ∧ Below w.heap.size w w4) := hidp ⟨(hr0.out.below h3.out.1 (by omega)).below hB4 (by have := h3.out.2; omega), (hbel0.out.trans (h3.out.1.mono (by omega))).trans (hB4.mono (by have := h3.out.2; omega))⟩
  clear hB4
  go_wp2_with ((refine wpList_store_blk rfl 39 _ _ rfl w.heap.size (bvs (hashL bs)) zV32 39 rfl rfl h4.out.1 (by rw [bvs_len, hashL_len]; kernel_rfl) (by rw [bvs_len, hashL_len]; rfl) (bvs_one _) ?_; intro w6 hw6))
  have b2 : Blk w6 w.heap.size (bvs (hashL bs)) 39 := by rw [hw6.out]; exact h4.out.1.row
  refine bodyPost_ret (v := .agg (bvs (hashL bs)).toArray) ?_ rfl ⟨rfl, ?_⟩
  · exact results_cell_row Tryz.results84 _ _ w.heap.size 39 _ (0, 0) _ rfl b2 Tryz.underlying39 rfl (by rw [List.size_toArray, bvs_len, hashL_len]; kernel_rfl)
  · rw [hw6.out]; exact below_setRow h4.out.2 (Nat.le_refl _) _

/-! States that New returned. -/
def ptrV (g : Nat) : Value := .pointer (some ⟨g, 0, none⟩)
end Go.Proofs.YtcmkmnidnapabaaGreat
