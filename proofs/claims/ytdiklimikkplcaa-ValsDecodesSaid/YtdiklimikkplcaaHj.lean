/-
  Contract: a state takes bytes.
-/
import Derived.Test.YtdiklimikkplcaaHh
import Derived.Test.YtdiklimikkplcaaHi
import Derived.Great.BuildSlice
namespace Go.Proofs.Ytdiklimikkplcaa
open Go.RowKit Go.Lib

theorem wpList_store_part {P : Program} {ops : Array Oper} {rest : List Oper} {o : Oper} {a : Act} {w : World} {Q : Exit → Act → World → Prop} (hgd : o.guard = none) (ty : TypeId) (x y : Operand) (ho : o.op = .store ty x y)
    (b off : Nat) (cs old : List Value) (T : TypeId) (hx : a.eval x = .pointer (some ⟨b, off, none⟩)) (hy : a.eval y = .agg cs.toArray) (hb : Blk w b old T)
    (hi : (P.info? ty).map (·.size) = some cs.length) (hfit : off + cs.length ≤ old.length) (h1 : ∀ v ∈ cs, v.oneCell' = true) (hd : o.dst = none)
    (h : ∀ w', Hid (Blk w' b (splice old off cs) T ∧ But b w w') → wpList P ops Q rest a w') : wpList P ops Q (o :: rest) a w := by
  refine wpList_plain hgd fun K hK => ?_
  have hst := run_storeCells_at P b off T cs 0 old.toArray w hb (by simpa using hfit) h1
  have hrun : (storeVar ty ⟨b, off, none⟩ (.agg cs.toArray)).run P w = .ok () (w.setRow b (old.take off ++ cs ++ old.drop (off + cs.length)).toArray) := by
    cases hq : P.info? ty with
    | none => simp [hq] at hi
    | some i =>
      have hs : cs.length = i.size := by simp [hq] at hi; omega
      simp only [Nat.add_zero] at hst
      simp [storeVar, sizeOf, typeInfo, hq, Value.cells, hs, hst]
  unfold Oper.wp execOp
  simp only [ho, hx, hy, Instr.storeAt, Instr.sureAddr, Sem.run_bind, Sem.run_pure, Result.andThen_ok, hrun]
  have hput : a.put o.dst undef = a := by rw [hd]; rfl
  refine Eq.mpr (congrArg (fun z => K z _) hput) (hK _ _ (h _ (hidp ⟨?_, (But.refl b w).setRow _⟩)))
  have := Blk.row (cs := splice old off cs) hb
  unfold splice at this ⊢
  rw [← List.append_assoc] at this ⊢
  exact this
theorem splice_clear {sf : Value} {n : Nat} {h x : List Nat} (h8 : h.length = 8) (hx : x.length = 64) : splice (stL sf n h x) 10 (bvs (List.replicate 64 0)) = stL sf n h (padL []) := by
  unfold splice stL
  have hw : (wvs h).length = 8 := by rw [wvs_len, h8]
  have hb : (bvs x).length = 64 := by rw [bvs_len, hx]
  rw [List.take_succ_cons, List.take_succ_cons, List.take_append, List.take_of_length_le (by omega), hw, Nat.sub_self, List.take_zero, List.append_nil, bvs_len, List.length_replicate, List.drop_eq_nil_of_le (by simp [hw, hb]), List.append_nil, padL_nil]
  rfl
theorem splice_st {sf : Value} {n : Nat} {h x piece : List Nat} (h8 : h.length = 8) (hl : x.length + piece.length ≤ 64) : splice (stL sf n h (padL x)) (10 + x.length) (bvs piece) = stL sf n h (padL (x ++ piece)) := by
  rw [← splice_pad hl]
  unfold splice stL
  rw [show 10 + x.length = (8 + x.length) + 1 + 1 by omega, List.take_succ_cons, List.take_succ_cons, bvs_len, show (8 + x.length) + 1 + 1 + piece.length = (8 + x.length + piece.length) + 1 + 1 by omega, List.drop_succ_cons, List.drop_succ_cons]
  have hw : (wvs h).length = 8 := by rw [wvs_len, h8]
  rw [List.take_append, List.take_of_length_le (by omega), hw, show 8 + x.length - 8 = x.length by omega, List.drop_append, List.drop_eq_nil_of_le (by omega), List.nil_append, hw, show 8 + x.length + piece.length - 8 = x.length + piece.length by omega]
  simp only [List.cons_append, List.append_assoc]
  unfold bvs
  rw [List.map_append, List.map_append, List.map_take, List.map_drop]
/-- The state at the end of a round. -/
theorem So.next {w : World} {g : Nat} {sf : Value} {cur piece h x : List Nat} (hb : Blk w g (stL sf (cur.length + piece.length) h (padL (x ++ piece))) 139) (h1 : hOf (cur ++ piece) = h) (h2 : tailL (cur ++ piece) = x ++ piece) (hx : ∀ y ∈ x ++ piece, y < 256) : So w g sf (cur ++ piece) := by
  have h3 := tailL_len (cur ++ piece)
  have h4 := filledN_le (cur ++ piece).length
  rw [h2] at h3
  unfold So
  rw [h1, h2, List.length_append]
  exact ⟨hb, h1 ▸ hOf_words _, padL_bytes (by omega) hx⟩

set_option maxRecDepth 20000 in
set_option maxHeartbeats 8000000 in
theorem take_any (g : Nat) (sf : Value) (all bs : List Nat) (p : Option Addr) (bb bo cap : Nat) (w : World) (hs : So w g sf all) (hb : Bsl w p bb bo bs cap) (hne : bb ≠ g) (ha : ∀ y ∈ all, y < 256) (hn : all.length + bs.length ≤ 9223372036854775807) :
    Calls Try.prog 112 #[.pointer (some ⟨g, 0, none⟩), .slice p bs.length cap] w fun e w' => e = .returned (.tuple #[]) ∧ So w' g sf (all ++ bs) ∧ Bex g w w' := by
  have HS := hidp hs
  have HB := hidp hb
  have HN := hidp hn
  have HE := hidp hne
  have HA : Hid (∀ y ∈ all, y < 256) := hidp ha
  clear hs hb hn hne ha
  go_enter Try.func112, Try.ntmps112
  go_wp2
  go_loopw [1] (fun x wr => ∃ (k : Nat) (q : Option Addr) (c : Nat), k ≤ bs.length ∧ x = .slice q (bs.length - k) c ∧ Hid (bs.length - k ≤ c ∧ (k < bs.length → q = some ⟨bb, bo + k, none⟩) ∧ So wr g sf (all ++ bs.take k) ∧ Bex g w wr)) (fun x _ => (match x with | .slice _ l _ => l | _ => 0))
  case atStart => exact ⟨0, p, cap, by omega, rfl, HB.out.le, fun h => (HB.out.ptr h).1, by rw [List.take_zero, List.append_nil]; exact HS.out, Bex.refl g w⟩
  case round =>
    obtain ⟨k, q, c, hk, rfl, hr⟩ := hrel
    by_cases hlt : k < bs.length
    · have hq := hr.out.2.1 hlt
      subst hq
      obtain ⟨cur, hcur⟩ : ∃ r, r = all ++ bs.take k := ⟨_, rfl⟩
      have hcl : cur.length = all.length + k := by rw [hcur, List.length_append, List.length_take]; omega
      have hcb : ∀ y ∈ cur, y < 256 := by
        intro y hy
        rw [hcur] at hy
        rcases List.mem_append.1 hy with hy | hy
        · exact HA.out y hy
        · exact HB.out.byte y (List.mem_of_mem_take hy)
      have hr2 : Hid (So wr g sf cur ∧ Bex g w wr ∧ bs.length - k ≤ c) := hidp ⟨hcur ▸ hr.out.2.2.1, hr.out.2.2.2, hr.out.1⟩
      have hnn : cur.length ≤ 9223372036854775807 := by have := HN.out; omega
      have hnext : ∀ m : Nat, cur ++ (bs.drop k).take m = all ++ bs.take (k + m) := by
        intro m
        rw [hcur, List.append_assoc, List.take_add]
      have hlen : (0 : Int) < ((bs.length - k : Nat) : Int) := by omega
      have HK := hidp (And.intro hlt hcl)
      have HCB := hidp hcb
      have hnext := hidp hnext
      have hnn := hidp hnn
      clear hr hcur hcl hcb hlt hk
      generalize hl : bs.length - k = l at hlen hr2
      have HL := hidp hl
      clear hl
      have hfl := filledN_le cur.length
      by_cases h64 : filledN cur.length = 64
      · have hc1 := hr2.out.1.c1
        have HF := hidp (fun w hc => h64 ▸ filled_any g cur.length w hnn.out hc)
        have h64 := hidp h64
        go_wp2_with (go_at_call 165; refine (HF.out _ hc1).mono ?_; rintro e wx ⟨rfl, rfl⟩)
        have hcmp := compress_any g sf cur.length _ _ 0 wx hr2.out.1 hnn.out (by decide)
        rw [hOf_full h64.out] at hcmp
        refine hcmp.mono ?_
        clear hcmp HF hc1
        rintro e w2 ⟨rfl, hst, hbx⟩
        have h2 := hidp (And.intro hst (hr2.out.2.1.trans hbx))
        clear hst hbx
        go_wp2_with (first | refine wpList_buildTo rfl 137 _ rfl _ rfl (bvs (List.replicate 64 0)).toArray (by kernel_rfl) ?_ | (refine wpList_store_part rfl 137 _ _ rfl g 10 (bvs (List.replicate 64 0)) _ 139 rfl rfl h2.out.1.blk (by kernel_rfl) (by rw [stL_len, bvs_len, h2.out.1.words.1, h2.out.1.bytes.1, List.length_replicate]; decide) (bvs_oneL _) rfl ?_; intro w3 h3))
        obtain ⟨x, hx⟩ : ∃ x : List Nat, x = [] := ⟨_, rfl⟩
        obtain ⟨hA, hhA⟩ : ∃ r, r = fullL cur (aheadL cur.length + 1) := ⟨_, rfl⟩
        have h4 : Hid (St w3 g sf cur.length hA (padL x) ∧ Bex g w w3) := by
          have e := splice_clear (sf := sf) (n := cur.length) (h := hA) (x := padL (tailL cur)) (hhA ▸ (fullL_words _ _).1) h2.out.1.bytes.1
          rw [← hhA] at h2 h3
          refine hidp ⟨⟨?_, h2.out.1.words, hx ▸ padL_bytes (by simp) (by simp)⟩, h2.out.2.trans (Bex.of_but h3.out.2)⟩
          rw [hx, ← e]; exact h3.out.1
        have hoff : filledN cur.length % 64 = x.length := by rw [h64.out, hx]; rfl
        have hx64 : x.length < 64 := by rw [hx]; decide
        have hmore : ∀ piece : List Nat, 0 < piece.length → piece.length ≤ 64 - x.length → hOf (cur ++ piece) = hA ∧ tailL (cur ++ piece) = x ++ piece := by
          intro piece h1 h2
          rw [hx, hhA]
          exact more_full h64.out h1 (by omega)
        have hxb : ∀ y ∈ x, y < 256 := by rw [hx]; simp
        clear h2 h3 hhA hx h64
        obtain ⟨m, hm⟩ : ∃ m, m = Nat.min l (64 - x.length) := ⟨_, rfl⟩
        obtain ⟨piece, hpc⟩ : ∃ r, r = (bs.drop k).take m := ⟨_, rfl⟩
        have hml : m ≤ l := by rw [hm]; exact Nat.min_le_left _ _
        have hmx : m ≤ 64 - x.length := by rw [hm]; exact Nat.min_le_right _ _
        have hm0 : 0 < m := by
          rw [hm]
          exact Nat.lt_min.2 ⟨by omega, by omega⟩
        have hpl : piece.length = m := by rw [hpc, List.length_take, List.length_drop]; have := HL.out; omega
        have hpx : ∀ y ∈ x ++ piece, y < 256 := by
          intro y hy
          rcases List.mem_append.1 hy with hy | hy
          · exact hxb y hy
          · exact HB.out.byte y (by rw [hpc] at hy; exact List.mem_of_mem_drop (List.mem_of_mem_take hy))
        have hmr := hidp (hmore piece (by omega) (by omega))
        have hnx := hidp (hnext.out m)
        rw [← hpc] at hnx
        have hge : ∀ j, j < m → piece.getD j 0 = bs.getD (k + j) 0 := by
          intro j hj
          rw [hpc, List.getD_eq_getElem?_getD, List.getD_eq_getElem?_getD, List.getElem?_take, if_pos hj, List.getElem?_drop]
        have hsl := run_slice_arr_l (P := Try.prog) (t := 137) (e := 5) (n := 64) Try.underlying137 (by kernel_rfl) g 10 hx64
        have hmod : ((filledN cur.length : Nat) : Int).tmod 64 = ((x.length : Nat) : Int) := by rw [Int.tmod_eq_emod_of_nonneg (by omega)]; omega
        have HF2 := hidp (fun w hc => filled_any g cur.length w hnn.out hc)
        generalize filledN cur.length = fl at hmod HF2
        have HP := hidp (And.intro hm (And.intro hml (And.intro hmx (And.intro hm0 hpl))))
        have HG := hidp hge
        have HX := hidp hpx
        have HX64 := hidp hx64
        clear hm hml hmx hm0 hpl hge hpx hx64 hoff hmore hxb hpc hfl
        refine region_tail 10 (by kernel_rfl) (by kernel_rfl) ?_
        intro wd hwd
        have h5 : Hid (St wd g sf cur.length hA (padL x) ∧ Bex g w wd) := hwd.out.symm ▸ hidp ⟨h4.out.1.drew, h4.out.2.drew⟩
        clear h4 hwd
        have hc5 := hidp h5.out.1.c1
        simp only [List.take_succ_cons, List.take_zero, List.drop_succ_cons, List.drop_zero]
        repeat still_step
        still_call (HF2.out _ hc5.out)
        repeat still_step
        try refine wpStill_nil ?_
        refine (wpList_copy_blk rfl (.tmp 27) (.tmp 28) 32 32 rfl 5 Try.underlying32 (by kernel_rfl) g (10 + x.length) (64 - x.length) (64 - x.length) ⟨bb, bo + k, none⟩ l c rfl rfl _ 139 h5.out.1.blk (bvs piece) ?kAX ?kBX ?kCX (bvs_oneL _) ?kDX)
        case kAX => rw [bvs_len, HP.out.2.2.2.2]; exact HP.out.1
        case kBX =>
          intro j v hj
          have hjm : j < m := by have := (List.getElem?_eq_some_iff.1 hj).1; rwa [bvs_len, HP.out.2.2.2.2] at this
          have hkj : k + j < bs.length := by have := HL.out; have := HP.out.2.1; have := HK.out; omega
          have hbbl := (HB.out.ptr (by omega)).2
          rw [Addr.add_mid, ← hj, bvs_get (by rw [HP.out.2.2.2.2]; exact hjm), HG.out j hjm, show bo + k + j = bo + (k + j) by omega, ← HB.out.here (k + j) hkj]
          simp only [World.cell?]
          rw [h5.out.2.block bb hbbl HE.out]
        case kCX =>
          rw [stL_len, bvs_len, h5.out.1.words.1, h5.out.1.bytes.1]
          have := HP.out; have := HX64.out; omega
        intro w6 h6
        have hsp := splice_st (sf := sf) (n := cur.length) (h := hA) (x := x) (piece := piece) h5.out.1.words.1 (by have := HP.out; have := HX64.out; omega)
        have h7 : Hid (Blk w6 g (stL sf cur.length hA (padL (x ++ piece))) 139 ∧ Bex g w w6) := hidp ⟨hsp ▸ h6.out.1, h5.out.2.trans (Bex.of_but h6.out.2)⟩
        clear hsp h6 h5 hsl hmod HF2
        have hct := hidp (fun hc hf => count_any g cur.length m w6 (by have := HP.out; have := HK.out; have := HL.out; have := HN.out; omega) hc hf)
        have hgi : goInt ↑(bvs piece).length = .int .i64 (m : Nat) := by rw [bvs_len, HP.out.2.2.2.2]; rfl
        rw [hgi]
        clear hgi
        have hk1 := hidp ((h7.out.1.cell 1).trans (stL_1 _ _ _ _))
        have hf1 := hidp (h7.out.1.free 1)
        have hmi : (m : Int) ≤ (l : Int) := by have := HP.out.2.1; omega
        go_wp2_with (go_at_call 167; refine (hct.out hk1.out hf1.out).mono ?_; rintro e w8 ⟨rfl, hw8⟩; have hw8 := hidp hw8)
        have h9 : Hid (So (w6.setCell ⟨g, 1, none⟩ (.int .i64 (cur.length + m : Nat))) g sf (cur ++ piece) ∧ Bex g w (w6.setCell ⟨g, 1, none⟩ (.int .i64 (cur.length + m : Nat)))) := by
          refine hidp ⟨So.next ?_ hmr.out.1 hmr.out.2 HX.out, h7.out.2.setCell _ _⟩
          rw [HP.out.2.2.2.2]
          exact h7.out.1.set 1 _
        have hkl := HL.out
        have hp := HP.out
        refine ⟨⟨k + m, if c = m then some ⟨bb, bo + k, none⟩ else some ⟨bb, bo + k + m, none⟩, c - m, by omega, ?_, hidp ⟨by have := hr2.out.2.2; omega, ?_, ?_, h9.out.2⟩⟩, ?_⟩
        · rw [show bs.length - (k + m) = l - m by omega]
        · intro hlt2
          have hc := hr2.out.2.2
          rw [if_neg (by omega), Nat.add_assoc]
        · rw [← hnx.out]; exact h9.out.1
        · show l - m < l
          omega
      · have hc1 := hr2.out.1.c1
        have HF := hidp (fun w hc => filled_any g cur.length w hnn.out hc)
        have ht : (((filledN cur.length : Nat) : Int) == 64) = false := by rw [beq_eq_false_iff_ne]; omega
        have ht := hidp ht
        have h4 : Hid (St wr g sf cur.length (hOf cur) (padL (tailL cur)) ∧ Bex g w wr) := hidp ⟨hr2.out.1, hr2.out.2.1⟩
        have htl := tailL_len cur
        have hoff : filledN cur.length % 64 = (tailL cur).length := by omega
        have hx64 : (tailL cur).length < 64 := by omega
        have hmore : ∀ piece : List Nat, 0 < piece.length → piece.length ≤ 64 - (tailL cur).length → hOf (cur ++ piece) = hOf cur ∧ tailL (cur ++ piece) = tailL cur ++ piece :=
          fun piece h1 h2 => more_part (by omega) h1 (by omega)
        have hxb : ∀ y ∈ tailL cur, y < 256 := fun y hy => HCB.out y (List.mem_of_mem_drop hy)
        clear htl h64
        generalize hOf cur = hA at h4 hmore
        generalize tailL cur = x at h4 hoff hx64 hmore hxb
        have hoff := hidp hoff
        have hx64 := hidp hx64
        have hfl := hidp hfl
        have ht := ht.out
        go_wp2_with (go_at_call 165; refine (HF.out _ hc1).mono ?_; rintro e wx ⟨rfl, rfl⟩)
        have hoff := hoff.out
        have hx64 := hx64.out
        have hfl := hfl.out
        obtain ⟨m, hm⟩ : ∃ m, m = Nat.min l (64 - x.length) := ⟨_, rfl⟩
        obtain ⟨piece, hpc⟩ : ∃ r, r = (bs.drop k).take m := ⟨_, rfl⟩
        have hml : m ≤ l := by rw [hm]; exact Nat.min_le_left _ _
        have hmx : m ≤ 64 - x.length := by rw [hm]; exact Nat.min_le_right _ _
        have hm0 : 0 < m := by
          rw [hm]
          exact Nat.lt_min.2 ⟨by omega, by omega⟩
        have hpl : piece.length = m := by rw [hpc, List.length_take, List.length_drop]; have := HL.out; omega
        have hpx : ∀ y ∈ x ++ piece, y < 256 := by
          intro y hy
          rcases List.mem_append.1 hy with hy | hy
          · exact hxb y hy
          · exact HB.out.byte y (by rw [hpc] at hy; exact List.mem_of_mem_drop (List.mem_of_mem_take hy))
        have hmr := hidp (hmore piece (by omega) (by omega))
        have hnx := hidp (hnext.out m)
        rw [← hpc] at hnx
        have hge : ∀ j, j < m → piece.getD j 0 = bs.getD (k + j) 0 := by
          intro j hj
          rw [hpc, List.getD_eq_getElem?_getD, List.getD_eq_getElem?_getD, List.getElem?_take, if_pos hj, List.getElem?_drop]
        have hsl := run_slice_arr_l (P := Try.prog) (t := 137) (e := 5) (n := 64) Try.underlying137 (by kernel_rfl) g 10 hx64
        have hmod : ((filledN cur.length : Nat) : Int).tmod 64 = ((x.length : Nat) : Int) := by rw [Int.tmod_eq_emod_of_nonneg (by omega)]; omega
        have HF2 := hidp (fun w hc => filled_any g cur.length w hnn.out hc)
        generalize filledN cur.length = fl at hmod HF2
        have HP := hidp (And.intro hm (And.intro hml (And.intro hmx (And.intro hm0 hpl))))
        have HG := hidp hge
        have HX := hidp hpx
        have HX64 := hidp hx64
        clear hm hml hmx hm0 hpl hge hpx hx64 hoff hmore hxb hpc hfl
        refine region_tail 10 (by kernel_rfl) (by kernel_rfl) ?_
        intro wd hwd
        have h5 : Hid (St wd g sf cur.length hA (padL x) ∧ Bex g w wd) := hwd.out.symm ▸ hidp ⟨h4.out.1.drew, h4.out.2.drew⟩
        clear h4 hwd
        have hc5 := hidp h5.out.1.c1
        simp only [List.take_succ_cons, List.take_zero, List.drop_succ_cons, List.drop_zero]
        repeat still_step
        still_call (HF2.out _ hc5.out)
        repeat still_step
        try refine wpStill_nil ?_
        refine (wpList_copy_blk rfl (.tmp 27) (.tmp 28) 32 32 rfl 5 Try.underlying32 (by kernel_rfl) g (10 + x.length) (64 - x.length) (64 - x.length) ⟨bb, bo + k, none⟩ l c rfl rfl _ 139 h5.out.1.blk (bvs piece) ?kEX ?kFX ?kGX (bvs_oneL _) ?kHX)
        case kEX => rw [bvs_len, HP.out.2.2.2.2]; exact HP.out.1
        case kFX =>
          intro j v hj
          have hjm : j < m := by have := (List.getElem?_eq_some_iff.1 hj).1; rwa [bvs_len, HP.out.2.2.2.2] at this
          have hkj : k + j < bs.length := by have := HL.out; have := HP.out.2.1; have := HK.out; omega
          have hbbl := (HB.out.ptr (by omega)).2
          rw [Addr.add_mid, ← hj, bvs_get (by rw [HP.out.2.2.2.2]; exact hjm), HG.out j hjm, show bo + k + j = bo + (k + j) by omega, ← HB.out.here (k + j) hkj]
          simp only [World.cell?]
          rw [h5.out.2.block bb hbbl HE.out]
        case kGX =>
          rw [stL_len, bvs_len, h5.out.1.words.1, h5.out.1.bytes.1]
          have := HP.out; have := HX64.out; omega
        intro w6 h6
        have hsp := splice_st (sf := sf) (n := cur.length) (h := hA) (x := x) (piece := piece) h5.out.1.words.1 (by have := HP.out; have := HX64.out; omega)
        have h7 : Hid (Blk w6 g (stL sf cur.length hA (padL (x ++ piece))) 139 ∧ Bex g w w6) := hidp ⟨hsp ▸ h6.out.1, h5.out.2.trans (Bex.of_but h6.out.2)⟩
        clear hsp h6 h5 hsl hmod HF2
        have hct := hidp (fun hc hf => count_any g cur.length m w6 (by have := HP.out; have := HK.out; have := HL.out; have := HN.out; omega) hc hf)
        have hgi : goInt ↑(bvs piece).length = .int .i64 (m : Nat) := by rw [bvs_len, HP.out.2.2.2.2]; rfl
        rw [hgi]
        clear hgi
        have hk1 := hidp ((h7.out.1.cell 1).trans (stL_1 _ _ _ _))
        have hf1 := hidp (h7.out.1.free 1)
        have hmi : (m : Int) ≤ (l : Int) := by have := HP.out.2.1; omega
        go_wp2_with (go_at_call 167; refine (hct.out hk1.out hf1.out).mono ?_; rintro e w8 ⟨rfl, hw8⟩; have hw8 := hidp hw8)
        have h9 : Hid (So (w6.setCell ⟨g, 1, none⟩ (.int .i64 (cur.length + m : Nat))) g sf (cur ++ piece) ∧ Bex g w (w6.setCell ⟨g, 1, none⟩ (.int .i64 (cur.length + m : Nat)))) := by
          refine hidp ⟨So.next ?_ hmr.out.1 hmr.out.2 HX.out, h7.out.2.setCell _ _⟩
          rw [HP.out.2.2.2.2]
          exact h7.out.1.set 1 _
        have hkl := HL.out
        have hp := HP.out
        refine ⟨⟨k + m, if c = m then some ⟨bb, bo + k, none⟩ else some ⟨bb, bo + k + m, none⟩, c - m, by omega, ?_, hidp ⟨by have := hr2.out.2.2; omega, ?_, ?_, h9.out.2⟩⟩, ?_⟩
        · rw [show bs.length - (k + m) = l - m by omega]
        · intro hlt2
          have hc := hr2.out.2.2
          rw [if_neg (by omega), Nat.add_assoc]
        · rw [← hnx.out]; exact h9.out.1
        · show l - m < l
          omega
    · have hk2 : bs.length - k = 0 := by omega
      obtain rfl : k = bs.length := by omega
      rw [hk2]
      go_wp2
      go_end0
      have h := hr.out.2.2.1
      rw [List.take_length] at h
      exact ⟨rfl, h, hr.out.2.2.2⟩
end Go.Proofs.Ytdiklimikkplcaa
