/-
  The walk of BlakeTexts.
-/
import Derived.Test.YthcgenlhblbjaaaHu
import Derived.Test.YthcgenlhblbjaaaHv
namespace Go.Proofs.Ythcgenlhblbjaaa
open Go.RowKit Go.Lib

/-- All is as it was, and boxes hold hashes. -/
def Bh (w w' : World) (L : List (Nat × List Nat)) : Prop := Below w.heap.size w w' ∧ ∀ p ∈ L, Blk w' p.1 (bvs p.2) 26
theorem Bh.step {w w1 w2 : World} {L : List (Nat × List Nat)} (h : Bh w w1 L) (k : Below w1.heap.size w1 w2) : Bh w w2 L := ⟨h.1.trans (k.mono h.1.size), fun p hp => (h.2 p hp).below k (h.2 p hp).lt⟩
theorem Bh.drew {w w1 : World} {L : List (Nat × List Nat)} (h : Bh w w1 L) : Bh w w1.drew L := ⟨h.1.drew, fun p hp => (h.2 p hp).drew⟩
theorem Bh.box {w w1 w2 : World} {L : List (Nat × List Nat)} {x : List Nat} (h : Bh w w1 L) (hw2 : w2 = (w1.alloc (.cells z32.toArray 26)).setRow w1.heap.size (bvs x).toArray) : Bh w w2 ((w1.heap.size, x) :: L) := by
  have q := box_mid (h := x) h.1 hw2
  refine ⟨q.1, fun p hp => ?_⟩
  rcases List.mem_cons.1 hp with rfl | hp
  · exact q.2.2
  · exact (h.2 p hp).below q.2.1 (h.2 p hp).lt
theorem Bh.range {w w1 : World} {L : List (Nat × List Nat)} (h : Bh w w1 L) {b : Nat} {x : List Nat} (hm : (b, x) ∈ L) : w1.rangeAt b 0 (bvs x) := fun j v hj => by rw [Nat.zero_add]; exact ((h.2 _ hm).cell j).trans hj
theorem Bh.first (w : World) (a b : List Nat) : Bh w ((w.alloc (.cells (bvs a).toArray 26)).alloc (.cells (bvs b).toArray 26)) [(w.heap.size, a), (w.heap.size + 1, b)] := by
  refine ⟨((Below.refl _ w).alloc (Nat.le_refl _) _).alloc (by simp) _, fun p hp => ?_⟩
  simp only [List.mem_cons, List.not_mem_nil, or_false] at hp
  rcases hp with rfl | rfl
  · exact (Blk.new w _ _).alloc _
  · exact Blk.new' _ _ _ _ (by simp)

set_option linter.unusedSimpArgs false
set_option maxRecDepth 20000 in
set_option maxHeartbeats 16000000 in
theorem lawTexts_w (a b : List Nat) (s : ByteArray) (w : World) (ha : Bytes 32 a) (hb : Bytes 32 b) (_hs : s.size ≤ 9223372036854775807) :
    Calls Try.prog 8 #[.agg (bvs a).toArray, .agg (bvs b).toArray, .string s] w fun e w' => e = .returned (.bool true) ∧ Below w.heap.size w w' := by
  have hgd := guard_hash
  have HA := hidp ha
  have HB := hidp hb
  have hu := Try.underlying26
  have hia : (Try.prog.info? 26).map (·.size) = some (bvs a).length := by rw [bvs_len, ha.1]; kernel_rfl
  have hib : (Try.prog.info? 26).map (·.size) = some (bvs b).length := by rw [bvs_len, hb.1]; kernel_rfl
  have HIA := hidp hia
  have HIB := hidp hib
  have hneqa := run_neq_hash a a ha.1 ha.1
  rw [decide_eq_true rfl] at hneqa
  have hneqz := run_neq_hash (List.replicate 32 0) (List.replicate 32 0) rfl rfl
  rw [decide_eq_true rfl] at hneqz
  have hneqz : ∀ w, (binOp .neq 26 (.agg z32.toArray) (.agg z32.toArray)).run Try.prog w = .ok (.bool false) w := hneqz
  have H0 := hidp (Bh.first w a b)
  clear ha hb _hs
  by_cases h200 : 200 < s.size
  · have ht : decide ((200 : Int) < ((s.size : Nat) : Int)) = true := decide_eq_true (by omega)
    clear h200 hia hib hneqa hneqz
    go_enter Try.func8, Try.ntmps8
    go_wp2_with fail
    refine (known_any _).mono ?_
    rintro e w1 ⟨rfl, hB1⟩
    have h1 := hidp (H0.out.step hB1)
    clear hB1
    go_wp2
    go_ret
    exact ⟨rfl, h1.out.1⟩
  · have ht : decide ((200 : Int) < ((s.size : Nat) : Int)) = false := decide_eq_false (by omega)
    clear h200
    go_enter Try.func8, Try.ntmps8
    go_wp2_with fail
    refine (known_any _).mono ?_
    rintro e w1 ⟨rfl, hB1⟩
    have h1 := hidp (H0.out.step hB1)
    clear hB1 H0
    go_wp2
    have hT := h1
    refine wp_region_held_drew (S := fun w' => Bh w w' [(w.heap.size, a), (w.heap.size + 1, b)]) (by kernel_rfl) h1.out.drew (fun hHeld => ?_)
    have hT := hidp h1.out.drew
    clear h1
    refine' wpAnyH_takeTo (i := 0) (oi := _) (v := _) (some 20) rfl rfl (by kernel_rfl) (by kernel_rfl) (by kernel_rfl) (fun _ _ _ h => h) (yieldsIf_load_mid (by rfl) _ _ rfl _ _ rfl (bvs a) _ (fun w' hw' => hw'.range (by simp)) hu rfl HIA.out) (by assumption) ?_
    try simp only [Act.put, List.setIfInBounds_toArray, List.set_cons_zero, List.set_cons_succ]
    refine' wpAnyH_takeTo (i := 2) (oi := _) (v := _) (some 22) rfl rfl (by kernel_rfl) (by kernel_rfl) (by kernel_rfl) (fun _ _ _ h => h) (yieldsIf_load_mid (by rfl) _ _ rfl _ _ rfl (bvs b) _ (fun w' hw' => hw'.range (by simp)) hu rfl HIB.out) (by assumption) ?_
    try simp only [Act.put, List.setIfInBounds_toArray, List.set_cons_zero, List.set_cons_succ]
    refine wpAnyH_ready (rs := [1]) (by kernel_rfl) (by simp) ?_
    refine AllReadyH.cons (o := _) rfl (fun K hK => ?_) AllReadyH.nil
    go_simp
    refine (text_any a _ HA.out).mono ?_
    rintro e wN ⟨rfl, hN⟩
    have hT := hidp (hT.out.step hN)
    clear hN
    go_wp2_with fail
    refine hK.out _ _ hT.out (fun hHeld' => ?_)
    clear hK K hHeld
    have hHeld := hHeld'
    clear hHeld'
    try simp only [Act.put, List.setIfInBounds_toArray, List.set_cons_zero, List.set_cons_succ]
    refine wpAnyH_ready (rs := [3]) (by kernel_rfl) (by simp) ?_
    refine AllReadyH.cons (o := _) rfl (fun K hK => ?_) AllReadyH.nil
    go_simp
    refine (text_any b _ HB.out).mono ?_
    rintro e wN ⟨rfl, hN⟩
    have hT := hidp (hT.out.step hN)
    clear hN
    go_wp2_with fail
    refine hK.out _ _ hT.out (fun hHeld' => ?_)
    clear hK K hHeld
    have hHeld := hHeld'
    clear hHeld'
    try simp only [Act.put, List.setIfInBounds_toArray, List.set_cons_zero, List.set_cons_succ]
    refine wpAnyH_takeTo (i := 4) (oi := _) (v := ?_) (some 8) rfl rfl (by kernel_rfl) (by kernel_rfl) (by kernel_rfl) (fun _ _ _ h => h) (Or.inl ⟨by rfl, ?_⟩) (by assumption) ?_
    rotate_left
    · intro w hSw
      go_simp
      try with_reducible rfl
    try simp only [Act.put, List.setIfInBounds_toArray, List.set_cons_zero, List.set_cons_succ]
    refine wpAnyH_takeTo (i := 5) (oi := _) (v := ?_) (some 9) rfl rfl (by kernel_rfl) (by kernel_rfl) (by kernel_rfl) (fun _ _ _ h => h) (Or.inl ⟨by rfl, ?_⟩) (by assumption) ?_
    rotate_left
    · intro w hSw
      go_simp
      try with_reducible rfl
    try simp only [Act.put, List.setIfInBounds_toArray, List.set_cons_zero, List.set_cons_succ]
    refine wpAnyH_done (by kernel_rfl) ?_ _
    have hsz : (textB a).size = 64 := by unfold textB; rw [toB_size, textL_len]
    have hkr := read_any (textB a)
    rw [readO_text HA.out] at hkr
    have hkr := hidp hkr
    go_wp2_with fail
    refine (hkr.out _).mono ?_
    rintro e w4 ⟨rfl, hN⟩
    have hT := hidp (hT.out.step hN)
    clear hN hkr hHeld
    have hz4 := hidp (Blk.new w4 z32 26)
    go_wp2_with (refine wpList_store_blk rfl 26 _ _ rfl w4.heap.size (bvs a) z32 26 rfl rfl hz4.out HIA.out (by have q := HA.out.1; rw [bvs_len, q]; rfl) (bvs_one _) ?_; intro w5 hw5)
    have hT5 := hidp (hT.out.box hw5.out)
    clear hz4 hw5 hT
    rcases cmp_three a b with hc | hc | hc
    · have hless : Op.bytesLess (textB a).toList (textB b).toList = true := by rw [text_less HA.out HB.out, hc]; decide
      have hsame : ((textB a).toList == (textB b).toList) = false := by rw [text_same HA.out HB.out, hc]; decide
      have heq := run_eql_hash a b HA.out.1 HB.out.1
      have hd : decide (a = b) = false := by rw [Bool.eq_iff_iff, decide_eq_true_eq, ← cmp_zero, hc]; decide
      rw [hd] at heq
      have hab := fun w => compare_any a b w HA.out HB.out
      have hba := fun w => compare_any b a w HB.out HA.out
      rw [cmp_neg a b] at hba
      rw [hc] at hab hba
      have hab := hidp hab
      have hba : Hid (∀ w : World, Calls Try.prog 18 #[.agg (bvs b).toArray, .agg (bvs a).toArray] w fun e w' => e = .returned (.int .i64 1) ∧ Below w.heap.size w w') := hidp hba
      clear hd hc
      by_cases hg : goodR s
      · have hky := fun w => text_any (readL s) w (readL_bytes hg)
        rw [text_read hg] at hky
        have hky := hidp hky
        have hlen : Hid ((bvs (readL s)).length = 32) := hidp (by rw [bvs_len, readL_len])
        have hks := read_any s w5
        rw [readO_ok hg] at hks
        generalize readL s = y at hky hlen hks
        have hks := hidp hks
        clear hg
        refine hks.out.mono ?_
        rintro e w6 ⟨rfl, hN⟩
        have hT6 := hidp (hT5.out.step hN)
        have hz6 := hidp (Blk.new w6 z32 26)
        clear hN hks hT5
        go_wp2_with (first | (refine wpList_store_blk rfl 26 _ _ rfl w6.heap.size (bvs y) z32 26 rfl rfl hz6.out (by rw [hlen.out]; kernel_rfl) (by rw [hlen.out]; rfl) (bvs_one _) ?_; intro w7 hw7; have hT7 := hidp (hT6.out.box hw7.out)) | refine wpList_load_blkG rfl 26 _ rfl w4.heap.size (bvs a) 26 rfl (hT7.out.2 (w4.heap.size, a) (by simp)) _ hu rfl HIA.out ?_ | refine wpList_load_blkG rfl 26 _ rfl w.heap.size (bvs a) 26 rfl (hT7.out.2 (w.heap.size, a) (by simp)) _ hu rfl HIA.out ?_ | refine wpList_load_blkG rfl 26 _ rfl (w.heap.size + 1) (bvs b) 26 rfl (hT7.out.2 (w.heap.size + 1, b) (by simp)) _ hu rfl HIB.out ?_ | refine wpList_load_blkG rfl 26 _ rfl w6.heap.size (bvs y) 26 rfl (hT7.out.2 (w6.heap.size, y) (by simp)) _ hu rfl (by rw [hlen.out]; kernel_rfl) ?_ | refine wpList_buildG rfl 26 _ rfl z32.toArray (by kernel_rfl) ?_ | (go_at_call 16; refine (hky.out _).mono ?_; rintro e wN ⟨rfl, hN⟩; have hT7 := hidp (hT7.out.step hN); clear hN) | (go_at_call 18; with_reducible refine (hab.out _).mono ?_; rintro e wN ⟨rfl, hN⟩; have hT7 := hidp (hT7.out.step hN); clear hN) | (go_at_call 18; with_reducible refine (hba.out _).mono ?_; rintro e wN ⟨rfl, hN⟩; have hT7 := hidp (hT7.out.step hN); clear hN))
        go_ret
        exact ⟨rfl, hT7.out.1⟩
      · have hks := read_any s w5
        rw [readO_no hg] at hks
        obtain ⟨y, hy⟩ : ∃ y, y = List.replicate 32 0 := ⟨_, rfl⟩
        rw [← hy] at hks
        have hlen : Hid ((bvs y).length = 32) := hidp (by rw [hy]; rfl)
        have hneqy : ∀ w, (binOp .neq 26 (.agg (bvs y).toArray) (.agg z32.toArray)).run Try.prog w = .ok (.bool false) w := by rw [hy]; exact hneqz
        clear hy
        have hks := hidp hks
        clear hg
        refine hks.out.mono ?_
        rintro e w6 ⟨rfl, hN⟩
        have hT6 := hidp (hT5.out.step hN)
        have hz6 := hidp (Blk.new w6 z32 26)
        clear hN hks hT5
        go_wp2_with (first | (refine wpList_store_blk rfl 26 _ _ rfl w6.heap.size (bvs y) z32 26 rfl rfl hz6.out (by rw [hlen.out]; kernel_rfl) (by rw [hlen.out]; rfl) (bvs_one _) ?_; intro w7 hw7; have hT7 := hidp (hT6.out.box hw7.out)) | refine wpList_load_blkG rfl 26 _ rfl w4.heap.size (bvs a) 26 rfl (hT7.out.2 (w4.heap.size, a) (by simp)) _ hu rfl HIA.out ?_ | refine wpList_load_blkG rfl 26 _ rfl w.heap.size (bvs a) 26 rfl (hT7.out.2 (w.heap.size, a) (by simp)) _ hu rfl HIA.out ?_ | refine wpList_load_blkG rfl 26 _ rfl (w.heap.size + 1) (bvs b) 26 rfl (hT7.out.2 (w.heap.size + 1, b) (by simp)) _ hu rfl HIB.out ?_ | refine wpList_load_blkG rfl 26 _ rfl w6.heap.size (bvs y) 26 rfl (hT7.out.2 (w6.heap.size, y) (by simp)) _ hu rfl (by rw [hlen.out]; kernel_rfl) ?_ | refine wpList_buildG rfl 26 _ rfl z32.toArray (by kernel_rfl) ?_ | (go_at_call 18; with_reducible refine (hab.out _).mono ?_; rintro e wN ⟨rfl, hN⟩; have hT7 := hidp (hT7.out.step hN); clear hN) | (go_at_call 18; with_reducible refine (hba.out _).mono ?_; rintro e wN ⟨rfl, hN⟩; have hT7 := hidp (hT7.out.step hN); clear hN))
        go_ret
        exact ⟨rfl, hT7.out.1⟩
    · have hless : Op.bytesLess (textB a).toList (textB b).toList = false := by rw [text_less HA.out HB.out, hc]; decide
      have hsame : ((textB a).toList == (textB b).toList) = true := by rw [text_same HA.out HB.out, hc]; decide
      have heq := run_eql_hash a b HA.out.1 HB.out.1
      have hd : decide (a = b) = true := by rw [Bool.eq_iff_iff, decide_eq_true_eq, ← cmp_zero, hc]; decide
      rw [hd] at heq
      have hab := fun w => compare_any a b w HA.out HB.out
      have hba := fun w => compare_any b a w HB.out HA.out
      rw [cmp_neg a b] at hba
      rw [hc] at hab hba
      have hab := hidp hab
      have hba : Hid (∀ w : World, Calls Try.prog 18 #[.agg (bvs b).toArray, .agg (bvs a).toArray] w fun e w' => e = .returned (.int .i64 0) ∧ Below w.heap.size w w') := hidp hba
      clear hd hc
      by_cases hg : goodR s
      · have hky := fun w => text_any (readL s) w (readL_bytes hg)
        rw [text_read hg] at hky
        have hky := hidp hky
        have hlen : Hid ((bvs (readL s)).length = 32) := hidp (by rw [bvs_len, readL_len])
        have hks := read_any s w5
        rw [readO_ok hg] at hks
        generalize readL s = y at hky hlen hks
        have hks := hidp hks
        clear hg
        refine hks.out.mono ?_
        rintro e w6 ⟨rfl, hN⟩
        have hT6 := hidp (hT5.out.step hN)
        have hz6 := hidp (Blk.new w6 z32 26)
        clear hN hks hT5
        go_wp2_with (first | (refine wpList_store_blk rfl 26 _ _ rfl w6.heap.size (bvs y) z32 26 rfl rfl hz6.out (by rw [hlen.out]; kernel_rfl) (by rw [hlen.out]; rfl) (bvs_one _) ?_; intro w7 hw7; have hT7 := hidp (hT6.out.box hw7.out)) | refine wpList_load_blkG rfl 26 _ rfl w4.heap.size (bvs a) 26 rfl (hT7.out.2 (w4.heap.size, a) (by simp)) _ hu rfl HIA.out ?_ | refine wpList_load_blkG rfl 26 _ rfl w.heap.size (bvs a) 26 rfl (hT7.out.2 (w.heap.size, a) (by simp)) _ hu rfl HIA.out ?_ | refine wpList_load_blkG rfl 26 _ rfl (w.heap.size + 1) (bvs b) 26 rfl (hT7.out.2 (w.heap.size + 1, b) (by simp)) _ hu rfl HIB.out ?_ | refine wpList_load_blkG rfl 26 _ rfl w6.heap.size (bvs y) 26 rfl (hT7.out.2 (w6.heap.size, y) (by simp)) _ hu rfl (by rw [hlen.out]; kernel_rfl) ?_ | refine wpList_buildG rfl 26 _ rfl z32.toArray (by kernel_rfl) ?_ | (go_at_call 16; refine (hky.out _).mono ?_; rintro e wN ⟨rfl, hN⟩; have hT7 := hidp (hT7.out.step hN); clear hN) | (go_at_call 18; with_reducible refine (hab.out _).mono ?_; rintro e wN ⟨rfl, hN⟩; have hT7 := hidp (hT7.out.step hN); clear hN) | (go_at_call 18; with_reducible refine (hba.out _).mono ?_; rintro e wN ⟨rfl, hN⟩; have hT7 := hidp (hT7.out.step hN); clear hN))
        go_ret
        exact ⟨rfl, hT7.out.1⟩
      · have hks := read_any s w5
        rw [readO_no hg] at hks
        obtain ⟨y, hy⟩ : ∃ y, y = List.replicate 32 0 := ⟨_, rfl⟩
        rw [← hy] at hks
        have hlen : Hid ((bvs y).length = 32) := hidp (by rw [hy]; rfl)
        have hneqy : ∀ w, (binOp .neq 26 (.agg (bvs y).toArray) (.agg z32.toArray)).run Try.prog w = .ok (.bool false) w := by rw [hy]; exact hneqz
        clear hy
        have hks := hidp hks
        clear hg
        refine hks.out.mono ?_
        rintro e w6 ⟨rfl, hN⟩
        have hT6 := hidp (hT5.out.step hN)
        have hz6 := hidp (Blk.new w6 z32 26)
        clear hN hks hT5
        go_wp2_with (first | (refine wpList_store_blk rfl 26 _ _ rfl w6.heap.size (bvs y) z32 26 rfl rfl hz6.out (by rw [hlen.out]; kernel_rfl) (by rw [hlen.out]; rfl) (bvs_one _) ?_; intro w7 hw7; have hT7 := hidp (hT6.out.box hw7.out)) | refine wpList_load_blkG rfl 26 _ rfl w4.heap.size (bvs a) 26 rfl (hT7.out.2 (w4.heap.size, a) (by simp)) _ hu rfl HIA.out ?_ | refine wpList_load_blkG rfl 26 _ rfl w.heap.size (bvs a) 26 rfl (hT7.out.2 (w.heap.size, a) (by simp)) _ hu rfl HIA.out ?_ | refine wpList_load_blkG rfl 26 _ rfl (w.heap.size + 1) (bvs b) 26 rfl (hT7.out.2 (w.heap.size + 1, b) (by simp)) _ hu rfl HIB.out ?_ | refine wpList_load_blkG rfl 26 _ rfl w6.heap.size (bvs y) 26 rfl (hT7.out.2 (w6.heap.size, y) (by simp)) _ hu rfl (by rw [hlen.out]; kernel_rfl) ?_ | refine wpList_buildG rfl 26 _ rfl z32.toArray (by kernel_rfl) ?_ | (go_at_call 18; with_reducible refine (hab.out _).mono ?_; rintro e wN ⟨rfl, hN⟩; have hT7 := hidp (hT7.out.step hN); clear hN) | (go_at_call 18; with_reducible refine (hba.out _).mono ?_; rintro e wN ⟨rfl, hN⟩; have hT7 := hidp (hT7.out.step hN); clear hN))
        go_ret
        exact ⟨rfl, hT7.out.1⟩
    · have hless : Op.bytesLess (textB a).toList (textB b).toList = false := by rw [text_less HA.out HB.out, hc]; decide
      have hsame : ((textB a).toList == (textB b).toList) = false := by rw [text_same HA.out HB.out, hc]; decide
      have heq := run_eql_hash a b HA.out.1 HB.out.1
      have hd : decide (a = b) = false := by rw [Bool.eq_iff_iff, decide_eq_true_eq, ← cmp_zero, hc]; decide
      rw [hd] at heq
      have hab := fun w => compare_any a b w HA.out HB.out
      have hba := fun w => compare_any b a w HB.out HA.out
      rw [cmp_neg a b] at hba
      rw [hc] at hab hba
      have hab := hidp hab
      have hba : Hid (∀ w : World, Calls Try.prog 18 #[.agg (bvs b).toArray, .agg (bvs a).toArray] w fun e w' => e = .returned (.int .i64 (-1)) ∧ Below w.heap.size w w') := hidp hba
      clear hd hc
      by_cases hg : goodR s
      · have hky := fun w => text_any (readL s) w (readL_bytes hg)
        rw [text_read hg] at hky
        have hky := hidp hky
        have hlen : Hid ((bvs (readL s)).length = 32) := hidp (by rw [bvs_len, readL_len])
        have hks := read_any s w5
        rw [readO_ok hg] at hks
        generalize readL s = y at hky hlen hks
        have hks := hidp hks
        clear hg
        refine hks.out.mono ?_
        rintro e w6 ⟨rfl, hN⟩
        have hT6 := hidp (hT5.out.step hN)
        have hz6 := hidp (Blk.new w6 z32 26)
        clear hN hks hT5
        go_wp2_with (first | (refine wpList_store_blk rfl 26 _ _ rfl w6.heap.size (bvs y) z32 26 rfl rfl hz6.out (by rw [hlen.out]; kernel_rfl) (by rw [hlen.out]; rfl) (bvs_one _) ?_; intro w7 hw7; have hT7 := hidp (hT6.out.box hw7.out)) | refine wpList_load_blkG rfl 26 _ rfl w4.heap.size (bvs a) 26 rfl (hT7.out.2 (w4.heap.size, a) (by simp)) _ hu rfl HIA.out ?_ | refine wpList_load_blkG rfl 26 _ rfl w.heap.size (bvs a) 26 rfl (hT7.out.2 (w.heap.size, a) (by simp)) _ hu rfl HIA.out ?_ | refine wpList_load_blkG rfl 26 _ rfl (w.heap.size + 1) (bvs b) 26 rfl (hT7.out.2 (w.heap.size + 1, b) (by simp)) _ hu rfl HIB.out ?_ | refine wpList_load_blkG rfl 26 _ rfl w6.heap.size (bvs y) 26 rfl (hT7.out.2 (w6.heap.size, y) (by simp)) _ hu rfl (by rw [hlen.out]; kernel_rfl) ?_ | refine wpList_buildG rfl 26 _ rfl z32.toArray (by kernel_rfl) ?_ | (go_at_call 16; refine (hky.out _).mono ?_; rintro e wN ⟨rfl, hN⟩; have hT7 := hidp (hT7.out.step hN); clear hN) | (go_at_call 18; with_reducible refine (hab.out _).mono ?_; rintro e wN ⟨rfl, hN⟩; have hT7 := hidp (hT7.out.step hN); clear hN) | (go_at_call 18; with_reducible refine (hba.out _).mono ?_; rintro e wN ⟨rfl, hN⟩; have hT7 := hidp (hT7.out.step hN); clear hN))
        go_ret
        exact ⟨rfl, hT7.out.1⟩
      · have hks := read_any s w5
        rw [readO_no hg] at hks
        obtain ⟨y, hy⟩ : ∃ y, y = List.replicate 32 0 := ⟨_, rfl⟩
        rw [← hy] at hks
        have hlen : Hid ((bvs y).length = 32) := hidp (by rw [hy]; rfl)
        have hneqy : ∀ w, (binOp .neq 26 (.agg (bvs y).toArray) (.agg z32.toArray)).run Try.prog w = .ok (.bool false) w := by rw [hy]; exact hneqz
        clear hy
        have hks := hidp hks
        clear hg
        refine hks.out.mono ?_
        rintro e w6 ⟨rfl, hN⟩
        have hT6 := hidp (hT5.out.step hN)
        have hz6 := hidp (Blk.new w6 z32 26)
        clear hN hks hT5
        go_wp2_with (first | (refine wpList_store_blk rfl 26 _ _ rfl w6.heap.size (bvs y) z32 26 rfl rfl hz6.out (by rw [hlen.out]; kernel_rfl) (by rw [hlen.out]; rfl) (bvs_one _) ?_; intro w7 hw7; have hT7 := hidp (hT6.out.box hw7.out)) | refine wpList_load_blkG rfl 26 _ rfl w4.heap.size (bvs a) 26 rfl (hT7.out.2 (w4.heap.size, a) (by simp)) _ hu rfl HIA.out ?_ | refine wpList_load_blkG rfl 26 _ rfl w.heap.size (bvs a) 26 rfl (hT7.out.2 (w.heap.size, a) (by simp)) _ hu rfl HIA.out ?_ | refine wpList_load_blkG rfl 26 _ rfl (w.heap.size + 1) (bvs b) 26 rfl (hT7.out.2 (w.heap.size + 1, b) (by simp)) _ hu rfl HIB.out ?_ | refine wpList_load_blkG rfl 26 _ rfl w6.heap.size (bvs y) 26 rfl (hT7.out.2 (w6.heap.size, y) (by simp)) _ hu rfl (by rw [hlen.out]; kernel_rfl) ?_ | refine wpList_buildG rfl 26 _ rfl z32.toArray (by kernel_rfl) ?_ | (go_at_call 18; with_reducible refine (hab.out _).mono ?_; rintro e wN ⟨rfl, hN⟩; have hT7 := hidp (hT7.out.step hN); clear hN) | (go_at_call 18; with_reducible refine (hba.out _).mono ?_; rintro e wN ⟨rfl, hN⟩; have hT7 := hidp (hT7.out.step hN); clear hN))
        go_ret
        exact ⟨rfl, hT7.out.1⟩
end Go.Proofs.Ythcgenlhblbjaaa
