/-
  The walk of BlakeTells.
-/
import Derived.Test.YthcgenlhblbjaaaHw
import Derived.Test.YthcgenlhblbjaaaHz
import Derived.Test.YthcgenlhblbjaaaIa
namespace Go.Proofs.Ythcgenlhblbjaaa
open Go.RowKit Go.Lib

set_option linter.unusedSimpArgs false
set_option maxRecDepth 20000 in
set_option maxHeartbeats 16000000 in
theorem lawTells_w (a b : List Nat) (s : ByteArray) (w : World) (ha : Bytes 32 a) (hb : Bytes 32 b) (_hs : s.size ≤ 9223372036854775807) :
    Calls Try.prog 4 #[.agg (bvs a).toArray, .agg (bvs b).toArray, .string s] w fun e w' => e = .returned (.bool true) ∧ Below w.heap.size w w' := by
  have hgd := guard_hash
  have HA := hidp ha
  have HB := hidp hb
  have hu := Try.underlying26
  have HIA : Hid ((Try.prog.info? 26).map (·.size) = some (bvs a).length) := hidp (by rw [bvs_len, ha.1]; kernel_rfl)
  have HIB : Hid ((Try.prog.info? 26).map (·.size) = some (bvs b).length) := hidp (by rw [bvs_len, hb.1]; kernel_rfl)
  have H0 := hidp (Bh.first w a b)
  clear ha hb _hs
  by_cases h200 : 200 < s.size
  · have ht : decide ((200 : Int) < ((s.size : Nat) : Int)) = true := decide_eq_true (by omega)
    clear h200
    go_enter Try.func4, Try.ntmps4
    go_wp2_with fail
    refine (awake_any _).mono ?_
    rintro e w1 ⟨rfl, hB1⟩
    have h1 := hidp (H0.out.step hB1)
    clear hB1
    go_wp2
    go_ret
    exact ⟨rfl, h1.out.1⟩
  · have ht : decide ((200 : Int) < ((s.size : Nat) : Int)) = false := decide_eq_false (by omega)
    have hk1 := fun w => read_any s w
    have hk2 := fun w => refRead_any s w
    have hxl := readO_len s
    generalize (readO s).1 = x at hk1 hk2 hxl
    generalize (readO s).2 = n at hk1 hk2
    have heq := run_eql_hash x x hxl hxl
    rw [decide_eq_true rfl] at heq
    have HIX : Hid ((Try.prog.info? 26).map (·.size) = some (bvs x).length) := hidp (by rw [bvs_len, hxl]; kernel_rfl)
    have HXL : Hid ((bvs x).length = 32) := hidp (by rw [bvs_len, hxl])
    have hk1 := hidp hk1
    have hk2 := hidp hk2
    clear h200 hxl
    go_enter Try.func4, Try.ntmps4
    go_wp2_with fail
    refine (hk1.out _).mono ?_
    rintro e w2 ⟨rfl, hN⟩
    have hT := hidp (H0.out.step hN)
    clear hN hk1 H0
    have hz2 := hidp (Blk.new w2 z32 26)
    go_wp2_with (refine wpList_store_blk rfl 26 _ _ rfl w2.heap.size (bvs x) z32 26 rfl rfl hz2.out HIX.out (by rw [HXL.out]; rfl) (bvs_one _) ?_; intro w3 hw3)
    have hT := hidp (hT.out.box hw3.out)
    clear hz2 hw3
    refine (hk2.out _).mono ?_
    rintro e w4 ⟨rfl, hN⟩
    have hT := hidp (hT.out.step hN)
    clear hN hk2
    have hz4 := hidp (Blk.new w4 z32 26)
    go_wp2_with (refine wpList_store_blk rfl 26 _ _ rfl w4.heap.size (bvs x) z32 26 rfl rfl hz4.out HIX.out (by rw [HXL.out]; rfl) (bvs_one _) ?_; intro w5 hw5)
    have hT := hidp (hT.out.box hw5.out)
    clear hz4 hw5
    refine wp_region_held_drew (S := fun w' => Bh w w' [(w4.heap.size, x), (w2.heap.size, x), (w.heap.size, a), (w.heap.size + 1, b)]) (by kernel_rfl) hT.out.drew (fun hHeld => ?_)
    have hT := hidp hT.out.drew
    refine' wpAnyH_takeTo (i := 0) (oi := _) (v := _) (some 25) rfl rfl (by kernel_rfl) (by kernel_rfl) (by kernel_rfl) (fun _ _ _ h => h) (yieldsIf_load_mid (by rfl) _ _ rfl _ _ rfl (bvs a) _ (fun w' hw' => hw'.range (by simp)) hu rfl HIA.out) (by assumption) ?_
    try simp only [Act.put, List.setIfInBounds_toArray, List.set_cons_zero, List.set_cons_succ]
    refine' wpAnyH_takeTo (i := 2) (oi := _) (v := _) (some 27) rfl rfl (by kernel_rfl) (by kernel_rfl) (by kernel_rfl) (fun _ _ _ h => h) (yieldsIf_load_mid (by rfl) _ _ rfl _ _ rfl (bvs a) _ (fun w' hw' => hw'.range (by simp)) hu rfl HIA.out) (by assumption) ?_
    try simp only [Act.put, List.setIfInBounds_toArray, List.set_cons_zero, List.set_cons_succ]
    refine wpAnyH_ready (rs := [1]) (by kernel_rfl) (by simp) ?_
    refine AllReadyH.cons (o := _) rfl (fun K hK => ?_) AllReadyH.nil
    go_simp
    refine (text_any a _ HA.out).mono ?_
    rintro e wN ⟨rfl, hN⟩
    have hT := hidp (hT.out.step hN)
    clear hN
    go_wp2_with fail
    refine hK.out _ _ hT.out (fun hHeld' => ?_)
    clear hK K hHeld
    have hHeld := hHeld'
    clear hHeld'
    try simp only [Act.put, List.setIfInBounds_toArray, List.set_cons_zero, List.set_cons_succ]
    refine wpAnyH_ready (rs := [3]) (by kernel_rfl) (by simp) ?_
    refine AllReadyH.cons (o := _) rfl (fun K hK => ?_) AllReadyH.nil
    go_simp
    refine (refText_any a _ HA.out).mono ?_
    rintro e wN ⟨rfl, hN⟩
    have hT := hidp (hT.out.step hN)
    clear hN
    go_wp2_with fail
    refine hK.out _ _ hT.out (fun hHeld' => ?_)
    clear hK K hHeld
    have hHeld := hHeld'
    clear hHeld'
    try simp only [Act.put, List.setIfInBounds_toArray, List.set_cons_zero, List.set_cons_succ]
    refine wpAnyH_takeTo (i := 4) (oi := _) (v := ?_) (some 29) rfl rfl (by kernel_rfl) (by kernel_rfl) (by kernel_rfl) (fun _ _ _ h => h) (Or.inl ⟨by rfl, ?_⟩) (by assumption) ?_
    rotate_left
    · intro w hSw
      go_simp
      try with_reducible rfl
    try simp only [Act.put, List.setIfInBounds_toArray, List.set_cons_zero, List.set_cons_succ]
    refine wpAnyH_takeTo (i := 5) (oi := _) (v := ?_) (some 30) rfl rfl (by kernel_rfl) (by kernel_rfl) (by kernel_rfl) (fun _ _ _ h => h) (Or.inl ⟨by rfl, ?_⟩) (by assumption) ?_
    rotate_left
    · intro w hSw
      go_simp
      try with_reducible rfl
    try simp only [Act.put, List.setIfInBounds_toArray, List.set_cons_zero, List.set_cons_succ]
    refine' wpAnyH_takeTo (i := 6) (oi := _) (v := _) (some 31) rfl rfl (by kernel_rfl) (by kernel_rfl) (by kernel_rfl) (fun _ _ _ h => h) (yieldsIf_load_mid (by rfl) _ _ rfl _ _ rfl (bvs x) _ (fun w' hw' => hw'.range (by simp)) hu rfl HIX.out) (by assumption) ?_
    try simp only [Act.put, List.setIfInBounds_toArray, List.set_cons_zero, List.set_cons_succ]
    refine' wpAnyH_takeTo (i := 7) (oi := _) (v := _) (some 32) rfl rfl (by kernel_rfl) (by kernel_rfl) (by kernel_rfl) (fun _ _ _ h => h) (yieldsIf_load_mid (by rfl) _ _ rfl _ _ rfl (bvs x) _ (fun w' hw' => hw'.range (by simp)) hu rfl HIX.out) (by assumption) ?_
    try simp only [Act.put, List.setIfInBounds_toArray, List.set_cons_zero, List.set_cons_succ]
    refine wpAnyH_takeTo (i := 8) (oi := _) (v := ?_) (some 33) rfl rfl (by kernel_rfl) (by kernel_rfl) (by kernel_rfl) (fun _ _ _ h => h) (Or.inl ⟨by rfl, ?_⟩) (by assumption) ?_
    rotate_left
    · intro w hSw
      go_simp
      try with_reducible rfl
    try simp only [Act.put, List.setIfInBounds_toArray, List.set_cons_zero, List.set_cons_succ]
    refine wpAnyH_takeTo (i := 9) (oi := _) (v := ?_) (some 34) rfl rfl (by kernel_rfl) (by kernel_rfl) (by kernel_rfl) (fun _ _ _ h => h) (Or.inl ⟨by rfl, ?_⟩) (by assumption) ?_
    rotate_left
    · intro w hSw
      go_simp
      try with_reducible rfl
    try simp only [Act.put, List.setIfInBounds_toArray, List.set_cons_zero, List.set_cons_succ]
    refine wpAnyH_takeTo (i := 10) (oi := _) (v := ?_) (some 35) rfl rfl (by kernel_rfl) (by kernel_rfl) (by kernel_rfl) (fun _ _ _ h => h) (Or.inl ⟨by rfl, ?_⟩) (by assumption) ?_
    rotate_left
    · intro w hSw
      go_simp
      try with_reducible rfl
    try simp only [Act.put, List.setIfInBounds_toArray, List.set_cons_zero, List.set_cons_succ]
    refine wpAnyH_takeTo (i := 11) (oi := _) (v := ?_) (some 36) rfl rfl (by kernel_rfl) (by kernel_rfl) (by kernel_rfl) (fun _ _ _ h => h) (Or.inl ⟨by rfl, ?_⟩) (by assumption) ?_
    rotate_left
    · intro w hSw
      go_simp
      try with_reducible rfl
    try simp only [Act.put, List.setIfInBounds_toArray, List.set_cons_zero, List.set_cons_succ]
    refine wpAnyH_takeTo (i := 12) (oi := _) (v := ?_) (some 37) rfl rfl (by kernel_rfl) (by kernel_rfl) (by kernel_rfl) (fun _ _ _ h => h) (Or.inl ⟨by rfl, ?_⟩) (by assumption) ?_
    rotate_left
    · intro w hSw
      go_simp
      try with_reducible rfl
    try simp only [Act.put, List.setIfInBounds_toArray, List.set_cons_zero, List.set_cons_succ]
    refine wpAnyH_takeTo (i := 13) (oi := _) (v := ?_) (some 38) rfl rfl (by kernel_rfl) (by kernel_rfl) (by kernel_rfl) (fun _ _ _ h => h) (Or.inl ⟨by rfl, ?_⟩) (by assumption) ?_
    rotate_left
    · intro w hSw
      go_simp
      try with_reducible rfl
    try simp only [Act.put, List.setIfInBounds_toArray, List.set_cons_zero, List.set_cons_succ]
    refine wpAnyH_takeTo (i := 14) (oi := _) (v := ?_) (some 39) rfl rfl (by kernel_rfl) (by kernel_rfl) (by kernel_rfl) (fun _ _ _ h => h) (Or.inl ⟨by rfl, ?_⟩) (by assumption) ?_
    rotate_left
    · intro w hSw
      go_simp
      try with_reducible rfl
    try simp only [Act.put, List.setIfInBounds_toArray, List.set_cons_zero, List.set_cons_succ]
    refine wpAnyH_takeTo (i := 15) (oi := _) (v := ?_) (some 40) rfl rfl (by kernel_rfl) (by kernel_rfl) (by kernel_rfl) (fun _ _ _ h => h) (Or.inl ⟨by rfl, ?_⟩) (by assumption) ?_
    rotate_left
    · intro w hSw
      go_simp
      try with_reducible rfl
    try simp only [Act.put, List.setIfInBounds_toArray, List.set_cons_zero, List.set_cons_succ]
    refine' wpAnyH_takeTo (i := 16) (oi := _) (v := _) (some 41) rfl rfl (by kernel_rfl) (by kernel_rfl) (by kernel_rfl) (fun _ _ _ h => h) (yieldsIf_load_mid (by rfl) _ _ rfl _ _ rfl (bvs a) _ (fun w' hw' => hw'.range (by simp)) hu rfl HIA.out) (by assumption) ?_
    try simp only [Act.put, List.setIfInBounds_toArray, List.set_cons_zero, List.set_cons_succ]
    refine' wpAnyH_takeTo (i := 17) (oi := _) (v := _) (some 42) rfl rfl (by kernel_rfl) (by kernel_rfl) (by kernel_rfl) (fun _ _ _ h => h) (yieldsIf_load_mid (by rfl) _ _ rfl _ _ rfl (bvs b) _ (fun w' hw' => hw'.range (by simp)) hu rfl HIB.out) (by assumption) ?_
    try simp only [Act.put, List.setIfInBounds_toArray, List.set_cons_zero, List.set_cons_succ]
    refine' wpAnyH_takeTo (i := 19) (oi := _) (v := _) (some 44) rfl rfl (by kernel_rfl) (by kernel_rfl) (by kernel_rfl) (fun _ _ _ h => h) (yieldsIf_load_mid (by rfl) _ _ rfl _ _ rfl (bvs a) _ (fun w' hw' => hw'.range (by simp)) hu rfl HIA.out) (by assumption) ?_
    try simp only [Act.put, List.setIfInBounds_toArray, List.set_cons_zero, List.set_cons_succ]
    refine' wpAnyH_takeTo (i := 20) (oi := _) (v := _) (some 45) rfl rfl (by kernel_rfl) (by kernel_rfl) (by kernel_rfl) (fun _ _ _ h => h) (yieldsIf_load_mid (by rfl) _ _ rfl _ _ rfl (bvs b) _ (fun w' hw' => hw'.range (by simp)) hu rfl HIB.out) (by assumption) ?_
    try simp only [Act.put, List.setIfInBounds_toArray, List.set_cons_zero, List.set_cons_succ]
    refine wpAnyH_ready (rs := [18]) (by kernel_rfl) (by simp) ?_
    refine AllReadyH.cons (o := _) rfl (fun K hK => ?_) AllReadyH.nil
    go_simp
    refine (compare_any a b _ HA.out HB.out).mono ?_
    rintro e wN ⟨rfl, hN⟩
    have hT := hidp (hT.out.step hN)
    clear hN
    go_wp2_with fail
    refine hK.out _ _ hT.out (fun hHeld' => ?_)
    clear hK K hHeld
    have hHeld := hHeld'
    clear hHeld'
    try simp only [Act.put, List.setIfInBounds_toArray, List.set_cons_zero, List.set_cons_succ]
    refine wpAnyH_ready (rs := [21]) (by kernel_rfl) (by simp) ?_
    refine AllReadyH.cons (o := _) rfl (fun K hK => ?_) AllReadyH.nil
    go_simp
    refine (refCompare_any a b _ HA.out HB.out).mono ?_
    rintro e wN ⟨rfl, hN⟩
    have hT := hidp (hT.out.step hN)
    clear hN
    go_wp2_with fail
    refine hK.out _ _ hT.out (fun hHeld' => ?_)
    clear hK K hHeld
    have hHeld := hHeld'
    clear hHeld'
    try simp only [Act.put, List.setIfInBounds_toArray, List.set_cons_zero, List.set_cons_succ]
    refine wpAnyH_takeTo (i := 22) (oi := _) (v := ?_) (some 47) rfl rfl (by kernel_rfl) (by kernel_rfl) (by kernel_rfl) (fun _ _ _ h => h) (Or.inl ⟨by rfl, ?_⟩) (by assumption) ?_
    rotate_left
    · intro w hSw
      go_simp
      try with_reducible rfl
    try simp only [Act.put, List.setIfInBounds_toArray, List.set_cons_zero, List.set_cons_succ]
    refine wpAnyH_takeTo (i := 23) (oi := _) (v := ?_) (some 48) rfl rfl (by kernel_rfl) (by kernel_rfl) (by kernel_rfl) (fun _ _ _ h => h) (Or.inl ⟨by rfl, ?_⟩) (by assumption) ?_
    rotate_left
    · intro w hSw
      go_simp
      try with_reducible rfl
    try simp only [Act.put, List.setIfInBounds_toArray, List.set_cons_zero, List.set_cons_succ]
    refine wpAnyH_takeTo (i := 24) (oi := _) (v := ?_) (some 49) rfl rfl (by kernel_rfl) (by kernel_rfl) (by kernel_rfl) (fun _ _ _ h => h) (Or.inl ⟨by rfl, ?_⟩) (by assumption) ?_
    rotate_left
    · intro w hSw
      go_simp
      try with_reducible rfl
    try simp only [Act.put, List.setIfInBounds_toArray, List.set_cons_zero, List.set_cons_succ]
    refine wpAnyH_ready (rs := [25]) (by kernel_rfl) (by simp) ?_
    refine AllReadyH.cons (o := _) rfl (fun K hK => ?_) AllReadyH.nil
    go_simp
    refine (awake_any _).mono ?_
    rintro e wN ⟨rfl, hN⟩
    have hT := hidp (hT.out.step hN)
    clear hN
    go_wp2_with fail
    refine hK.out _ _ hT.out (fun hHeld' => ?_)
    clear hK K hHeld
    have hHeld := hHeld'
    clear hHeld'
    try simp only [Act.put, List.setIfInBounds_toArray, List.set_cons_zero, List.set_cons_succ]
    refine wpAnyH_takeTo (i := 26) (oi := _) (v := ?_) (some 51) rfl rfl (by kernel_rfl) (by kernel_rfl) (by kernel_rfl) (fun _ _ _ h => h) (Or.inl ⟨by rfl, ?_⟩) (by assumption) ?_
    rotate_left
    · intro w hSw
      go_simp
      try with_reducible rfl
    try simp only [Act.put, List.setIfInBounds_toArray, List.set_cons_zero, List.set_cons_succ]
    refine wpAnyH_takeTo (i := 27) (oi := _) (v := ?_) (some 6) rfl rfl (by kernel_rfl) (by kernel_rfl) (by kernel_rfl) (fun _ _ _ h => h) (Or.inl ⟨by rfl, ?_⟩) (by assumption) ?_
    rotate_left
    · intro w hSw
      go_simp
      try with_reducible rfl
    try simp only [Act.put, List.setIfInBounds_toArray, List.set_cons_zero, List.set_cons_succ]
    refine wpAnyH_done (by kernel_rfl) ?_ _
    go_wp2
    go_ret
    exact ⟨rfl, hT.out.1⟩
end Go.Proofs.Ythcgenlhblbjaaa
