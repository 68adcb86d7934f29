/-
  Header: the walk of HeaderHashes.
-/
import Derived.Test.YtdiklimikkplcaaL6n
namespace Go.Proofs.Ytdiklimikkplcaa
set_option linter.unusedSimpArgs false
open Go.RowKit Go.Lib

theorem strB_inj {a b : List Nat} (ha : ∀ x ∈ a, x < 256) (hb : ∀ x ∈ b, x < 256) (h : strB a = strB b) : a = b := by rw [← strL_strB ha, h, strL_strB hb]
theorem sameBytes_any {w : World} {p q : Option Addr} {b o cap b2 o2 cap2 : Nat} {X Y : List Nat} (h : Bs w p b o X cap) (k : Bs w q b2 o2 Y cap2) :
    Calls Try.prog 24 #[.slice p X.length cap, .slice q Y.length cap2] w fun e w' => e = .returned (.bool (decide (X = Y))) ∧ w = w' := by
  have c1 := conv_bs h cap
  have c2 := conv_bs k cap2
  have e : decide (X = Y) = decide (strB X = strB Y) := by
    rw [decide_eq_decide]
    exact ⟨fun e => by rw [e], strB_inj h.byte k.byte⟩
  rw [e, ← str_eq]
  generalize strB X = s at c1 c2 ⊢
  generalize strB Y = t at c1 c2 ⊢
  clear h k e
  go_enter Try.func24, Try.ntmps24
  go_wp2
  go_ret
  exact ⟨by simp, rfl⟩
/-- What Hash tells of a header: its hash, or none. -/
def hashO (x : Hdr) : List Nat := if chkH x = 0 then hashH x else z32
theorem hashO_len (x : Hdr) : (hashO x).length = 32 := by
  unfold hashO
  split
  · exact hashH_len x
  · rfl

theorem hhash_any (x : Hdr) (hx : HdrOk x) (w : World) :
    Calls Try.prog 43 #[.agg (hC x).toArray] w fun e w' => e = .returned (.tuple #[.agg (bvs (hashO x)).toArray, .int .i64 (chkH x : Nat)]) ∧ Below w.heap.size w w' := by
  unfold hashO
  by_cases hc : chkH x = 0
  · rw [if_pos hc, hc]; exact hhash_ok x ⟨hx, hc⟩ w
  · rw [if_neg hc]; exact hhash_bad x hx w hc
theorem two_kp (w : World) (a b : Hdr) : Kp w [(w.heap.size, hC a, 68), (w.heap.size + 1, hC b, 68)] ((w.alloc (.cells (hC a).toArray 68)).alloc (.cells (hC b).toArray 68)) :=
  Kp.cons (Kp.cons (Kp.nil (((Below.refl w.heap.size w).alloc (Nat.le_refl _) _).alloc (by simp) _)) (Blk.new' _ _ _ _ (by simp))) ((Blk.new w _ _).alloc _)
/-- A hash that was told is laid into its variable. -/
theorem lay_hash {w1 w2 : World} {X : List Nat} (h : w2 = (w1.alloc (.cells (bvs z32).toArray 34)).setRow w1.heap.size (bvs X).toArray) : Below w1.heap.size w1 w2 ∧ Blk w2 w1.heap.size (bvs X) 34 := by
  have b1 := (But.refl w1.heap.size (w1.alloc (.cells (bvs z32).toArray 34))).setRow (bvs X).toArray
  rw [← h] at b1
  exact ⟨((Below.refl w1.heap.size w1).alloc (Nat.le_refl _) _).trans (b1.below (Nat.le_refl _)), by rw [h]; exact (Blk.new w1 (bvs z32) _).row⟩
set_option maxRecDepth 100000 in
set_option maxHeartbeats 16000000 in
theorem hhs_long1 (a b : Hdr) (ha : 60 < a.s.size) (w : World) : Calls Try.prog 12 #[.agg (hC a).toArray, .agg (hC b).toArray] w fun e w' => e = .returned (.bool true) ∧ Below w.heap.size w w' := by
  have hK := hidp (two_kp w a b)
  go_enter Try.func12, Try.ntmps12
  go_wp2_with fail
  refine (hknown_any _).mono ?_
  rintro e w1 ⟨rfl, hb1⟩
  replace hK := hidp (hK.out.step hb1)
  clear hb1
  have c0 := (hK.out.at 0 rfl).cell 0
  have d0 := (hK.out.at 1 rfl).cell 0
  rw [hC_0] at c0 d0
  go_wp2
  go_ret
  exact ⟨rfl, hK.out.1⟩
set_option maxRecDepth 100000 in
set_option maxHeartbeats 16000000 in
theorem hhs_long2 (a b : Hdr) (ha : a.s.size ≤ 60) (hb : 60 < b.s.size) (w : World) : Calls Try.prog 12 #[.agg (hC a).toArray, .agg (hC b).toArray] w fun e w' => e = .returned (.bool true) ∧ Below w.heap.size w w' := by
  have hK := hidp (two_kp w a b)
  go_enter Try.func12, Try.ntmps12
  go_wp2_with fail
  refine (hknown_any _).mono ?_
  rintro e w1 ⟨rfl, hb1⟩
  replace hK := hidp (hK.out.step hb1)
  clear hb1
  have c0 := (hK.out.at 0 rfl).cell 0
  have d0 := (hK.out.at 1 rfl).cell 0
  rw [hC_0] at c0 d0
  go_wp2
  go_ret
  exact ⟨rfl, hK.out.1⟩
set_option maxRecDepth 100000 in
set_option maxHeartbeats 16000000 in
theorem hhs_bad1 (a b : Hdr) (ha : HdrOk a) (hb : HdrOk b) (hsa : a.s.size ≤ 60) (hsb : b.s.size ≤ 60) (hca : chkH a ≠ 0) (hcb : chkH b ≠ 0) (w : World) : Calls Try.prog 12 #[.agg (hC a).toArray, .agg (hC b).toArray] w fun e w' => e = .returned (.bool true) ∧ Below w.heap.size w w' := by
  have hz : ∀ w, (zeroValue 34).run Try.prog w = .ok (.agg (bvs z32).toArray) w := (zero_of_info (P := Try.prog) zero_hash).1
  have hla := hidp (hC_len ha)
  have hlb := hidp (hC_len hb)
  have HA := hidp (fun W => hhash_any a ha W)
  have HB := hidp (fun W => hhash_any b hb W)
  have CA := hidp (fun W => hcheck_any a ha W)
  have CB := hidp (fun W => hcheck_any b hb W)
  have hxl := hidp (hashO_len a)
  have hyl := hidp (hashO_len b)
  have hK := hidp (two_kp w a b)
  have hqz := run_eql_hash z32 z32 rfl rfl
  rw [decide_eq_true rfl] at hqz
  have hgd := guard_hash
  obtain ⟨X, hX⟩ : ∃ v, v = hashO a := ⟨_, rfl⟩
  rw [← hX] at HA hxl
  obtain rfl : X = z32 := by rw [hX]; unfold hashO; rw [if_neg hca]
  clear hX
  have na : (((chkH a : Nat) : Int) != 0) = true := by rw [bne_iff_ne]; omega
  have ma : (((chkH a : Nat) : Int) != ((chkH a : Nat) : Int)) = false := by rw [bne_eq_false_iff_eq]
  have za : (((chkH a : Nat) : Int) == 0) = false := by rw [beq_eq_false_iff_ne]; omega
  generalize chkH a = ea at *
  obtain ⟨Y, hY⟩ : ∃ v, v = hashO b := ⟨_, rfl⟩
  rw [← hY] at HB hyl
  obtain rfl : Y = z32 := by rw [hY]; unfold hashO; rw [if_neg hcb]
  clear hY
  have nb : (((chkH b : Nat) : Int) != 0) = true := by rw [bne_iff_ne]; omega
  have mb : (((chkH b : Nat) : Int) != ((chkH b : Nat) : Int)) = false := by rw [bne_eq_false_iff_eq]
  have zb : (((chkH b : Nat) : Int) == 0) = false := by rw [beq_eq_false_iff_ne]; omega
  generalize chkH b = eb at *
  clear ha hb hca hcb
  go_enter Try.func12, Try.ntmps12
  go_wp2_with fail
  obtain ⟨w0, hw0⟩ : ∃ W, W = (w.alloc (.cells (hC a).toArray 68)).alloc (.cells (hC b).toArray 68) := ⟨_, rfl⟩
  rw [← hw0] at hK ⊢
  clear hw0
  refine (hknown_any _).mono ?_
  rintro e u1 ⟨rfl, hB⟩
  have hT := hidp (show Below w0.heap.size w0 u1 from hB)
  replace hK := hidp (hK.out.step hT.out)
  clear hB hT 
  have c0 := (hK.out.at 0 rfl).cell 0
  have d0 := (hK.out.at 1 rfl).cell 0
  rw [hC_0] at c0 d0
  go_wp2_with (with_reducible refine (?_ : wpList _ _ _ _ _ _); refine wpList_load_blkG (by kernel_rfl) 68 _ rfl w.heap.size (hC a) 68 rfl (hK.out.at 0 rfl) _ Try.underlying68 rfl (by rw [hla.out]; kernel_rfl) ?_)
  refine (HA.out _).mono ?_
  rintro e u2 ⟨rfl, hB⟩
  have hT := hidp (show Below u1.heap.size u1 u2 from hB)
  replace hK := hidp (hK.out.step hT.out)
  clear hB hT HA c0 d0
  go_wp2_with first
    | (with_reducible refine (?_ : wpList _ _ _ _ _ _); refine wpList_store_blk rfl 34 _ _ rfl u2.heap.size (bvs z32) (bvs z32) 34 rfl rfl (Blk.new u2 (bvs z32) _) (by rw [bvs_len, hxl.out]; kernel_rfl) (by simp [bvs_len, hxl.out, z32]) (bvs_one _) ?_; intro t1 ht1; have L1 := hidp (lay_hash ht1.out); clear ht1)
    | (with_reducible refine (?_ : wpList _ _ _ _ _ _); refine wpList_load_blkG (by kernel_rfl) 68 _ rfl (w.heap.size + 1) (hC b) 68 rfl ((hK.out.step L1.out.1).at 1 rfl) _ Try.underlying68 rfl (by rw [hlb.out]; kernel_rfl) ?_)
  have BX := hidp L1.out.2
  replace hK := hidp (hK.out.step L1.out.1)
  clear L1
  refine (HB.out _).mono ?_
  rintro e u3 ⟨rfl, hB⟩
  have hT := hidp (show Below t1.heap.size t1 u3 from hB)
  replace hK := hidp (hK.out.step hT.out)
  replace BX := hidp (hT.out.blk' BX.out)
  clear hB hT HB
  go_wp2_with first
    | (with_reducible refine (?_ : wpList _ _ _ _ _ _); refine wpList_store_blk rfl 34 _ _ rfl u3.heap.size (bvs z32) (bvs z32) 34 rfl rfl (Blk.new u3 (bvs z32) _) (by rw [bvs_len, hyl.out]; kernel_rfl) (by simp [bvs_len, hyl.out, z32]) (bvs_one _) ?_; intro t2 ht2; have L1 := hidp (lay_hash ht2.out); clear ht2)
    | (with_reducible refine (?_ : wpList _ _ _ _ _ _); refine wpList_load_blkG (by kernel_rfl) 68 _ rfl w.heap.size (hC a) 68 rfl ((hK.out.step L1.out.1).at 0 rfl) _ Try.underlying68 rfl (by rw [hla.out]; kernel_rfl) ?_)
  have BY := hidp L1.out.2
  replace hK := hidp (hK.out.step L1.out.1)
  replace BX := hidp (L1.out.1.blk' BX.out)
  clear L1
  refine (CA.out _).mono ?_
  rintro e u4 ⟨rfl, hB⟩
  have hT := hidp (show Below t2.heap.size t2 u4 from hB)
  replace hK := hidp (hK.out.step hT.out)
  replace BX := hidp (hT.out.blk' BX.out)
  replace BY := hidp (hT.out.blk' BY.out)
  clear hB hT CA
  go_wp2_with (with_reducible refine (?_ : wpList _ _ _ _ _ _); refine wpList_load_blkG (by kernel_rfl) 68 _ rfl (w.heap.size + 1) (hC b) 68 rfl (hK.out.at 1 rfl) _ Try.underlying68 rfl (by rw [hlb.out]; kernel_rfl) ?_)
  refine (CB.out _).mono ?_
  rintro e u5 ⟨rfl, hB⟩
  have hT := hidp (show Below u4.heap.size u4 u5 from hB)
  replace hK := hidp (hK.out.step hT.out)
  replace BX := hidp (hT.out.blk' BX.out)
  replace BY := hidp (hT.out.blk' BY.out)
  clear hB hT CB
  go_wp2_with first
    | (with_reducible refine (?_ : wpList _ _ _ _ _ _); refine wpList_load_blkG (by kernel_rfl) 34 _ rfl u2.heap.size (bvs z32) 34 rfl (BX.out) _ Try.underlying34 rfl (by kernel_rfl) ?_)
    | (with_reducible refine (?_ : wpList _ _ _ _ _ _); refine wpList_load_blkG (by kernel_rfl) 34 _ rfl u3.heap.size (bvs z32) 34 rfl (BY.out) _ Try.underlying34 rfl (by kernel_rfl) ?_)
    | (with_reducible refine (?_ : wpList _ _ _ _ _ _); refine wpList_buildG (by kernel_rfl) 34 _ rfl (bvs z32).toArray (by kernel_rfl) ?_)
  go_ret
  exact ⟨rfl, hK.out.1⟩
set_option maxRecDepth 100000 in
set_option maxHeartbeats 16000000 in
theorem hhs_bad2 (a b : Hdr) (ha : HdrOk a) (hb : HdrOk b) (hsa : a.s.size ≤ 60) (hsb : b.s.size ≤ 60) (hca : chkH a ≠ 0) (hcb : chkH b = 0) (w : World) : Calls Try.prog 12 #[.agg (hC a).toArray, .agg (hC b).toArray] w fun e w' => e = .returned (.bool true) ∧ Below w.heap.size w w' := by
  have hz : ∀ w, (zeroValue 34).run Try.prog w = .ok (.agg (bvs z32).toArray) w := (zero_of_info (P := Try.prog) zero_hash).1
  have hla := hidp (hC_len ha)
  have hlb := hidp (hC_len hb)
  have HA := hidp (fun W => hhash_any a ha W)
  have HB := hidp (fun W => hhash_any b hb W)
  have CA := hidp (fun W => hcheck_any a ha W)
  have CB := hidp (fun W => hcheck_any b hb W)
  have hxl := hidp (hashO_len a)
  have hyl := hidp (hashO_len b)
  have hK := hidp (two_kp w a b)
  have hqz := run_eql_hash z32 z32 rfl rfl
  rw [decide_eq_true rfl] at hqz
  have hgd := guard_hash
  obtain ⟨X, hX⟩ : ∃ v, v = hashO a := ⟨_, rfl⟩
  rw [← hX] at HA hxl
  obtain rfl : X = z32 := by rw [hX]; unfold hashO; rw [if_neg hca]
  clear hX
  have na : (((chkH a : Nat) : Int) != 0) = true := by rw [bne_iff_ne]; omega
  have ma : (((chkH a : Nat) : Int) != ((chkH a : Nat) : Int)) = false := by rw [bne_eq_false_iff_eq]
  have za : (((chkH a : Nat) : Int) == 0) = false := by rw [beq_eq_false_iff_ne]; omega
  generalize chkH a = ea at *
  obtain ⟨Y, hY⟩ : ∃ v, v = hashO b := ⟨_, rfl⟩
  rw [← hY] at HB hyl
  clear hY
  rw [hcb] at HB CB
  clear ha hb hca hcb
  go_enter Try.func12, Try.ntmps12
  go_wp2_with fail
  obtain ⟨w0, hw0⟩ : ∃ W, W = (w.alloc (.cells (hC a).toArray 68)).alloc (.cells (hC b).toArray 68) := ⟨_, rfl⟩
  rw [← hw0] at hK ⊢
  clear hw0
  refine (hknown_any _).mono ?_
  rintro e u1 ⟨rfl, hB⟩
  have hT := hidp (show Below w0.heap.size w0 u1 from hB)
  replace hK := hidp (hK.out.step hT.out)
  clear hB hT 
  have c0 := (hK.out.at 0 rfl).cell 0
  have d0 := (hK.out.at 1 rfl).cell 0
  rw [hC_0] at c0 d0
  go_wp2_with (with_reducible refine (?_ : wpList _ _ _ _ _ _); refine wpList_load_blkG (by kernel_rfl) 68 _ rfl w.heap.size (hC a) 68 rfl (hK.out.at 0 rfl) _ Try.underlying68 rfl (by rw [hla.out]; kernel_rfl) ?_)
  refine (HA.out _).mono ?_
  rintro e u2 ⟨rfl, hB⟩
  have hT := hidp (show Below u1.heap.size u1 u2 from hB)
  replace hK := hidp (hK.out.step hT.out)
  clear hB hT HA c0 d0
  go_wp2_with first
    | (with_reducible refine (?_ : wpList _ _ _ _ _ _); refine wpList_store_blk rfl 34 _ _ rfl u2.heap.size (bvs z32) (bvs z32) 34 rfl rfl (Blk.new u2 (bvs z32) _) (by rw [bvs_len, hxl.out]; kernel_rfl) (by simp [bvs_len, hxl.out, z32]) (bvs_one _) ?_; intro t1 ht1; have L1 := hidp (lay_hash ht1.out); clear ht1)
    | (with_reducible refine (?_ : wpList _ _ _ _ _ _); refine wpList_load_blkG (by kernel_rfl) 68 _ rfl (w.heap.size + 1) (hC b) 68 rfl ((hK.out.step L1.out.1).at 1 rfl) _ Try.underlying68 rfl (by rw [hlb.out]; kernel_rfl) ?_)
  have BX := hidp L1.out.2
  replace hK := hidp (hK.out.step L1.out.1)
  clear L1
  refine (HB.out _).mono ?_
  rintro e u3 ⟨rfl, hB⟩
  have hT := hidp (show Below t1.heap.size t1 u3 from hB)
  replace hK := hidp (hK.out.step hT.out)
  replace BX := hidp (hT.out.blk' BX.out)
  clear hB hT HB
  go_wp2_with first
    | (with_reducible refine (?_ : wpList _ _ _ _ _ _); refine wpList_store_blk rfl 34 _ _ rfl u3.heap.size (bvs Y) (bvs z32) 34 rfl rfl (Blk.new u3 (bvs z32) _) (by rw [bvs_len, hyl.out]; kernel_rfl) (by simp [bvs_len, hyl.out, z32]) (bvs_one _) ?_; intro t2 ht2; have L1 := hidp (lay_hash ht2.out); clear ht2)
    | (with_reducible refine (?_ : wpList _ _ _ _ _ _); refine wpList_load_blkG (by kernel_rfl) 68 _ rfl w.heap.size (hC a) 68 rfl ((hK.out.step L1.out.1).at 0 rfl) _ Try.underlying68 rfl (by rw [hla.out]; kernel_rfl) ?_)
  have BY := hidp L1.out.2
  replace hK := hidp (hK.out.step L1.out.1)
  replace BX := hidp (L1.out.1.blk' BX.out)
  clear L1
  refine (CA.out _).mono ?_
  rintro e u4 ⟨rfl, hB⟩
  have hT := hidp (show Below t2.heap.size t2 u4 from hB)
  replace hK := hidp (hK.out.step hT.out)
  replace BX := hidp (hT.out.blk' BX.out)
  replace BY := hidp (hT.out.blk' BY.out)
  clear hB hT CA
  go_wp2_with (with_reducible refine (?_ : wpList _ _ _ _ _ _); refine wpList_load_blkG (by kernel_rfl) 68 _ rfl (w.heap.size + 1) (hC b) 68 rfl (hK.out.at 1 rfl) _ Try.underlying68 rfl (by rw [hlb.out]; kernel_rfl) ?_)
  refine (CB.out _).mono ?_
  rintro e u5 ⟨rfl, hB⟩
  have hT := hidp (show Below u4.heap.size u4 u5 from hB)
  replace hK := hidp (hK.out.step hT.out)
  replace BX := hidp (hT.out.blk' BX.out)
  replace BY := hidp (hT.out.blk' BY.out)
  clear hB hT CB
  go_wp2_with first
    | (with_reducible refine (?_ : wpList _ _ _ _ _ _); refine wpList_load_blkG (by kernel_rfl) 34 _ rfl u2.heap.size (bvs z32) 34 rfl (BX.out) _ Try.underlying34 rfl (by kernel_rfl) ?_)
    | (with_reducible refine (?_ : wpList _ _ _ _ _ _); refine wpList_buildG (by kernel_rfl) 34 _ rfl (bvs z32).toArray (by kernel_rfl) ?_)
  go_ret
  exact ⟨rfl, hK.out.1⟩
set_option maxRecDepth 100000 in
set_option maxHeartbeats 16000000 in
theorem hhs_bad3 (a b : Hdr) (ha : HdrOk a) (hb : HdrOk b) (hsa : a.s.size ≤ 60) (hsb : b.s.size ≤ 60) (hca : chkH a = 0) (hcb : chkH b ≠ 0) (w : World) : Calls Try.prog 12 #[.agg (hC a).toArray, .agg (hC b).toArray] w fun e w' => e = .returned (.bool true) ∧ Below w.heap.size w w' := by
  have hz : ∀ w, (zeroValue 34).run Try.prog w = .ok (.agg (bvs z32).toArray) w := (zero_of_info (P := Try.prog) zero_hash).1
  have hla := hidp (hC_len ha)
  have hlb := hidp (hC_len hb)
  have HA := hidp (fun W => hhash_any a ha W)
  have HB := hidp (fun W => hhash_any b hb W)
  have CA := hidp (fun W => hcheck_any a ha W)
  have CB := hidp (fun W => hcheck_any b hb W)
  have hxl := hidp (hashO_len a)
  have hyl := hidp (hashO_len b)
  have hK := hidp (two_kp w a b)
  have hqz := run_eql_hash z32 z32 rfl rfl
  rw [decide_eq_true rfl] at hqz
  have hgd := guard_hash
  obtain ⟨X, hX⟩ : ∃ v, v = hashO a := ⟨_, rfl⟩
  rw [← hX] at HA hxl
  clear hX
  rw [hca] at HA CA
  obtain ⟨Y, hY⟩ : ∃ v, v = hashO b := ⟨_, rfl⟩
  rw [← hY] at HB hyl
  obtain rfl : Y = z32 := by rw [hY]; unfold hashO; rw [if_neg hcb]
  clear hY
  have nb : (((chkH b : Nat) : Int) != 0) = true := by rw [bne_iff_ne]; omega
  have mb : (((chkH b : Nat) : Int) != ((chkH b : Nat) : Int)) = false := by rw [bne_eq_false_iff_eq]
  have zb : (((chkH b : Nat) : Int) == 0) = false := by rw [beq_eq_false_iff_ne]; omega
  generalize chkH b = eb at *
  clear ha hb hca hcb
  go_enter Try.func12, Try.ntmps12
  go_wp2_with fail
  obtain ⟨w0, hw0⟩ : ∃ W, W = (w.alloc (.cells (hC a).toArray 68)).alloc (.cells (hC b).toArray 68) := ⟨_, rfl⟩
  rw [← hw0] at hK ⊢
  clear hw0
  refine (hknown_any _).mono ?_
  rintro e u1 ⟨rfl, hB⟩
  have hT := hidp (show Below w0.heap.size w0 u1 from hB)
  replace hK := hidp (hK.out.step hT.out)
  clear hB hT 
  have c0 := (hK.out.at 0 rfl).cell 0
  have d0 := (hK.out.at 1 rfl).cell 0
  rw [hC_0] at c0 d0
  go_wp2_with (with_reducible refine (?_ : wpList _ _ _ _ _ _); refine wpList_load_blkG (by kernel_rfl) 68 _ rfl w.heap.size (hC a) 68 rfl (hK.out.at 0 rfl) _ Try.underlying68 rfl (by rw [hla.out]; kernel_rfl) ?_)
  refine (HA.out _).mono ?_
  rintro e u2 ⟨rfl, hB⟩
  have hT := hidp (show Below u1.heap.size u1 u2 from hB)
  replace hK := hidp (hK.out.step hT.out)
  clear hB hT HA c0 d0
  go_wp2_with first
    | (with_reducible refine (?_ : wpList _ _ _ _ _ _); refine wpList_store_blk rfl 34 _ _ rfl u2.heap.size (bvs X) (bvs z32) 34 rfl rfl (Blk.new u2 (bvs z32) _) (by rw [bvs_len, hxl.out]; kernel_rfl) (by simp [bvs_len, hxl.out, z32]) (bvs_one _) ?_; intro t1 ht1; have L1 := hidp (lay_hash ht1.out); clear ht1)
    | (with_reducible refine (?_ : wpList _ _ _ _ _ _); refine wpList_load_blkG (by kernel_rfl) 68 _ rfl (w.heap.size + 1) (hC b) 68 rfl ((hK.out.step L1.out.1).at 1 rfl) _ Try.underlying68 rfl (by rw [hlb.out]; kernel_rfl) ?_)
  have BX := hidp L1.out.2
  replace hK := hidp (hK.out.step L1.out.1)
  clear L1
  refine (HB.out _).mono ?_
  rintro e u3 ⟨rfl, hB⟩
  have hT := hidp (show Below t1.heap.size t1 u3 from hB)
  replace hK := hidp (hK.out.step hT.out)
  replace BX := hidp (hT.out.blk' BX.out)
  clear hB hT HB
  go_wp2_with first
    | (with_reducible refine (?_ : wpList _ _ _ _ _ _); refine wpList_store_blk rfl 34 _ _ rfl u3.heap.size (bvs z32) (bvs z32) 34 rfl rfl (Blk.new u3 (bvs z32) _) (by rw [bvs_len, hyl.out]; kernel_rfl) (by simp [bvs_len, hyl.out, z32]) (bvs_one _) ?_; intro t2 ht2; have L1 := hidp (lay_hash ht2.out); clear ht2)
    | (with_reducible refine (?_ : wpList _ _ _ _ _ _); refine wpList_load_blkG (by kernel_rfl) 68 _ rfl w.heap.size (hC a) 68 rfl ((hK.out.step L1.out.1).at 0 rfl) _ Try.underlying68 rfl (by rw [hla.out]; kernel_rfl) ?_)
  have BY := hidp L1.out.2
  replace hK := hidp (hK.out.step L1.out.1)
  replace BX := hidp (L1.out.1.blk' BX.out)
  clear L1
  refine (CA.out _).mono ?_
  rintro e u4 ⟨rfl, hB⟩
  have hT := hidp (show Below t2.heap.size t2 u4 from hB)
  replace hK := hidp (hK.out.step hT.out)
  replace BX := hidp (hT.out.blk' BX.out)
  replace BY := hidp (hT.out.blk' BY.out)
  clear hB hT CA
  go_wp2_with (with_reducible refine (?_ : wpList _ _ _ _ _ _); refine wpList_load_blkG (by kernel_rfl) 68 _ rfl (w.heap.size + 1) (hC b) 68 rfl (hK.out.at 1 rfl) _ Try.underlying68 rfl (by rw [hlb.out]; kernel_rfl) ?_)
  refine (CB.out _).mono ?_
  rintro e u5 ⟨rfl, hB⟩
  have hT := hidp (show Below u4.heap.size u4 u5 from hB)
  replace hK := hidp (hK.out.step hT.out)
  replace BX := hidp (hT.out.blk' BX.out)
  replace BY := hidp (hT.out.blk' BY.out)
  clear hB hT CB
  go_wp2_with first
    | (with_reducible refine (?_ : wpList _ _ _ _ _ _); refine wpList_load_blkG (by kernel_rfl) 34 _ rfl u3.heap.size (bvs z32) 34 rfl (BY.out) _ Try.underlying34 rfl (by kernel_rfl) ?_)
    | (with_reducible refine (?_ : wpList _ _ _ _ _ _); refine wpList_buildG (by kernel_rfl) 34 _ rfl (bvs z32).toArray (by kernel_rfl) ?_)
  go_ret
  exact ⟨rfl, hK.out.1⟩
theorem wpList_load_blkD {P : Program} {ops : Array Oper} {rest : List Oper} {o : Oper} {a : Act} {w : World} {Q : Exit → Act → World → Prop} (d0 : Nat) (_ : o.dst = some d0) (hw : Region.wanted o (yielded ops a.tmps) = true) (ty : TypeId) (x : Operand) (ho : o.op = .load ty x)
    (b : Nat) (cs : List Value) (T : TypeId) (hx : a.eval x = .pointer (some ⟨b, 0, none⟩)) (hb : Blk w b cs T) (d : TypeDesc)
    (hu : P.underlying ty = some d) (hd : (match d with | .struct _ | .array _ _ => true | _ => false) = true) (hi : (P.info? ty).map (·.size) = some cs.length)
    (h : wpList P ops Q rest (a.put o.dst (.agg cs.toArray)) w) : wpList P ops Q (o :: rest) a w := wpList_load_blkG hw ty x ho b cs T hx hb d hu hd hi h
theorem sameBytes_b {w : World} {p q : Option Addr} {b o cap b2 o2 cap2 : Nat} {X Y : List Nat} (h : Bs w p b o X cap) (k : Bs w q b2 o2 Y cap2) (t : Bool) (ht : decide (X = Y) = t) :
    Calls Try.prog 24 #[.slice p X.length cap, .slice q Y.length cap2] w fun e w' => e = .returned (.bool t) ∧ Below w.heap.size w w' := by
  refine (sameBytes_any h k).mono ?_
  rintro e w' ⟨rfl, rfl⟩
  exact ⟨ret_bool ht, Below.refl _ _⟩
set_option maxRecDepth 100000 in
set_option maxHeartbeats 16000000 in
theorem hhs_ok1 (a b : Hdr) (GA : HGood a) (GB : HGood b) (ht : true = decide (a = b)) (hu : true = decide (hashO a = hashO b)) (w : World) : Calls Try.prog 12 #[.agg (hC a).toArray, .agg (hC b).toArray] w fun e w' => e = .returned (.bool true) ∧ Below w.heap.size w w' := by
  have ha := GA.ok
  have hb := GB.ok
  have hz : ∀ w, (zeroValue 34).run Try.prog w = .ok (.agg (bvs z32).toArray) w := (zero_of_info (P := Try.prog) zero_hash).1
  have hla := hidp (hC_len ha)
  have hlb := hidp (hC_len hb)
  have HA := hidp (fun W => hhash_any a ha W)
  have HB := hidp (fun W => hhash_any b hb W)
  have CA := hidp (fun W => hcheck_any a ha W)
  have CB := hidp (fun W => hcheck_any b hb W)
  have hxl := hidp (hashO_len a)
  have hyl := hidp (hashO_len b)
  have hK := hidp (two_kp w a b)
  have hsa : a.s.size ≤ 60 := by have := nmS_size (chkH_ok GA.c).1; omega
  have hsb : b.s.size ≤ 60 := by have := nmS_size (chkH_ok GB.c).1; omega
  have hgd := guard_hash
  have hgH := guard_hdr
  have HEa := hidp (fun W => hencode_ok a ha W GA.c)
  have HEb := hidp (fun W => hencode_ok b hb W GB.c)
  have hLa := hidp (encH_le GA)
  have hLb := hidp (encH_le GB)
  have hYa := hidp (encH_byte ha)
  have hYb := hidp (encH_byte hb)
  have hinj : decide (encH a = encH b) = true := by
    rw [ht, decide_eq_decide]
    exact ⟨encH_inj GA GB, fun e => by rw [e]⟩
  have heqH := eqH a b ha hb
  have hneH := neH a b ha hb
  rw [← ht] at heqH hneH
  obtain ⟨X, hX⟩ : ∃ v, v = hashO a := ⟨_, rfl⟩
  obtain ⟨Y, hY⟩ : ∃ v, v = hashO b := ⟨_, rfl⟩
  rw [← hX] at HA hxl
  rw [← hY] at HB hyl
  rw [← hX, ← hY] at hu
  have hXs : X = hashL (72 :: encH a) := by rw [hX]; unfold hashO; rw [if_pos GA.c]; rfl
  have hYs : Y = hashL (72 :: encH b) := by rw [hY]; unfold hashO; rw [if_pos GB.c]; rfl
  clear hX hY
  rw [GA.c] at HA CA
  rw [GB.c] at HB CB
  clear ha hb GA GB ht
  generalize encH a = L at *
  generalize encH b = M at *
  have SX := hidp (fun p b c W (h : Bs W p b 0 (72 :: L) c) => by have q := sum_any (72 :: L) p b 0 c W h.bsl (by rw [List.length_cons]; have := hLa.out; omega); rw [← hXs] at q; exact q)
  have SY := hidp (fun p b c W (h : Bs W p b 0 (72 :: M) c) => by have q := sum_any (72 :: M) p b 0 c W h.bsl (by rw [List.length_cons]; have := hLb.out; omega); rw [← hYs] at q; exact q)
  clear hXs hYs
  have nX := run_neq_hash X X hxl.out hxl.out
  rw [decide_eq_true rfl, Bool.not_true] at nX
  have nY := run_neq_hash Y Y hyl.out hyl.out
  rw [decide_eq_true rfl, Bool.not_true] at nY
  have eXY := run_eql_hash X Y hxl.out hyl.out
  have nXY := run_neq_hash X Y hxl.out hyl.out
  rw [← hu] at eXY nXY
  clear hu
  replace hinj := hidp hinj
  go_enter Try.func12, Try.ntmps12
  go_wp2_with fail
  obtain ⟨w0, hw0⟩ : ∃ W, W = (w.alloc (.cells (hC a).toArray 68)).alloc (.cells (hC b).toArray 68) := ⟨_, rfl⟩
  rw [← hw0] at hK ⊢
  clear hw0
  refine (hknown_any _).mono ?_
  rintro e u1 ⟨rfl, hB⟩
  have hT := hidp (show Below w0.heap.size w0 u1 from hB)
  replace hK := hidp (hK.out.step hT.out)
  clear hB hT 
  have c0 := (hK.out.at 0 rfl).cell 0
  have d0 := (hK.out.at 1 rfl).cell 0
  rw [hC_0] at c0 d0
  go_wp2_with (with_reducible refine (?_ : wpList _ _ _ _ _ _); refine wpList_load_blkG (by kernel_rfl) 68 _ rfl w.heap.size (hC a) 68 rfl (hK.out.at 0 rfl) _ Try.underlying68 rfl (by rw [hla.out]; kernel_rfl) ?_)
  refine (HA.out _).mono ?_
  rintro e u2 ⟨rfl, hB⟩
  have hT := hidp (show Below u1.heap.size u1 u2 from hB)
  replace hK := hidp (hK.out.step hT.out)
  clear hB hT HA c0 d0
  go_wp2_with first
    | (with_reducible refine (?_ : wpList _ _ _ _ _ _); refine wpList_store_blk rfl 34 _ _ rfl u2.heap.size (bvs X) (bvs z32) 34 rfl rfl (Blk.new u2 (bvs z32) _) (by rw [bvs_len, hxl.out]; kernel_rfl) (by simp [bvs_len, hxl.out, z32]) (bvs_one _) ?_; intro t1 ht1; have L1 := hidp (lay_hash ht1.out); clear ht1)
    | (with_reducible refine (?_ : wpList _ _ _ _ _ _); refine wpList_load_blkG (by kernel_rfl) 68 _ rfl (w.heap.size + 1) (hC b) 68 rfl ((hK.out.step L1.out.1).at 1 rfl) _ Try.underlying68 rfl (by rw [hlb.out]; kernel_rfl) ?_)
  have BX := hidp L1.out.2
  replace hK := hidp (hK.out.step L1.out.1)
  clear L1
  refine (HB.out _).mono ?_
  rintro e u3 ⟨rfl, hB⟩
  have hT := hidp (show Below t1.heap.size t1 u3 from hB)
  replace hK := hidp (hK.out.step hT.out)
  replace BX := hidp (hT.out.blk' BX.out)
  clear hB hT HB
  go_wp2_with first
    | (with_reducible refine (?_ : wpList _ _ _ _ _ _); refine wpList_store_blk rfl 34 _ _ rfl u3.heap.size (bvs Y) (bvs z32) 34 rfl rfl (Blk.new u3 (bvs z32) _) (by rw [bvs_len, hyl.out]; kernel_rfl) (by simp [bvs_len, hyl.out, z32]) (bvs_one _) ?_; intro t2 ht2; have L1 := hidp (lay_hash ht2.out); clear ht2)
    | (with_reducible refine (?_ : wpList _ _ _ _ _ _); refine wpList_load_blkG (by kernel_rfl) 68 _ rfl w.heap.size (hC a) 68 rfl ((hK.out.step L1.out.1).at 0 rfl) _ Try.underlying68 rfl (by rw [hla.out]; kernel_rfl) ?_)
  have BY := hidp L1.out.2
  replace hK := hidp (hK.out.step L1.out.1)
  replace BX := hidp (L1.out.1.blk' BX.out)
  clear L1
  refine (CA.out _).mono ?_
  rintro e u4 ⟨rfl, hB⟩
  have hT := hidp (show Below t2.heap.size t2 u4 from hB)
  replace hK := hidp (hK.out.step hT.out)
  replace BX := hidp (hT.out.blk' BX.out)
  replace BY := hidp (hT.out.blk' BY.out)
  clear hB hT CA
  go_wp2_with (with_reducible refine (?_ : wpList _ _ _ _ _ _); refine wpList_load_blkG (by kernel_rfl) 68 _ rfl (w.heap.size + 1) (hC b) 68 rfl (hK.out.at 1 rfl) _ Try.underlying68 rfl (by rw [hlb.out]; kernel_rfl) ?_)
  refine (CB.out _).mono ?_
  rintro e u5 ⟨rfl, hB⟩
  have hT := hidp (show Below u4.heap.size u4 u5 from hB)
  replace hK := hidp (hK.out.step hT.out)
  replace BX := hidp (hT.out.blk' BX.out)
  replace BY := hidp (hT.out.blk' BY.out)
  clear hB hT CB
  go_wp2_with (with_reducible refine (?_ : wpList _ _ _ _ _ _); refine wpList_load_blkG (by kernel_rfl) 68 _ rfl w.heap.size (hC a) 68 rfl (hK.out.at 0 rfl) _ Try.underlying68 rfl (by rw [hla.out]; kernel_rfl) ?_)
  refine (HEa.out _).mono ?_
  rintro e u6 ⟨⟨p, bp, cp, rfl, _, hpn, hs⟩, hB⟩
  have hT := hidp (show Below u5.heap.size u5 u6 from hB)
  replace hK := hidp (hK.out.step hT.out)
  replace BX := hidp (hT.out.blk' BX.out)
  replace BY := hidp (hT.out.blk' BY.out)
  have P := hidp (hs)
  clear hB hT hs HEa
  replace hpn := hidp hpn
  go_wp2_with (with_reducible refine (?_ : wpList _ _ _ _ _ _); refine wpList_load_blkG (by kernel_rfl) 68 _ rfl (w.heap.size + 1) (hC b) 68 rfl (hK.out.at 1 rfl) _ Try.underlying68 rfl (by rw [hlb.out]; kernel_rfl) ?_)
  refine (HEb.out _).mono ?_
  rintro e u7 ⟨⟨q, bq, cq, rfl, _, hqn, hs⟩, hB⟩
  have hT := hidp (show Below u6.heap.size u6 u7 from hB)
  replace hK := hidp (hK.out.step hT.out)
  replace BX := hidp (hT.out.blk' BX.out)
  replace BY := hidp (hT.out.blk' BY.out)
  replace P := hidp (P.out.below hT.out)
  have Q := hidp (hs)
  clear hB hT hs HEb
  replace hqn := hidp hqn
  have HS1 := hidp (ByS.of_bs (P.out.below ((Below.refl u7.heap.size u7).alloc (Nat.le_refl _) (.cells (bvs [72]).toArray 5))) hpn.out)
  have HO1 := hidp (own_lit u7 [72] (by decide))
  have hn1 := hidp (show 1 + L.length ≤ 4000000 by have := hLa.out; omega)
  have hn2 := hidp (show 1 + M.length ≤ 4000000 by have := hLb.out; omega)
  have hz1 := hidp (show u7.heap.size ≤ (u7.alloc (.cells (bvs [72]).toArray 5)).heap.size by simp)
  go_wp2_with first
    | (at_builtin; refine wpList_append_byS rfl _ _ rfl u7.heap.size 1 (bvs [72]) _ rfl HO1.out p cp L rfl HS1.out hn1.out hz1.out ?_; intro vp wp hown' hgrow; have hO := hidp hown'; have T1 := hidp (((Below.refl u7.heap.size u7).alloc (Nat.le_refl _) _).grown hgrow hz1.out (fun j hj => (HO1.out.lt j hj).1)); clear hown' hgrow; have HS2 := hidp (ByS.of_bs ((Q.out.below T1.out).below ((Below.refl wp.heap.size wp).alloc (Nat.le_refl _) (.cells (bvs [72]).toArray 5))) hqn.out); have HO2 := hidp (own_lit wp [72] (by decide)); have hz2 := hidp (show wp.heap.size ≤ (wp.alloc (.cells (bvs [72]).toArray 5)).heap.size by simp))
    | (at_builtin; refine wpList_append_byS rfl _ _ rfl wp.heap.size 1 (bvs [72]) _ rfl HO2.out q cq M rfl HS2.out hn2.out hz2.out ?_; intro vq wq hown' hgrow; have hO' := hidp hown'; have T2 := hidp (((Below.refl wp.heap.size wp).alloc (Nat.le_refl _) _).grown hgrow hz2.out (fun j hj => (HO2.out.lt j hj).1)); clear hown' hgrow)
  have cons1 : 1 + L.length = (72 :: L).length := by rw [List.length_cons]; omega
  have cons2 : 1 + M.length = (72 :: M).length := by rw [List.length_cons]; omega
  have hO2 : wp.ownsRow u7.heap.size 5 1 vp (72 :: L).length (bvs (72 :: L)) := by
    have z := hO.out
    rw [cons1] at z
    exact z
  have hO3 : wq.ownsRow wp.heap.size 5 1 vq (72 :: M).length (bvs (72 :: M)) := by
    have z := hO'.out
    rw [cons2] at z
    exact z
  obtain ⟨p2, b2, c2, rfl, _, _, hs⟩ := Bs.of_own hO2 (fun z hz => by
    rcases List.mem_cons.1 hz with rfl | h1
    · decide
    · exact hYa.out z h1)
  obtain ⟨q2, d2, e2, rfl, _, _, hs'⟩ := Bs.of_own hO3 (fun z hz => by
    rcases List.mem_cons.1 hz with rfl | h1
    · decide
    · exact hYb.out z h1)
  have P2 := hidp (hs.below T2.out)
  have Q2 := hidp hs'
  have T3 := hidp (T1.out.trans (T2.out.mono T1.out.size))
  clear hs hs' hO hO' hO2 hO3 cons1 cons2 HS1 HO1 HS2 HO2 hz1 hz2 T1 T2
  replace hK := hidp (hK.out.step T3.out)
  replace BX := hidp (T3.out.blk' BX.out)
  replace BY := hidp (T3.out.blk' BY.out)
  replace P := hidp (P.out.below T3.out)
  replace Q := hidp (Q.out.below T3.out)
  clear T3
  have hT := hidp (Kp.cons (Kp.cons hK.out BY.out) BX.out)
  refine wp_region_held_drew (S := Kp w [(u2.heap.size, bvs X, 34), (u3.heap.size, bvs Y, 34), (w.heap.size, hC a, 68), (w.heap.size + 1, hC b, 68)]) (by kernel_rfl) hT.out.drew (fun hHeld => ?_)
  replace hT := hidp hT.out.drew
  try simp only [Act.put, List.setIfInBounds_toArray, List.set_cons_zero, List.set_cons_succ]
  replace P := hidp (P.out.below (Below.refl _ wq).drew)
  replace Q := hidp (Q.out.below (Below.refl _ wq).drew)
  replace P2 := hidp (P2.out.below (Below.refl _ wq).drew)
  replace Q2 := hidp (Q2.out.below (Below.refl _ wq).drew)
  clear hK BX BY
  refine wpAnyH_takeTo2 (i := 0) (oi := _) (v := .agg (bvs X).toArray) (some 89) rfl rfl (by kernel_rfl) (by kernel_rfl) (by kernel_rfl) (fun _ _ _ h => h) (yieldsIf_load_mid (by rfl) 34 _ rfl (u2.heap.size) 0 rfl (bvs X) _ (fun w' hw' j v hj => by rw [Nat.zero_add]; exact ((hw'.at 0 rfl).cell j).trans hj) Try.underlying34 rfl (by rw [bvs_len, hxl.out]; kernel_rfl)) hHeld ?_
  try simp only [Act.put, List.setIfInBounds_toArray, List.set_cons_zero, List.set_cons_succ]
  refine wpAnyH_takeTo2 (i := 1) (oi := _) (v := ?_) (some 90) rfl rfl (by kernel_rfl) (by kernel_rfl) (by kernel_rfl) (fun _ _ _ h => h) (Or.inl ⟨by rfl, ?_⟩) hHeld ?_
  rotate_left
  · intro w hSw
    go_simp
    try with_reducible rfl
  try simp only [Act.put, List.setIfInBounds_toArray, List.set_cons_zero, List.set_cons_succ]
  refine wpAnyH_ready (rs := [2]) (by kernel_rfl) (by simp) ?_
  refine AllReadyH.cons (o := _) rfl (fun K hK => ?_) AllReadyH.nil
  go_simp
  refine (SX.out _ _ _ _ P2.out).mono ?_
  rintro e wN ⟨rfl, hN⟩
  replace hT := hidp (hT.out.step hN)
  replace P := hidp (P.out.below hN)
  replace Q := hidp (Q.out.below hN)
  replace P2 := hidp (P2.out.below hN)
  replace Q2 := hidp (Q2.out.below hN)
  clear hN
  go_wp2_with fail
  refine hK.out _ _ hT.out (fun hHeld' => ?_)
  clear hK K hHeld
  have hHeld := hHeld'
  clear hHeld'
  try simp only [Act.put, List.setIfInBounds_toArray, List.set_cons_zero, List.set_cons_succ]
  refine wpAnyH_takeTo2 (i := 3) (oi := _) (v := ?_) (some 92) rfl rfl (by kernel_rfl) (by kernel_rfl) (by kernel_rfl) (fun _ _ _ h => h) (Or.inl ⟨by rfl, ?_⟩) hHeld ?_
  rotate_left
  · intro w hSw
    go_simp
    try with_reducible rfl
  try simp only [Act.put, List.setIfInBounds_toArray, List.set_cons_zero, List.set_cons_succ]
  refine wpAnyH_takeTo2 (i := 4) (oi := _) (v := ?_) (some 93) rfl rfl (by kernel_rfl) (by kernel_rfl) (by kernel_rfl) (fun _ _ _ h => h) (Or.inl ⟨by rfl, ?_⟩) hHeld ?_
  rotate_left
  · intro w hSw
    go_simp
    try with_reducible rfl
  try simp only [Act.put, List.setIfInBounds_toArray, List.set_cons_zero, List.set_cons_succ]
  refine wpAnyH_takeTo2 (i := 5) (oi := _) (v := .agg (bvs Y).toArray) (some 94) rfl rfl (by kernel_rfl) (by kernel_rfl) (by kernel_rfl) (fun _ _ _ h => h) (yieldsIf_load_mid (by rfl) 34 _ rfl (u3.heap.size) 0 rfl (bvs Y) _ (fun w' hw' j v hj => by rw [Nat.zero_add]; exact ((hw'.at 1 rfl).cell j).trans hj) Try.underlying34 rfl (by rw [bvs_len, hyl.out]; kernel_rfl)) hHeld ?_
  try simp only [Act.put, List.setIfInBounds_toArray, List.set_cons_zero, List.set_cons_succ]
  refine wpAnyH_takeTo2 (i := 6) (oi := _) (v := ?_) (some 95) rfl rfl (by kernel_rfl) (by kernel_rfl) (by kernel_rfl) (fun _ _ _ h => h) (Or.inl ⟨by rfl, ?_⟩) hHeld ?_
  rotate_left
  · intro w hSw
    go_simp
    try with_reducible rfl
  try simp only [Act.put, List.setIfInBounds_toArray, List.set_cons_zero, List.set_cons_succ]
  refine wpAnyH_ready (rs := [7]) (by kernel_rfl) (by simp) ?_
  refine AllReadyH.cons (o := _) rfl (fun K hK => ?_) AllReadyH.nil
  go_simp
  refine (SY.out _ _ _ _ Q2.out).mono ?_
  rintro e wN ⟨rfl, hN⟩
  replace hT := hidp (hT.out.step hN)
  replace P := hidp (P.out.below hN)
  replace Q := hidp (Q.out.below hN)
  replace P2 := hidp (P2.out.below hN)
  replace Q2 := hidp (Q2.out.below hN)
  clear hN
  go_wp2_with fail
  refine hK.out _ _ hT.out (fun hHeld' => ?_)
  clear hK K hHeld
  have hHeld := hHeld'
  clear hHeld'
  try simp only [Act.put, List.setIfInBounds_toArray, List.set_cons_zero, List.set_cons_succ]
  refine wpAnyH_takeTo2 (i := 8) (oi := _) (v := ?_) (some 97) rfl rfl (by kernel_rfl) (by kernel_rfl) (by kernel_rfl) (fun _ _ _ h => h) (Or.inl ⟨by rfl, ?_⟩) hHeld ?_
  rotate_left
  · intro w hSw
    go_simp
    try with_reducible rfl
  try simp only [Act.put, List.setIfInBounds_toArray, List.set_cons_zero, List.set_cons_succ]
  refine wpAnyH_takeTo2 (i := 9) (oi := _) (v := ?_) (some 98) rfl rfl (by kernel_rfl) (by kernel_rfl) (by kernel_rfl) (fun _ _ _ h => h) (Or.inl ⟨by rfl, ?_⟩) hHeld ?_
  rotate_left
  · intro w hSw
    go_simp
    try with_reducible rfl
  try simp only [Act.put, List.setIfInBounds_toArray, List.set_cons_zero, List.set_cons_succ]
  refine wpAnyH_takeTo2 (i := 10) (oi := _) (v := ?_) (some 99) rfl rfl (by kernel_rfl) (by kernel_rfl) (by kernel_rfl) (fun _ _ _ h => h) (Or.inl ⟨by rfl, ?_⟩) hHeld ?_
  rotate_left
  · intro w hSw
    go_simp
    try with_reducible rfl
  try simp only [Act.put, List.setIfInBounds_toArray, List.set_cons_zero, List.set_cons_succ]
  refine wpAnyH_takeTo2 (i := 11) (oi := _) (v := ?_) (some 100) rfl rfl (by kernel_rfl) (by kernel_rfl) (by kernel_rfl) (fun _ _ _ h => h) (Or.inl ⟨by rfl, ?_⟩) hHeld ?_
  rotate_left
  · intro w hSw
    go_simp
    try with_reducible rfl
  try simp only [Act.put, List.setIfInBounds_toArray, List.set_cons_zero, List.set_cons_succ]
  refine wpAnyH_takeTo2 (i := 12) (oi := _) (v := ?_) (some 101) rfl rfl (by kernel_rfl) (by kernel_rfl) (by kernel_rfl) (fun _ _ _ h => h) (Or.inl ⟨by rfl, ?_⟩) hHeld ?_
  rotate_left
  · intro w hSw
    go_simp
    try with_reducible rfl
  try simp only [Act.put, List.setIfInBounds_toArray, List.set_cons_zero, List.set_cons_succ]
  refine wpAnyH_takeTo2 (i := 14) (oi := _) (v := .agg (hC a).toArray) (some 103) rfl rfl (by kernel_rfl) (by kernel_rfl) (by kernel_rfl) (fun _ _ _ h => h) (yieldsIf_load_mid (by rfl) 68 _ rfl (w.heap.size) 0 rfl (hC a) _ (fun w' hw' j v hj => by rw [Nat.zero_add]; exact ((hw'.at 2 rfl).cell j).trans hj) Try.underlying68 rfl (by rw [hla.out]; kernel_rfl)) hHeld ?_
  try simp only [Act.put, List.setIfInBounds_toArray, List.set_cons_zero, List.set_cons_succ]
  refine wpAnyH_takeTo2 (i := 15) (oi := _) (v := .agg (hC b).toArray) (some 104) rfl rfl (by kernel_rfl) (by kernel_rfl) (by kernel_rfl) (fun _ _ _ h => h) (yieldsIf_load_mid (by rfl) 68 _ rfl (w.heap.size + 1) 0 rfl (hC b) _ (fun w' hw' j v hj => by rw [Nat.zero_add]; exact ((hw'.at 3 rfl).cell j).trans hj) Try.underlying68 rfl (by rw [hlb.out]; kernel_rfl)) hHeld ?_
  try simp only [Act.put, List.setIfInBounds_toArray, List.set_cons_zero, List.set_cons_succ]
  refine wpAnyH_takeTo2 (i := 16) (oi := _) (v := ?_) (some 105) rfl rfl (by kernel_rfl) (by kernel_rfl) (by kernel_rfl) (fun _ _ _ h => h) (Or.inl ⟨by rfl, ?_⟩) hHeld ?_
  rotate_left
  · intro w hSw
    go_simp
    try with_reducible rfl
  try simp only [Act.put, List.setIfInBounds_toArray, List.set_cons_zero, List.set_cons_succ]
  refine wpAnyH_ready (rs := [13]) (by kernel_rfl) (by simp) ?_
  refine AllReadyH.cons (o := _) rfl (fun K hK => ?_) AllReadyH.nil
  go_simp
  refine (sameBytes_b P.out Q.out true hinj.out).mono ?_
  rintro e wN ⟨rfl, hN⟩
  replace hT := hidp (hT.out.step hN)
  replace P := hidp (P.out.below hN)
  replace Q := hidp (Q.out.below hN)
  replace P2 := hidp (P2.out.below hN)
  replace Q2 := hidp (Q2.out.below hN)
  clear hN
  go_wp2_with fail
  refine hK.out _ _ hT.out (fun hHeld' => ?_)
  clear hK K hHeld
  have hHeld := hHeld'
  clear hHeld'
  try simp only [Act.put, List.setIfInBounds_toArray, List.set_cons_zero, List.set_cons_succ]
  refine wpAnyH_takeTo2 (i := 17) (oi := _) (v := ?_) (some 106) rfl rfl (by kernel_rfl) (by kernel_rfl) (by kernel_rfl) (fun _ _ _ h => h) (Or.inl ⟨by rfl, ?_⟩) hHeld ?_
  rotate_left
  · intro w hSw
    go_simp
    try with_reducible rfl
  try simp only [Act.put, List.setIfInBounds_toArray, List.set_cons_zero, List.set_cons_succ]
  refine wpAnyH_takeTo2 (i := 18) (oi := _) (v := ?_) (some 107) rfl rfl (by kernel_rfl) (by kernel_rfl) (by kernel_rfl) (fun _ _ _ h => h) (Or.inl ⟨by rfl, ?_⟩) hHeld ?_
  rotate_left
  · intro w hSw
    go_simp
    try with_reducible rfl
  try simp only [Act.put, List.setIfInBounds_toArray, List.set_cons_zero, List.set_cons_succ]
  refine wpAnyH_done (by kernel_rfl) ?_ _
  clear P Q hpn hqn hinj hHeld
  go_wp2_with (first | (with_reducible refine (?_ : wpList _ _ _ _ _ _); refine wpList_load_blkD 110 rfl (by kernel_rfl) 68 _ rfl w.heap.size (hC a) 68 rfl (hT.out.at 2 rfl) _ Try.underlying68 rfl (by rw [hla.out]; kernel_rfl) ?_) | (with_reducible refine (?_ : wpList _ _ _ _ _ _); refine wpList_load_blkD 111 rfl (by kernel_rfl) 68 _ rfl (w.heap.size + 1) (hC b) 68 rfl (hT.out.at 3 rfl) _ Try.underlying68 rfl (by rw [hlb.out]; kernel_rfl) ?_) | (with_reducible refine (?_ : wpList _ _ _ _ _ _); refine wpList_load_blkD 114 rfl (by kernel_rfl) 34 _ rfl u2.heap.size (bvs X) 34 rfl (hT.out.at 0 rfl) _ Try.underlying34 rfl (by rw [bvs_len, hxl.out]; kernel_rfl) ?_) | (with_reducible refine (?_ : wpList _ _ _ _ _ _); refine wpList_load_blkD 115 rfl (by kernel_rfl) 34 _ rfl u3.heap.size (bvs Y) 34 rfl (hT.out.at 1 rfl) _ Try.underlying34 rfl (by rw [bvs_len, hyl.out]; kernel_rfl) ?_) | (with_reducible refine (?_ : wpList _ _ _ _ _ _); refine wpList_load_blkD 120 rfl (by kernel_rfl) 68 _ rfl w.heap.size (hC a) 68 rfl (hT.out.at 2 rfl) _ Try.underlying68 rfl (by rw [hla.out]; kernel_rfl) ?_) | (with_reducible refine (?_ : wpList _ _ _ _ _ _); refine wpList_load_blkD 121 rfl (by kernel_rfl) 68 _ rfl (w.heap.size + 1) (hC b) 68 rfl (hT.out.at 3 rfl) _ Try.underlying68 rfl (by rw [hlb.out]; kernel_rfl) ?_))
  go_ret
  exact ⟨rfl, hT.out.1⟩
set_option maxRecDepth 100000 in
set_option maxHeartbeats 16000000 in
theorem hhs_ok2 (a b : Hdr) (GA : HGood a) (GB : HGood b) (ht : false = decide (a = b)) (hu : false = decide (hashO a = hashO b)) (w : World) : Calls Try.prog 12 #[.agg (hC a).toArray, .agg (hC b).toArray] w fun e w' => e = .returned (.bool true) ∧ Below w.heap.size w w' := by
  have ha := GA.ok
  have hb := GB.ok
  have hz : ∀ w, (zeroValue 34).run Try.prog w = .ok (.agg (bvs z32).toArray) w := (zero_of_info (P := Try.prog) zero_hash).1
  have hla := hidp (hC_len ha)
  have hlb := hidp (hC_len hb)
  have HA := hidp (fun W => hhash_any a ha W)
  have HB := hidp (fun W => hhash_any b hb W)
  have CA := hidp (fun W => hcheck_any a ha W)
  have CB := hidp (fun W => hcheck_any b hb W)
  have hxl := hidp (hashO_len a)
  have hyl := hidp (hashO_len b)
  have hK := hidp (two_kp w a b)
  have hsa : a.s.size ≤ 60 := by have := nmS_size (chkH_ok GA.c).1; omega
  have hsb : b.s.size ≤ 60 := by have := nmS_size (chkH_ok GB.c).1; omega
  have hgd := guard_hash
  have hgH := guard_hdr
  have HEa := hidp (fun W => hencode_ok a ha W GA.c)
  have HEb := hidp (fun W => hencode_ok b hb W GB.c)
  have hLa := hidp (encH_le GA)
  have hLb := hidp (encH_le GB)
  have hYa := hidp (encH_byte ha)
  have hYb := hidp (encH_byte hb)
  have hinj : decide (encH a = encH b) = false := by
    rw [ht, decide_eq_decide]
    exact ⟨encH_inj GA GB, fun e => by rw [e]⟩
  have heqH := eqH a b ha hb
  have hneH := neH a b ha hb
  rw [← ht] at heqH hneH
  obtain ⟨X, hX⟩ : ∃ v, v = hashO a := ⟨_, rfl⟩
  obtain ⟨Y, hY⟩ : ∃ v, v = hashO b := ⟨_, rfl⟩
  rw [← hX] at HA hxl
  rw [← hY] at HB hyl
  rw [← hX, ← hY] at hu
  have hXs : X = hashL (72 :: encH a) := by rw [hX]; unfold hashO; rw [if_pos GA.c]; rfl
  have hYs : Y = hashL (72 :: encH b) := by rw [hY]; unfold hashO; rw [if_pos GB.c]; rfl
  clear hX hY
  rw [GA.c] at HA CA
  rw [GB.c] at HB CB
  clear ha hb GA GB ht
  generalize encH a = L at *
  generalize encH b = M at *
  have SX := hidp (fun p b c W (h : Bs W p b 0 (72 :: L) c) => by have q := sum_any (72 :: L) p b 0 c W h.bsl (by rw [List.length_cons]; have := hLa.out; omega); rw [← hXs] at q; exact q)
  have SY := hidp (fun p b c W (h : Bs W p b 0 (72 :: M) c) => by have q := sum_any (72 :: M) p b 0 c W h.bsl (by rw [List.length_cons]; have := hLb.out; omega); rw [← hYs] at q; exact q)
  clear hXs hYs
  have nX := run_neq_hash X X hxl.out hxl.out
  rw [decide_eq_true rfl, Bool.not_true] at nX
  have nY := run_neq_hash Y Y hyl.out hyl.out
  rw [decide_eq_true rfl, Bool.not_true] at nY
  have eXY := run_eql_hash X Y hxl.out hyl.out
  have nXY := run_neq_hash X Y hxl.out hyl.out
  rw [← hu] at eXY nXY
  clear hu
  replace hinj := hidp hinj
  go_enter Try.func12, Try.ntmps12
  go_wp2_with fail
  obtain ⟨w0, hw0⟩ : ∃ W, W = (w.alloc (.cells (hC a).toArray 68)).alloc (.cells (hC b).toArray 68) := ⟨_, rfl⟩
  rw [← hw0] at hK ⊢
  clear hw0
  refine (hknown_any _).mono ?_
  rintro e u1 ⟨rfl, hB⟩
  have hT := hidp (show Below w0.heap.size w0 u1 from hB)
  replace hK := hidp (hK.out.step hT.out)
  clear hB hT 
  have c0 := (hK.out.at 0 rfl).cell 0
  have d0 := (hK.out.at 1 rfl).cell 0
  rw [hC_0] at c0 d0
  go_wp2_with (with_reducible refine (?_ : wpList _ _ _ _ _ _); refine wpList_load_blkG (by kernel_rfl) 68 _ rfl w.heap.size (hC a) 68 rfl (hK.out.at 0 rfl) _ Try.underlying68 rfl (by rw [hla.out]; kernel_rfl) ?_)
  refine (HA.out _).mono ?_
  rintro e u2 ⟨rfl, hB⟩
  have hT := hidp (show Below u1.heap.size u1 u2 from hB)
  replace hK := hidp (hK.out.step hT.out)
  clear hB hT HA c0 d0
  go_wp2_with first
    | (with_reducible refine (?_ : wpList _ _ _ _ _ _); refine wpList_store_blk rfl 34 _ _ rfl u2.heap.size (bvs X) (bvs z32) 34 rfl rfl (Blk.new u2 (bvs z32) _) (by rw [bvs_len, hxl.out]; kernel_rfl) (by simp [bvs_len, hxl.out, z32]) (bvs_one _) ?_; intro t1 ht1; have L1 := hidp (lay_hash ht1.out); clear ht1)
    | (with_reducible refine (?_ : wpList _ _ _ _ _ _); refine wpList_load_blkG (by kernel_rfl) 68 _ rfl (w.heap.size + 1) (hC b) 68 rfl ((hK.out.step L1.out.1).at 1 rfl) _ Try.underlying68 rfl (by rw [hlb.out]; kernel_rfl) ?_)
  have BX := hidp L1.out.2
  replace hK := hidp (hK.out.step L1.out.1)
  clear L1
  refine (HB.out _).mono ?_
  rintro e u3 ⟨rfl, hB⟩
  have hT := hidp (show Below t1.heap.size t1 u3 from hB)
  replace hK := hidp (hK.out.step hT.out)
  replace BX := hidp (hT.out.blk' BX.out)
  clear hB hT HB
  go_wp2_with first
    | (with_reducible refine (?_ : wpList _ _ _ _ _ _); refine wpList_store_blk rfl 34 _ _ rfl u3.heap.size (bvs Y) (bvs z32) 34 rfl rfl (Blk.new u3 (bvs z32) _) (by rw [bvs_len, hyl.out]; kernel_rfl) (by simp [bvs_len, hyl.out, z32]) (bvs_one _) ?_; intro t2 ht2; have L1 := hidp (lay_hash ht2.out); clear ht2)
    | (with_reducible refine (?_ : wpList _ _ _ _ _ _); refine wpList_load_blkG (by kernel_rfl) 68 _ rfl w.heap.size (hC a) 68 rfl ((hK.out.step L1.out.1).at 0 rfl) _ Try.underlying68 rfl (by rw [hla.out]; kernel_rfl) ?_)
  have BY := hidp L1.out.2
  replace hK := hidp (hK.out.step L1.out.1)
  replace BX := hidp (L1.out.1.blk' BX.out)
  clear L1
  refine (CA.out _).mono ?_
  rintro e u4 ⟨rfl, hB⟩
  have hT := hidp (show Below t2.heap.size t2 u4 from hB)
  replace hK := hidp (hK.out.step hT.out)
  replace BX := hidp (hT.out.blk' BX.out)
  replace BY := hidp (hT.out.blk' BY.out)
  clear hB hT CA
  go_wp2_with (with_reducible refine (?_ : wpList _ _ _ _ _ _); refine wpList_load_blkG (by kernel_rfl) 68 _ rfl (w.heap.size + 1) (hC b) 68 rfl (hK.out.at 1 rfl) _ Try.underlying68 rfl (by rw [hlb.out]; kernel_rfl) ?_)
  refine (CB.out _).mono ?_
  rintro e u5 ⟨rfl, hB⟩
  have hT := hidp (show Below u4.heap.size u4 u5 from hB)
  replace hK := hidp (hK.out.step hT.out)
  replace BX := hidp (hT.out.blk' BX.out)
  replace BY := hidp (hT.out.blk' BY.out)
  clear hB hT CB
  go_wp2_with (with_reducible refine (?_ : wpList _ _ _ _ _ _); refine wpList_load_blkG (by kernel_rfl) 68 _ rfl w.heap.size (hC a) 68 rfl (hK.out.at 0 rfl) _ Try.underlying68 rfl (by rw [hla.out]; kernel_rfl) ?_)
  refine (HEa.out _).mono ?_
  rintro e u6 ⟨⟨p, bp, cp, rfl, _, hpn, hs⟩, hB⟩
  have hT := hidp (show Below u5.heap.size u5 u6 from hB)
  replace hK := hidp (hK.out.step hT.out)
  replace BX := hidp (hT.out.blk' BX.out)
  replace BY := hidp (hT.out.blk' BY.out)
  have P := hidp (hs)
  clear hB hT hs HEa
  replace hpn := hidp hpn
  go_wp2_with (with_reducible refine (?_ : wpList _ _ _ _ _ _); refine wpList_load_blkG (by kernel_rfl) 68 _ rfl (w.heap.size + 1) (hC b) 68 rfl (hK.out.at 1 rfl) _ Try.underlying68 rfl (by rw [hlb.out]; kernel_rfl) ?_)
  refine (HEb.out _).mono ?_
  rintro e u7 ⟨⟨q, bq, cq, rfl, _, hqn, hs⟩, hB⟩
  have hT := hidp (show Below u6.heap.size u6 u7 from hB)
  replace hK := hidp (hK.out.step hT.out)
  replace BX := hidp (hT.out.blk' BX.out)
  replace BY := hidp (hT.out.blk' BY.out)
  replace P := hidp (P.out.below hT.out)
  have Q := hidp (hs)
  clear hB hT hs HEb
  replace hqn := hidp hqn
  have HS1 := hidp (ByS.of_bs (P.out.below ((Below.refl u7.heap.size u7).alloc (Nat.le_refl _) (.cells (bvs [72]).toArray 5))) hpn.out)
  have HO1 := hidp (own_lit u7 [72] (by decide))
  have hn1 := hidp (show 1 + L.length ≤ 4000000 by have := hLa.out; omega)
  have hn2 := hidp (show 1 + M.length ≤ 4000000 by have := hLb.out; omega)
  have hz1 := hidp (show u7.heap.size ≤ (u7.alloc (.cells (bvs [72]).toArray 5)).heap.size by simp)
  go_wp2_with first
    | (at_builtin; refine wpList_append_byS rfl _ _ rfl u7.heap.size 1 (bvs [72]) _ rfl HO1.out p cp L rfl HS1.out hn1.out hz1.out ?_; intro vp wp hown' hgrow; have hO := hidp hown'; have T1 := hidp (((Below.refl u7.heap.size u7).alloc (Nat.le_refl _) _).grown hgrow hz1.out (fun j hj => (HO1.out.lt j hj).1)); clear hown' hgrow; have HS2 := hidp (ByS.of_bs ((Q.out.below T1.out).below ((Below.refl wp.heap.size wp).alloc (Nat.le_refl _) (.cells (bvs [72]).toArray 5))) hqn.out); have HO2 := hidp (own_lit wp [72] (by decide)); have hz2 := hidp (show wp.heap.size ≤ (wp.alloc (.cells (bvs [72]).toArray 5)).heap.size by simp))
    | (at_builtin; refine wpList_append_byS rfl _ _ rfl wp.heap.size 1 (bvs [72]) _ rfl HO2.out q cq M rfl HS2.out hn2.out hz2.out ?_; intro vq wq hown' hgrow; have hO' := hidp hown'; have T2 := hidp (((Below.refl wp.heap.size wp).alloc (Nat.le_refl _) _).grown hgrow hz2.out (fun j hj => (HO2.out.lt j hj).1)); clear hown' hgrow)
  have cons1 : 1 + L.length = (72 :: L).length := by rw [List.length_cons]; omega
  have cons2 : 1 + M.length = (72 :: M).length := by rw [List.length_cons]; omega
  have hO2 : wp.ownsRow u7.heap.size 5 1 vp (72 :: L).length (bvs (72 :: L)) := by
    have z := hO.out
    rw [cons1] at z
    exact z
  have hO3 : wq.ownsRow wp.heap.size 5 1 vq (72 :: M).length (bvs (72 :: M)) := by
    have z := hO'.out
    rw [cons2] at z
    exact z
  obtain ⟨p2, b2, c2, rfl, _, _, hs⟩ := Bs.of_own hO2 (fun z hz => by
    rcases List.mem_cons.1 hz with rfl | h1
    · decide
    · exact hYa.out z h1)
  obtain ⟨q2, d2, e2, rfl, _, _, hs'⟩ := Bs.of_own hO3 (fun z hz => by
    rcases List.mem_cons.1 hz with rfl | h1
    · decide
    · exact hYb.out z h1)
  have P2 := hidp (hs.below T2.out)
  have Q2 := hidp hs'
  have T3 := hidp (T1.out.trans (T2.out.mono T1.out.size))
  clear hs hs' hO hO' hO2 hO3 cons1 cons2 HS1 HO1 HS2 HO2 hz1 hz2 T1 T2
  replace hK := hidp (hK.out.step T3.out)
  replace BX := hidp (T3.out.blk' BX.out)
  replace BY := hidp (T3.out.blk' BY.out)
  replace P := hidp (P.out.below T3.out)
  replace Q := hidp (Q.out.below T3.out)
  clear T3
  have hT := hidp (Kp.cons (Kp.cons hK.out BY.out) BX.out)
  refine wp_region_held_drew (S := Kp w [(u2.heap.size, bvs X, 34), (u3.heap.size, bvs Y, 34), (w.heap.size, hC a, 68), (w.heap.size + 1, hC b, 68)]) (by kernel_rfl) hT.out.drew (fun hHeld => ?_)
  replace hT := hidp hT.out.drew
  try simp only [Act.put, List.setIfInBounds_toArray, List.set_cons_zero, List.set_cons_succ]
  replace P := hidp (P.out.below (Below.refl _ wq).drew)
  replace Q := hidp (Q.out.below (Below.refl _ wq).drew)
  replace P2 := hidp (P2.out.below (Below.refl _ wq).drew)
  replace Q2 := hidp (Q2.out.below (Below.refl _ wq).drew)
  clear hK BX BY
  refine wpAnyH_takeTo2 (i := 0) (oi := _) (v := .agg (bvs X).toArray) (some 89) rfl rfl (by kernel_rfl) (by kernel_rfl) (by kernel_rfl) (fun _ _ _ h => h) (yieldsIf_load_mid (by rfl) 34 _ rfl (u2.heap.size) 0 rfl (bvs X) _ (fun w' hw' j v hj => by rw [Nat.zero_add]; exact ((hw'.at 0 rfl).cell j).trans hj) Try.underlying34 rfl (by rw [bvs_len, hxl.out]; kernel_rfl)) hHeld ?_
  try simp only [Act.put, List.setIfInBounds_toArray, List.set_cons_zero, List.set_cons_succ]
  refine wpAnyH_takeTo2 (i := 1) (oi := _) (v := ?_) (some 90) rfl rfl (by kernel_rfl) (by kernel_rfl) (by kernel_rfl) (fun _ _ _ h => h) (Or.inl ⟨by rfl, ?_⟩) hHeld ?_
  rotate_left
  · intro w hSw
    go_simp
    try with_reducible rfl
  try simp only [Act.put, List.setIfInBounds_toArray, List.set_cons_zero, List.set_cons_succ]
  refine wpAnyH_ready (rs := [2]) (by kernel_rfl) (by simp) ?_
  refine AllReadyH.cons (o := _) rfl (fun K hK => ?_) AllReadyH.nil
  go_simp
  refine (SX.out _ _ _ _ P2.out).mono ?_
  rintro e wN ⟨rfl, hN⟩
  replace hT := hidp (hT.out.step hN)
  replace P := hidp (P.out.below hN)
  replace Q := hidp (Q.out.below hN)
  replace P2 := hidp (P2.out.below hN)
  replace Q2 := hidp (Q2.out.below hN)
  clear hN
  go_wp2_with fail
  refine hK.out _ _ hT.out (fun hHeld' => ?_)
  clear hK K hHeld
  have hHeld := hHeld'
  clear hHeld'
  try simp only [Act.put, List.setIfInBounds_toArray, List.set_cons_zero, List.set_cons_succ]
  refine wpAnyH_takeTo2 (i := 3) (oi := _) (v := ?_) (some 92) rfl rfl (by kernel_rfl) (by kernel_rfl) (by kernel_rfl) (fun _ _ _ h => h) (Or.inl ⟨by rfl, ?_⟩) hHeld ?_
  rotate_left
  · intro w hSw
    go_simp
    try with_reducible rfl
  try simp only [Act.put, List.setIfInBounds_toArray, List.set_cons_zero, List.set_cons_succ]
  refine wpAnyH_takeTo2 (i := 4) (oi := _) (v := ?_) (some 93) rfl rfl (by kernel_rfl) (by kernel_rfl) (by kernel_rfl) (fun _ _ _ h => h) (Or.inl ⟨by rfl, ?_⟩) hHeld ?_
  rotate_left
  · intro w hSw
    go_simp
    try with_reducible rfl
  try simp only [Act.put, List.setIfInBounds_toArray, List.set_cons_zero, List.set_cons_succ]
  refine wpAnyH_takeTo2 (i := 5) (oi := _) (v := .agg (bvs Y).toArray) (some 94) rfl rfl (by kernel_rfl) (by kernel_rfl) (by kernel_rfl) (fun _ _ _ h => h) (yieldsIf_load_mid (by rfl) 34 _ rfl (u3.heap.size) 0 rfl (bvs Y) _ (fun w' hw' j v hj => by rw [Nat.zero_add]; exact ((hw'.at 1 rfl).cell j).trans hj) Try.underlying34 rfl (by rw [bvs_len, hyl.out]; kernel_rfl)) hHeld ?_
  try simp only [Act.put, List.setIfInBounds_toArray, List.set_cons_zero, List.set_cons_succ]
  refine wpAnyH_takeTo2 (i := 6) (oi := _) (v := ?_) (some 95) rfl rfl (by kernel_rfl) (by kernel_rfl) (by kernel_rfl) (fun _ _ _ h => h) (Or.inl ⟨by rfl, ?_⟩) hHeld ?_
  rotate_left
  · intro w hSw
    go_simp
    try with_reducible rfl
  try simp only [Act.put, List.setIfInBounds_toArray, List.set_cons_zero, List.set_cons_succ]
  refine wpAnyH_ready (rs := [7]) (by kernel_rfl) (by simp) ?_
  refine AllReadyH.cons (o := _) rfl (fun K hK => ?_) AllReadyH.nil
  go_simp
  refine (SY.out _ _ _ _ Q2.out).mono ?_
  rintro e wN ⟨rfl, hN⟩
  replace hT := hidp (hT.out.step hN)
  replace P := hidp (P.out.below hN)
  replace Q := hidp (Q.out.below hN)
  replace P2 := hidp (P2.out.below hN)
  replace Q2 := hidp (Q2.out.below hN)
  clear hN
  go_wp2_with fail
  refine hK.out _ _ hT.out (fun hHeld' => ?_)
  clear hK K hHeld
  have hHeld := hHeld'
  clear hHeld'
  try simp only [Act.put, List.setIfInBounds_toArray, List.set_cons_zero, List.set_cons_succ]
  refine wpAnyH_takeTo2 (i := 8) (oi := _) (v := ?_) (some 97) rfl rfl (by kernel_rfl) (by kernel_rfl) (by kernel_rfl) (fun _ _ _ h => h) (Or.inl ⟨by rfl, ?_⟩) hHeld ?_
  rotate_left
  · intro w hSw
    go_simp
    try with_reducible rfl
  try simp only [Act.put, List.setIfInBounds_toArray, List.set_cons_zero, List.set_cons_succ]
  refine wpAnyH_takeTo2 (i := 9) (oi := _) (v := ?_) (some 98) rfl rfl (by kernel_rfl) (by kernel_rfl) (by kernel_rfl) (fun _ _ _ h => h) (Or.inl ⟨by rfl, ?_⟩) hHeld ?_
  rotate_left
  · intro w hSw
    go_simp
    try with_reducible rfl
  try simp only [Act.put, List.setIfInBounds_toArray, List.set_cons_zero, List.set_cons_succ]
  refine wpAnyH_takeTo2 (i := 10) (oi := _) (v := ?_) (some 99) rfl rfl (by kernel_rfl) (by kernel_rfl) (by kernel_rfl) (fun _ _ _ h => h) (Or.inl ⟨by rfl, ?_⟩) hHeld ?_
  rotate_left
  · intro w hSw
    go_simp
    try with_reducible rfl
  try simp only [Act.put, List.setIfInBounds_toArray, List.set_cons_zero, List.set_cons_succ]
  refine wpAnyH_takeTo2 (i := 11) (oi := _) (v := ?_) (some 100) rfl rfl (by kernel_rfl) (by kernel_rfl) (by kernel_rfl) (fun _ _ _ h => h) (Or.inl ⟨by rfl, ?_⟩) hHeld ?_
  rotate_left
  · intro w hSw
    go_simp
    try with_reducible rfl
  try simp only [Act.put, List.setIfInBounds_toArray, List.set_cons_zero, List.set_cons_succ]
  refine wpAnyH_takeTo2 (i := 12) (oi := _) (v := ?_) (some 101) rfl rfl (by kernel_rfl) (by kernel_rfl) (by kernel_rfl) (fun _ _ _ h => h) (Or.inl ⟨by rfl, ?_⟩) hHeld ?_
  rotate_left
  · intro w hSw
    go_simp
    try with_reducible rfl
  try simp only [Act.put, List.setIfInBounds_toArray, List.set_cons_zero, List.set_cons_succ]
  refine wpAnyH_takeTo2 (i := 14) (oi := _) (v := .agg (hC a).toArray) (some 103) rfl rfl (by kernel_rfl) (by kernel_rfl) (by kernel_rfl) (fun _ _ _ h => h) (yieldsIf_load_mid (by rfl) 68 _ rfl (w.heap.size) 0 rfl (hC a) _ (fun w' hw' j v hj => by rw [Nat.zero_add]; exact ((hw'.at 2 rfl).cell j).trans hj) Try.underlying68 rfl (by rw [hla.out]; kernel_rfl)) hHeld ?_
  try simp only [Act.put, List.setIfInBounds_toArray, List.set_cons_zero, List.set_cons_succ]
  refine wpAnyH_takeTo2 (i := 15) (oi := _) (v := .agg (hC b).toArray) (some 104) rfl rfl (by kernel_rfl) (by kernel_rfl) (by kernel_rfl) (fun _ _ _ h => h) (yieldsIf_load_mid (by rfl) 68 _ rfl (w.heap.size + 1) 0 rfl (hC b) _ (fun w' hw' j v hj => by rw [Nat.zero_add]; exact ((hw'.at 3 rfl).cell j).trans hj) Try.underlying68 rfl (by rw [hlb.out]; kernel_rfl)) hHeld ?_
  try simp only [Act.put, List.setIfInBounds_toArray, List.set_cons_zero, List.set_cons_succ]
  refine wpAnyH_takeTo2 (i := 16) (oi := _) (v := ?_) (some 105) rfl rfl (by kernel_rfl) (by kernel_rfl) (by kernel_rfl) (fun _ _ _ h => h) (Or.inl ⟨by rfl, ?_⟩) hHeld ?_
  rotate_left
  · intro w hSw
    go_simp
    try with_reducible rfl
  try simp only [Act.put, List.setIfInBounds_toArray, List.set_cons_zero, List.set_cons_succ]
  refine wpAnyH_ready (rs := [13]) (by kernel_rfl) (by simp) ?_
  refine AllReadyH.cons (o := _) rfl (fun K hK => ?_) AllReadyH.nil
  go_simp
  refine (sameBytes_b P.out Q.out false hinj.out).mono ?_
  rintro e wN ⟨rfl, hN⟩
  replace hT := hidp (hT.out.step hN)
  replace P := hidp (P.out.below hN)
  replace Q := hidp (Q.out.below hN)
  replace P2 := hidp (P2.out.below hN)
  replace Q2 := hidp (Q2.out.below hN)
  clear hN
  go_wp2_with fail
  refine hK.out _ _ hT.out (fun hHeld' => ?_)
  clear hK K hHeld
  have hHeld := hHeld'
  clear hHeld'
  try simp only [Act.put, List.setIfInBounds_toArray, List.set_cons_zero, List.set_cons_succ]
  refine wpAnyH_takeTo2 (i := 17) (oi := _) (v := ?_) (some 106) rfl rfl (by kernel_rfl) (by kernel_rfl) (by kernel_rfl) (fun _ _ _ h => h) (Or.inl ⟨by rfl, ?_⟩) hHeld ?_
  rotate_left
  · intro w hSw
    go_simp
    try with_reducible rfl
  try simp only [Act.put, List.setIfInBounds_toArray, List.set_cons_zero, List.set_cons_succ]
  refine wpAnyH_takeTo2 (i := 18) (oi := _) (v := ?_) (some 107) rfl rfl (by kernel_rfl) (by kernel_rfl) (by kernel_rfl) (fun _ _ _ h => h) (Or.inl ⟨by rfl, ?_⟩) hHeld ?_
  rotate_left
  · intro w hSw
    go_simp
    try with_reducible rfl
  try simp only [Act.put, List.setIfInBounds_toArray, List.set_cons_zero, List.set_cons_succ]
  refine wpAnyH_done (by kernel_rfl) ?_ _
  clear P Q hpn hqn hinj hHeld
  go_wp2_with (first | (with_reducible refine (?_ : wpList _ _ _ _ _ _); refine wpList_load_blkD 110 rfl (by kernel_rfl) 68 _ rfl w.heap.size (hC a) 68 rfl (hT.out.at 2 rfl) _ Try.underlying68 rfl (by rw [hla.out]; kernel_rfl) ?_) | (with_reducible refine (?_ : wpList _ _ _ _ _ _); refine wpList_load_blkD 111 rfl (by kernel_rfl) 68 _ rfl (w.heap.size + 1) (hC b) 68 rfl (hT.out.at 3 rfl) _ Try.underlying68 rfl (by rw [hlb.out]; kernel_rfl) ?_) | (with_reducible refine (?_ : wpList _ _ _ _ _ _); refine wpList_load_blkD 120 rfl (by kernel_rfl) 68 _ rfl w.heap.size (hC a) 68 rfl (hT.out.at 2 rfl) _ Try.underlying68 rfl (by rw [hla.out]; kernel_rfl) ?_) | (with_reducible refine (?_ : wpList _ _ _ _ _ _); refine wpList_load_blkD 121 rfl (by kernel_rfl) 68 _ rfl (w.heap.size + 1) (hC b) 68 rfl (hT.out.at 3 rfl) _ Try.underlying68 rfl (by rw [hlb.out]; kernel_rfl) ?_) | (with_reducible refine (?_ : wpList _ _ _ _ _ _); refine wpList_load_blkD 124 rfl (by kernel_rfl) 34 _ rfl u2.heap.size (bvs X) 34 rfl (hT.out.at 0 rfl) _ Try.underlying34 rfl (by rw [bvs_len, hxl.out]; kernel_rfl) ?_) | (with_reducible refine (?_ : wpList _ _ _ _ _ _); refine wpList_load_blkD 125 rfl (by kernel_rfl) 34 _ rfl u3.heap.size (bvs Y) 34 rfl (hT.out.at 1 rfl) _ Try.underlying34 rfl (by rw [bvs_len, hyl.out]; kernel_rfl) ?_))
  go_ret
  exact ⟨rfl, hT.out.1⟩
set_option maxRecDepth 100000 in
set_option maxHeartbeats 16000000 in
theorem hhs_ok3 (a b : Hdr) (GA : HGood a) (GB : HGood b) (ht : false = decide (a = b)) (hu : true = decide (hashO a = hashO b)) (w : World) : Calls Try.prog 12 #[.agg (hC a).toArray, .agg (hC b).toArray] w fun e w' => e = .returned (.bool true) ∧ Below w.heap.size w w' := by
  have ha := GA.ok
  have hb := GB.ok
  have hz : ∀ w, (zeroValue 34).run Try.prog w = .ok (.agg (bvs z32).toArray) w := (zero_of_info (P := Try.prog) zero_hash).1
  have hla := hidp (hC_len ha)
  have hlb := hidp (hC_len hb)
  have HA := hidp (fun W => hhash_any a ha W)
  have HB := hidp (fun W => hhash_any b hb W)
  have CA := hidp (fun W => hcheck_any a ha W)
  have CB := hidp (fun W => hcheck_any b hb W)
  have hxl := hidp (hashO_len a)
  have hyl := hidp (hashO_len b)
  have hK := hidp (two_kp w a b)
  have hsa : a.s.size ≤ 60 := by have := nmS_size (chkH_ok GA.c).1; omega
  have hsb : b.s.size ≤ 60 := by have := nmS_size (chkH_ok GB.c).1; omega
  have hgd := guard_hash
  have hgH := guard_hdr
  have HEa := hidp (fun W => hencode_ok a ha W GA.c)
  have HEb := hidp (fun W => hencode_ok b hb W GB.c)
  have hLa := hidp (encH_le GA)
  have hLb := hidp (encH_le GB)
  have hYa := hidp (encH_byte ha)
  have hYb := hidp (encH_byte hb)
  have hinj : decide (encH a = encH b) = false := by
    rw [ht, decide_eq_decide]
    exact ⟨encH_inj GA GB, fun e => by rw [e]⟩
  have heqH := eqH a b ha hb
  have hneH := neH a b ha hb
  rw [← ht] at heqH hneH
  obtain ⟨X, hX⟩ : ∃ v, v = hashO a := ⟨_, rfl⟩
  obtain ⟨Y, hY⟩ : ∃ v, v = hashO b := ⟨_, rfl⟩
  rw [← hX] at HA hxl
  rw [← hY] at HB hyl
  rw [← hX, ← hY] at hu
  have hXs : X = hashL (72 :: encH a) := by rw [hX]; unfold hashO; rw [if_pos GA.c]; rfl
  have hYs : Y = hashL (72 :: encH b) := by rw [hY]; unfold hashO; rw [if_pos GB.c]; rfl
  clear hX hY
  rw [GA.c] at HA CA
  rw [GB.c] at HB CB
  clear ha hb GA GB ht
  generalize encH a = L at *
  generalize encH b = M at *
  have SX := hidp (fun p b c W (h : Bs W p b 0 (72 :: L) c) => by have q := sum_any (72 :: L) p b 0 c W h.bsl (by rw [List.length_cons]; have := hLa.out; omega); rw [← hXs] at q; exact q)
  have SY := hidp (fun p b c W (h : Bs W p b 0 (72 :: M) c) => by have q := sum_any (72 :: M) p b 0 c W h.bsl (by rw [List.length_cons]; have := hLb.out; omega); rw [← hYs] at q; exact q)
  clear hXs hYs
  have nX := run_neq_hash X X hxl.out hxl.out
  rw [decide_eq_true rfl, Bool.not_true] at nX
  have nY := run_neq_hash Y Y hyl.out hyl.out
  rw [decide_eq_true rfl, Bool.not_true] at nY
  have eXY := run_eql_hash X Y hxl.out hyl.out
  have nXY := run_neq_hash X Y hxl.out hyl.out
  rw [← hu] at eXY nXY
  clear hu
  replace hinj := hidp hinj
  go_enter Try.func12, Try.ntmps12
  go_wp2_with fail
  obtain ⟨w0, hw0⟩ : ∃ W, W = (w.alloc (.cells (hC a).toArray 68)).alloc (.cells (hC b).toArray 68) := ⟨_, rfl⟩
  rw [← hw0] at hK ⊢
  clear hw0
  refine (hknown_any _).mono ?_
  rintro e u1 ⟨rfl, hB⟩
  have hT := hidp (show Below w0.heap.size w0 u1 from hB)
  replace hK := hidp (hK.out.step hT.out)
  clear hB hT 
  have c0 := (hK.out.at 0 rfl).cell 0
  have d0 := (hK.out.at 1 rfl).cell 0
  rw [hC_0] at c0 d0
  go_wp2_with (with_reducible refine (?_ : wpList _ _ _ _ _ _); refine wpList_load_blkG (by kernel_rfl) 68 _ rfl w.heap.size (hC a) 68 rfl (hK.out.at 0 rfl) _ Try.underlying68 rfl (by rw [hla.out]; kernel_rfl) ?_)
  refine (HA.out _).mono ?_
  rintro e u2 ⟨rfl, hB⟩
  have hT := hidp (show Below u1.heap.size u1 u2 from hB)
  replace hK := hidp (hK.out.step hT.out)
  clear hB hT HA c0 d0
  go_wp2_with first
    | (with_reducible refine (?_ : wpList _ _ _ _ _ _); refine wpList_store_blk rfl 34 _ _ rfl u2.heap.size (bvs X) (bvs z32) 34 rfl rfl (Blk.new u2 (bvs z32) _) (by rw [bvs_len, hxl.out]; kernel_rfl) (by simp [bvs_len, hxl.out, z32]) (bvs_one _) ?_; intro t1 ht1; have L1 := hidp (lay_hash ht1.out); clear ht1)
    | (with_reducible refine (?_ : wpList _ _ _ _ _ _); refine wpList_load_blkG (by kernel_rfl) 68 _ rfl (w.heap.size + 1) (hC b) 68 rfl ((hK.out.step L1.out.1).at 1 rfl) _ Try.underlying68 rfl (by rw [hlb.out]; kernel_rfl) ?_)
  have BX := hidp L1.out.2
  replace hK := hidp (hK.out.step L1.out.1)
  clear L1
  refine (HB.out _).mono ?_
  rintro e u3 ⟨rfl, hB⟩
  have hT := hidp (show Below t1.heap.size t1 u3 from hB)
  replace hK := hidp (hK.out.step hT.out)
  replace BX := hidp (hT.out.blk' BX.out)
  clear hB hT HB
  go_wp2_with first
    | (with_reducible refine (?_ : wpList _ _ _ _ _ _); refine wpList_store_blk rfl 34 _ _ rfl u3.heap.size (bvs Y) (bvs z32) 34 rfl rfl (Blk.new u3 (bvs z32) _) (by rw [bvs_len, hyl.out]; kernel_rfl) (by simp [bvs_len, hyl.out, z32]) (bvs_one _) ?_; intro t2 ht2; have L1 := hidp (lay_hash ht2.out); clear ht2)
    | (with_reducible refine (?_ : wpList _ _ _ _ _ _); refine wpList_load_blkG (by kernel_rfl) 68 _ rfl w.heap.size (hC a) 68 rfl ((hK.out.step L1.out.1).at 0 rfl) _ Try.underlying68 rfl (by rw [hla.out]; kernel_rfl) ?_)
  have BY := hidp L1.out.2
  replace hK := hidp (hK.out.step L1.out.1)
  replace BX := hidp (L1.out.1.blk' BX.out)
  clear L1
  refine (CA.out _).mono ?_
  rintro e u4 ⟨rfl, hB⟩
  have hT := hidp (show Below t2.heap.size t2 u4 from hB)
  replace hK := hidp (hK.out.step hT.out)
  replace BX := hidp (hT.out.blk' BX.out)
  replace BY := hidp (hT.out.blk' BY.out)
  clear hB hT CA
  go_wp2_with (with_reducible refine (?_ : wpList _ _ _ _ _ _); refine wpList_load_blkG (by kernel_rfl) 68 _ rfl (w.heap.size + 1) (hC b) 68 rfl (hK.out.at 1 rfl) _ Try.underlying68 rfl (by rw [hlb.out]; kernel_rfl) ?_)
  refine (CB.out _).mono ?_
  rintro e u5 ⟨rfl, hB⟩
  have hT := hidp (show Below u4.heap.size u4 u5 from hB)
  replace hK := hidp (hK.out.step hT.out)
  replace BX := hidp (hT.out.blk' BX.out)
  replace BY := hidp (hT.out.blk' BY.out)
  clear hB hT CB
  go_wp2_with (with_reducible refine (?_ : wpList _ _ _ _ _ _); refine wpList_load_blkG (by kernel_rfl) 68 _ rfl w.heap.size (hC a) 68 rfl (hK.out.at 0 rfl) _ Try.underlying68 rfl (by rw [hla.out]; kernel_rfl) ?_)
  refine (HEa.out _).mono ?_
  rintro e u6 ⟨⟨p, bp, cp, rfl, _, hpn, hs⟩, hB⟩
  have hT := hidp (show Below u5.heap.size u5 u6 from hB)
  replace hK := hidp (hK.out.step hT.out)
  replace BX := hidp (hT.out.blk' BX.out)
  replace BY := hidp (hT.out.blk' BY.out)
  have P := hidp (hs)
  clear hB hT hs HEa
  replace hpn := hidp hpn
  go_wp2_with (with_reducible refine (?_ : wpList _ _ _ _ _ _); refine wpList_load_blkG (by kernel_rfl) 68 _ rfl (w.heap.size + 1) (hC b) 68 rfl (hK.out.at 1 rfl) _ Try.underlying68 rfl (by rw [hlb.out]; kernel_rfl) ?_)
  refine (HEb.out _).mono ?_
  rintro e u7 ⟨⟨q, bq, cq, rfl, _, hqn, hs⟩, hB⟩
  have hT := hidp (show Below u6.heap.size u6 u7 from hB)
  replace hK := hidp (hK.out.step hT.out)
  replace BX := hidp (hT.out.blk' BX.out)
  replace BY := hidp (hT.out.blk' BY.out)
  replace P := hidp (P.out.below hT.out)
  have Q := hidp (hs)
  clear hB hT hs HEb
  replace hqn := hidp hqn
  have HS1 := hidp (ByS.of_bs (P.out.below ((Below.refl u7.heap.size u7).alloc (Nat.le_refl _) (.cells (bvs [72]).toArray 5))) hpn.out)
  have HO1 := hidp (own_lit u7 [72] (by decide))
  have hn1 := hidp (show 1 + L.length ≤ 4000000 by have := hLa.out; omega)
  have hn2 := hidp (show 1 + M.length ≤ 4000000 by have := hLb.out; omega)
  have hz1 := hidp (show u7.heap.size ≤ (u7.alloc (.cells (bvs [72]).toArray 5)).heap.size by simp)
  go_wp2_with first
    | (at_builtin; refine wpList_append_byS rfl _ _ rfl u7.heap.size 1 (bvs [72]) _ rfl HO1.out p cp L rfl HS1.out hn1.out hz1.out ?_; intro vp wp hown' hgrow; have hO := hidp hown'; have T1 := hidp (((Below.refl u7.heap.size u7).alloc (Nat.le_refl _) _).grown hgrow hz1.out (fun j hj => (HO1.out.lt j hj).1)); clear hown' hgrow; have HS2 := hidp (ByS.of_bs ((Q.out.below T1.out).below ((Below.refl wp.heap.size wp).alloc (Nat.le_refl _) (.cells (bvs [72]).toArray 5))) hqn.out); have HO2 := hidp (own_lit wp [72] (by decide)); have hz2 := hidp (show wp.heap.size ≤ (wp.alloc (.cells (bvs [72]).toArray 5)).heap.size by simp))
    | (at_builtin; refine wpList_append_byS rfl _ _ rfl wp.heap.size 1 (bvs [72]) _ rfl HO2.out q cq M rfl HS2.out hn2.out hz2.out ?_; intro vq wq hown' hgrow; have hO' := hidp hown'; have T2 := hidp (((Below.refl wp.heap.size wp).alloc (Nat.le_refl _) _).grown hgrow hz2.out (fun j hj => (HO2.out.lt j hj).1)); clear hown' hgrow)
  have cons1 : 1 + L.length = (72 :: L).length := by rw [List.length_cons]; omega
  have cons2 : 1 + M.length = (72 :: M).length := by rw [List.length_cons]; omega
  have hO2 : wp.ownsRow u7.heap.size 5 1 vp (72 :: L).length (bvs (72 :: L)) := by
    have z := hO.out
    rw [cons1] at z
    exact z
  have hO3 : wq.ownsRow wp.heap.size 5 1 vq (72 :: M).length (bvs (72 :: M)) := by
    have z := hO'.out
    rw [cons2] at z
    exact z
  obtain ⟨p2, b2, c2, rfl, _, _, hs⟩ := Bs.of_own hO2 (fun z hz => by
    rcases List.mem_cons.1 hz with rfl | h1
    · decide
    · exact hYa.out z h1)
  obtain ⟨q2, d2, e2, rfl, _, _, hs'⟩ := Bs.of_own hO3 (fun z hz => by
    rcases List.mem_cons.1 hz with rfl | h1
    · decide
    · exact hYb.out z h1)
  have P2 := hidp (hs.below T2.out)
  have Q2 := hidp hs'
  have T3 := hidp (T1.out.trans (T2.out.mono T1.out.size))
  clear hs hs' hO hO' hO2 hO3 cons1 cons2 HS1 HO1 HS2 HO2 hz1 hz2 T1 T2
  replace hK := hidp (hK.out.step T3.out)
  replace BX := hidp (T3.out.blk' BX.out)
  replace BY := hidp (T3.out.blk' BY.out)
  replace P := hidp (P.out.below T3.out)
  replace Q := hidp (Q.out.below T3.out)
  clear T3
  have hT := hidp (Kp.cons (Kp.cons hK.out BY.out) BX.out)
  refine wp_region_held_drew (S := Kp w [(u2.heap.size, bvs X, 34), (u3.heap.size, bvs Y, 34), (w.heap.size, hC a, 68), (w.heap.size + 1, hC b, 68)]) (by kernel_rfl) hT.out.drew (fun hHeld => ?_)
  replace hT := hidp hT.out.drew
  try simp only [Act.put, List.setIfInBounds_toArray, List.set_cons_zero, List.set_cons_succ]
  replace P := hidp (P.out.below (Below.refl _ wq).drew)
  replace Q := hidp (Q.out.below (Below.refl _ wq).drew)
  replace P2 := hidp (P2.out.below (Below.refl _ wq).drew)
  replace Q2 := hidp (Q2.out.below (Below.refl _ wq).drew)
  clear hK BX BY
  refine wpAnyH_takeTo2 (i := 0) (oi := _) (v := .agg (bvs X).toArray) (some 89) rfl rfl (by kernel_rfl) (by kernel_rfl) (by kernel_rfl) (fun _ _ _ h => h) (yieldsIf_load_mid (by rfl) 34 _ rfl (u2.heap.size) 0 rfl (bvs X) _ (fun w' hw' j v hj => by rw [Nat.zero_add]; exact ((hw'.at 0 rfl).cell j).trans hj) Try.underlying34 rfl (by rw [bvs_len, hxl.out]; kernel_rfl)) hHeld ?_
  try simp only [Act.put, List.setIfInBounds_toArray, List.set_cons_zero, List.set_cons_succ]
  refine wpAnyH_takeTo2 (i := 1) (oi := _) (v := ?_) (some 90) rfl rfl (by kernel_rfl) (by kernel_rfl) (by kernel_rfl) (fun _ _ _ h => h) (Or.inl ⟨by rfl, ?_⟩) hHeld ?_
  rotate_left
  · intro w hSw
    go_simp
    try with_reducible rfl
  try simp only [Act.put, List.setIfInBounds_toArray, List.set_cons_zero, List.set_cons_succ]
  refine wpAnyH_ready (rs := [2]) (by kernel_rfl) (by simp) ?_
  refine AllReadyH.cons (o := _) rfl (fun K hK => ?_) AllReadyH.nil
  go_simp
  refine (SX.out _ _ _ _ P2.out).mono ?_
  rintro e wN ⟨rfl, hN⟩
  replace hT := hidp (hT.out.step hN)
  replace P := hidp (P.out.below hN)
  replace Q := hidp (Q.out.below hN)
  replace P2 := hidp (P2.out.below hN)
  replace Q2 := hidp (Q2.out.below hN)
  clear hN
  go_wp2_with fail
  refine hK.out _ _ hT.out (fun hHeld' => ?_)
  clear hK K hHeld
  have hHeld := hHeld'
  clear hHeld'
  try simp only [Act.put, List.setIfInBounds_toArray, List.set_cons_zero, List.set_cons_succ]
  refine wpAnyH_takeTo2 (i := 3) (oi := _) (v := ?_) (some 92) rfl rfl (by kernel_rfl) (by kernel_rfl) (by kernel_rfl) (fun _ _ _ h => h) (Or.inl ⟨by rfl, ?_⟩) hHeld ?_
  rotate_left
  · intro w hSw
    go_simp
    try with_reducible rfl
  try simp only [Act.put, List.setIfInBounds_toArray, List.set_cons_zero, List.set_cons_succ]
  refine wpAnyH_takeTo2 (i := 4) (oi := _) (v := ?_) (some 93) rfl rfl (by kernel_rfl) (by kernel_rfl) (by kernel_rfl) (fun _ _ _ h => h) (Or.inl ⟨by rfl, ?_⟩) hHeld ?_
  rotate_left
  · intro w hSw
    go_simp
    try with_reducible rfl
  try simp only [Act.put, List.setIfInBounds_toArray, List.set_cons_zero, List.set_cons_succ]
  refine wpAnyH_takeTo2 (i := 5) (oi := _) (v := .agg (bvs Y).toArray) (some 94) rfl rfl (by kernel_rfl) (by kernel_rfl) (by kernel_rfl) (fun _ _ _ h => h) (yieldsIf_load_mid (by rfl) 34 _ rfl (u3.heap.size) 0 rfl (bvs Y) _ (fun w' hw' j v hj => by rw [Nat.zero_add]; exact ((hw'.at 1 rfl).cell j).trans hj) Try.underlying34 rfl (by rw [bvs_len, hyl.out]; kernel_rfl)) hHeld ?_
  try simp only [Act.put, List.setIfInBounds_toArray, List.set_cons_zero, List.set_cons_succ]
  refine wpAnyH_takeTo2 (i := 6) (oi := _) (v := ?_) (some 95) rfl rfl (by kernel_rfl) (by kernel_rfl) (by kernel_rfl) (fun _ _ _ h => h) (Or.inl ⟨by rfl, ?_⟩) hHeld ?_
  rotate_left
  · intro w hSw
    go_simp
    try with_reducible rfl
  try simp only [Act.put, List.setIfInBounds_toArray, List.set_cons_zero, List.set_cons_succ]
  refine wpAnyH_ready (rs := [7]) (by kernel_rfl) (by simp) ?_
  refine AllReadyH.cons (o := _) rfl (fun K hK => ?_) AllReadyH.nil
  go_simp
  refine (SY.out _ _ _ _ Q2.out).mono ?_
  rintro e wN ⟨rfl, hN⟩
  replace hT := hidp (hT.out.step hN)
  replace P := hidp (P.out.below hN)
  replace Q := hidp (Q.out.below hN)
  replace P2 := hidp (P2.out.below hN)
  replace Q2 := hidp (Q2.out.below hN)
  clear hN
  go_wp2_with fail
  refine hK.out _ _ hT.out (fun hHeld' => ?_)
  clear hK K hHeld
  have hHeld := hHeld'
  clear hHeld'
  try simp only [Act.put, List.setIfInBounds_toArray, List.set_cons_zero, List.set_cons_succ]
  refine wpAnyH_takeTo2 (i := 8) (oi := _) (v := ?_) (some 97) rfl rfl (by kernel_rfl) (by kernel_rfl) (by kernel_rfl) (fun _ _ _ h => h) (Or.inl ⟨by rfl, ?_⟩) hHeld ?_
  rotate_left
  · intro w hSw
    go_simp
    try with_reducible rfl
  try simp only [Act.put, List.setIfInBounds_toArray, List.set_cons_zero, List.set_cons_succ]
  refine wpAnyH_takeTo2 (i := 9) (oi := _) (v := ?_) (some 98) rfl rfl (by kernel_rfl) (by kernel_rfl) (by kernel_rfl) (fun _ _ _ h => h) (Or.inl ⟨by rfl, ?_⟩) hHeld ?_
  rotate_left
  · intro w hSw
    go_simp
    try with_reducible rfl
  try simp only [Act.put, List.setIfInBounds_toArray, List.set_cons_zero, List.set_cons_succ]
  refine wpAnyH_takeTo2 (i := 10) (oi := _) (v := ?_) (some 99) rfl rfl (by kernel_rfl) (by kernel_rfl) (by kernel_rfl) (fun _ _ _ h => h) (Or.inl ⟨by rfl, ?_⟩) hHeld ?_
  rotate_left
  · intro w hSw
    go_simp
    try with_reducible rfl
  try simp only [Act.put, List.setIfInBounds_toArray, List.set_cons_zero, List.set_cons_succ]
  refine wpAnyH_takeTo2 (i := 11) (oi := _) (v := ?_) (some 100) rfl rfl (by kernel_rfl) (by kernel_rfl) (by kernel_rfl) (fun _ _ _ h => h) (Or.inl ⟨by rfl, ?_⟩) hHeld ?_
  rotate_left
  · intro w hSw
    go_simp
    try with_reducible rfl
  try simp only [Act.put, List.setIfInBounds_toArray, List.set_cons_zero, List.set_cons_succ]
  refine wpAnyH_takeTo2 (i := 12) (oi := _) (v := ?_) (some 101) rfl rfl (by kernel_rfl) (by kernel_rfl) (by kernel_rfl) (fun _ _ _ h => h) (Or.inl ⟨by rfl, ?_⟩) hHeld ?_
  rotate_left
  · intro w hSw
    go_simp
    try with_reducible rfl
  try simp only [Act.put, List.setIfInBounds_toArray, List.set_cons_zero, List.set_cons_succ]
  refine wpAnyH_takeTo2 (i := 14) (oi := _) (v := .agg (hC a).toArray) (some 103) rfl rfl (by kernel_rfl) (by kernel_rfl) (by kernel_rfl) (fun _ _ _ h => h) (yieldsIf_load_mid (by rfl) 68 _ rfl (w.heap.size) 0 rfl (hC a) _ (fun w' hw' j v hj => by rw [Nat.zero_add]; exact ((hw'.at 2 rfl).cell j).trans hj) Try.underlying68 rfl (by rw [hla.out]; kernel_rfl)) hHeld ?_
  try simp only [Act.put, List.setIfInBounds_toArray, List.set_cons_zero, List.set_cons_succ]
  refine wpAnyH_takeTo2 (i := 15) (oi := _) (v := .agg (hC b).toArray) (some 104) rfl rfl (by kernel_rfl) (by kernel_rfl) (by kernel_rfl) (fun _ _ _ h => h) (yieldsIf_load_mid (by rfl) 68 _ rfl (w.heap.size + 1) 0 rfl (hC b) _ (fun w' hw' j v hj => by rw [Nat.zero_add]; exact ((hw'.at 3 rfl).cell j).trans hj) Try.underlying68 rfl (by rw [hlb.out]; kernel_rfl)) hHeld ?_
  try simp only [Act.put, List.setIfInBounds_toArray, List.set_cons_zero, List.set_cons_succ]
  refine wpAnyH_takeTo2 (i := 16) (oi := _) (v := ?_) (some 105) rfl rfl (by kernel_rfl) (by kernel_rfl) (by kernel_rfl) (fun _ _ _ h => h) (Or.inl ⟨by rfl, ?_⟩) hHeld ?_
  rotate_left
  · intro w hSw
    go_simp
    try with_reducible rfl
  try simp only [Act.put, List.setIfInBounds_toArray, List.set_cons_zero, List.set_cons_succ]
  refine wpAnyH_ready (rs := [13]) (by kernel_rfl) (by simp) ?_
  refine AllReadyH.cons (o := _) rfl (fun K hK => ?_) AllReadyH.nil
  go_simp
  refine (sameBytes_b P.out Q.out false hinj.out).mono ?_
  rintro e wN ⟨rfl, hN⟩
  replace hT := hidp (hT.out.step hN)
  replace P := hidp (P.out.below hN)
  replace Q := hidp (Q.out.below hN)
  replace P2 := hidp (P2.out.below hN)
  replace Q2 := hidp (Q2.out.below hN)
  clear hN
  go_wp2_with fail
  refine hK.out _ _ hT.out (fun hHeld' => ?_)
  clear hK K hHeld
  have hHeld := hHeld'
  clear hHeld'
  try simp only [Act.put, List.setIfInBounds_toArray, List.set_cons_zero, List.set_cons_succ]
  refine wpAnyH_takeTo2 (i := 17) (oi := _) (v := ?_) (some 106) rfl rfl (by kernel_rfl) (by kernel_rfl) (by kernel_rfl) (fun _ _ _ h => h) (Or.inl ⟨by rfl, ?_⟩) hHeld ?_
  rotate_left
  · intro w hSw
    go_simp
    try with_reducible rfl
  try simp only [Act.put, List.setIfInBounds_toArray, List.set_cons_zero, List.set_cons_succ]
  refine wpAnyH_takeTo2 (i := 18) (oi := _) (v := ?_) (some 107) rfl rfl (by kernel_rfl) (by kernel_rfl) (by kernel_rfl) (fun _ _ _ h => h) (Or.inl ⟨by rfl, ?_⟩) hHeld ?_
  rotate_left
  · intro w hSw
    go_simp
    try with_reducible rfl
  try simp only [Act.put, List.setIfInBounds_toArray, List.set_cons_zero, List.set_cons_succ]
  refine wpAnyH_done (by kernel_rfl) ?_ _
  clear P Q hpn hqn hinj hHeld
  go_wp2_with (first | (with_reducible refine (?_ : wpList _ _ _ _ _ _); refine wpList_load_blkD 110 rfl (by kernel_rfl) 68 _ rfl w.heap.size (hC a) 68 rfl (hT.out.at 2 rfl) _ Try.underlying68 rfl (by rw [hla.out]; kernel_rfl) ?_) | (with_reducible refine (?_ : wpList _ _ _ _ _ _); refine wpList_load_blkD 111 rfl (by kernel_rfl) 68 _ rfl (w.heap.size + 1) (hC b) 68 rfl (hT.out.at 3 rfl) _ Try.underlying68 rfl (by rw [hlb.out]; kernel_rfl) ?_) | (with_reducible refine (?_ : wpList _ _ _ _ _ _); refine wpList_load_blkD 120 rfl (by kernel_rfl) 68 _ rfl w.heap.size (hC a) 68 rfl (hT.out.at 2 rfl) _ Try.underlying68 rfl (by rw [hla.out]; kernel_rfl) ?_) | (with_reducible refine (?_ : wpList _ _ _ _ _ _); refine wpList_load_blkD 121 rfl (by kernel_rfl) 68 _ rfl (w.heap.size + 1) (hC b) 68 rfl (hT.out.at 3 rfl) _ Try.underlying68 rfl (by rw [hlb.out]; kernel_rfl) ?_) | (with_reducible refine (?_ : wpList _ _ _ _ _ _); refine wpList_load_blkD 124 rfl (by kernel_rfl) 34 _ rfl u2.heap.size (bvs X) 34 rfl (hT.out.at 0 rfl) _ Try.underlying34 rfl (by rw [bvs_len, hxl.out]; kernel_rfl) ?_) | (with_reducible refine (?_ : wpList _ _ _ _ _ _); refine wpList_load_blkD 125 rfl (by kernel_rfl) 34 _ rfl u3.heap.size (bvs Y) 34 rfl (hT.out.at 1 rfl) _ Try.underlying34 rfl (by rw [bvs_len, hyl.out]; kernel_rfl) ?_))
  refine (SX.out _ _ _ _ P2.out).mono ?_
  rintro e w8 ⟨rfl, hN⟩
  replace hT := hidp (hT.out.step hN)
  replace Q2 := hidp (Q2.out.below hN)
  clear hN
  go_wp2_with fail
  refine (SY.out _ _ _ _ Q2.out).mono ?_
  rintro e w9 ⟨rfl, hN⟩
  replace hT := hidp (hT.out.step hN)
  clear hN
  go_wp2
  go_ret
  exact ⟨rfl, hT.out.1⟩
theorem hhs_any (a b : Hdr) (w : World) (ha : HdrOk a) (hb : HdrOk b) : Calls Try.prog 12 #[.agg (hC a).toArray, .agg (hC b).toArray] w fun e w' => e = .returned (.bool true) ∧ Below w.heap.size w w' := by
  by_cases hsa : 60 < a.s.size
  · exact hhs_long1 a b hsa w
  by_cases hsb : 60 < b.s.size
  · exact hhs_long2 a b (by omega) hsb w
  by_cases hca : chkH a = 0
  · by_cases hcb : chkH b = 0
    · by_cases hab : a = b
      · exact hhs_ok1 a b ⟨ha, hca⟩ ⟨hb, hcb⟩ (decide_eq_true hab).symm (decide_eq_true (by rw [hab])).symm w
      · by_cases hxy : hashO a = hashO b
        · exact hhs_ok3 a b ⟨ha, hca⟩ ⟨hb, hcb⟩ (decide_eq_false hab).symm (decide_eq_true hxy).symm w
        · exact hhs_ok2 a b ⟨ha, hca⟩ ⟨hb, hcb⟩ (decide_eq_false hab).symm (decide_eq_false hxy).symm w
    · exact hhs_bad3 a b ha hb (by omega) (by omega) hca hcb w
  · by_cases hcb : chkH b = 0
    · exact hhs_bad2 a b ha hb (by omega) (by omega) hca hcb w
    · exact hhs_bad1 a b ha hb (by omega) (by omega) hca hcb w
end Go.Proofs.Ytdiklimikkplcaa
