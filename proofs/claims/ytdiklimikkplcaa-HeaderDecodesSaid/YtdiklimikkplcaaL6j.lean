/-
  Header: the walk of HeaderKnown.
-/
import Derived.Test.YtdiklimikkplcaaL6i
namespace Go.Proofs.Ytdiklimikkplcaa
set_option linter.unusedSimpArgs false
open Go.RowKit Go.Lib

theorem fails_lit (p : Option Addr) (b c n : Nat) (L : List Nat) (e a : Nat) (w : World) (h : Bs w p b 0 L c) (hn : L.length = n) (hL : n ≤ 4000000) (hd : decH L = (hdr0, e, a)) :
    Calls Try.prog 53 #[.slice p n c, .int .i64 (e : Nat), .int .i64 (a : Nat)] w fun e w' => e = .returned (.bool true) ∧ Below w.heap.size w w' := by
  subst hn
  exact fails_any p b 0 c L e a w h hL hd
theorem hcheck_lit (x : Hdr) (hx : HdrOk x) (n : Nat) (h : chkH x = n) (w : World) : Calls Try.prog 45 #[.agg (hC x).toArray] w fun e w' => e = .returned (.int .i64 (n : Nat)) ∧ Below w.heap.size w w' := h ▸ hcheck_any x hx w
/-- Three headers are laid one behind the other. -/
theorem three_hdr {w w5 w6 w7 w8 : World} (hB : Below w.heap.size w w5) (h6 : w6 = (((w5.alloc (.cells (hC hdr0).toArray 68)).alloc (.cells (hC hdr0).toArray 68)).alloc (.cells (hC hdr0).toArray 68)).setRow w5.heap.size (hC oneH).toArray)
    (h7 : w7 = w6.setRow (w5.heap.size + 1) (hC oneH).toArray) (h8 : w8 = w7.setRow (w5.heap.size + 1 + 1) (hC oneH).toArray) :
    Kp w [(w5.heap.size, hC oneH, 68), (w5.heap.size + 1, hC oneH, 68), (w5.heap.size + 1 + 1, hC oneH, 68)] w8 := by
  have s1 : (w5.alloc (.cells (hC hdr0).toArray 68)).heap.size = w5.heap.size + 1 := by simp
  have s2 : ((w5.alloc (.cells (hC hdr0).toArray 68)).alloc (.cells (hC hdr0).toArray 68)).heap.size = w5.heap.size + 2 := by simp
  have z := hB.size
  have a0 := Blk.new w5 (hC hdr0) 68
  have a1 := Blk.new (w5.alloc (.cells (hC hdr0).toArray 68)) (hC hdr0) 68
  have a2 := Blk.new ((w5.alloc (.cells (hC hdr0).toArray 68)).alloc (.cells (hC hdr0).toArray 68)) (hC hdr0) 68
  rw [s1] at a1
  rw [s2] at a2
  have b0 := (a0.alloc (.cells (hC hdr0).toArray 68)).alloc (.cells (hC hdr0).toArray 68)
  have b1 := a1.alloc (.cells (hC hdr0).toArray 68)
  have B0 := ((hB.alloc z (.cells (hC hdr0).toArray 68)).alloc (by rw [s1]; omega) (.cells (hC hdr0).toArray 68)).alloc (by rw [s2]; omega) (.cells (hC hdr0).toArray 68)
  have c6 : But w5.heap.size _ w6 := h6 ▸ (But.refl _ _).setRow _
  have c7 : But (w5.heap.size + 1) w6 w7 := h7 ▸ (But.refl _ _).setRow _
  have c8 : But (w5.heap.size + 2) w7 w8 := h8 ▸ (But.refl _ _).setRow _
  have d0 : Blk w6 w5.heap.size (hC oneH) 68 := by rw [h6]; exact b0.row
  have d1 : Blk w7 (w5.heap.size + 1) (hC oneH) 68 := by rw [h7]; exact (c6.blk b1 (by omega)).row
  have d2 : Blk w8 (w5.heap.size + 2) (hC oneH) 68 := by rw [h8]; exact (c7.blk (c6.blk a2 (by omega)) (by omega)).row
  exact Kp.cons (Kp.cons (Kp.cons (Kp.nil (((B0.trans (c6.below z)).trans (c7.below (by omega))).trans (c8.below (by omega)))) d2) (c8.blk d1 (by omega))) (c8.blk (c7.blk d0 (by omega)) (by omega))
/-- Fields of them are set. -/
theorem three_set {w w8 : World} {B : Nat} (hb : w.heap.size ≤ B) (h : Kp w [(B, hC oneH, 68), (B + 1, hC oneH, 68), (B + 1 + 1, hC oneH, 68)] w8) :
    Kp w [(B, hC xH, 68), (B + 1, hC yH, 68), (B + 1 + 1, hC zHd, 68)] ((((w8.setCell ⟨B, 1, none⟩ (.int .i64 0)).setCell ⟨B + 1, 0, none⟩ (.string ⟨#[65]⟩)).setCell ⟨B + 1, 1, none⟩ (.int .i64 0)).setCell ⟨B + 1 + 1, 2, none⟩ (.int .i64 (-1))) := by
  have k0 := h.at 0 rfl
  have k1 := h.at 1 rfl
  have k2 := h.at 2 rfl
  refine Kp.cons (Kp.cons (Kp.cons (Kp.nil ?_) ?_) ?_) ?_
  · exact (((h.1.setCell (p := ⟨B, 1, none⟩) hb _).setCell (p := ⟨B + 1, 0, none⟩) (by show w.heap.size ≤ B + 1; omega) _).setCell (p := ⟨B + 1, 1, none⟩) (by show w.heap.size ≤ B + 1; omega) _).setCell (p := ⟨B + 1 + 1, 2, none⟩) (by show w.heap.size ≤ B + 2; omega) _
  · exact (((k2.other _ _ (by show B + 2 ≠ B; omega)).other _ _ (by show B + 2 ≠ B + 1; omega)).other _ _ (by show B + 2 ≠ B + 1; omega)).set 2 _
  · exact (((k1.other _ _ (by show B + 1 ≠ B; omega)).set 0 _).set 1 _).other _ _ (by show B + 1 ≠ B + 2; omega)
  · exact (((k0.set 1 _).other _ _ (by show B ≠ B + 1; omega)).other _ _ (by show B ≠ B + 1; omega)).other _ _ (by show B ≠ B + 2; omega)
theorem Kp.fc {w w' : World} {l : List (Nat × List Value × TypeId)} (h : Kp w l w') (i : Nat) {b : Nat} {cs : List Value} {T : TypeId} (hi : l[i]? = some (b, cs, T)) (j : Nat) : w'.cell? ⟨b, j, none⟩ = cs[j]? ∧ w'.frozen? ⟨b, j, none⟩ = false := ⟨(h.at i hi).cell j, (h.at i hi).free j⟩
/-- A row is hung onto a row of one's own, in a guarded region too. -/
theorem wpList_append_bsG {ops : Array Oper} {rest : List Oper} {o : Oper} {a : Act} {w : World} {Q : Exit → Act → World → Prop} (hw : Region.wanted o (yielded ops a.tmps) = true) (s x : Operand)
    (ho : o.op = .call { callee := .builtin .append, args := #[s, x], argTypes := #[32, 32] }) (base n : Nat) (xs : List Value) (v : Value) (hs : a.eval s = v)
    (hown : w.ownsRow base 5 1 v n xs) (B : Nat) (L : List Nat) (hx : a.eval x = .slice (some ⟨B, 0, none⟩) L.length L.length) (hb : Blk w B (bvs L) 5) (hn : n + L.length ≤ 4000000) (hbase : base ≤ w.heap.size)
    (h : ∀ v' w', w'.ownsRow base 5 1 v' (n + L.length) (xs ++ bvs L) → w.grownBy w' v.ownBlock → wpList Try.prog ops Q rest (a.put o.dst v') w') : wpList Try.prog ops Q (o :: rest) a w := by
  obtain ⟨i0, hi, hz0, hz1, hz2⟩ := info_parts info_byte
  refine wpList_step fun _ hK => ?_
  rw [if_pos hw]
  exact wp_append_own _ s x 32 ho base 5 i0 (.int .u8 0) 1 1 Try.underlying32 hi hz0 hz1 hz2 rfl (by decide) v n xs hs hown ⟨B, 0, none⟩ L.length L.length (bvs L) hx (by rw [bvs_len, Nat.mul_one])
      (fun j u hj => by
        have e : (⟨B, 0, none⟩ : Addr).add j = ⟨B, j, none⟩ := by by_cases hj0 : j = 0 <;> simp [Addr.add, hj0]
        rw [e, hb.cell j]; exact hj) (bvs_oneL _) (by unfold maxLen; omega) (by omega) hbase (fun v' w' h1 h2 _ => hK _ _ (h v' w' h1 h2))
theorem copy_one (p : Option Addr) (b cap : Nat) (w : World) (h : Bs w p b 0 (encH oneH) cap) (hp : p = none → cap = 0) :
    Calls Try.prog 54 #[.slice p 135 cap] w fun e w' => ∃ v, e = .returned v ∧ w'.ownsRow w.heap.size 5 1 v 135 (bvs (encH oneH)) ∧ Below w.heap.size w w' := by
  have q := copyBytes_any p cap (encH oneH) w (ByS.of_bs h hp) (by rw [oneH_len]; decide)
  rw [oneH_len] at q
  exact q
theorem times_33 (w : World) : Calls Try.prog 52 #[.string ⟨#[97]⟩, .int .i64 33] w fun e w' => e = .returned (.string (strB (List.replicate 33 97))) ∧ Below w.heap.size w w' := times_any 33 (by decide) w
theorem times_32 (w : World) : Calls Try.prog 52 #[.string ⟨#[97]⟩, .int .i64 32] w fun e w' => e = .returned (.string (strB (List.replicate 32 97))) ∧ Below w.heap.size w w' := times_any 32 (by decide) w
set_option maxRecDepth 100000 in
set_option maxHeartbeats 16000000 in
theorem hknown_any (w : World) : Calls Try.prog 9 #[] w fun e w' => e = .returned (.bool true) ∧ Below w.heap.size w w' := by
  have hz : ∀ w, (zeroValue 68).run Try.prog w = .ok (.agg (hC hdr0).toArray) w := (zero_of_info (P := Try.prog) zero_hdr).1
  have hl0 := hidp (hC_len hdr0_ok)
  have hl := hidp (hC_len oneH_ok)
  have hlx := hidp (hC_len xH_ok)
  have hly := hidp (hC_len yH_ok)
  have hlz := hidp (hC_len zHd_ok)
  have hV : Hid (Below w.heap.size w w) := hidp (Below.refl _ _)
  go_enter Try.func9, Try.ntmps9
  go_wp2_with fail
  refine (one_any _).mono ?_
  rintro e u1 ⟨rfl, hB⟩
  have hT := hidp (show Below w.heap.size w u1 from hB)
  replace hV := hidp (hV.out.trans (hT.out.mono hV.out.size))
  clear hB hT 
  go_wp2_with fail
  refine (enc_one _).mono ?_
  rintro e u2 ⟨⟨p, b, cap, rfl, _, hpn, hs⟩, hB⟩
  have hT := hidp (show Below u1.heap.size u1 u2 from hB)
  replace hV := hidp (hV.out.trans (hT.out.mono hV.out.size))
  have E := hidp (hs)
  clear hB hT hs
  replace hpn := hidp hpn
  have hcap := E.out.le
  rw [oneH_len] at hcap
  have kp6 := fun w => run_part_h p 135 cap 6 (by omega) w
  have kp134 := fun w => run_part_h p 135 cap 134 (by omega) w
  rw [show ((6 : Nat) : Int) = 6 from rfl] at kp6
  rw [show ((134 : Nat) : Int) = 134 from rfl] at kp134
  clear hcap
  go_wp2_with fail
  refine (one_any _).mono ?_
  rintro e u3 ⟨rfl, hB⟩
  have hT := hidp (show Below u2.heap.size u2 u3 from hB)
  replace hV := hidp (hV.out.trans (hT.out.mono hV.out.size))
  replace E := hidp (E.out.below hT.out)
  clear hB hT 
  go_wp2_with fail
  refine (one_any _).mono ?_
  rintro e u4 ⟨rfl, hB⟩
  have hT := hidp (show Below u3.heap.size u3 u4 from hB)
  replace hV := hidp (hV.out.trans (hT.out.mono hV.out.size))
  replace E := hidp (E.out.below hT.out)
  clear hB hT 
  go_wp2_with fail
  refine (one_any _).mono ?_
  rintro e u5 ⟨rfl, hB⟩
  have hT := hidp (show Below u4.heap.size u4 u5 from hB)
  replace hV := hidp (hV.out.trans (hT.out.mono hV.out.size))
  replace E := hidp (E.out.below hT.out)
  clear hB hT 
  have a0 := hidp (((Blk.new u5 (hC hdr0) 68).alloc (.cells (hC hdr0).toArray 68)).alloc (.cells (hC hdr0).toArray 68))
  have a1 := hidp ((Blk.new' (u5.alloc (.cells (hC hdr0).toArray 68)) (hC hdr0) 68 (u5.heap.size + 1) (by simp)).alloc (.cells (hC hdr0).toArray 68))
  have a2 := hidp (Blk.new' ((u5.alloc (.cells (hC hdr0).toArray 68)).alloc (.cells (hC hdr0).toArray 68)) (hC hdr0) 68 (u5.heap.size + 2) (by simp))
  go_wp2_with first
    | (with_reducible refine (?_ : wpList _ _ _ _ _ _); refine wpList_store_blk rfl 68 _ _ rfl u5.heap.size (hC oneH) (hC hdr0) 68 rfl rfl a0.out (by rw [hl.out]; kernel_rfl) (hl0.out.trans hl.out.symm) (hC_one _) ?_; intro t6 ht6)
    | (with_reducible refine (?_ : wpList _ _ _ _ _ _); refine wpList_store_blk rfl 68 _ _ rfl (u5.heap.size + 1) (hC oneH) (hC hdr0) 68 rfl rfl (ht6.out ▸ ((But.refl _ _).setRow _).blk a1.out (by omega)) (by rw [hl.out]; kernel_rfl) (hl0.out.trans hl.out.symm) (hC_one _) ?_; intro t7 ht7)
    | (with_reducible refine (?_ : wpList _ _ _ _ _ _); refine wpList_store_blk rfl 68 _ _ rfl (u5.heap.size + 1 + 1) (hC oneH) (hC hdr0) 68 rfl rfl (ht7.out ▸ ((But.refl _ _).setRow _).blk (ht6.out ▸ ((But.refl _ _).setRow _).blk a2.out (by omega)) (by omega)) (by rw [hl.out]; kernel_rfl) (hl0.out.trans hl.out.symm) (hC_one _) ?_; intro t8 ht8; have K := hidp (three_hdr (Below.refl _ u5) ht6.out ht7.out ht8.out); have c1 : t8.cell? ⟨u5.heap.size, 1, none⟩ = some (.int .i64 1) := (K.out.fc 0 rfl 1).1; have f1 := (K.out.fc 0 rfl 1).2; have c2 : t8.cell? ⟨u5.heap.size + 1, 0, none⟩ = some (.string ⟨#[97]⟩) := (K.out.fc 1 rfl 0).1; have f2 := (K.out.fc 1 rfl 0).2; have c3 : t8.cell? ⟨u5.heap.size + 1, 1, none⟩ = some (.int .i64 1) := (K.out.fc 1 rfl 1).1; have f3 := (K.out.fc 1 rfl 1).2; have c4 : t8.cell? ⟨u5.heap.size + 1 + 1, 2, none⟩ = some (.int .i64 2) := (K.out.fc 2 rfl 2).1; have f4 := (K.out.fc 2 rfl 2).2; clear ht6 ht7 ht8 a0 a1 a2)
  have K2 := hidp (three_set (Nat.le_refl _) K.out)
  clear K c1 f1 c2 f2 c3 f3 c4 f4
  obtain ⟨v1, hv1⟩ : ∃ W, W = (((t8.setCell ⟨u5.heap.size, 1, none⟩ (.int .i64 0)).setCell ⟨u5.heap.size + 1, 0, none⟩ (.string ⟨#[65]⟩)).setCell ⟨u5.heap.size + 1, 1, none⟩ (.int .i64 0)).setCell ⟨u5.heap.size + 1 + 1, 2, none⟩ (.int .i64 (-1)) := ⟨_, rfl⟩
  have hsz : t8.heap.size = v1.heap.size := by rw [hv1]; simp
  rw [← hv1] at K2 ⊢
  rw [hsz]
  clear hv1 hsz
  replace hV := hidp (hV.out.trans (K2.out.1.mono hV.out.size))
  replace E := hidp (E.out.below K2.out.1)
  have E6 := hidp (take6 ▸ E.out.take 6)
  refine (sameBytes_yes (X := [1, 1, 97, 1, 1, 1]) (E6.out.below ((Below.refl _ v1).alloc (Nat.le_refl _) _)) (arr_bs (by decide) (Blk.new v1 (bvs [1, 1, 97, 1, 1, 1]) _))).mono ?_
  rintro e wx ⟨rfl, hwx⟩
  subst hwx
  clear E6
  go_wp2_with (with_reducible refine (?_ : wpList _ _ _ _ _ _); refine wpList_low rfl _ _ (v1.heap.size + 1) rfl rfl rfl (Blk.new' _ (bvs [1, 1, 97, 0, 1, 2]) _ _ (by simp)) ?_; intro pl bl cl v2 hv2)
  have LW := hidp hv2.out.2
  have hT := hidp (show Below v1.heap.size v1 v2 from (((Below.refl v1.heap.size v1).alloc (Nat.le_refl _) _).alloc (by simp) _).trans (hv2.out.1.mono (by simp; omega)))
  clear hv2
  replace hV := hidp (hV.out.trans (hT.out.mono hV.out.size))
  replace E := hidp (E.out.below hT.out)
  replace K2 := hidp (K2.out.step hT.out)
  clear hT
  refine (name_lit ⟨#[]⟩ false nm0 _).mono ?_
  rintro e u6 ⟨rfl, hB⟩
  have hT := hidp (show Below v2.heap.size v2 u6 from hB)
  replace hV := hidp (hV.out.trans (hT.out.mono hV.out.size))
  replace E := hidp (E.out.below hT.out)
  replace K2 := hidp (K2.out.step hT.out)
  replace LW := hidp (LW.out.below hT.out)
  clear hB hT 
  go_wp2_with fail
  refine (times_33 _).mono ?_
  rintro e u7 ⟨rfl, hB⟩
  have hT := hidp (show Below u6.heap.size u6 u7 from hB)
  replace hV := hidp (hV.out.trans (hT.out.mono hV.out.size))
  replace E := hidp (E.out.below hT.out)
  replace K2 := hidp (K2.out.step hT.out)
  replace LW := hidp (LW.out.below hT.out)
  clear hB hT 
  go_wp2_with fail
  refine (name_lit _ false nm33 _).mono ?_
  rintro e u8 ⟨rfl, hB⟩
  have hT := hidp (show Below u7.heap.size u7 u8 from hB)
  replace hV := hidp (hV.out.trans (hT.out.mono hV.out.size))
  replace E := hidp (E.out.below hT.out)
  replace K2 := hidp (K2.out.step hT.out)
  replace LW := hidp (LW.out.below hT.out)
  clear hB hT 
  go_wp2_with fail
  refine (times_32 _).mono ?_
  rintro e u9 ⟨rfl, hB⟩
  have hT := hidp (show Below u8.heap.size u8 u9 from hB)
  replace hV := hidp (hV.out.trans (hT.out.mono hV.out.size))
  replace E := hidp (E.out.below hT.out)
  replace K2 := hidp (K2.out.step hT.out)
  replace LW := hidp (LW.out.below hT.out)
  clear hB hT 
  go_wp2_with fail
  refine (name_lit _ true nm32 _).mono ?_
  rintro e u10 ⟨rfl, hB⟩
  have hT := hidp (show Below u9.heap.size u9 u10 from hB)
  replace hV := hidp (hV.out.trans (hT.out.mono hV.out.size))
  replace E := hidp (E.out.below hT.out)
  replace K2 := hidp (K2.out.step hT.out)
  replace LW := hidp (LW.out.below hT.out)
  clear hB hT 
  go_wp2_with (with_reducible refine (?_ : wpList _ _ _ _ _ _); refine wpList_load_blkG (by kernel_rfl) 68 _ rfl u5.heap.size (hC xH) 68 rfl (K2.out.at 0 rfl) _ Try.underlying68 rfl (by rw [hlx.out]; kernel_rfl) ?_)
  refine (hcheck_lit xH xH_ok 3 xH_chk _).mono ?_
  rintro e u11 ⟨rfl, hB⟩
  have hT := hidp (show Below u10.heap.size u10 u11 from hB)
  replace hV := hidp (hV.out.trans (hT.out.mono hV.out.size))
  replace E := hidp (E.out.below hT.out)
  replace K2 := hidp (K2.out.step hT.out)
  replace LW := hidp (LW.out.below hT.out)
  clear hB hT 
  go_wp2_with (with_reducible refine (?_ : wpList _ _ _ _ _ _); refine wpList_load_blkG (by kernel_rfl) 68 _ rfl (u5.heap.size + 1) (hC yH) 68 rfl (K2.out.at 1 rfl) _ Try.underlying68 rfl (by rw [hly.out]; kernel_rfl) ?_)
  refine (hcheck_lit yH yH_ok 5 yH_chk _).mono ?_
  rintro e u12 ⟨rfl, hB⟩
  have hT := hidp (show Below u11.heap.size u11 u12 from hB)
  replace hV := hidp (hV.out.trans (hT.out.mono hV.out.size))
  replace E := hidp (E.out.below hT.out)
  replace K2 := hidp (K2.out.step hT.out)
  replace LW := hidp (LW.out.below hT.out)
  clear hB hT 
  go_wp2_with (with_reducible refine (?_ : wpList _ _ _ _ _ _); refine wpList_load_blkG (by kernel_rfl) 68 _ rfl (u5.heap.size + 1 + 1) (hC zHd) 68 rfl (K2.out.at 2 rfl) _ Try.underlying68 rfl (by rw [hlz.out]; kernel_rfl) ?_)
  refine (hcheck_lit zHd zHd_ok 3 zHd_chk _).mono ?_
  rintro e u13 ⟨rfl, hB⟩
  have hT := hidp (show Below u12.heap.size u12 u13 from hB)
  replace hV := hidp (hV.out.trans (hT.out.mono hV.out.size))
  replace E := hidp (E.out.below hT.out)
  replace K2 := hidp (K2.out.step hT.out)
  replace LW := hidp (LW.out.below hT.out)
  clear hB hT 
  clear K2
  go_wp2_with fail
  refine (hawake_any _).mono ?_
  rintro e u14 ⟨rfl, hB⟩
  have hT := hidp (show Below u13.heap.size u13 u14 from hB)
  replace hV := hidp (hV.out.trans (hT.out.mono hV.out.size))
  replace E := hidp (E.out.below hT.out)
  replace LW := hidp (LW.out.below hT.out)
  clear hB hT 
  go_wp2_with fail
  refine (fails_lit p b cap 134 ((encH oneH).take 134) 6 103 _ (E.out.take 134) (by rw [List.length_take, oneH_len]; rfl) (by decide) cut_dec).mono ?_
  rintro e u15 ⟨rfl, hB⟩
  have hT := hidp (show Below u14.heap.size u14 u15 from hB)
  replace hV := hidp (hV.out.trans (hT.out.mono hV.out.size))
  replace E := hidp (E.out.below hT.out)
  replace LW := hidp (LW.out.below hT.out)
  clear hB hT 
  go_wp2_with fail
  refine (copy_one p b cap u15 E.out hpn.out).mono ?_
  rintro e w7 ⟨v, rfl, hq, hB⟩
  have hown := hidp hq
  have HB7 := hidp hB
  clear hq hB
  have HO1 := hidp (fun o : Obj => hown.out.alloc o)
  have HS1 := hidp (fun o : Obj => show u15.heap.size ≤ (w7.alloc o).heap.size by have := HB7.out.size; simp; omega)
  have HK1 := hidp (Blk.new w7 (bvs [0]) 5)
  go_wp2_with (at_builtin; refine wpList_append_bsG (by kernel_rfl) _ _ rfl _ 135 (bvs (encH oneH)) _ rfl (HO1.out _) w7.heap.size [0] rfl HK1.out (by decide) (HS1.out _) ?_; intro v' w8 hown' hgrow; have hO := hidp hown'; have hG := hidp hgrow; clear hown' hgrow)
  have hT := hidp ((HB7.out.alloc HB7.out.size _).grown hG.out (HS1.out _) (fun j hj => ((HO1.out (.cells (bvs [0]).toArray 5)).lt j hj).1))
  have hO2 : w8.ownsRow u15.heap.size 5 1 v' (encH oneH ++ [0]).length (bvs (encH oneH ++ [0])) := by
    have q := hO.out
    rw [List.length_append, oneH_len]
    unfold bvs at q ⊢
    rw [List.map_append]
    exact q
  obtain ⟨p2, b2, c2, rfl, _, _, hs⟩ := Bs.of_own hO2 (fun y hy => by
    rcases List.mem_append.1 hy with h1 | h1
    · exact encH_byte oneH_ok y h1
    · rw [List.mem_singleton] at h1; omega)
  have e136 : (encH oneH ++ [0]).length = 136 := by rw [List.length_append, oneH_len]; rfl
  rw [e136]
  have M := hidp hs
  clear hs hO hO2 hown HB7 HO1 HS1 HK1 hG
  clear E hpn
  replace hV := hidp (hV.out.trans (hT.out.mono hV.out.size))
  replace LW := hidp (LW.out.below hT.out)
  clear hT
  go_wp2_with fail
  refine (fails_lit p2 b2 c2 136 (encH oneH ++ [0]) 4 135 _ M.out e136 (by decide) (by have q := decH_more oneH_good (Y := [0]) (by decide); rw [oneH_len] at q; exact q)).mono ?_
  rintro e u16 ⟨rfl, hB⟩
  have hT := hidp (show Below w8.heap.size w8 u16 from hB)
  clear M
  replace hV := hidp (hV.out.trans (hT.out.mono hV.out.size))
  replace LW := hidp (LW.out.below hT.out)
  clear hB hT 
  go_wp2_with fail
  refine (fails_lit pl bl cl 134 lowL 3 0 _ LW.out (by decide +kernel) (by decide) low_dec).mono ?_
  rintro e u17 ⟨rfl, hB⟩
  have hT := hidp (show Below u16.heap.size u16 u17 from hB)
  replace hV := hidp (hV.out.trans (hT.out.mono hV.out.size))
  replace LW := hidp (LW.out.below hT.out)
  clear hB hT 
  go_wp2
  go_ret
  exact ⟨rfl, hV.out⟩
end Go.Proofs.Ytdiklimikkplcaa
