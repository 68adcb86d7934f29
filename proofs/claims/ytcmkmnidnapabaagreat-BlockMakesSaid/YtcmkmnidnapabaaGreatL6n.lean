/-
  Header: the hash of a header.
-/
import Derived.Test.YtcmkmnidnapabaaGreatLB
import Derived.Test.YtcmkmnidnapabaaGreatH3
namespace Go.Proofs.YtcmkmnidnapabaaGreat
set_option linter.unusedSimpArgs false
open Go.RowKit Go.Lib

theorem Bs.bsl {w : World} {p : Option Addr} {b o cap : Nat} {L : List Nat} (h : Bs w p b o L cap) : Bsl w p b o L cap :=
  ⟨h.byte, h.le, fun h0 => h.ptr (by have := h.le; omega), fun i hi => h.here i hi⟩
theorem own_lit (w : World) (X : List Nat) (hX : X.length ≤ 1000) : (w.alloc (.cells (bvs X).toArray 5)).ownsRow w.heap.size 5 1 (.slice (some ⟨w.heap.size, 0, none⟩) X.length X.length) X.length (bvs X) := by
  refine ⟨by rw [bvs_len, Nat.mul_one], .inr ⟨w.heap.size, X.length, (bvs X).toArray, rfl, Nat.le_refl _, heap_alloc_new w _, Nat.le_refl _, by unfold maxLen; omega, by rw [List.size_toArray, bvs_len, Nat.mul_one], ?_⟩⟩
  rw [Nat.mul_one]
  show (bvs X).take X.length = bvs X
  exact List.take_of_length_le (by rw [bvs_len]; exact Nat.le_refl _)
def hashH (x : Hdr) : List Nat := hashL (72 :: encH x)
theorem hashH_len (x : Hdr) : (hashH x).length = 32 := hashL_len _
theorem zero_hash : (Tryz.prog.info? 39).map (fun i => (i.zero, i.size)) = some (some (.agg (bvs z32).toArray), 32) := by kernel_rfl
theorem results_row2 {P : Program} {fn : Func} {p u : Tmp} {ty : TypeId} (h : fn.results = #[.cell p ty, .tmp u]) (tmps : Array Value) (w : World) (g : Nat) (t : TypeId) (cs : List Value) (d : TypeDesc)
    (hp : tmps.getD p undef = .pointer (some ⟨g, 0, none⟩)) (hb : Blk w g cs t) (hu : P.underlying ty = some d) (hd : (match d with | .struct _ | .array _ _ => true | _ => false) = true) (hi : (P.info? ty).map (·.size) = some cs.length) :
    (results fn tmps).run P w = .ok (.tuple #[.agg cs.toArray, tmps.getD u undef]) w := by
  have hr := run_loadVar_row (P := P) w g t ty cs.toArray (0, 0) d hb hu hd (by simpa using hi)
  rw [results_cell_tmp h, hp]
  simp [asAddr, hr, Result.andThen]
set_option maxRecDepth 100000 in
set_option maxHeartbeats 2000000 in
theorem hhash_bad (x : Hdr) (hx : HdrOk x) (w : World) (hc : chkH x ≠ 0) :
    Calls Tryz.prog 68 #[.agg (hC x).toArray] w fun e w' => e = .returned (.tuple #[.agg (bvs z32).toArray, .int .i64 (chkH x : Nat)]) ∧ Below w.heap.size w w' := by
  have hz : ∀ w, (zeroValue 39).run Tryz.prog w = .ok (.agg (bvs z32).toArray) w := (zero_of_info (P := Tryz.prog) zero_hash).1
  have hl := hidp (hC_len hx)
  have HE := hidp (fun W => hencode_bad x hx W hc)
  have hbn : (((chkH x : Nat) : Int) != 0) = true := by rw [bne_iff_ne]; omega
  have hA := hidp ((Blk.new w (hC x) 79).alloc (.cells (bvs z32).toArray 39))
  have hR := hidp (Blk.new' (w.alloc (.cells (hC x).toArray 79)) (bvs z32) 39 (w.heap.size + 1) (by simp))
  have hBB := hidp (((Below.refl w.heap.size w).alloc (Nat.le_refl _) (.cells (hC x).toArray 79)).alloc (by simp) (.cells (bvs z32).toArray 39))
  clear hc hx
  generalize chkH x = n at *
  go_enter Tryz.func68, Tryz.ntmps68
  go_wp2_with (with_reducible refine (?_ : wpList _ _ _ _ _ _); refine wpList_load_blk rfl 79 _ rfl w.heap.size (hC x) 79 rfl hA.out _ Tryz.underlying79 rfl (by rw [hl.out]; kernel_rfl) ?_)
  refine (HE.out _).mono ?_
  rintro e w1 ⟨rfl, hb⟩
  have hR1 := hidp (hb.blk' hR.out)
  have hB := hidp (hBB.out.trans (hb.mono hBB.out.size))
  clear hb HE hBB hA hR
  go_wp2_with first
    | (with_reducible refine (?_ : wpList _ _ _ _ _ _); refine wpList_buildG (by kernel_rfl) 39 _ rfl (bvs z32).toArray (by kernel_rfl) ?_)
    | (with_reducible refine (?_ : wpList _ _ _ _ _ _); refine wpList_store_blk rfl 39 _ _ rfl (w.heap.size + 1) (bvs z32) (bvs z32) 39 rfl rfl hR1.out (by kernel_rfl) rfl (bvs_one _) ?_; intro w6 hw6)
  have b2 : Blk w6 (w.heap.size + 1) (bvs z32) 39 := by rw [hw6.out]; exact hR1.out.row
  have hB6 : Below w.heap.size w w6 := by rw [hw6.out]; exact hB.out.trans (((But.refl (w.heap.size + 1) w1).setRow (bvs z32).toArray).below (by omega))
  refine bodyPost_ret (v := .tuple #[.agg (bvs z32).toArray, .int .i64 (n : Nat)]) ?_ rfl ⟨rfl, hB6⟩
  exact results_row2 Tryz.results68 _ _ (w.heap.size + 1) 39 _ _ rfl b2 Tryz.underlying39 rfl (by kernel_rfl)
set_option maxRecDepth 100000 in
set_option maxHeartbeats 2000000 in
theorem hhash_ok (x : Hdr) (hG : HGood x) (w : World) :
    Calls Tryz.prog 68 #[.agg (hC x).toArray] w fun e w' => e = .returned (.tuple #[.agg (bvs (hashH x)).toArray, .int .i64 0]) ∧ Below w.heap.size w w' := by
  have hz : ∀ w, (zeroValue 39).run Tryz.prog w = .ok (.agg (bvs z32).toArray) w := (zero_of_info (P := Tryz.prog) zero_hash).1
  have hl := hidp (hC_len hG.ok)
  have HE := hidp (fun W => hencode_ok x hG.ok W hG.c)
  have hA := hidp ((Blk.new w (hC x) 79).alloc (.cells (bvs z32).toArray 39))
  have hR := hidp (Blk.new' (w.alloc (.cells (hC x).toArray 79)) (bvs z32) 39 (w.heap.size + 1) (by simp))
  have hBB := hidp (((Below.refl w.heap.size w).alloc (Nat.le_refl _) (.cells (hC x).toArray 79)).alloc (by simp) (.cells (bvs z32).toArray 39))
  have hLE := hidp (encH_le hG)
  have hBY := hidp (encH_byte hG.ok)
  have hHH := hidp (show hashH x = hashL (72 :: encH x) from rfl)
  have hHl := hidp (hashH_len x)
  clear hG
  generalize hashH x = Z at *
  generalize encH x = L at *
  go_enter Tryz.func68, Tryz.ntmps68
  go_wp2_with (with_reducible refine (?_ : wpList _ _ _ _ _ _); refine wpList_load_blk rfl 79 _ rfl w.heap.size (hC x) 79 rfl hA.out _ Tryz.underlying79 rfl (by rw [hl.out]; kernel_rfl) ?_)
  refine (HE.out _).mono ?_
  rintro e w1 ⟨⟨p, b, cap, rfl, _, hpn, hs⟩, hb⟩
  have hR1 := hidp (hb.blk' hR.out)
  have hB := hidp (hBB.out.trans (hb.mono hBB.out.size))
  have HS := hidp (ByS.of_bs (hs.below ((Below.refl w1.heap.size w1).alloc (Nat.le_refl _) (.cells (bvs [72]).toArray 5))) hpn)
  have HO := hidp (own_lit w1 [72] (by decide))
  clear hb HE hBB hA hR hs hpn
  have hn1 := hidp (show 1 + L.length ≤ 4000000 by have := hLE.out; omega)
  have hZ0 := hidp (show w1.heap.size ≤ (w1.alloc (.cells (bvs [72]).toArray 5)).heap.size by simp)
  go_wp2_with (at_builtin; refine wpList_append_byS rfl _ _ rfl w1.heap.size 1 (bvs [72]) _ rfl HO.out p cap L rfl HS.out hn1.out hZ0.out ?_; intro v' w2 hown' hgrow; have hO := hidp hown'; have hG := hidp hgrow; clear hown' hgrow)
  have hT := hidp (((Below.refl w1.heap.size w1).alloc (Nat.le_refl _) _).grown hG.out hZ0.out (fun j hj => (HO.out.lt j hj).1))
  have hO2 : w2.ownsRow w1.heap.size 5 1 v' (72 :: L).length (bvs (72 :: L)) := by
    have q := hO.out
    rw [show 1 + L.length = (72 :: L).length by rw [List.length_cons]; omega] at q
    exact q
  obtain ⟨p2, b2, c2, rfl, _, _, hs⟩ := Bs.of_own hO2 (fun z hz => by
    rcases List.mem_cons.1 hz with rfl | h1
    · decide
    · exact hBY.out z h1)
  have HS2 := hidp hs
  have hR2 := hidp (hT.out.blk' hR1.out)
  have hB2 := hidp (hB.out.trans (hT.out.mono hB.out.size))
  clear hs hO hO2 HO hG hT hR1 hB HS
  refine (sum_any (72 :: L) p2 b2 0 c2 w2 HS2.out.bsl (by rw [List.length_cons]; have := hLE.out; omega)).mono ?_
  rintro e w3 ⟨rfl, hb⟩
  have hR3 := hidp (hb.blk' hR2.out)
  have hB3 := hidp (hB2.out.trans (hb.mono hB2.out.size))
  clear hb hR2 hB2 HS2
  rw [← hHH.out]
  go_wp2_with (with_reducible refine (?_ : wpList _ _ _ _ _ _); refine wpList_store_blk rfl 39 _ _ rfl (w.heap.size + 1) (bvs Z) (bvs z32) 39 rfl rfl hR3.out (by rw [bvs_len, hHl.out]; kernel_rfl) (by simp [bvs_len, hHl.out, z32]) (bvs_one _) ?_; intro w6 hw6)
  have b2 : Blk w6 (w.heap.size + 1) (bvs Z) 39 := by rw [hw6.out]; exact hR3.out.row
  have hB6 : Below w.heap.size w w6 := by rw [hw6.out]; exact hB3.out.trans (((But.refl (w.heap.size + 1) w3).setRow (bvs Z).toArray).below (by omega))
  refine bodyPost_ret (v := .tuple #[.agg (bvs Z).toArray, .int .i64 0]) ?_ rfl ⟨rfl, hB6⟩
  exact results_row2 Tryz.results68 _ _ (w.heap.size + 1) 39 _ _ rfl b2 Tryz.underlying39 rfl (by rw [bvs_len, hHl.out]; kernel_rfl)
/-- What Hash tells of a header: its hash, or none. -/
def hashO (x : Hdr) : List Nat := if chkH x = 0 then hashH x else z32
theorem hashO_len (x : Hdr) : (hashO x).length = 32 := by
  unfold hashO
  split
  · exact hashH_len x
  · rfl

theorem hhash_any (x : Hdr) (hx : HdrOk x) (w : World) :
    Calls Tryz.prog 68 #[.agg (hC x).toArray] w fun e w' => e = .returned (.tuple #[.agg (bvs (hashO x)).toArray, .int .i64 (chkH x : Nat)]) ∧ Below w.heap.size w w' := by
  unfold hashO
  by_cases hc : chkH x = 0
  · rw [if_pos hc, hc]; exact hhash_ok x ⟨hx, hc⟩ w
  · rw [if_neg hc]; exact hhash_bad x hx w hc
/-- A hash that was told is laid into its variable. -/
theorem lay_hash {w1 w2 : World} {X : List Nat} (h : w2 = (w1.alloc (.cells (bvs z32).toArray 39)).setRow w1.heap.size (bvs X).toArray) : Below w1.heap.size w1 w2 ∧ Blk w2 w1.heap.size (bvs X) 39 := by
  have b1 := (But.refl w1.heap.size (w1.alloc (.cells (bvs z32).toArray 39))).setRow (bvs X).toArray
  rw [← h] at b1
  exact ⟨((Below.refl w1.heap.size w1).alloc (Nat.le_refl _) _).trans (b1.below (Nat.le_refl _)), by rw [h]; exact (Blk.new w1 (bvs z32) _).row⟩
theorem wpList_load_blkD {P : Program} {ops : Array Oper} {rest : List Oper} {o : Oper} {a : Act} {w : World} {Q : Exit → Act → World → Prop} (d0 : Nat) (_ : o.dst = some d0) (hw : Region.wanted o (yielded ops a.tmps) = true) (ty : TypeId) (x : Operand) (ho : o.op = .load ty x)
    (b : Nat) (cs : List Value) (T : TypeId) (hx : a.eval x = .pointer (some ⟨b, 0, none⟩)) (hb : Blk w b cs T) (d : TypeDesc)
    (hu : P.underlying ty = some d) (hd : (match d with | .struct _ | .array _ _ => true | _ => false) = true) (hi : (P.info? ty).map (·.size) = some cs.length)
    (h : wpList P ops Q rest (a.put o.dst (.agg cs.toArray)) w) : wpList P ops Q (o :: rest) a w := wpList_load_blkG hw ty x ho b cs T hx hb d hu hd hi h
set_option maxRecDepth 100000 in
set_option maxHeartbeats 4000000 in
theorem rName_any (s : ByteArray) (w : World) (hs : s.size ≤ 9223372036854775806) :
    Calls Tryz.prog 241 #[.string s] w fun e w' => e = .returned (.bool (nmS s)) ∧ w' = w := by
  go_enter Tryz.func241, Tryz.ntmps241
  go_wp2
  go_loopw [3] (fun x wr => ∃ i : Nat, i ≤ s.size ∧ x = .int .i64 i ∧ wr = w ∧ nmA s = ((strL s).drop i).all nmb) (fun x _ => s.size - (Go.RowKit.intOf x).toNat)
  case atStart => exact ⟨0, Nat.zero_le _, rfl, rfl, rfl⟩
  case round =>
    obtain ⟨i, hi, rfl, rfl, hc⟩ := hrel
    by_cases hlt : i < s.size
    · have hd := strL_drop s i hlt
      rw [hd, List.all_cons] at hc
      have hadd : wrap64 ((i : Int) + 1) = (i : Int) + 1 := by rw [w64 _ (by omega)]
      have hix : (Instr.index 9 (.string s) (.int .i64 (i : Int))).run Tryz.prog wr = .ok (.int .u8 ((s[i]'hlt).toNat : Nat)) wr := by
        rw [run_index_string _ _ _ _ _ Tryz.underlying9, dif_pos (by omega)]
        rfl
      have HC := hidp hc
      have HL := hidp hlt
      have HG := hidp (show (s[i]'hlt).toNat < 256 from (s[i]'hlt).toNat_lt)
      have hil : (i : Int) < (s.size : Int) := by omega
      clear hc hd
      generalize (s[i]'hlt).toNat = x at *
      have fin : nmb x = false → nmS s = false := fun h => by unfold nmS; rw [HC.out, h, Bool.false_and, Bool.and_false, Bool.and_false]
      have nxt : nmb x = true → nmA s = ((strL s).drop (i + 1)).all nmb := fun h => by rw [HC.out, h, Bool.true_and]
      replace fin := hidp fin
      replace nxt := hidp nxt
      by_cases h1 : (x : Int) < 97 <;> by_cases h2 : (122 : Int) < (x : Int) <;> by_cases h3 : (x : Int) < 48 <;> by_cases h4 : (57 : Int) < (x : Int) <;> cases h5 : ((x : Int) != 45) <;> first
        | (exfalso; omega)
        | (exfalso; rw [bne_eq_false_iff_eq] at h5; omega)
        | (have hn : nmb x = true := by unfold nmb; apply decide_eq_true; first | omega | (rw [bne_eq_false_iff_eq] at h5; omega)
           have E := hidp (nxt.out hn)
           clear hn fin nxt
           go_wp2
           go_roundw
           case rel => exact ⟨i + 1, by have := HL.out; omega, by go_num, trivial, E.out⟩
           case measure => have := HL.out; simp [Go.RowKit.intOf]; omega)
        | (have hn : nmb x = false := by unfold nmb; apply decide_eq_false; rw [bne_iff_ne] at h5; omega
           have E := hidp (fin.out hn)
           clear hn fin nxt
           go_wp2
           go_ret
           exact ⟨ret_bool E.out.symm, rfl⟩)
    · have e3 : (strL s).drop i = [] := List.drop_eq_nil_of_le (by rw [strL_len]; omega)
      rw [e3] at hc
      have HC := hidp hc
      clear hc e3
      by_cases h1 : (1 : Int) ≤ (s.size : Int)
      · by_cases h2 : (s.size : Int) ≤ 32
        · have e : nmS s = true := by unfold nmS; rw [decide_eq_true (by omega), decide_eq_true (by omega), HC.out]; rfl
          have E := hidp e
          clear HC e
          go_wp2
          go_ret
          exact ⟨ret_bool E.out.symm, rfl⟩
        · have e : nmS s = false := by unfold nmS; rw [decide_eq_true (by omega), decide_eq_false (by omega)]; rfl
          have E := hidp e
          clear HC e
          go_wp2
          go_ret
          exact ⟨ret_bool E.out.symm, rfl⟩
      · have e : nmS s = false := by unfold nmS; rw [decide_eq_false (by omega)]; rfl
        have E := hidp e
        clear HC e
        go_wp2
        go_ret
        exact ⟨ret_bool E.out.symm, rfl⟩
set_option maxRecDepth 100000 in
set_option maxHeartbeats 4000000 in
theorem rCheck_any (x : Hdr) (w : World) (hs : x.s.size ≤ 9223372036854775806) :
    Calls Tryz.prog 182 #[.agg (hC x).toArray] w fun e w' => e = .returned (.int .i64 (chkH x : Nat)) ∧ Below w.heap.size w w' := by
  have c0 := (Blk.new w (hC x) 79).cell 0
  have c1 := (Blk.new w (hC x) 79).cell 1
  have c2 := (Blk.new w (hC x) 79).cell 2
  rw [hC_0] at c0
  rw [hC_1] at c1
  rw [hC_2] at c2
  have hB := hidp ((Below.refl w.heap.size w).alloc (Nat.le_refl _) (.cells (hC x).toArray 79))
  have HN := hidp (fun W => rName_any x.s W hs)
  have hch : chkH x = if nmS x.s = false then 5 else if x.h < 1 ∨ 1073741824 < x.h ∨ x.t < 0 ∨ 1099511627776 < x.t then 3 else 0 := by
    unfold chkH chk1 inR
    cases nmS x.s
    · simp
    · by_cases h1 : x.h < 1 <;> by_cases h2 : 1073741824 < x.h <;> by_cases h3 : x.t < 0 <;> by_cases h4 : 1099511627776 < x.t <;> simp [h1, h2, h3, h4]
  rw [hch]
  generalize nmS x.s = r at HN ⊢
  generalize x.h = a at *
  generalize x.t = b at *
  clear hch hs
  have key : ∀ n : Nat, n = (if r = false then 5 else if a < 1 ∨ 1073741824 < a ∨ b < 0 ∨ 1099511627776 < b then 3 else 0) → (Calls Tryz.prog 182 #[.agg (hC x).toArray] w fun e w' => e = .returned (.int .i64 (n : Nat)) ∧ Below w.heap.size w w') → Calls Tryz.prog 182 #[.agg (hC x).toArray] w fun e w' => e = .returned (.int .i64 ((if r = false then 5 else if a < 1 ∨ 1073741824 < a ∨ b < 0 ∨ 1099511627776 < b then 3 else 0 : Nat) : Nat)) ∧ Below w.heap.size w w' := fun n h q => h ▸ q
  cases r
  · refine key 5 rfl ?_
    clear key
    go_enter Tryz.func182, Tryz.ntmps182
    go_wp2_with fail
    refine (HN.out _).mono ?_
    rintro e w1 ⟨rfl, rfl⟩
    go_wp2
    go_ret
    exact ⟨rfl, hB.out⟩
  · by_cases h1 : a < 1
    · refine key 3 (by simp [h1]) ?_
      clear key
      go_enter Tryz.func182, Tryz.ntmps182
      go_wp2_with fail
      refine (HN.out _).mono ?_
      rintro e w1 ⟨rfl, rfl⟩
      go_wp2
      go_ret
      exact ⟨rfl, hB.out⟩
    · by_cases h2 : 1073741824 < a
      · refine key 3 (by simp [h2]) ?_
        clear key
        go_enter Tryz.func182, Tryz.ntmps182
        go_wp2_with fail
        refine (HN.out _).mono ?_
        rintro e w1 ⟨rfl, rfl⟩
        go_wp2
        go_ret
        exact ⟨rfl, hB.out⟩
      · by_cases h3 : b < 0
        · refine key 3 (by simp [h3]) ?_
          clear key
          go_enter Tryz.func182, Tryz.ntmps182
          go_wp2_with fail
          refine (HN.out _).mono ?_
          rintro e w1 ⟨rfl, rfl⟩
          go_wp2
          go_ret
          exact ⟨rfl, hB.out⟩
        · by_cases h4 : 1099511627776 < b
          · refine key 3 (by simp [h4]) ?_
            clear key
            go_enter Tryz.func182, Tryz.ntmps182
            go_wp2_with fail
            refine (HN.out _).mono ?_
            rintro e w1 ⟨rfl, rfl⟩
            go_wp2
            go_ret
            exact ⟨rfl, hB.out⟩
          · refine key 0 (by simp [h1, h2, h3, h4]) ?_
            clear key
            go_enter Tryz.func182, Tryz.ntmps182
            go_wp2_with fail
            refine (HN.out _).mono ?_
            rintro e w1 ⟨rfl, rfl⟩
            go_wp2
            go_ret
            exact ⟨rfl, hB.out⟩
end Go.Proofs.YtcmkmnidnapabaaGreat
