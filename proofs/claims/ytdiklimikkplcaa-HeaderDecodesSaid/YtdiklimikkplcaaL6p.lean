/-
  The reference of layer 6: Name, Check, Get.
-/
import Derived.Test.YtdiklimikkplcaaL6e
import Derived.Test.YtdiklimikkplcaaTr
namespace Go.Proofs.Ytdiklimikkplcaa
set_option linter.unusedSimpArgs false
open Go.RowKit Go.Lib

set_option maxRecDepth 100000 in
set_option maxHeartbeats 4000000 in
theorem rName_any (s : ByteArray) (w : World) (hs : s.size ≤ 9223372036854775806) :
    Calls Try.prog 48 #[.string s] w fun e w' => e = .returned (.bool (nmS s)) ∧ w' = w := by
  go_enter Try.func48, Try.ntmps48
  go_wp2
  go_loopw [3] (fun x wr => ∃ i : Nat, i ≤ s.size ∧ x = .int .i64 i ∧ wr = w ∧ nmA s = ((strL s).drop i).all nmb) (fun x _ => s.size - (Go.RowKit.intOf x).toNat)
  case atStart => exact ⟨0, Nat.zero_le _, rfl, rfl, rfl⟩
  case round =>
    obtain ⟨i, hi, rfl, rfl, hc⟩ := hrel
    by_cases hlt : i < s.size
    · have hd := strL_drop s i hlt
      rw [hd, List.all_cons] at hc
      have hadd : wrap64 ((i : Int) + 1) = (i : Int) + 1 := by rw [w64 _ (by omega)]
      have hix : (Instr.index 9 (.string s) (.int .i64 (i : Int))).run Try.prog wr = .ok (.int .u8 ((s[i]'hlt).toNat : Nat)) wr := by
        rw [run_index_string _ _ _ _ _ Try.underlying9, dif_pos (by omega)]
        rfl
      have HC := hidp hc
      have HL := hidp hlt
      have HG := hidp (show (s[i]'hlt).toNat < 256 from (s[i]'hlt).toNat_lt)
      have hil : (i : Int) < (s.size : Int) := by omega
      clear hc hd
      generalize (s[i]'hlt).toNat = x at *
      have fin : nmb x = false → nmS s = false := fun h => by unfold nmS; rw [HC.out, h, Bool.false_and, Bool.and_false, Bool.and_false]
      have nxt : nmb x = true → nmA s = ((strL s).drop (i + 1)).all nmb := fun h => by rw [HC.out, h, Bool.true_and]
      replace fin := hidp fin
      replace nxt := hidp nxt
      by_cases h1 : (x : Int) < 97 <;> by_cases h2 : (122 : Int) < (x : Int) <;> by_cases h3 : (x : Int) < 48 <;> by_cases h4 : (57 : Int) < (x : Int) <;> cases h5 : ((x : Int) != 45) <;> first
        | (exfalso; omega)
        | (exfalso; rw [bne_eq_false_iff_eq] at h5; omega)
        | (have hn : nmb x = true := by unfold nmb; apply decide_eq_true; first | omega | (rw [bne_eq_false_iff_eq] at h5; omega)
           have E := hidp (nxt.out hn)
           clear hn fin nxt
           go_wp2
           go_roundw
           case rel => exact ⟨i + 1, by have := HL.out; omega, by go_num, trivial, E.out⟩
           case measure => have := HL.out; simp [Go.RowKit.intOf]; omega)
        | (have hn : nmb x = false := by unfold nmb; apply decide_eq_false; rw [bne_iff_ne] at h5; omega
           have E := hidp (fin.out hn)
           clear hn fin nxt
           go_wp2
           go_ret
           exact ⟨ret_bool E.out.symm, rfl⟩)
    · have e3 : (strL s).drop i = [] := List.drop_eq_nil_of_le (by rw [strL_len]; omega)
      rw [e3] at hc
      have HC := hidp hc
      clear hc e3
      by_cases h1 : (1 : Int) ≤ (s.size : Int)
      · by_cases h2 : (s.size : Int) ≤ 32
        · have e : nmS s = true := by unfold nmS; rw [decide_eq_true (by omega), decide_eq_true (by omega), HC.out]; rfl
          have E := hidp e
          clear HC e
          go_wp2
          go_ret
          exact ⟨ret_bool E.out.symm, rfl⟩
        · have e : nmS s = false := by unfold nmS; rw [decide_eq_true (by omega), decide_eq_false (by omega)]; rfl
          have E := hidp e
          clear HC e
          go_wp2
          go_ret
          exact ⟨ret_bool E.out.symm, rfl⟩
      · have e : nmS s = false := by unfold nmS; rw [decide_eq_false (by omega)]; rfl
        have E := hidp e
        clear HC e
        go_wp2
        go_ret
        exact ⟨ret_bool E.out.symm, rfl⟩
set_option maxRecDepth 100000 in
set_option maxHeartbeats 4000000 in
theorem rCheck_any (x : Hdr) (w : World) (hs : x.s.size ≤ 9223372036854775806) :
    Calls Try.prog 46 #[.agg (hC x).toArray] w fun e w' => e = .returned (.int .i64 (chkH x : Nat)) ∧ Below w.heap.size w w' := by
  have c0 := (Blk.new w (hC x) 68).cell 0
  have c1 := (Blk.new w (hC x) 68).cell 1
  have c2 := (Blk.new w (hC x) 68).cell 2
  rw [hC_0] at c0
  rw [hC_1] at c1
  rw [hC_2] at c2
  have hB := hidp ((Below.refl w.heap.size w).alloc (Nat.le_refl _) (.cells (hC x).toArray 68))
  have HN := hidp (fun W => rName_any x.s W hs)
  have hch : chkH x = if nmS x.s = false then 5 else if x.h < 1 ∨ 1073741824 < x.h ∨ x.t < 0 ∨ 1099511627776 < x.t then 3 else 0 := by
    unfold chkH chk1 inR
    cases nmS x.s
    · simp
    · by_cases h1 : x.h < 1 <;> by_cases h2 : 1073741824 < x.h <;> by_cases h3 : x.t < 0 <;> by_cases h4 : 1099511627776 < x.t <;> simp [h1, h2, h3, h4]
  rw [hch]
  generalize nmS x.s = r at HN ⊢
  generalize x.h = a at *
  generalize x.t = b at *
  clear hch hs
  have key : ∀ n : Nat, n = (if r = false then 5 else if a < 1 ∨ 1073741824 < a ∨ b < 0 ∨ 1099511627776 < b then 3 else 0) → (Calls Try.prog 46 #[.agg (hC x).toArray] w fun e w' => e = .returned (.int .i64 (n : Nat)) ∧ Below w.heap.size w w') → Calls Try.prog 46 #[.agg (hC x).toArray] w fun e w' => e = .returned (.int .i64 ((if r = false then 5 else if a < 1 ∨ 1073741824 < a ∨ b < 0 ∨ 1099511627776 < b then 3 else 0 : Nat) : Nat)) ∧ Below w.heap.size w w' := fun n h q => h ▸ q
  cases r
  · refine key 5 rfl ?_
    clear key
    go_enter Try.func46, Try.ntmps46
    go_wp2_with fail
    refine (HN.out _).mono ?_
    rintro e w1 ⟨rfl, rfl⟩
    go_wp2
    go_ret
    exact ⟨rfl, hB.out⟩
  · by_cases h1 : a < 1
    · refine key 3 (by simp [h1]) ?_
      clear key
      go_enter Try.func46, Try.ntmps46
      go_wp2_with fail
      refine (HN.out _).mono ?_
      rintro e w1 ⟨rfl, rfl⟩
      go_wp2
      go_ret
      exact ⟨rfl, hB.out⟩
    · by_cases h2 : 1073741824 < a
      · refine key 3 (by simp [h2]) ?_
        clear key
        go_enter Try.func46, Try.ntmps46
        go_wp2_with fail
        refine (HN.out _).mono ?_
        rintro e w1 ⟨rfl, rfl⟩
        go_wp2
        go_ret
        exact ⟨rfl, hB.out⟩
      · by_cases h3 : b < 0
        · refine key 3 (by simp [h3]) ?_
          clear key
          go_enter Try.func46, Try.ntmps46
          go_wp2_with fail
          refine (HN.out _).mono ?_
          rintro e w1 ⟨rfl, rfl⟩
          go_wp2
          go_ret
          exact ⟨rfl, hB.out⟩
        · by_cases h4 : 1099511627776 < b
          · refine key 3 (by simp [h4]) ?_
            clear key
            go_enter Try.func46, Try.ntmps46
            go_wp2_with fail
            refine (HN.out _).mono ?_
            rintro e w1 ⟨rfl, rfl⟩
            go_wp2
            go_ret
            exact ⟨rfl, hB.out⟩
          · refine key 0 (by simp [h1, h2, h3, h4]) ?_
            clear key
            go_enter Try.func46, Try.ntmps46
            go_wp2_with fail
            refine (HN.out _).mono ?_
            rintro e w1 ⟨rfl, rfl⟩
            go_wp2
            go_ret
            exact ⟨rfl, hB.out⟩
/-- A header under way: the answer's reader, the header's cells, the result's. -/
structure GetS (w wr : World) (g b : Nat) (s : RS) (y : Hdr) : Prop where
  rd : RdQ wr g b s
  kh : Blk wr (w.heap.size + 1) (hC y) 68
  res : Blk wr w.heap.size (hC hdr0) 68
  x : Bex g w wr
  hg : g < w.heap.size
  hb : b < w.heap.size
theorem GetS.read {w wr w1 : World} {g b : Nat} {s s1 : RS} {y : Hdr} (D : GetS w wr g b s y) (h1 : RdQ w1 g b s1) (hx : Bex g wr w1) : GetS w w1 g b s1 y :=
  ⟨h1, hx.blk D.kh (by have := D.hg; omega), hx.blk D.res (by have := D.hg; omega), D.x.trans hx, D.hg, D.hb⟩
theorem Bex.belowAt {k : Nat} {w w' : World} (h : Bex k w w') {B : Nat} (hk : B ≤ k) (hB : B ≤ w.heap.size) : Below B w w' := h.below hk hB
theorem GetS.sets {w wr : World} {g b : Nat} {s : RS} {x y : Hdr} (D : GetS w wr g b s x) (o : Nat) (vs : List Value) (e : setsL (hC x) o vs = hC y) : GetS w (wr.setCells (w.heap.size + 1) o vs) g b s y := by
  have hx := Bex.sets (w.heap.size + 1) vs o wr
  have hlt := D.kh.lt
  exact ⟨D.rd.lower (hx.below (Nat.le_succ w.heap.size) (by omega)) D.hg D.hb, e ▸ D.kh.sets vs o wr _, hx.blk D.res (by omega), D.x.low (hx.below (Nat.le_succ w.heap.size) (by omega)), D.hg, D.hb⟩
theorem GetS.set {w wr : World} {g b : Nat} {s : RS} {x y : Hdr} (D : GetS w wr g b s x) (k : Nat) (v : Value) (e : (hC x).set k v = hC y) : GetS w (wr.setCell ⟨w.heap.size + 1, k, none⟩ v) g b s y := D.sets k [v] e
theorem GetS.f {w wr : World} {g b : Nat} {s : RS} {x : Hdr} (D : GetS w wr g b s x) : wr.cell? ⟨w.heap.size + 1, 0, none⟩ = some (.string x.s) ∧ wr.cell? ⟨w.heap.size + 1, 1, none⟩ = some (.int .i64 x.h) ∧ wr.cell? ⟨w.heap.size + 1, 2, none⟩ = some (.int .i64 x.t) ∧ (∀ k, wr.frozen? ⟨w.heap.size + 1, k, none⟩ = false) := ⟨D.kh.cell 0, D.kh.cell 1, D.kh.cell 2, fun k => D.kh.free k⟩
set_option maxRecDepth 100000 in
set_option maxHeartbeats 4000000 in
theorem rGet_any {w : World} {g b : Nat} {L : List Nat} (H : RdQ w g b (hS0 L)) (hb : b < w.heap.size) (hby : ∀ x ∈ L, x < 256) :
    Calls Try.prog 110 #[.pointer (some ⟨g, 0, none⟩)] w fun e w' => e = .returned (.agg (hC (rdH L)).toArray) ∧ RdQ w' g b (hS7 L) ∧ Bex g w w' := by
  have hz : ∀ w, (zeroValue 68).run Try.prog w = .ok (.agg (hC hdr0).toArray) w := (zero_of_info (P := Try.prog) zero_hdr).1
  have hl0 := hidp (hC_len hdr0_ok)
  have hz3 : hz32 = z32 := rfl
  have HA := hidp (((Below.refl w.heap.size w).alloc (Nat.le_refl _) (.cells (hC hdr0).toArray 68)).alloc (by simp) (.cells (hC hdr0).toArray 68))
  have D0 : Hid (GetS w ((w.alloc (.cells (hC hdr0).toArray 68)).alloc (.cells (hC hdr0).toArray 68)) g b (hS0 L) hdr0) := hidp ⟨H.below HA.out, Blk.new' _ _ _ _ (by simp), (Blk.new w _ _).alloc _, Bex.of_below HA.out, H.glt, hb⟩
  clear H hb HA
  go_enter Try.func110, Try.ntmps110
  go_wp2_with fail
  refine (refText_any D0.out.rd 32).mono ?_
  rintro e w1 ⟨rfl, h1, hx⟩
  have E1 : Hid (GetS w w1 g b (hS1 L) hdr0) := hidp (D0.out.read h1 hx)
  clear h1 hx D0
  obtain ⟨v0, hv0⟩ : ∃ v, v = strB (rdV (fun R => pText R 32) [] (hS0 L)) := ⟨_, rfl⟩
  rw [← hv0]
  replace hv0 := hidp hv0
  obtain ⟨k0, _, _, k3⟩ := E1.out.f
  have f0 := k3 0
  clear k3
  go_wp2_with fail
  have D1 := hidp (E1.out.set (y := ⟨v0, 0, 0, z32, z32, z32, z32⟩) 0 (.string v0) rfl)
  clear k0 f0 E1
  generalize (World.setCell _ _ _) = u1 at D1 ⊢
  refine (refNum_any D1.out.rd).mono ?_
  rintro e w2 ⟨rfl, h1, hx⟩
  have E2 : Hid (GetS w w2 g b (hS2 L) ⟨v0, 0, 0, z32, z32, z32, z32⟩) := hidp (D1.out.read h1 hx)
  clear h1 hx D1
  obtain ⟨v1, hv1⟩ : ∃ v, v = rdV pNum 0 (hS1 L) := ⟨_, rfl⟩
  rw [← hv1]
  replace hv1 := hidp hv1
  obtain ⟨_, k1, _, k3⟩ := E2.out.f
  have f1 := k3 1
  clear k3
  go_wp2_with fail
  have D2 := hidp (E2.out.set (y := ⟨v0, v1, 0, z32, z32, z32, z32⟩) 1 (.int .i64 (v1 : Nat)) rfl)
  clear k1 f1 E2
  generalize (World.setCell _ _ _) = u2 at D2 ⊢
  refine (refNum_any D2.out.rd).mono ?_
  rintro e w3 ⟨rfl, h1, hx⟩
  have E3 : Hid (GetS w w3 g b (hS3 L) ⟨v0, v1, 0, z32, z32, z32, z32⟩) := hidp (D2.out.read h1 hx)
  clear h1 hx D2
  obtain ⟨v2, hv2⟩ : ∃ v, v = rdV pNum 0 (hS2 L) := ⟨_, rfl⟩
  rw [← hv2]
  replace hv2 := hidp hv2
  obtain ⟨_, _, k2, k3⟩ := E3.out.f
  have f2 := k3 2
  clear k3
  go_wp2_with fail
  have D3 := hidp (E3.out.set (y := ⟨v0, v1, v2, z32, z32, z32, z32⟩) 2 (.int .i64 (v2 : Nat)) rfl)
  clear k2 f2 E3
  generalize (World.setCell _ _ _) = u3 at D3 ⊢
  refine (refHash_any D3.out.rd (Nat.lt_of_lt_of_le D3.out.hb D3.out.x.size)).mono ?_
  rintro e w4 ⟨rfl, h1, hx⟩
  have E4 := hidp (D3.out.read (s1 := hS4 L) h1 hx)
  clear h1 hx D3
  rw [hz3]
  have HB0 := hidp (rdHash_bytes (s := hS3 L) (hS_byte hby).2.2.2.1)
  obtain ⟨q0, hq0⟩ : ∃ v, v = rdV (pRaw 32) z32 (hS3 L) := ⟨_, rfl⟩
  rw [← hq0] at HB0 ⊢
  replace hq0 := hidp hq0
  have HL0 := hidp HB0.out.1
  have HSZ : Hid ((Try.prog.info? 34).map (·.size) = some (bvs q0).toArray.size) := hidp (by rw [List.size_toArray, bvs_len, HL0.out]; kernel_rfl)
  have HTH : Hid (w4.there (w.heap.size + 1) 3 (bvs q0).toArray.size) := hidp (E4.out.kh.there 3 _ (by rw [List.size_toArray, bvs_len, HL0.out]; unfold hC; simp [bvs_len, z32]))
  go_wp2_with (with_reducible refine (?_ : wpList _ _ _ _ _ _); refine wpList_store_mid rfl 34 _ _ rfl (w.heap.size + 1) 3 (bvs q0).toArray rfl rfl HTH.out HSZ.out (bvs_one _) ?_)
  have D4 := hidp (E4.out.sets 3 (bvs q0) (setH_p q0  (by rw [HL0.out]; rfl)))
  obtain ⟨W0, hW0⟩ : ∃ W, W = w4.setCells (w.heap.size + 1) 3 (bvs q0).toArray.toList := ⟨_, rfl⟩
  have hW0' : w4.setCells (w.heap.size + 1) 3 (bvs q0) = W0 := hW0.symm
  rw [hW0'] at D4
  rw [← hW0]
  clear HTH HSZ E4 hW0 hW0'
  refine (refHash_any D4.out.rd (Nat.lt_of_lt_of_le D4.out.hb D4.out.x.size)).mono ?_
  rintro e w5 ⟨rfl, h1, hx⟩
  have E5 := hidp (D4.out.read (s1 := hS5 L) h1 hx)
  clear h1 hx D4
  rw [hz3]
  have HB1 := hidp (rdHash_bytes (s := hS4 L) (hS_byte hby).2.2.2.2.1)
  obtain ⟨q1, hq1⟩ : ∃ v, v = rdV (pRaw 32) z32 (hS4 L) := ⟨_, rfl⟩
  rw [← hq1] at HB1 ⊢
  replace hq1 := hidp hq1
  have HL1 := hidp HB1.out.1
  have HSZ : Hid ((Try.prog.info? 34).map (·.size) = some (bvs q1).toArray.size) := hidp (by rw [List.size_toArray, bvs_len, HL1.out]; kernel_rfl)
  have HTH : Hid (w5.there (w.heap.size + 1) 35 (bvs q1).toArray.size) := hidp (E5.out.kh.there 35 _ (by rw [List.size_toArray, bvs_len, HL1.out]; unfold hC; simp [bvs_len, z32, HL0.out]))
  go_wp2_with (with_reducible refine (?_ : wpList _ _ _ _ _ _); refine wpList_store_mid rfl 34 _ _ rfl (w.heap.size + 1) 35 (bvs q1).toArray rfl rfl HTH.out HSZ.out (bvs_one _) ?_)
  have D5 := hidp (E5.out.sets 35 (bvs q1) (setH_v q1 HL0.out (by rw [HL1.out]; rfl)))
  obtain ⟨W1, hW1⟩ : ∃ W, W = w5.setCells (w.heap.size + 1) 35 (bvs q1).toArray.toList := ⟨_, rfl⟩
  have hW1' : w5.setCells (w.heap.size + 1) 35 (bvs q1) = W1 := hW1.symm
  rw [hW1'] at D5
  rw [← hW1]
  clear HTH HSZ E5 hW1 hW1'
  refine (refHash_any D5.out.rd (Nat.lt_of_lt_of_le D5.out.hb D5.out.x.size)).mono ?_
  rintro e w6 ⟨rfl, h1, hx⟩
  have E6 := hidp (D5.out.read (s1 := hS6 L) h1 hx)
  clear h1 hx D5
  rw [hz3]
  have HB2 := hidp (rdHash_bytes (s := hS5 L) (hS_byte hby).2.2.2.2.2.1)
  obtain ⟨q2, hq2⟩ : ∃ v, v = rdV (pRaw 32) z32 (hS5 L) := ⟨_, rfl⟩
  rw [← hq2] at HB2 ⊢
  replace hq2 := hidp hq2
  have HL2 := hidp HB2.out.1
  have HSZ : Hid ((Try.prog.info? 34).map (·.size) = some (bvs q2).toArray.size) := hidp (by rw [List.size_toArray, bvs_len, HL2.out]; kernel_rfl)
  have HTH : Hid (w6.there (w.heap.size + 1) 67 (bvs q2).toArray.size) := hidp (E6.out.kh.there 67 _ (by rw [List.size_toArray, bvs_len, HL2.out]; unfold hC; simp [bvs_len, z32, HL0.out, HL1.out]))
  go_wp2_with (with_reducible refine (?_ : wpList _ _ _ _ _ _); refine wpList_store_mid rfl 34 _ _ rfl (w.heap.size + 1) 67 (bvs q2).toArray rfl rfl HTH.out HSZ.out (bvs_one _) ?_)
  have D6 := hidp (E6.out.sets 67 (bvs q2) (setH_n q2 HL0.out HL1.out (by rw [HL2.out]; rfl)))
  obtain ⟨W2, hW2⟩ : ∃ W, W = w6.setCells (w.heap.size + 1) 67 (bvs q2).toArray.toList := ⟨_, rfl⟩
  have hW2' : w6.setCells (w.heap.size + 1) 67 (bvs q2) = W2 := hW2.symm
  rw [hW2'] at D6
  rw [← hW2]
  clear HTH HSZ E6 hW2 hW2'
  refine (refHash_any D6.out.rd (Nat.lt_of_lt_of_le D6.out.hb D6.out.x.size)).mono ?_
  rintro e w7 ⟨rfl, h1, hx⟩
  have E7 := hidp (D6.out.read (s1 := hS7 L) h1 hx)
  clear h1 hx D6
  rw [hz3]
  have HB3 := hidp (rdHash_bytes (s := hS6 L) (hS_byte hby).2.2.2.2.2.2)
  obtain ⟨q3, hq3⟩ : ∃ v, v = rdV (pRaw 32) z32 (hS6 L) := ⟨_, rfl⟩
  rw [← hq3] at HB3 ⊢
  replace hq3 := hidp hq3
  have HL3 := hidp HB3.out.1
  have HSZ : Hid ((Try.prog.info? 34).map (·.size) = some (bvs q3).toArray.size) := hidp (by rw [List.size_toArray, bvs_len, HL3.out]; kernel_rfl)
  have HTH : Hid (w7.there (w.heap.size + 1) 99 (bvs q3).toArray.size) := hidp (E7.out.kh.there 99 _ (by rw [List.size_toArray, bvs_len, HL3.out]; unfold hC; simp [bvs_len, z32, HL0.out, HL1.out, HL2.out]))
  have D7 := hidp (E7.out.sets 99 (bvs q3) (setH_a q3 HL0.out HL1.out HL2.out (by rw [HL3.out]; rfl)))
  have hX := hidp (show (⟨v0, v1, v2, q0, q1, q2, q3⟩ : Hdr) = rdH L by rw [hv0.out, hv1.out, hv2.out, hq0.out, hq1.out, hq2.out, hq3.out]; rfl)
  have hl := hidp (hC_len (rdH_ok hby))
  rw [← hX.out] at hl
  have hone := hidp (hC_one ⟨v0, v1, v2, q0, q1, q2, q3⟩)
  obtain ⟨W3, hW3⟩ : ∃ W, W = w7.setCells (w.heap.size + 1) 99 (bvs q3) := ⟨_, rfl⟩
  have D8 := D7
  rw [← hW3] at D8
  replace hW3 := hidp hW3
  go_wp2_with first
    | (with_reducible refine (?_ : wpList _ _ _ _ _ _); refine wpList_store_mid rfl 34 _ _ rfl (w.heap.size + 1) 99 (bvs q3).toArray rfl rfl HTH.out HSZ.out (bvs_one _) ?_; rw [show w7.setCells (w.heap.size + 1) 99 (bvs q3).toArray.toList = W3 from hW3.out.symm])
    | (with_reducible refine (?_ : wpList _ _ _ _ _ _); refine wpList_load_blk rfl 68 _ rfl (w.heap.size + 1) (hC ⟨v0, v1, v2, q0, q1, q2, q3⟩) 68 rfl D8.out.kh _ Try.underlying68 rfl (by rw [hl.out]; kernel_rfl) ?_)
    | (with_reducible refine (?_ : wpList _ _ _ _ _ _); refine wpList_store_blk rfl 68 _ _ rfl w.heap.size (hC ⟨v0, v1, v2, q0, q1, q2, q3⟩) (hC hdr0) 68 rfl rfl D8.out.res (by rw [hl.out]; kernel_rfl) (hl0.out.trans hl.out.symm) hone.out ?_; intro w9 hw9)
  have b2 : Blk w9 w.heap.size (hC ⟨v0, v1, v2, q0, q1, q2, q3⟩) 68 := by rw [hw9.out]; exact D8.out.res.row
  have hS : Below w.heap.size W3 w9 := by rw [hw9.out]; exact ((But.refl w.heap.size W3).setRow _).below (Nat.le_refl _)
  refine bodyPost_ret (v := .agg (hC ⟨v0, v1, v2, q0, q1, q2, q3⟩).toArray) ?_ rfl ⟨by rw [hX.out], D8.out.rd.lower hS D8.out.hg D8.out.hb, D8.out.x.low hS⟩
  exact results_cell_row Try.results110 _ _ w.heap.size 68 _ (0, 0) _ rfl b2 Try.underlying68 rfl (by rw [List.size_toArray, hl.out]; kernel_rfl)
end Go.Proofs.Ytdiklimikkplcaa
