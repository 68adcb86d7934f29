/-
  WireWrites: the walk.
-/
import Derived.Test.YtbhkjflpkpkdlaaWwd
namespace Go.Proofs.Ytbhkjflpkpkdlaa
open Go.RowKit Go.Lib Go.Maps
set_option linter.unusedVariables false
set_option linter.unusedSimpArgs false

theorem rw_eq (a : Addr) (w : World) : (binOp .eql 29 (.pointer (some a)) (.pointer none)).run Try.prog w = .ok (.bool false) w := by
  have h : ∀ d : Nat, (Op.equalIn (d + 1) 29 (.pointer (some a)) (.pointer none)).run Try.prog w = .ok false w := fun d => by
    simp [Op.equalIn, run_underlying Try.underlying29]
  simp only [binOp]
  simp [Op.equal, Op.maxDepth, h 9999]
theorem rw_ne (a : Addr) (w : World) : (binOp .neq 29 (.pointer (some a)) (.pointer none)).run Try.prog w = .ok (.bool true) w := by
  have h : ∀ d : Nat, (Op.equalIn (d + 1) 29 (.pointer (some a)) (.pointer none)).run Try.prog w = .ok false w := fun d => by
    simp [Op.equalIn, run_underlying Try.underlying29]
  simp only [binOp]
  simp [Op.equal, Op.maxDepth, h 9999]
theorem rw_eq0 (w : World) : (binOp .eql 29 (.pointer none) (.pointer none)).run Try.prog w = .ok (.bool true) w := by kernel_rfl
theorem rw_ne0 (w : World) : (binOp .neq 29 (.pointer none) (.pointer none)).run Try.prog w = .ok (.bool false) w := by kernel_rfl
set_option maxRecDepth 100000 in
theorem rNewW_own (w : World) (lim : Nat) (hl : lim ≤ 1048576) : Calls Try.prog 13 #[.int .i64 (lim : Nat)] w fun e w' => ∃ g, e = .returned (.tuple #[.pointer (some ⟨g, 0, none⟩), .int .i64 0]) ∧ w.heap.size ≤ g ∧ RqW w' g g lim [] 0 ∧ Below w.heap.size w w' := by
  have h1 : decide ((lim : Int) < 0) = false := decide_eq_false (by omega)
  have h2 : decide ((1048576 : Int) < (lim : Int)) = false := decide_eq_false (by omega)
  have HL := hidp hl
  clear hl
  go_enter Try.func13, Try.ntmps13
  go_wp2_with fail
  exact bodyPost_ret (v := .tuple #[.pointer (some ⟨w.heap.size, 0, none⟩), .int .i64 0]) (by simp [results, Try.results13, go_sem]) rfl ⟨w.heap.size, rfl, Nat.le_refl _, ⟨⟨none, 0, Blk.new w [.int .i64 (lim : Nat), .slice none 0 0, .int .i64 0] _, ⟨by simp, by simp, fun h => absurd h (by omega), fun i hi => absurd hi (by simp)⟩, fun h => absurd h (by omega)⟩, Nat.zero_le _, HL.out⟩, (Below.refl _ w).alloc (Nat.le_refl _) _⟩
/-- In a round, what the drawn expression reads. -/
structure RgS (W : World) (bi b oi : Nat) (t t' : Tg) : Prop where
  k : Blk W bi (tgL t') 39
  r : ∀ j c, (tgL t)[j]? = some c → W.cell? ⟨b, oi + j, none⟩ = some c
theorem RgS.below {W W' : World} {bi b oi : Nat} {t t' : Tg} (H : RgS W bi b oi t t') (h : Below W.heap.size W W') : RgS W' bi b oi t t' := ⟨h.blk' H.k, fun j c hc => (h.cell (cell_lt (H.r j c hc))).trans (H.r j c hc)⟩
theorem RgS.eq {W W' : World} {bi b oi : Nat} {t t' : Tg} (H : RgS W bi b oi t t') (h1 : W'.heap[bi]? = W.heap[bi]?) (h2 : W'.heap[b]? = W.heap[b]?) : RgS W' bi b oi t t' := ⟨h1.trans H.k, fun j c hc => (World.cell?_of_block (a := ⟨b, oi + j, none⟩) h2).trans (H.r j c hc)⟩
/-- The thing that is handed in, behind its copy and the lent bytes. -/
theorem in_box {wr w1 : World} {Z cs : List Value} {T : TypeId} (h : w1 = (wr.alloc (.cells Z.toArray T)).setRow wr.heap.size cs.toArray) : Blk w1 wr.heap.size cs T ∧ Below wr.heap.size wr w1 ∧ wr.heap.size < w1.heap.size := by
  subst h
  have h0 := Blk.new wr Z T
  have h1 : Blk ((wr.alloc (.cells Z.toArray T)).setRow wr.heap.size cs.toArray) wr.heap.size cs T := h0.row
  exact ⟨h1, ((Below.refl _ wr).alloc (Nat.le_refl _) _).trans ((Bex.ofRow (w := wr.alloc (.cells Z.toArray T)) rfl).below (Nat.le_refl _) (by simp)), h1.lt⟩
/-- A round's facts: both writers, the box of what is handed in, the lent bytes. -/
structure WZ (w W : World) (g : Nat) (v : Value) (g2 b2 bi gl cl : Nat) (t : Tg) : Prop where
  bel : Below w.heap.size w W
  lent : Lent 0 W gl cl t.L
  d1 : bi ≠ g ∧ bi ≠ g2 ∧ bi ≠ b2 ∧ bi ≠ gl ∧ bi < W.heap.size
  d2 : gl ≠ g ∧ gl ≠ g2 ∧ gl ≠ b2 ∧ gl < W.heap.size
  d3 : v.ownBlock ≠ some bi ∧ v.ownBlock ≠ some gl
  lo : w.heap.size ≤ g ∧ w.heap.size ≤ g2 ∧ w.heap.size ≤ bi ∧ w.heap.size ≤ gl
theorem WZ.below {w W W' : World} {g g2 b2 bi gl cl : Nat} {v : Value} {t : Tg} (H : WZ w W g v g2 b2 bi gl cl t) (h : Below W.heap.size W W') : WZ w W' g v g2 b2 bi gl cl t := by
  have hs := h.size
  obtain ⟨a1, a2, a3, a4, a5⟩ := H.d1
  obtain ⟨c1, c2, c3, c4⟩ := H.d2
  exact ⟨H.bel.trans (h.mono H.bel.size), H.lent.belowD h, ⟨a1, a2, a3, a4, by omega⟩, ⟨c1, c2, c3, by omega⟩, H.d3, H.lo⟩
theorem WZ.wfr {w W W' : World} {g g2 b2 bi gl cl lim e : Nat} {v v' : Value} {t : Tg} {M : List Nat} (H : WZ w W g v g2 b2 bi gl cl t) (hw : Wr W g lim v M e) (h : Wfr g v W W' v') : WZ w W' g v' g2 b2 bi gl cl t := by
  have hs := h.size
  obtain ⟨a1, a2, a3, a4, a5⟩ := H.d1
  obtain ⟨c1, c2, c3, c4⟩ := H.d2
  obtain ⟨l1, l2, rest, l3, l4⟩ := H.lent
  exact ⟨H.bel.trans ((h.toBelow hw).mono H.lo.1), ⟨l1, l2, rest, h.blkK l3 c1 H.d3.2, l4⟩, ⟨a1, a2, a3, a4, by omega⟩, ⟨c1, c2, c3, by omega⟩, ⟨h.keep a5 H.d3.1, h.keep c4 H.d3.2⟩, H.lo⟩
theorem WZ.bex {w W W' : World} {g g2 b2 b3 bi gl cl : Nat} {v : Value} {t : Tg} (H : WZ w W g v g2 b2 bi gl cl t) (h : Bex g2 W W') (hb : b3 = b2 ∨ b3 = g2 ∨ W.heap.size ≤ b3) : WZ w W' g v g2 b3 bi gl cl t := by
  have hs := h.size
  obtain ⟨a1, a2, a3, a4, a5⟩ := H.d1
  obtain ⟨c1, c2, c3, c4⟩ := H.d2
  obtain ⟨l1, l2, rest, l3, l4⟩ := H.lent
  exact ⟨H.bel.trans (h.below H.lo.2.1 H.bel.size), ⟨l1, l2, rest, h.blk l3 c2, l4⟩, ⟨a1, a2, by omega, a4, by omega⟩, ⟨c1, c2, by omega, by omega⟩, H.d3, H.lo⟩
set_option maxRecDepth 100000 in
set_option maxHeartbeats 4000000 in
theorem wwrites_long (lim : Int) (a : Option Addr) (b o cap : Nat) (l : List Tg) (w : World) (hT : TgS w a b o cap l) (hl : longT l = true) : Calls Try.prog 3 #[.int .i64 lim, .slice a l.length cap] w fun e w' => e = .returned (.bool true) ∧ Below w.heap.size w w' := by
  have HLO := hidp (long_any a b o cap l w hT)
  rw [hl] at HLO
  clear hT hl
  go_enter Try.func3, Try.ntmps3
  go_wp2_with fail
  refine HLO.out.mono ?_
  rintro e w0 ⟨rfl, hw0⟩
  subst hw0
  go_wp2_with fail
  refine (awake_any _).mono ?_
  rintro e w1 ⟨rfl, hb⟩
  have HB := hidp hb
  go_wp2
  go_ret
  exact ⟨rfl, HB.out⟩
set_option maxRecDepth 100000 in
set_option maxHeartbeats 4000000 in
theorem wwrites_bad (lim : Int) (a : Option Addr) (b o cap : Nat) (l : List Tg) (w : World) (hT : TgS w a b o cap l) (hl : longT l = false) (hlim : lim < 0 ∨ 1048576 < lim) : Calls Try.prog 3 #[.int .i64 lim, .slice a l.length cap] w fun e w' => e = .returned (.bool true) ∧ Below w.heap.size w w' := by
  have HLO := hidp (long_any a b o cap l w hT)
  rw [hl] at HLO
  have H1 := hidp (fun W => newWriter_bad lim W hlim)
  have H2 := hidp (fun W => rNewW_bad lim W hlim)
  have q1 := fun W => w_eq_nil W
  have q2 := fun W => rw_eq0 W
  have q3 := fun W => rw_ne0 W
  clear hT hl hlim
  go_enter Try.func3, Try.ntmps3
  go_wp2_with fail
  refine HLO.out.mono ?_
  rintro e w0 ⟨rfl, hw0⟩
  subst hw0
  go_wp2_with fail
  refine (H1.out _).mono ?_
  rintro e w1 ⟨rfl, hw⟩
  subst hw
  go_wp2_with fail
  refine (H2.out _).mono ?_
  rintro e w1 ⟨rfl, hw⟩
  subst hw
  clear HLO H1 H2
  go_wp2_with fail
  go_loopw [9] (fun x wr => x = .int .i64 0 ∧ wr = w0) (fun _ _ => 0)
  case atStart => exact ⟨rfl, rfl⟩
  case round =>
    obtain ⟨rfl, rfl⟩ := hrel
    go_wp2_with fail
    refine (awake_any _).mono ?_
    rintro e w1 ⟨rfl, hb⟩
    have HB := hidp hb
    go_wp2
    go_ret
    exact ⟨rfl, HB.out⟩
set_option maxRecDepth 100000 in
set_option maxHeartbeats 8000000 in
theorem wwrites_in (lim : Nat) (a : Option Addr) (b o cap : Nat) (l : List Tg) (w : World) (hT : TgS w a b o cap l) (hl : longT l = false) (hlim : lim ≤ 1048576) : Calls Try.prog 3 #[.int .i64 (lim : Nat), .slice a l.length cap] w fun e w' => e = .returned (.bool true) ∧ Below w.heap.size w w' := by
  have HLO := hidp (long_any a b o cap l w hT)
  rw [hl] at HLO
  have hlg := hidp (longT_no hl)
  have HT := hidp hT
  have hLm := hidp hlim
  have q1 := fun x W => w_ne_nil x W
  have q2 := fun x W => rw_eq x W
  have q3 := fun x W => rw_ne x W
  have hzz : ∀ w, (zeroValue 39).run Try.prog w = .ok (.agg (tgL tgZ).toArray) w := (zero_of_info (P := Try.prog) zero_tg).1
  have hzl := hidp tgZ_len
  clear hT hl hlim
  go_enter Try.func3, Try.ntmps3
  go_wp2_with fail
  refine HLO.out.mono ?_
  rintro e w0 ⟨rfl, hw0⟩
  subst hw0
  clear HLO
  go_wp2_with fail
  obtain ⟨gw, hgw⟩ : ∃ g, g = w0.heap.size := ⟨_, rfl⟩
  have HNW := newWriter_any lim w0 hLm.out
  rw [← hgw] at HNW
  refine HNW.mono ?_
  rintro e w1 ⟨rfl, hwr, hb⟩
  have hb1 := hidp (hgw ▸ hb : Below w0.heap.size w0 w1)
  have hwr1 := hidp hwr
  have hgwl := hidp hwr.blk.lt
  have hgw0 := hidp (show w0.heap.size ≤ gw from Nat.le_of_eq hgw.symm)
  clear hwr hb HNW hgw
  go_wp2_with fail
  refine (rNewW_own w1 lim hLm.out).mono ?_
  rintro e w2 ⟨g2, rfl, hg2, hrq, hb⟩
  have hgs := hidp (show w0.heap.size ≤ gw ∧ w0.heap.size ≤ g2 from ⟨hgw0.out, by have := hb1.out.size; omega⟩)
  have H0 := hidp (show WJ w2 gw (.slice none 0 0) g2 g2 lim [] 0 from ⟨⟨[], hwr1.out.below hb, fun _ => rfl⟩, ⟨[], hrq, fun _ => rfl⟩, ⟨by have := hgwl.out; omega, by have := hgwl.out; omega, (fun h => by cases h), (fun h => by cases h)⟩, hrq.glt⟩)
  have HB0 := hidp (hb1.out.trans (hb.mono hb1.out.size))
  clear hg2 hrq hb hb1 hwr1 hgwl hgw0
  go_wp2_with fail
  go_loopw [9] (fun x wr => ∃ (i : Nat) (v : Value) (b2 : Nat) (L : List Nat) (e : Nat), i ≤ l.length ∧ x = .int .i64 i ∧ Hid (WJ wr gw v g2 b2 lim L e) ∧ Hid (Below w0.heap.size w0 wr)) (fun x _ => l.length - (Go.RowKit.intOf x).toNat)
  case atStart => exact ⟨0, _, _, _, _, by omega, rfl, H0, HB0⟩
  case round =>
    obtain ⟨i, v, b2, L, e, hi, rfl, hJ, hB⟩ := hrel
    clear H0 HB0
    have hiz : (0 : Int) ≤ (i : Int) := by omega
    by_cases hlt : i < l.length
    · obtain ⟨t, ht, htk0, rfl, _⟩ := HT.out.at hlt
      have HTK := hidp (fun W (h : Below w0.heap.size w0 W) => htk0.below h)
      have hcell := hidp (fun W (h : Below w0.heap.size w0 W) => (show ∀ j c, (tgL t)[j]? = some c → W.cell? ⟨b, o + i * 41 + j, none⟩ = some c from (HT.out.below h).cell i t ht))
      have hbl := hidp (show b < w0.heap.size from (HT.out.ptr (by have := HT.out.le; omega)).2)
      have hlz : (i : Int) < (l.length : Int) := by omega
      have HI := hidp hlt
      have hadd := w64_nat (n := i) (by have := hlg.out.1; omega)
      have htl := hidp (tgL_len htk0)
      have hL3 := hidp (hlg.out.2 t (List.mem_of_getElem? ht))
      have hone := hidp (tgL_one t)
      have hJ' := hidp (And.intro hJ.out.glt hJ.out.lt)
      have hrg' := hidp (show wr.rangeAt b (o + i * 41) (tgL t) from hcell.out _ hB.out)
      clear ht htk0 hi hlt
      go_wp2_with first
        | (with_reducible refine (?_ : wpList _ _ _ _ _ _); refine wpList_load_midD 51 rfl (by kernel_rfl) 39 _ rfl b (o + i * 41) rfl (tgL t) _ hrg'.out Try.underlying39 rfl (by rw [htl.out]; kernel_rfl) ?_)
        | (with_reducible refine (?_ : wpList _ _ _ _ _ _); refine wpList_store_blk rfl 39 _ _ rfl wr.heap.size (tgL t) (tgL tgZ) 39 rfl rfl (Blk.new wr (tgL tgZ) _) (by rw [htl.out]; kernel_rfl) (hzl.out.trans htl.out.symm) hone.out ?_; intro w1 hw1; have hbx := hidp (in_box hw1.out); have c2 := hcell.out _ (hB.out.trans (hbx.out.2.1.mono hB.out.size)) 2 _ rfl)
      replace hB := hidp (hB.out.trans (hbx.out.2.1.mono hB.out.size))
      have hJ1 := hidp (hJ.out.below hbx.out.2.1)
      have hbiE := hidp (show w0.heap.size ≤ wr.heap.size from by have := hgs.out.1; have := hJ'.out.1.1; omega)
      have hown := hidp (show v.ownBlock ≠ some wr.heap.size from fun h => by have := (hJ.out.own h).2; omega)
      have hk1 := hbx.out.1
      have hk2 := hbx.out.2.2
      replace hbiE := hbiE.out
      replace hown := hown.out
      replace hJ' := hJ'.out
      clear c2 hbx hw1 hJ hzz hzl hone hrg'
      generalize hbi : wr.heap.size = bi at hk1 hk2 hbiE hown hJ' ⊢
      replace hbiE := hidp hbiE
      replace hown := hidp hown
      replace hJ' := hidp hJ'
      replace hk1 := hidp hk1
      replace hk2 := hidp hk2
      clear hbi
      refine (lent_any (ByS.of_bs (HTK.out _ hB.out).bs (HTK.out _ hB.out).nil) (by have := hL3.out; omega)).mono ?_
      rintro e1 w3 ⟨⟨gl, cl, rfl, hlent⟩, hb⟩
      have hgl : w1.heap.size ≤ gl ∧ gl < w3.heap.size := by obtain ⟨_, h2, rest, h3, _⟩ := hlent; exact ⟨h2, h3.lt⟩
      have hk3 := hb.blk' hk1.out
      have f2 := hk3.free 2
      have c22 := (show w3.cell? ⟨bi, 2, none⟩ = some (.slice t.p t.L.length t.cap) from hk3.cell 2)
      have hk4 := hk3.set 2 (.slice (some ⟨gl, 0, none⟩) t.L.length cl)
      rw [lentG_set] at hk4
      have hbm := hidp (show Below w1.heap.size w1 w3 ∧ w1.heap.size ≤ w3.heap.size from ⟨hb, hb.size⟩)
      have hBS : Bex bi w3 (w3.setCell ⟨bi, 2, none⟩ (.slice (some ⟨gl, 0, none⟩) t.L.length cl)) := (Bex.refl bi w3).setCell 2 _
      have hlt3 : Lent 0 (w3.setCell ⟨bi, 2, none⟩ (.slice (some ⟨gl, 0, none⟩) t.L.length cl)) gl cl t.L := by
        obtain ⟨l1, l2, rest, l3, l4⟩ := hlent
        exact ⟨l1, Nat.zero_le _, rest, hBS.blk l3 (by have := hk2.out; omega), l4⟩
      have hJ3 := hJ1.out.below hb
      have hJ4 := hidp (show WJ (w3.setCell ⟨bi, 2, none⟩ (.slice (some ⟨gl, 0, none⟩) t.L.length cl)) gw v g2 b2 lim L e from hJ3.but ((But.refl bi w3).setCell 2 _) (by have := hJ'.out; omega) hown.out)
      have hZ := hidp (show WZ w0 (w3.setCell ⟨bi, 2, none⟩ (.slice (some ⟨gl, 0, none⟩) t.L.length cl)) gw v g2 b2 bi gl cl t from
        ⟨(hB.out.trans (hb.mono hB.out.size)).trans (hBS.below hbiE.out (by have := hB.out.size; have := hb.size; omega)), hlt3, by have := hJ'.out; have := hk2.out; have := hBS.size; omega, by have := hJ'.out; have := hk2.out; have := hBS.size; omega, ⟨hown.out, fun h => by have := (hJ1.out.own h).2; omega⟩, by have := hgs.out; have := hB.out.size; have := hbiE.out; omega⟩)
      have hK4 := hidp hk4
      have hnil := hidp hJ'.out
      clear hgl hlent hb hk3 hk4 hBS hlt3 hJ3 hJ1 hk1 hk2 hown hbiE hB hbm hJ'
      go_wp2_with fail
      obtain ⟨w4, hw4⟩ : ∃ W, W = w3.setCell ⟨bi, 2, none⟩ (.slice (some ⟨gl, 0, none⟩) t.L.length cl) := ⟨_, rfl⟩
      rw [← hw4] at hJ4 hZ hK4 ⊢
      clear hw4 f2 c22
      have hJ := hidp (hJ4.out.below (Below.refl _ _).drew)
      replace hZ := hidp (hZ.out.below (Below.refl _ _).drew)
      have hT := hidp (show RgS w4.drew bi b (o + i * 41) t (lentG t gl cl) from ⟨(Below.refl _ w4).drew.blk' hK4.out, hcell.out _ hZ.out.bel⟩)
      have htl2 := hidp (show (tgL (lentG t gl cl)).length = 41 from (by have q := htl.out; rw [← lentG_set, List.length_set]; exact q))
      clear hJ4 hK4
      refine wp_region_held_drew (S := fun W => RgS W bi b (o + i * 41) t (lentG t gl cl)) (by kernel_rfl) hT.out (fun hHeld => ?_)
      try simp only [Act.put, List.setIfInBounds_toArray, List.set_cons_zero, List.set_cons_succ]
      refine wpAnyH_takeTo2 (i := 0) (oi := _) (v := ?_) (some 59) rfl rfl (by kernel_rfl) (by kernel_rfl) (by kernel_rfl) (fun _ _ _ h => h) (Or.inl ⟨by rfl, ?_⟩) hHeld ?_
      rotate_left
      · intro w hSw
        go_simp
        try with_reducible rfl
      try simp only [Act.put, List.setIfInBounds_toArray, List.set_cons_zero, List.set_cons_succ]
      refine wpAnyH_takeTo2 (i := 1) (oi := _) (v := .agg (tgL (lentG t gl cl)).toArray) (some 60) rfl rfl (by kernel_rfl) (by kernel_rfl) (by kernel_rfl) (fun _ _ _ h => h) (yieldsIf_load_mid (by rfl) 39 _ rfl (bi) 0 rfl (tgL (lentG t gl cl)) _ (fun w' hw' => fun j u hj => by rw [Nat.zero_add]; exact ((hw'.k).cell j).trans hj) Try.underlying39 rfl (by rw [htl2.out]; kernel_rfl)) hHeld ?_
      try simp only [Act.put, List.setIfInBounds_toArray, List.set_cons_zero, List.set_cons_succ]
      refine wpAnyH_takeTo2 (i := 3) (oi := _) (v := ?_) (some 62) rfl rfl (by kernel_rfl) (by kernel_rfl) (by kernel_rfl) (fun _ _ _ h => h) (Or.inl ⟨by rfl, ?_⟩) hHeld ?_
      rotate_left
      · intro w hSw
        go_simp
        try with_reducible rfl
      try simp only [Act.put, List.setIfInBounds_toArray, List.set_cons_zero, List.set_cons_succ]
      refine wpAnyH_takeTo2 (i := 4) (oi := _) (v := ?_) (some 63) rfl rfl (by kernel_rfl) (by kernel_rfl) (by kernel_rfl) (fun _ _ _ h => h) (Or.inl ⟨by rfl, ?_⟩) hHeld ?_
      rotate_left
      · intro w hSw
        go_simp
        try with_reducible rfl
      try simp only [Act.put, List.setIfInBounds_toArray, List.set_cons_zero, List.set_cons_succ]
      refine wpAnyH_takeTo2 (i := 5) (oi := _) (v := ?_) (some 64) rfl rfl (by kernel_rfl) (by kernel_rfl) (by kernel_rfl) (fun _ _ _ h => h) (Or.inl ⟨by rfl, ?_⟩) hHeld ?_
      rotate_left
      · intro w hSw
        go_simp
        try with_reducible rfl
      try simp only [Act.put, List.setIfInBounds_toArray, List.set_cons_zero, List.set_cons_succ]
      refine wpAnyH_takeTo2 (i := 6) (oi := _) (v := ?_) (some 65) rfl rfl (by kernel_rfl) (by kernel_rfl) (by kernel_rfl) (fun _ _ _ h => h) (Or.inl ⟨by rfl, ?_⟩) hHeld ?_
      rotate_left
      · intro w hSw
        go_simp
        try with_reducible rfl
      try simp only [Act.put, List.setIfInBounds_toArray, List.set_cons_zero, List.set_cons_succ]
      refine wpAnyH_takeTo2 (i := 7) (oi := _) (v := .agg (tgL t).toArray) (some 66) rfl rfl (by kernel_rfl) (by kernel_rfl) (by kernel_rfl) (fun _ _ _ h => h) (yieldsIf_load_mid (by rfl) 39 _ rfl (b) (o + i * 41) rfl (tgL t) _ (fun w' hw' => hw'.r) Try.underlying39 rfl (by rw [htl.out]; kernel_rfl)) hHeld ?_
      try simp only [Act.put, List.setIfInBounds_toArray, List.set_cons_zero, List.set_cons_succ]
      refine wpAnyH_ready (rs := [2]) (by kernel_rfl) (by simp) ?_
      refine AllReadyH.cons (o := _) rfl (fun K hK => ?_) AllReadyH.nil
      go_simp
      refine (puts_all hJ.out.c (lentG t gl cl) (lentG_ok (HTK.out _ hZ.out.bel) hZ.out.lent) hL3.out (fun ad e0 h0 => by cases e0; exact ⟨hZ.out.d2.1, hZ.out.d3.2⟩)).mono ?_
      rintro eN wN hput
      obtain ⟨v', hc1, hr1, hn1, hl1, hf1⟩ := hJ.out.puts hput
      obtain ⟨M0, hM0, _⟩ := hJ.out.c
      replace hT := hidp (hT.out.eq (hf1.block bi hZ.out.d1.2.2.2.2 hZ.out.d1.1 hZ.out.d3.1) (hf1.block b (by have := hbl.out; have := hZ.out.bel.size; omega) (by have := hbl.out; have := hZ.out.lo; omega) (fun h => by have := (hJ.out.own h).1; have := hbl.out; have := hZ.out.lo; omega)))
      replace hZ := hidp (hZ.out.wfr hM0 hf1)
      have hP := hidp (And.intro hc1 (And.intro hr1 (And.intro hn1 hl1)))
      obtain ⟨he1, _⟩ := hput
      rw [(lentG_st t gl cl e lim L).2] at he1
      obtain ⟨re, hre⟩ : ∃ r, r = rtE e lim L t := ⟨_, rfl⟩
      rw [← hre] at he1
      subst he1
      replace hre := hidp hre
      have hHt := hidp (lentG_st t gl cl e lim L)
      clear hc1 hr1 hn1 hl1 hf1 hM0 hJ
      go_wp2_with fail
      refine hK.out _ _ (hT.out) (fun hHeld' => ?_)
      clear hK K hHeld
      have hHeld := hHeld'
      clear hHeld'
      try simp only [Act.put, List.setIfInBounds_toArray, List.set_cons_zero, List.set_cons_succ]
      refine wpAnyH_ready (rs := [8]) (by kernel_rfl) (by simp) ?_
      refine AllReadyH.cons (o := _) rfl (fun K hK => ?_) AllReadyH.nil
      go_simp
      refine (ours_all hP.out.2.1 t (HTK.out _ hZ.out.bel) hL3.out).mono ?_
      rintro eN wN hour
      obtain ⟨b3, hj3, hb3, hx3⟩ := WJ.ours (e1 := 0) (by have q := hP.out.1; rw [(hHt.out).1, lentG_form] at q; exact q) hP.out.2.2.1 hour
      replace hT := hidp (hT.out.eq (hx3.block bi hZ.out.d1.2.2.2.2 hZ.out.d1.2.1) (hx3.block b (by have := hbl.out; have := hZ.out.bel.size; omega) (by have := hbl.out; have := hZ.out.lo; omega)))
      replace hZ := hidp (hZ.out.bex hx3 hb3)
      have hJ := hidp hj3
      obtain ⟨he1, _⟩ := hour
      rw [← hre.out] at he1
      subst he1
      clear hj3 hb3 hx3 hP hHt hre
      go_wp2_with fail
      refine hK.out _ _ (hT.out) (fun hHeld' => ?_)
      clear hK K hHeld
      have hHeld := hHeld'
      clear hHeld'
      try simp only [Act.put, List.setIfInBounds_toArray, List.set_cons_zero, List.set_cons_succ]
      have hree : ((re : Int) == (re : Int)) = true := beq_self_eq_true _
      have hren : ((re : Int) != (re : Int)) = false := by simp
      refine wpAnyH_takeTo2 (i := 9) (oi := _) (v := ?_) (some 68) rfl rfl (by kernel_rfl) (by kernel_rfl) (by kernel_rfl) (fun _ _ _ h => h) (Or.inl ⟨by rfl, ?_⟩) hHeld ?_
      rotate_left
      · intro w hSw
        go_simp
        try with_reducible rfl
      try simp only [Act.put, List.setIfInBounds_toArray, List.set_cons_zero, List.set_cons_succ]
      refine wpAnyH_takeTo2 (i := 10) (oi := _) (v := ?_) (some 69) rfl rfl (by kernel_rfl) (by kernel_rfl) (by kernel_rfl) (fun _ _ _ h => h) (Or.inl ⟨by rfl, ?_⟩) hHeld ?_
      rotate_left
      · intro w hSw
        go_simp
        try with_reducible rfl
      try simp only [Act.put, List.setIfInBounds_toArray, List.set_cons_zero, List.set_cons_succ]
      refine wpAnyH_takeTo2 (i := 11) (oi := _) (v := ?_) (some 70) rfl rfl (by kernel_rfl) (by kernel_rfl) (by kernel_rfl) (fun _ _ _ h => h) (Or.inl ⟨by rfl, ?_⟩) hHeld ?_
      rotate_left
      · intro w hSw
        go_simp
        try with_reducible rfl
      try simp only [Act.put, List.setIfInBounds_toArray, List.set_cons_zero, List.set_cons_succ]
      refine wpAnyH_takeTo2 (i := 12) (oi := _) (v := ?_) (some 71) rfl rfl (by kernel_rfl) (by kernel_rfl) (by kernel_rfl) (fun _ _ _ h => h) (Or.inl ⟨by rfl, ?_⟩) hHeld ?_
      rotate_left
      · intro w hSw
        have q := (show w.cell? ⟨bi, 2, none⟩ = some (.slice (some ⟨gl, 0, none⟩) t.L.length cl) from hSw.k.cell 2)
        go_simp
        try with_reducible rfl
      try simp only [Act.put, List.setIfInBounds_toArray, List.set_cons_zero, List.set_cons_succ]
      refine wpAnyH_takeTo2 (i := 13) (oi := _) (v := ?_) (some 72) rfl rfl (by kernel_rfl) (by kernel_rfl) (by kernel_rfl) (fun _ _ _ h => h) (Or.inl ⟨by rfl, ?_⟩) hHeld ?_
      rotate_left
      · intro w hSw
        go_simp
        try with_reducible rfl
      try simp only [Act.put, List.setIfInBounds_toArray, List.set_cons_zero, List.set_cons_succ]
      refine wpAnyH_takeTo2 (i := 14) (oi := _) (v := ?_) (some 73) rfl rfl (by kernel_rfl) (by kernel_rfl) (by kernel_rfl) (fun _ _ _ h => h) (Or.inl ⟨by rfl, ?_⟩) hHeld ?_
      rotate_left
      · intro w hSw
        go_simp
        try with_reducible rfl
      try simp only [Act.put, List.setIfInBounds_toArray, List.set_cons_zero, List.set_cons_succ]
      refine wpAnyH_takeTo2 (i := 15) (oi := _) (v := ?_) (some 74) rfl rfl (by kernel_rfl) (by kernel_rfl) (by kernel_rfl) (fun _ _ _ h => h) (Or.inl ⟨by rfl, ?_⟩) hHeld ?_
      rotate_left
      · intro w hSw
        go_simp
        try with_reducible rfl
      try simp only [Act.put, List.setIfInBounds_toArray, List.set_cons_zero, List.set_cons_succ]
      refine wpAnyH_takeTo2 (i := 16) (oi := _) (v := ?_) (some 75) rfl rfl (by kernel_rfl) (by kernel_rfl) (by kernel_rfl) (fun _ _ _ h => h) (Or.inl ⟨by rfl, ?_⟩) hHeld ?_
      rotate_left
      · intro w hSw
        go_simp
        try with_reducible rfl
      try simp only [Act.put, List.setIfInBounds_toArray, List.set_cons_zero, List.set_cons_succ]
      refine wpAnyH_takeTo2 (i := 17) (oi := _) (v := ?_) (some 76) rfl rfl (by kernel_rfl) (by kernel_rfl) (by kernel_rfl) (fun _ _ _ h => h) (Or.inl ⟨by rfl, ?_⟩) hHeld ?_
      rotate_left
      · intro w hSw
        have q := (show w.cell? ⟨b, o + i * 41 + 2, none⟩ = some (.slice t.p t.L.length t.cap) from hSw.r 2 _ rfl)
        go_simp
        try with_reducible rfl
      try simp only [Act.put, List.setIfInBounds_toArray, List.set_cons_zero, List.set_cons_succ]
      refine wpAnyH_ready (rs := [18]) (by kernel_rfl) (by simp) ?_
      refine AllReadyH.cons (o := _) rfl (fun K hK => ?_) AllReadyH.nil
      go_simp
      refine (kept_any hZ.out.lent (ByS.of_bs (HTK.out _ hZ.out.bel).bs (HTK.out _ hZ.out.bel).nil) (by have := hL3.out; omega)).mono ?_
      rintro eN wN ⟨rfl, hN⟩
      replace hT := hidp (hT.out.below hN)
      replace hJ := hidp (hJ.out.below hN)
      replace hZ := hidp (hZ.out.below hN)
      clear hN
      go_wp2_with fail
      refine hK.out _ _ (hT.out) (fun hHeld' => ?_)
      clear hK K hHeld
      have hHeld := hHeld'
      clear hHeld'
      try simp only [Act.put, List.setIfInBounds_toArray, List.set_cons_zero, List.set_cons_succ]
      refine wpAnyH_takeTo2 (i := 19) (oi := _) (v := ?_) (some 78) rfl rfl (by kernel_rfl) (by kernel_rfl) (by kernel_rfl) (fun _ _ _ h => h) (Or.inl ⟨by rfl, ?_⟩) hHeld ?_
      rotate_left
      · intro w hSw
        go_simp
        try with_reducible rfl
      try simp only [Act.put, List.setIfInBounds_toArray, List.set_cons_zero, List.set_cons_succ]
      refine wpAnyH_takeTo2 (i := 20) (oi := _) (v := ?_) (some 79) rfl rfl (by kernel_rfl) (by kernel_rfl) (by kernel_rfl) (fun _ _ _ h => h) (Or.inl ⟨by rfl, ?_⟩) hHeld ?_
      rotate_left
      · intro w hSw
        go_simp
        try with_reducible rfl
      try simp only [Act.put, List.setIfInBounds_toArray, List.set_cons_zero, List.set_cons_succ]
      refine wpAnyH_done (by kernel_rfl) ?_ _
      have c2 := (show _root_.Go.World.cell? _ ⟨bi, 2, none⟩ = some (.slice (some ⟨gl, 0, none⟩) t.L.length cl) from hT.out.k.cell 2)
      go_wp2_with fail
      refine (over_but w0.heap.size t.L _ cl _ ((show Lent w0.heap.size _ gl cl t.L from ⟨hZ.out.lent.1, hZ.out.lo.2.2.2, hZ.out.lent.2.2⟩).ownB) (by have := hL3.out; omega)).mono ?_
      rintro e5 w5 ⟨rfl, hov⟩
      have hS := hidp (show WJ w5 gw v' g2 b3 lim (L ++ formT t) (stE e lim L t) ∧ Below w0.heap.size w0 w5 from by
        rcases hov with ⟨k, rest, e1, hk, _, hbt⟩ | rfl
        · have e2 : gl = k := by cases e1; rfl
          subst e2
          exact ⟨hJ.out.but hbt ⟨hZ.out.d2.1, hZ.out.d2.2.1, hZ.out.d2.2.2.1⟩ hZ.out.d3.2, hZ.out.bel.trans (hbt.below hk)⟩
        · exact ⟨hJ.out, hZ.out.bel⟩)
      clear hov hJ hZ hT c2
      generalize L ++ formT t = L2 at *
      generalize stE e lim L t = e2 at *
      go_wp2_with fail
      refine (wDone_gen hS.out.1.c).mono ?_
      rintro e6 w6 ⟨⟨pa, ba, ca, rfl, ha1, ha2⟩, hb⟩
      have hlow := hidp (show w5.heap.size ≤ w6.heap.size from hb.size)
      have hgl5 := hidp (And.intro hS.out.1.glt hS.out.1.lt)
      have how5 := hidp (fun k (hk : v'.ownBlock = some k) => (hS.out.1.own hk).2)
      have hs0 := hidp hS.out.2.size
      replace hS := hidp (And.intro (hS.out.1.below hb) (hS.out.2.trans (hb.mono hS.out.2.size)))
      have hA := hidp (And.intro ha1 ha2)
      clear ha1 ha2 hb
      go_wp2_with fail
      refine (rDone_gen hS.out.1.r).mono ?_
      rintro e7 w7 ⟨⟨pb, bb, cb, rfl, hb1⟩, hb⟩
      have hD := hidp (And.intro (hA.out.1.below hb) (And.intro (hA.out.2.below hb) hb1))
      replace hS := hidp (And.intro (hS.out.1.below hb) (hS.out.2.trans (hb.mono hS.out.2.size)))
      clear hb1 hb hA
      go_wp2_with fail
      refine (sameBytes_yes hD.out.1 hD.out.2.2).mono ?_
      rintro e8 w8 ⟨rfl, hw⟩
      subst hw
      have hee : ((e2 : Int) != (e2 : Int)) = false := by simp
      have hee2 : ((e2 : Int) == (e2 : Int)) = true := beq_self_eq_true _
      go_wp2_with fail
      refine (over_butG w5.heap.size (dnB e2 L2) pa ca _ hD.out.2.1 (by have := hS.out.1.len; omega)).mono ?_
      rintro e9 w9 ⟨rfl, hov⟩
      have hF := hidp (show WJ w9 gw v' g2 b3 lim L2 e2 ∧ Below w0.heap.size w0 w9 from by
        rcases hov with ⟨k, rest, e1, hk, _, hbt⟩ | rfl
        · have h5 := hgl5.out
          exact ⟨hS.out.1.but hbt (by omega) (fun h => by have := how5.out _ h; omega), hS.out.2.trans (hbt.below (by have := hs0.out; omega))⟩
        · exact hS.out)
      clear hov hS hD hee hee2
      go_wp2_with fail
      try rw [hadd]
      exact ⟨⟨i + 1, v', b3, L2, e2, by have := HI.out; omega, rfl, hidp hF.out.1, hidp hF.out.2⟩, by have := HI.out; show l.length - ((i + 1 : Nat) : Int).toNat < l.length - ((i : Nat) : Int).toNat; omega⟩
    · obtain rfl : i = l.length := by omega
      have hlz : ¬ ((l.length : Int) < (l.length : Int)) := by omega
      clear hi hlt
      go_wp2_with fail
      refine (awake_any _).mono ?_
      rintro e w1 ⟨rfl, hb⟩
      have HB := hidp (hB.out.trans (hb.mono hB.out.size))
      go_wp2
      go_ret
      exact ⟨rfl, HB.out⟩
theorem wwrites_any (lim : Int) (a : Option Addr) (b o cap : Nat) (l : List Tg) (w : World) (_ : -9223372036854775808 ≤ lim ∧ lim ≤ 9223372036854775807) (hT : TgS w a b o cap l) : Calls Try.prog 3 #[.int .i64 lim, .slice a l.length cap] w fun e w' => e = .returned (.bool true) ∧ Below w.heap.size w w' := by
  cases hl : longT l
  · by_cases hb : lim < 0 ∨ 1048576 < lim
    · exact wwrites_bad lim a b o cap l w hT hl hb
    · obtain ⟨n, rfl⟩ : ∃ n : Nat, lim = (n : Int) := ⟨lim.toNat, by omega⟩
      exact wwrites_in n a b o cap l w hT hl (by omega)
  · exact wwrites_long lim a b o cap l w hT hl
end Go.Proofs.Ytbhkjflpkpkdlaa
