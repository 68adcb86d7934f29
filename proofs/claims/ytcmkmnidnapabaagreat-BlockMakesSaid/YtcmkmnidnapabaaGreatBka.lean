/-
  Block: a block's cells; its requirements, one by one.
-/
import Derived.Test.YtcmkmnidnapabaaGreatVtb
import Derived.Test.YtcmkmnidnapabaaGreatLB
import Derived.Test.YtcmkmnidnapabaaGreatL6n
import Derived.Test.YtcmkmnidnapabaaGreatTC
import Derived.Test.YtcmkmnidnapabaaGreatLh
namespace Go.Proofs.YtcmkmnidnapabaaGreat
open Go.RowKit Go.Lib
set_option linter.unusedSimpArgs false
set_option linter.unusedVariables false

/-- A block: its header; its commit's height, hash and votes; its validators. -/
structure Bd where
  h : Hdr
  n : Int
  p : List Nat
  a : Option Addr
  tb : Nat
  t0 : Nat
  tc : Nat
  l : List Vt
  va : Option Addr
  vb : Nat
  v0 : Nat
  vc : Nat
  s : List Vd
def Bd.c (x : Bd) : List Value := cC x.n x.p (.slice x.a x.l.length x.tc)
def bC (x : Bd) : List Value := hC x.h ++ (x.c ++ [.slice x.va x.s.length x.vc])
structure BdS (W : World) (x : Bd) : Prop where
  hh : HdrOk x.h
  hn : -9223372036854775808 ≤ x.n ∧ x.n ≤ 9223372036854775807
  hp : Bytes 32 x.p
  t : Ts W x.a x.tb x.t0 x.tc x.l
  v : Vs W x.va x.vb x.v0 x.vc x.s
theorem BdS.below {W W' : World} {x : Bd} (h : BdS W x) (hb : Below W.heap.size W W') : BdS W' x := ⟨h.hh, h.hn, h.hp, h.t.below hb, h.v.below hb⟩
theorem bc_len {x : Bd} (hp : x.p.length = 32) : x.c.length = 34 := cC_len hp
theorem bC_len {x : Bd} (hh : HdrOk x.h) (hp : x.p.length = 32) : (bC x).length = 166 := by
  unfold bC
  rw [List.length_append, List.length_append, hC_len hh, bc_len hp]
  rfl
theorem bC_H {x : Bd} (j : Nat) (v : Value) (hj : (hC x.h)[j]? = some v) : (bC x)[0 + j]? = some v := by
  have hlt := (List.getElem?_eq_some_iff.1 hj).1
  rw [Nat.zero_add]
  unfold bC
  rw [List.getElem?_append_left hlt]
  exact hj
theorem bC_C {x : Bd} (hh : HdrOk x.h) (j : Nat) (v : Value) (hj : x.c[j]? = some v) : (bC x)[131 + j]? = some v := by
  have hlt := (List.getElem?_eq_some_iff.1 hj).1
  have hl := hC_len hh
  unfold bC
  rw [List.getElem?_append_right (by omega), hl, Nat.add_sub_cancel_left, List.getElem?_append_left hlt]
  exact hj
theorem bC_s {x : Bd} (hh : HdrOk x.h) (hp : x.p.length = 32) : (bC x)[165]? = some (.slice x.va x.s.length x.vc) := by
  have hl := hC_len hh
  have hc := bc_len hp
  unfold bC
  rw [List.getElem?_append_right (by omega), hl, List.getElem?_append_right (by omega), hc]
  rfl
theorem hC_V (x : Hdr) (hx : HdrOk x) (j : Nat) (v : Value) (hj : (bvs x.v)[j]? = some v) : (hC x)[35 + j]? = some v := hC_v hx j v hj
section
variable {W : World} {g : Nat} {x : Bd} {T : TypeId}
theorem bk_H (H : Blk W g (bC x) T) : W.rangeAt g 0 (hC x.h) := fun j v hj => (H.cell _).trans (bC_H j v hj)
theorem bk_C (H : Blk W g (bC x) T) (hh : HdrOk x.h) : W.rangeAt g 131 x.c := fun j v hj => (H.cell _).trans (bC_C hh j v hj)
theorem bk_s (H : Blk W g (bC x) T) (hh : HdrOk x.h) (hp : x.p.length = 32) : W.cell? ⟨g, 165, none⟩ = some (.slice x.va x.s.length x.vc) := (H.cell _).trans (bC_s hh hp)
theorem bk_V (H : Blk W g (bC x) T) (hh : HdrOk x.h) : W.rangeAt g 35 (bvs x.h.v) := fun j v hj => by
  have q := bk_H H (35 + j) v (hC_V x.h hh j v hj)
  rwa [Nat.zero_add] at q
theorem bk_P (H : Blk W g (bC x) T) (hh : HdrOk x.h) : W.rangeAt g 132 (bvs x.p) := fun j v hj => by
  have q := bk_C H hh (1 + j) v (cC_p j v hj)
  rwa [← Nat.add_assoc] at q
theorem bk_n (H : Blk W g (bC x) T) (hh : HdrOk x.h) : W.cell? ⟨g, 131, none⟩ = some (.int .i64 x.n) := bk_C H hh 0 _ (cC_0 _ _ _)
theorem bk_l (H : Blk W g (bC x) T) (hh : HdrOk x.h) (hp : x.p.length = 32) : W.cell? ⟨g, 164, none⟩ = some (.slice x.a x.l.length x.tc) := bk_C H hh 33 _ (cC_33 hp)
theorem bk_h (H : Blk W g (bC x) T) : W.cell? ⟨g, 1, none⟩ = some (.int .i64 x.h.h) := bk_H H 1 _ (hC_1 x.h)
end
theorem sz_H {x : Bd} (hh : HdrOk x.h) : (Tryz.prog.info? 79).map (·.size) = some (hC x.h).length := by rw [hC_len hh]; kernel_rfl
theorem sz_C {x : Bd} (hp : x.p.length = 32) : (Tryz.prog.info? 82).map (·.size) = some x.c.length := by rw [bc_len hp]; kernel_rfl
theorem sz_S {p : List Nat} (hp : p.length = 32) : (Tryz.prog.info? 39).map (·.size) = some (bvs p).length := by rw [bvs_len, hp]; kernel_rfl
def lk4 (x : Bd) : Nat := if chk x.s = 0 then (if x.h.v = hashV x.s then 0 else 12) else chk x.s
def lk5 (x : Bd) : Nat := if chkH x.h = 0 then (if x.p = hashO x.h then 0 else 12) else chkH x.h
def lk6 (x : Bd) : Nat := if x.n = x.h.h then 0 else 13
def lk7 (x : Bd) : Nat := (whoO x.n x.l x.s).2
def LkP (w : World) (n : Nat) (e : Ending) (w' : World) : Prop := e = .returned (.int .i64 (n : Nat)) ∧ Below w.heap.size w w'
set_option maxRecDepth 100000 in
set_option maxHeartbeats 4000000 in
theorem bq1 (x : Bd) (w : World) (hS : BdS w x) : Calls Tryz.prog 187 #[.agg (bC x).toArray] w (LkP w (chkH x.h)) := by
  have hA := hidp (Blk.new w (bC x) 84)
  have hBB := hidp ((Below.refl w.heap.size w).alloc (Nat.le_refl _) (.cells (bC x).toArray 84))
  have HS := hidp hS
  have hRA := bk_H hA.out
  have hSZ := sz_H (x := x) hS.hh
  clear hS
  go_enter Tryz.func187, Tryz.ntmps187
  go_wp2_with (with_reducible refine (?_ : wpList _ _ _ _ _ _); refine wpList_load_mid rfl 79 _ rfl w.heap.size 0 rfl (hC x.h) _ hRA Tryz.underlying79 rfl hSZ ?_)
  refine (hcheck_any x.h HS.out.hh _).mono ?_
  rintro e w1 ⟨rfl, hb⟩
  have hB := hidp (hBB.out.trans (hb.mono hBB.out.size))
  clear hb hBB hA hRA hSZ
  go_wp2
  go_ret
  exact ⟨rfl, hB.out⟩
set_option maxRecDepth 100000 in
set_option maxHeartbeats 4000000 in
theorem bq2 (x : Bd) (w : World) (hS : BdS w x) : Calls Tryz.prog 188 #[.agg (bC x).toArray] w (LkP w (chk x.s)) := by
  have hA := hidp (Blk.new w (bC x) 84)
  have hBB := hidp ((Below.refl w.heap.size w).alloc (Nat.le_refl _) (.cells (bC x).toArray 84))
  have HS := hidp hS
  have c0 := bk_s hA.out hS.hh hS.hp.1
  clear hS
  go_enter Tryz.func188, Tryz.ntmps188
  go_wp2_with fail
  refine (check_any x.va x.vb x.v0 x.vc x.s _ (HS.out.v.below hBB.out)).mono ?_
  rintro e w1 ⟨rfl, hb⟩
  have hB := hidp (hBB.out.trans (hb.mono hBB.out.size))
  clear hb hBB hA c0
  go_wp2
  go_ret
  exact ⟨rfl, hB.out⟩
set_option maxRecDepth 100000 in
set_option maxHeartbeats 4000000 in
theorem bq3 (x : Bd) (w : World) (hS : BdS w x) : Calls Tryz.prog 189 #[.agg (bC x).toArray] w (LkP w (chkC x.n x.l)) := by
  have hA := hidp (Blk.new w (bC x) 84)
  have hBB := hidp ((Below.refl w.heap.size w).alloc (Nat.le_refl _) (.cells (bC x).toArray 84))
  have HS := hidp hS
  have hRA := bk_C hA.out hS.hh
  have hSZ := sz_C (x := x) hS.hp.1
  clear hS
  go_enter Tryz.func189, Tryz.ntmps189
  go_wp2_with (with_reducible refine (?_ : wpList _ _ _ _ _ _); refine wpList_load_mid rfl 82 _ rfl w.heap.size 131 rfl (x.c) _ hRA Tryz.underlying82 rfl hSZ ?_)
  refine (ccheck_any x.n x.p HS.out.hp.1 x.a x.tb x.t0 x.tc x.l _ (HS.out.t.below hBB.out)).mono ?_
  rintro e w1 ⟨rfl, hb⟩
  have hB := hidp (hBB.out.trans (hb.mono hBB.out.size))
  clear hb hBB hA hRA hSZ
  go_wp2
  go_ret
  exact ⟨rfl, hB.out⟩
theorem rng0 {W : World} {g : Nat} {cs : List Value} {T : TypeId} (H : Blk W g cs T) : W.rangeAt g 0 cs := fun j v hj => by rw [Nat.zero_add]; exact (H.cell j).trans hj
set_option maxRecDepth 100000 in
set_option maxHeartbeats 4000000 in
theorem bq4 (x : Bd) (w : World) (hS : BdS w x) : Calls Tryz.prog 190 #[.agg (bC x).toArray] w (LkP w (lk4 x)) := by
  have hA := hidp (Blk.new w (bC x) 84)
  have hBB := hidp ((Below.refl w.heap.size w).alloc (Nat.le_refl _) (.cells (bC x).toArray 84))
  have HS := hidp hS
  have c0 := bk_s hA.out hS.hh hS.hp.1
  have hz : ∀ w, (zeroValue 39).run Tryz.prog w = .ok (.agg (bvs z32).toArray) w := (zero_of_info (P := Tryz.prog) zero_hash).1
  have hlr := hidp (hashV_len x.s)
  have hll := hidp (hS.hh.v.1)
  have nq := run_neq_hash (x.h.v) (hashV x.s) hll.out hlr.out
  have hgd := guard_hash
  obtain ⟨E, hE⟩ : ∃ E, E = lk4 x := ⟨_, rfl⟩
  rw [← hE]
  replace hE := hidp hE
  obtain ⟨X, hX⟩ : ∃ X, X = hashV x.s := ⟨_, rfl⟩
  rw [← hX] at nq
  replace hX := hidp hX
  clear hS
  go_enter Tryz.func190, Tryz.ntmps190
  go_wp2_with fail
  refine (vhashO x.va x.vb x.v0 x.vc x.s _ (HS.out.v.below hBB.out)).mono ?_
  rintro e w1 ⟨rfl, hb⟩
  rw [← hX.out]
  have hK := hidp (hb.blk' hA.out)
  have hB := hidp (hBB.out.trans (hb.mono hBB.out.size))
  clear hb hBB hA c0
  by_cases hc : chk x.s = 0
  · rw [hc]
    have hlx := hidp (show X.length = 32 by rw [hX.out]; exact hlr.out)
    have hK2 := hidp (fun W (hW : Below w1.heap.size w1 W) => hW.blk' hK.out)
    by_cases hq : x.h.v = X
    · have hd : (!decide (x.h.v = X)) = false := by rw [decide_eq_true hq]; rfl
      rw [hd] at nq
      have hR := hidp (show E = 0 by rw [hE.out]; unfold lk4; rw [if_pos hc, if_pos (hX.out ▸ hq)])
      clear hc hq hd
      go_wp2_with first
        | (with_reducible refine (?_ : wpList _ _ _ _ _ _); refine wpList_store_blk rfl 39 _ _ rfl w1.heap.size (bvs X) (bvs z32) 39 rfl rfl (Blk.new w1 (bvs z32) _) (by rw [bvs_len, hlx.out]; kernel_rfl) (by simp [bvs_len, hlx.out, z32]) (bvs_one _) ?_; intro t1 ht1; have L1 := hidp (lay_hash ht1.out); clear ht1; have L2 := hidp L1.out.1; have L3 := hidp L1.out.2; clear L1)
        | (with_reducible refine (?_ : wpList _ _ _ _ _ _); refine wpList_load_midD 16 rfl (by kernel_rfl) 39 _ rfl w.heap.size 35 rfl (bvs (x.h.v)) _ (bk_V (hK2.out _ L2.out) HS.out.hh) Tryz.underlying39 rfl (sz_S hll.out) ?_)
        | (with_reducible refine (?_ : wpList _ _ _ _ _ _); refine wpList_load_midD 17 rfl (by kernel_rfl) 39 _ rfl w1.heap.size 0 rfl (bvs X) _ (rng0 L3.out) Tryz.underlying39 rfl (sz_S hlx.out) ?_)
      go_ret
      rw [hR.out]
      exact ⟨rfl, hB.out.trans (L2.out.mono hB.out.size)⟩
    · have hd : (!decide (x.h.v = X)) = true := by rw [decide_eq_false hq]; rfl
      rw [hd] at nq
      have hR := hidp (show E = 12 by rw [hE.out]; unfold lk4; rw [if_pos hc, if_neg (hX.out ▸ hq)])
      clear hc hq hd
      go_wp2_with first
        | (with_reducible refine (?_ : wpList _ _ _ _ _ _); refine wpList_store_blk rfl 39 _ _ rfl w1.heap.size (bvs X) (bvs z32) 39 rfl rfl (Blk.new w1 (bvs z32) _) (by rw [bvs_len, hlx.out]; kernel_rfl) (by simp [bvs_len, hlx.out, z32]) (bvs_one _) ?_; intro t1 ht1; have L1 := hidp (lay_hash ht1.out); clear ht1; have L2 := hidp L1.out.1; have L3 := hidp L1.out.2; clear L1)
        | (with_reducible refine (?_ : wpList _ _ _ _ _ _); refine wpList_load_midD 16 rfl (by kernel_rfl) 39 _ rfl w.heap.size 35 rfl (bvs (x.h.v)) _ (bk_V (hK2.out _ L2.out) HS.out.hh) Tryz.underlying39 rfl (sz_S hll.out) ?_)
        | (with_reducible refine (?_ : wpList _ _ _ _ _ _); refine wpList_load_midD 17 rfl (by kernel_rfl) 39 _ rfl w1.heap.size 0 rfl (bvs X) _ (rng0 L3.out) Tryz.underlying39 rfl (sz_S hlx.out) ?_)
      go_ret
      rw [hR.out]
      exact ⟨rfl, hB.out.trans (L2.out.mono hB.out.size)⟩
  · have hlx := hidp (show X.length = 32 by rw [hX.out]; exact hlr.out)
    have hR := hidp (show E = chk x.s by rw [hE.out]; unfold lk4; rw [if_neg hc])
    have hd : (((chk x.s : Nat) : Int) == 0) = false := by rw [beq_eq_false_iff_ne]; omega
    clear hc nq
    generalize chk x.s = n at *
    go_wp2_with (with_reducible refine (?_ : wpList _ _ _ _ _ _); refine wpList_store_blk rfl 39 _ _ rfl w1.heap.size (bvs X) (bvs z32) 39 rfl rfl (Blk.new w1 (bvs z32) _) (by rw [bvs_len, hlx.out]; kernel_rfl) (by simp [bvs_len, hlx.out, z32]) (bvs_one _) ?_; intro t1 ht1; have L1 := hidp (lay_hash ht1.out); clear ht1)
    go_ret
    rw [hR.out]
    exact ⟨rfl, hB.out.trans (L1.out.1.mono hB.out.size)⟩
set_option maxRecDepth 100000 in
set_option maxHeartbeats 4000000 in
theorem bq5 (x : Bd) (w : World) (hS : BdS w x) : Calls Tryz.prog 191 #[.agg (bC x).toArray] w (LkP w (lk5 x)) := by
  have hA := hidp (Blk.new w (bC x) 84)
  have hBB := hidp ((Below.refl w.heap.size w).alloc (Nat.le_refl _) (.cells (bC x).toArray 84))
  have HS := hidp hS
  have hRA := bk_H hA.out
  have hSZ := sz_H (x := x) hS.hh
  have hz : ∀ w, (zeroValue 39).run Tryz.prog w = .ok (.agg (bvs z32).toArray) w := (zero_of_info (P := Tryz.prog) zero_hash).1
  have hlr := hidp (hashO_len x.h)
  have hll := hidp (hS.hp.1)
  have nq := run_neq_hash (x.p) (hashO x.h) hll.out hlr.out
  have hgd := guard_hash
  obtain ⟨E, hE⟩ : ∃ E, E = lk5 x := ⟨_, rfl⟩
  rw [← hE]
  replace hE := hidp hE
  obtain ⟨X, hX⟩ : ∃ X, X = hashO x.h := ⟨_, rfl⟩
  rw [← hX] at nq
  replace hX := hidp hX
  clear hS
  go_enter Tryz.func191, Tryz.ntmps191
  go_wp2_with (with_reducible refine (?_ : wpList _ _ _ _ _ _); refine wpList_load_mid rfl 79 _ rfl w.heap.size 0 rfl (hC x.h) _ hRA Tryz.underlying79 rfl hSZ ?_)
  refine (hhash_any x.h HS.out.hh _).mono ?_
  rintro e w1 ⟨rfl, hb⟩
  rw [← hX.out]
  have hK := hidp (hb.blk' hA.out)
  have hB := hidp (hBB.out.trans (hb.mono hBB.out.size))
  clear hb hBB hA hRA hSZ
  by_cases hc : chkH x.h = 0
  · rw [hc]
    have hlx := hidp (show X.length = 32 by rw [hX.out]; exact hlr.out)
    have hK2 := hidp (fun W (hW : Below w1.heap.size w1 W) => hW.blk' hK.out)
    by_cases hq : x.p = X
    · have hd : (!decide (x.p = X)) = false := by rw [decide_eq_true hq]; rfl
      rw [hd] at nq
      have hR := hidp (show E = 0 by rw [hE.out]; unfold lk5; rw [if_pos hc, if_pos (hX.out ▸ hq)])
      clear hc hq hd
      go_wp2_with first
        | (with_reducible refine (?_ : wpList _ _ _ _ _ _); refine wpList_store_blk rfl 39 _ _ rfl w1.heap.size (bvs X) (bvs z32) 39 rfl rfl (Blk.new w1 (bvs z32) _) (by rw [bvs_len, hlx.out]; kernel_rfl) (by simp [bvs_len, hlx.out, z32]) (bvs_one _) ?_; intro t1 ht1; have L1 := hidp (lay_hash ht1.out); clear ht1; have L2 := hidp L1.out.1; have L3 := hidp L1.out.2; clear L1)
        | (with_reducible refine (?_ : wpList _ _ _ _ _ _); refine wpList_load_midD 16 rfl (by kernel_rfl) 39 _ rfl w.heap.size 132 rfl (bvs (x.p)) _ (bk_P (hK2.out _ L2.out) HS.out.hh) Tryz.underlying39 rfl (sz_S hll.out) ?_)
        | (with_reducible refine (?_ : wpList _ _ _ _ _ _); refine wpList_load_midD 17 rfl (by kernel_rfl) 39 _ rfl w1.heap.size 0 rfl (bvs X) _ (rng0 L3.out) Tryz.underlying39 rfl (sz_S hlx.out) ?_)
      go_ret
      rw [hR.out]
      exact ⟨rfl, hB.out.trans (L2.out.mono hB.out.size)⟩
    · have hd : (!decide (x.p = X)) = true := by rw [decide_eq_false hq]; rfl
      rw [hd] at nq
      have hR := hidp (show E = 12 by rw [hE.out]; unfold lk5; rw [if_pos hc, if_neg (hX.out ▸ hq)])
      clear hc hq hd
      go_wp2_with first
        | (with_reducible refine (?_ : wpList _ _ _ _ _ _); refine wpList_store_blk rfl 39 _ _ rfl w1.heap.size (bvs X) (bvs z32) 39 rfl rfl (Blk.new w1 (bvs z32) _) (by rw [bvs_len, hlx.out]; kernel_rfl) (by simp [bvs_len, hlx.out, z32]) (bvs_one _) ?_; intro t1 ht1; have L1 := hidp (lay_hash ht1.out); clear ht1; have L2 := hidp L1.out.1; have L3 := hidp L1.out.2; clear L1)
        | (with_reducible refine (?_ : wpList _ _ _ _ _ _); refine wpList_load_midD 16 rfl (by kernel_rfl) 39 _ rfl w.heap.size 132 rfl (bvs (x.p)) _ (bk_P (hK2.out _ L2.out) HS.out.hh) Tryz.underlying39 rfl (sz_S hll.out) ?_)
        | (with_reducible refine (?_ : wpList _ _ _ _ _ _); refine wpList_load_midD 17 rfl (by kernel_rfl) 39 _ rfl w1.heap.size 0 rfl (bvs X) _ (rng0 L3.out) Tryz.underlying39 rfl (sz_S hlx.out) ?_)
      go_ret
      rw [hR.out]
      exact ⟨rfl, hB.out.trans (L2.out.mono hB.out.size)⟩
  · have hlx := hidp (show X.length = 32 by rw [hX.out]; exact hlr.out)
    have hR := hidp (show E = chkH x.h by rw [hE.out]; unfold lk5; rw [if_neg hc])
    have hd : (((chkH x.h : Nat) : Int) == 0) = false := by rw [beq_eq_false_iff_ne]; omega
    clear hc nq
    generalize chkH x.h = n at *
    go_wp2_with (with_reducible refine (?_ : wpList _ _ _ _ _ _); refine wpList_store_blk rfl 39 _ _ rfl w1.heap.size (bvs X) (bvs z32) 39 rfl rfl (Blk.new w1 (bvs z32) _) (by rw [bvs_len, hlx.out]; kernel_rfl) (by simp [bvs_len, hlx.out, z32]) (bvs_one _) ?_; intro t1 ht1; have L1 := hidp (lay_hash ht1.out); clear ht1)
    go_ret
    rw [hR.out]
    exact ⟨rfl, hB.out.trans (L1.out.1.mono hB.out.size)⟩
set_option maxRecDepth 100000 in
set_option maxHeartbeats 4000000 in
theorem bq6 (x : Bd) (w : World) (hS : BdS w x) : Calls Tryz.prog 192 #[.agg (bC x).toArray] w (LkP w (lk6 x)) := by
  have hA := hidp (Blk.new w (bC x) 84)
  have hBB := hidp ((Below.refl w.heap.size w).alloc (Nat.le_refl _) (.cells (bC x).toArray 84))
  have HS := hidp hS
  have c0 := bk_n hA.out hS.hh
  have c1 := bk_h hA.out
  unfold lk6
  clear hS
  by_cases hq : x.n = x.h.h
  · have hd : (x.n != x.h.h) = false := by rw [bne_eq_false_iff_eq]; exact hq
    rw [if_pos hq]
    clear hq
    go_enter Tryz.func192, Tryz.ntmps192
    go_wp2
    go_ret
    exact ⟨rfl, hBB.out⟩
  · have hd : (x.n != x.h.h) = true := by rw [bne_iff_ne]; exact hq
    rw [if_neg hq]
    clear hq
    go_enter Tryz.func192, Tryz.ntmps192
    go_wp2
    go_ret
    exact ⟨rfl, hBB.out⟩
set_option maxRecDepth 100000 in
set_option maxHeartbeats 4000000 in
theorem bq7 (x : Bd) (w : World) (hS : BdS w x) : Calls Tryz.prog 193 #[.agg (bC x).toArray] w (LkP w (lk7 x)) := by
  have hA := hidp (Blk.new w (bC x) 84)
  have hBB := hidp ((Below.refl w.heap.size w).alloc (Nat.le_refl _) (.cells (bC x).toArray 84))
  have HS := hidp hS
  have hRA := bk_C hA.out hS.hh
  have hSZ := sz_C (x := x) hS.hp.1
  have c0 := bk_s hA.out hS.hh hS.hp.1
  unfold lk7
  clear hS
  go_enter Tryz.func193, Tryz.ntmps193
  go_wp2_with (with_reducible refine (?_ : wpList _ _ _ _ _ _); refine wpList_load_mid rfl 82 _ rfl w.heap.size 131 rfl (x.c) _ hRA Tryz.underlying82 rfl hSZ ?_)
  refine (cwho_any x.n x.p HS.out.hp.1 x.a x.tb x.t0 x.tc x.l x.va x.vb x.v0 x.vc x.s _ (HS.out.t.below hBB.out) (HS.out.v.below hBB.out)).mono ?_
  rintro e w1 ⟨sv, rfl, _, hb⟩
  have hB := hidp (hBB.out.trans (hb.mono hBB.out.size))
  clear hb hBB hA hRA hSZ c0
  go_wp2
  go_ret
  exact ⟨rfl, hB.out⟩
end Go.Proofs.YtcmkmnidnapabaaGreat
