/-
  All power of a set.
-/
import Derived.Test.YtcmkmnidnapabaaGreatUb
import Derived.Test.YtcmkmnidnapabaaGreatYA
import Derived.OwnWalk
namespace Go.Proofs.YtcmkmnidnapabaaGreat
open Go.RowKit Go.Lib Go.Maps

theorem info_int : (Tryz.prog.info? 3).map (fun i => (i.zero, i.size, i.bytes)) = some (some (.int .i64 0), 1, 8) := by kernel_rfl
def pvs (l : List Vd) : List Value := l.map fun v => Value.int .i64 v.p
theorem pvs_len (l : List Vd) : (pvs l).length = l.length := by unfold pvs; simp
def OwnI (w : World) (B : Nat) (v : Value) (l : List Vd) : Prop := w.ownsRow B 3 1 v l.length (pvs l)
theorem OwnI.at {w : World} {B : Nat} {v : Value} {l : List Vd} (h : OwnI w B v l) : ∃ a cap, v = .slice a l.length cap ∧ IntsAt w a (l.map (·.p)) := by
  rcases h.2 with ⟨h1, h2⟩ | ⟨g, cap, cur, h1, h2, h3, h4, h5, h6, h7⟩
  · refine ⟨none, 0, by rw [h1, h2], fun k hk => ?_⟩
    rw [List.length_map] at hk; omega
  · refine ⟨_, cap, h1, fun k hk => ⟨g, 0, rfl, ?_⟩⟩
    rw [List.length_map] at hk
    have h8 : (pvs l)[k]? = some (.int .i64 (l[k].p)) := by unfold pvs; rw [List.getElem?_map, List.getElem?_eq_getElem hk]; rfl
    rw [← h7, Nat.mul_one, List.getElem?_take_of_lt hk] at h8
    simp only [World.cell?, h3]
    rw [Nat.zero_add, List.getElem?_map, List.getElem?_eq_getElem hk]
    simpa using h8
theorem cell_one_new' (w : World) (v : Value) (T : TypeId) (n : Nat) (h : n = w.heap.size) : ∀ j u, [v][j]? = some u → (w.alloc (.cells #[v] T)).cell? ((⟨n, 0, none⟩ : Addr).add j) = some u := by
  intro j u hj
  subst h
  rw [Addr.add_mid, Nat.zero_add]
  exact ((Blk.new w [v] T).cell j).trans hj
structure TotI (w wr : World) (B i : Nat) (l : List Vd) (v : Value) : Prop where
  own : OwnI wr B v (l.take i)
  bel : Below w.heap.size w wr
  res : Blk wr w.heap.size [.int .u64 0, .int .u64 0] 29
  wB : B ≤ wr.heap.size
  hB : w.heap.size < B
theorem TotI.own2 {w wr : World} {B i : Nat} {l : List Vd} {v : Value} (H : TotI w wr B i l v) (o1 o2 : Obj) : ((wr.alloc o1).alloc o2).ownsRow B 3 1 v (l.take i).length (pvs (l.take i)) ∧ B ≤ ((wr.alloc o1).alloc o2).heap.size := by
  refine ⟨(H.own.alloc o1).alloc o2, ?_⟩
  have := H.wB
  simp
  omega
theorem TotI.next {w wr w7 : World} {B i : Nat} {l : List Vd} {v v' : Value} {u : Vd} (H : TotI w wr B i l v) (hu : l[i]? = some u) {o1 o2 : Obj}
    (ho : w7.ownsRow B 3 1 v' ((l.take i).length + 1) (pvs (l.take i) ++ [.int .i64 u.p])) (hg : ((wr.alloc o1).alloc o2).grownBy w7 v.ownBlock) : TotI w w7 B (i + 1) l v' := by
  have h2 := H.own2 o1 o2
  have b1 : Below B wr w7 := (((Below.refl B wr).alloc H.wB o1).alloc (by have := H.wB; simp; omega) o2).grown hg h2.2 (fun j hj => by
    rcases H.own.2 with ⟨h1, _⟩ | ⟨g, cap, cur, h1, h2, _⟩
    · rw [h1] at hj; cases hj
    · rw [h1] at hj
      simp only [Value.ownBlock, Option.some.injEq] at hj
      omega)
  obtain ⟨hlt, rfl⟩ := List.getElem?_eq_some_iff.1 hu
  refine ⟨?_, H.bel.trans (b1.mono (Nat.le_of_lt H.hB)), H.res.below b1 H.hB, Nat.le_trans H.wB b1.size, H.hB⟩
  unfold OwnI
  rw [List.take_succ_eq_append_getElem hlt, List.length_append]
  have e : pvs (l.take i ++ [l[i]]) = pvs (l.take i) ++ [.int .i64 l[i].p] := by unfold pvs; rw [List.map_append]; rfl
  rw [e]
  exact ho
theorem pvs_one (l : List Vd) : ∀ u ∈ pvs l, u.oneCell' = true := by
  intro u hu
  obtain ⟨v, _, rfl⟩ := List.mem_map.1 hu
  rfl
set_option maxRecDepth 100000 in
set_option maxHeartbeats 1000000 in
theorem total_bad (a : Option Addr) (b o cap : Nat) (l : List Vd) (w : World) (h : Vs w a b o cap l) (hc : chk l ≠ 0) :
    Calls Tryz.prog 16 #[.slice a l.length cap] w fun e w' => e = .returned (.tuple #[wz, .int .i64 (chk l : Nat)]) ∧ Below w.heap.size w w' := by
  have hA := hidp (fun o : Obj => (Below.refl w.heap.size w).alloc (Nat.le_refl _) o)
  have HC := hidp (fun o' : Obj => check_any a b o cap l (w.alloc o') (h.below (hA.out o')))
  have ht : (((chk l : Nat) : Int) != 0) = true := by rw [bne_iff_ne]; omega
  clear h hc
  generalize chk l = n at *
  go_enter Tryz.func16, Tryz.ntmps16
  go_wp2_with fail
  refine (HC.out _).mono ?_
  rintro e w1 ⟨rfl, hb⟩
  have hres := hidp (hb.blk' (Blk.new w [.int .u64 0, .int .u64 0] _))
  have hB := hidp ((hA.out _).trans (hb.mono (hA.out _).size))
  clear hb HC
  have c0 := hres.out.cell 0
  have c1 := hres.out.cell 1
  have f0 := hres.out.free 0
  have f1 := hres.out.free 1
  simp only [List.getElem?_cons_zero, List.getElem?_cons_succ] at c0 c1
  go_wp2_with fail
  have hb := (hres.out.set 0 (.int .u64 0)).set 1 (.int .u64 0)
  replace hB := hidp ((hB.out.setCell (p := ⟨w.heap.size, 0, none⟩) (Nat.le_refl _) (.int .u64 0)).setCell (p := ⟨w.heap.size, 1, none⟩) (Nat.le_refl _) (.int .u64 0))
  obtain ⟨W, hW⟩ : ∃ W, W = (w1.setCell ⟨w.heap.size, 0, none⟩ (.int .u64 0)).setCell ⟨w.heap.size, 1, none⟩ (.int .u64 0) := ⟨_, rfl⟩
  rw [← hW] at hb hB ⊢
  have d0 : W.cell? ⟨w.heap.size, 0, none⟩ = some (.int .u64 0) := hb.cell 0
  have d1 : W.cell? ⟨w.heap.size, 1, none⟩ = some (.int .u64 0) := hb.cell 1
  exact bodyPost_ret (v := .tuple #[wz, .int .i64 (n : Nat)]) (by simp [results, Tryz.results16, go_sem, d0, d1]) rfl ⟨rfl, hB.out⟩
set_option maxRecDepth 100000 in
set_option maxHeartbeats 1000000 in
theorem total_ok (a : Option Addr) (b o cap : Nat) (l : List Vd) (w : World) (h : Vs w a b o cap l) (hc : chk l = 0) :
    Calls Tryz.prog 16 #[.slice a l.length cap] w fun e w' => e = .returned (.tuple #[wv (sumN (l.map (·.p))), .int .i64 0]) ∧ Below w.heap.size w w' := by
  obtain ⟨i0, hi, hz0, hz1, hz2⟩ := info_parts info_int
  have hA := hidp (fun o : Obj => (Below.refl w.heap.size w).alloc (Nat.le_refl _) o)
  have HC := hidp (fun o' : Obj => check_any a b o cap l (w.alloc o') (h.below (hA.out o')))
  rw [hc] at HC
  have HK := hidp (chk_ok hc)
  have hl64 : l.length ≤ 64 := HK.out.2.1
  have H := hidp h
  clear h hc
  go_enter Tryz.func16, Tryz.ntmps16
  go_wp2_with fail
  refine (HC.out _).mono ?_
  rintro e w1 ⟨rfl, hb⟩
  have hres := hidp (hb.blk' (Blk.new w [.int .u64 0, .int .u64 0] _))
  have hB := hidp ((hA.out _).trans (hb.mono (hA.out _).size))
  have hsz := hidp (show w.heap.size < w1.heap.size by have := hb.size; simp at this; omega)
  clear hb HC
  go_wp2_with (refine wpList_make_own w1 rfl _ _ 109 rfl w1.heap.size 3 i0 _ 1 Tryz.underlying109 hi hz0 hz1 .i64 .i64 (l.length : Nat) l.length rfl rfl rfl (by rw [hz2]; omega) (by unfold maxLen; omega) (Nat.le_refl _) ?_; intro w3 ho3 hg3; have h3 := hidp (And.intro ho3 hg3); clear ho3 hg3)
  have b13 : Below w1.heap.size w1 w3 := (Below.refl _ w1).grown h3.out.2 (Nat.le_refl _) (fun k h => by cases h)
  have H0 : Hid (TotI w w3 w1.heap.size 0 l (.slice (some ⟨w1.heap.size, 0, none⟩) 0 l.length)) := by
    refine hidp ⟨?_, hB.out.trans (b13.mono hB.out.size), b13.blk' hres.out, b13.size, hsz.out⟩
    rw [List.take_zero]; exact h3.out.1
  clear b13 h3 hres hB
  go_loopw [5, 19] (fun v x wr => ∃ i : Nat, i ≤ l.length ∧ x = .int .i64 i ∧ Hid (TotI w wr w1.heap.size i l v)) (fun _ x _ => l.length - (Go.RowKit.intOf x).toNat)
  case atStart => exact ⟨0, by omega, rfl, H0⟩
  case round =>
    obtain ⟨i, hin, rfl, hr⟩ := hrel
    clear H0
    by_cases hlt : i < l.length
    · obtain ⟨u, hu, hok, rfl, hbl, c0, c1, c2, c3, c4⟩ := (H.out.below hr.out.bel).at hlt
      have HV := hidp hu
      have HI := hidp (And.intro hlt hl64)
      have hil : (l.take i).length = i := by rw [List.length_take]; omega
      clear hu hok
      go_wp2_with (at_builtin; refine wpList_append_own _ rfl _ _ 109 rfl w1.heap.size 3 i0 _ 1 8 Tryz.underlying109 hi hz0 hz1 hz2 rfl (by decide) _ _ _ rfl (hr.out.own2 _ _).1 ⟨wr.heap.size + 1, 0, none⟩ 1 1 [.int .i64 u.p] rfl rfl (cell_one_new' _ _ _ (wr.heap.size + 1) (by simp)) (by intro x hx; rw [List.mem_singleton] at hx; subst hx; rfl) (by rw [hil]; unfold maxLen; omega) (by rw [hil]; omega) (hr.out.own2 _ _).2 ?_; intro v' w7 ho7 hg7 _; have H7 := hidp (hr.out.next HV.out ho7 hg7); clear ho7 hg7)
      rw [show ((i : Int) + 1) = ((i + 1 : Nat) : Int) by omega]
      exact ⟨⟨i + 1, by have := HI.out; omega, rfl, H7⟩, by have h1 := HI.out.1; show l.length - ((i + 1 : Nat) : Int).toNat < l.length - ((i : Nat) : Int).toNat; omega⟩
    · obtain rfl : i = l.length := by omega
      obtain ⟨p, pc, rfl, hI⟩ := OwnI.at hr.out.own
      rw [List.take_length] at hI
      have hm : ∀ z ∈ l.map (·.p), z ≤ 9223372036854775807 ∧ 0 ≤ z := fun z hz => by
        obtain ⟨v, hv, rfl⟩ := List.mem_map.1 hz
        have := HK.out.2.2.2 v hv
        omega
      have HS := Sum_any p l.length pc (l.map (·.p)) wr (by rw [List.length_map]; omega) (fun z hz => (hm z hz).1) (by rw [List.length_map]) hI
      rw [sumV_ok (fun z hz => (hm z hz).2)] at HS
      replace HS := hidp HS
      have hres := hidp hr.out.res
      have hB := hidp hr.out.bel
      clear hlt hI hm
      rw [List.take_length]
      go_wp2_with fail
      refine HS.out.mono ?_
      rintro e w4 ⟨rfl, hb⟩
      have hr4 := hidp (hb.blk' hres.out)
      have hB4 := hidp (hB.out.trans (hb.mono hB.out.size))
      clear hb HS hres hB hr
      have c0 := hr4.out.cell 0
      have c1 := hr4.out.cell 1
      have f0 := hr4.out.free 0
      have f1 := hr4.out.free 1
      simp only [List.getElem?_cons_zero, List.getElem?_cons_succ] at c0 c1
      obtain ⟨n, hn⟩ : ∃ n, n = sumN (l.map (·.p)) := ⟨_, rfl⟩
      have hn' := hidp hn
      rw [← hn]
      clear hn
      go_wp2_with fail
      have hb := (hr4.out.set 0 (.int .u64 (hiw n))).set 1 (.int .u64 (low n))
      have hB5 := hidp ((hB4.out.setCell (p := ⟨w.heap.size, 0, none⟩) (Nat.le_refl _) (.int .u64 (hiw n))).setCell (p := ⟨w.heap.size, 1, none⟩) (Nat.le_refl _) (.int .u64 (low n)))
      obtain ⟨W, hW⟩ : ∃ W, W = (w4.setCell ⟨w.heap.size, 0, none⟩ (.int .u64 (hiw n))).setCell ⟨w.heap.size, 1, none⟩ (.int .u64 (low n)) := ⟨_, rfl⟩
      rw [← hW] at hb hB5 ⊢
      have d0 : W.cell? ⟨w.heap.size, 0, none⟩ = some (.int .u64 (hiw n)) := hb.cell 0
      have d1 : W.cell? ⟨w.heap.size, 1, none⟩ = some (.int .u64 (low n)) := hb.cell 1
      exact bodyPost_ret (v := .tuple #[wv n, .int .i64 0]) (by simp [results, Tryz.results16, go_sem, d0, d1]) rfl ⟨by rw [hn'.out], hB5.out⟩
end Go.Proofs.YtcmkmnidnapabaaGreat
