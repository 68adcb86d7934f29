/-
  Sigs: awake; the walk of SigsNone.
-/
import Derived.Test.YtbhkjflpkpkdlaaS8d
import Derived.LoopN
namespace Go.Proofs.Ytbhkjflpkpkdlaa
open Go.RowKit Go.Lib Go.Maps
set_option linter.unusedSimpArgs false
set_option linter.unusedVariables false

theorem Th3.bex {w W W' : World} {s g : Nat} {x y z : Sg} (H : Th3 w W s x y z) (hb : Bex g W W') (hg : s + 2 < g) : Th3 w W' s x y z :=
  ⟨hb.blk H.k1 (by omega), hb.blk H.k2 (by omega), hb.blk H.k3 (by omega), H.hs, H.bel.trans (hb.below (by have := H.hs; omega) H.bel.size)⟩
/-- Three signatures in boxes, a table for two. -/
structure AwS (w W : World) (s t b : Nat) (l : List Sg) : Prop where
  th : Th3 w W s sA sB sD
  tab : Tab W t b 2 l
  lt : s + 2 < b
theorem AwS.below {w W W' : World} {s t b : Nat} {l : List Sg} (H : AwS w W s t b l) (hb : Below W.heap.size W W') : AwS w W' s t b l := ⟨H.th.below hb, H.tab.below hb, H.lt⟩
theorem AwS.add {w W W' : World} {s t b : Nat} {l l' : List Sg} (H : AwS w W s t b l) (ht : Tab W' t b 2 l') (hb : Bex b W W') : AwS w W' s t b l' := ⟨H.th.bex hb H.lt, ht, H.lt⟩
theorem tadd_at {W : World} {t b : Nat} {l l' : List Sg} {x : Sg} {n : Nat} (e : addS 2 l x = (l', n)) (H : Tab W t b 2 l) (hx : SgOk x) : Calls Try.prog 54 #[.pointer (some ⟨t, 0, none⟩), .agg (sC x).toArray] W fun e w' => e = .returned (.int .i64 (n : Nat)) ∧ Tab w' t b 2 l' ∧ Bex b W w' := by
  have q := tadd_any H hx
  rw [e] at q
  exact q
theorem thas_at {W : World} {t b : Nat} {l : List Sg} {x : Sg} {y : Bool} (e : decide (x ∈ l) = y) (H : Tab W t b 2 l) (hx : SgOk x) : Calls Try.prog 58 #[.pointer (some ⟨t, 0, none⟩), .agg (sC x).toArray] W fun e w' => e = .returned (.bool y) ∧ Below W.heap.size W w' := by
  have q := thas_any H hx
  rw [e] at q
  exact q
theorem new_two (W : World) : Calls Try.prog 52 #[.int .i64 2] W fun e w' => (∃ t b, e = .returned (.tuple #[.pointer (some ⟨t, 0, none⟩), .int .i64 0]) ∧ W.heap.size ≤ t ∧ W.heap.size ≤ b ∧ Tab w' t b 2 []) ∧ Below W.heap.size W w' := tnew_ok 2 (by decide) W
set_option maxRecDepth 100000 in
set_option maxHeartbeats 4000000 in
theorem sawake_any (w : World) : Calls Try.prog 51 #[] w fun e w' => e = .returned (.bool true) ∧ Below w.heap.size w w' := by
  have hz0 : ∀ w, (zeroValue 97).run Try.prog w = .ok (.agg (sC zS).toArray) w := (zero_of_info (P := Try.prog) zero_sig).1
  go_enter Try.func51, Try.ntmps51
  go_wp2_with fail
  refine (three_any _).mono ?_
  rintro e w1 ⟨rfl, hb⟩
  have H0 := hidp (Th3.start w w1 hb)
  clear hb
  go_wp2_with first
    | (with_reducible refine (?_ : wpList _ _ _ _ _ _); refine wpList_store_blk rfl 97 _ _ rfl (w1.heap.size) (sC sA) (sC zS) 97 rfl rfl (H0.out.k1) (by kernel_rfl) (by kernel_rfl) (sC_one _) ?_; intro w2 hw2; have H1 := hidp (hw2.out ▸ H0.out.set1 sA : Th3 w w2 w1.heap.size sA zS zS))
    | (with_reducible refine (?_ : wpList _ _ _ _ _ _); refine wpList_store_blk rfl 97 _ _ rfl (w1.heap.size + 1) (sC sB) (sC zS) 97 rfl rfl (H1.out.k2) (by kernel_rfl) (by kernel_rfl) (sC_one _) ?_; intro w3 hw3; have H2 := hidp (hw3.out ▸ H1.out.set2 sB : Th3 w w3 w1.heap.size sA sB zS))
    | (with_reducible refine (?_ : wpList _ _ _ _ _ _); refine wpList_store_blk rfl 97 _ _ rfl (w1.heap.size + 1 + 1) (sC sD) (sC zS) 97 rfl rfl (H2.out.k3) (by kernel_rfl) (by kernel_rfl) (sC_one _) ?_; intro w4 hw4; have H3 := hidp (hw4.out ▸ H2.out.set3 sD : Th3 w w4 w1.heap.size sA sB sD))
  refine (new_two _).mono ?_
  rintro e w5 ⟨⟨t, b, rfl, ht, hbb, hT⟩, hb⟩
  have HA := hidp (show AwS w w5 w1.heap.size t b [] from ⟨H3.out.below hb, hT, by have := H3.out.k3.lt; omega⟩)
  clear hT hb ht hbb H0 H1 H2 H3 hw2 hw3 hw4
  have hnn := fun W => t_ne_nil ⟨t, 0, none⟩ W
  go_wp2_with first
    | (with_reducible refine (?_ : wpList _ _ _ _ _ _); refine wpList_load_blkD' 23 rfl (by kernel_rfl) 97 _ rfl (w1.heap.size) (sC sA) 97 rfl (HA.out.th.k1) _ Try.underlying97 rfl (by kernel_rfl) ?_)
  refine (tadd_at (l := []) (l' := [sA]) (n := 0) (by decide) HA.out.tab sA_ok).mono ?_
  rintro e v0 ⟨rfl, ht, hx⟩
  replace HA := hidp (HA.out.add ht hx)
  clear ht hx
  go_wp2_with first
    | (with_reducible refine (?_ : wpList _ _ _ _ _ _); refine wpList_load_blkD' 29 rfl (by kernel_rfl) 97 _ rfl (w1.heap.size) (sC sA) 97 rfl (HA.out.th.k1) _ Try.underlying97 rfl (by kernel_rfl) ?_)
  refine (tadd_at (l := [sA]) (l' := [sA]) (n := 8) (by decide) HA.out.tab sA_ok).mono ?_
  rintro e v1 ⟨rfl, ht, hx⟩
  replace HA := hidp (HA.out.add ht hx)
  clear ht hx
  go_wp2_with first
    | (with_reducible refine (?_ : wpList _ _ _ _ _ _); refine wpList_load_blkD' 35 rfl (by kernel_rfl) 97 _ rfl (w1.heap.size + 1) (sC sB) 97 rfl (HA.out.th.k2) _ Try.underlying97 rfl (by kernel_rfl) ?_)
  refine (tadd_at (l := [sA]) (l' := [sA, sB]) (n := 0) (by decide) HA.out.tab sB_ok).mono ?_
  rintro e v2 ⟨rfl, ht, hx⟩
  replace HA := hidp (HA.out.add ht hx)
  clear ht hx
  go_wp2_with first
    | (with_reducible refine (?_ : wpList _ _ _ _ _ _); refine wpList_load_blkD' 41 rfl (by kernel_rfl) 97 _ rfl (w1.heap.size + 1 + 1) (sC sD) 97 rfl (HA.out.th.k3) _ Try.underlying97 rfl (by kernel_rfl) ?_)
  refine (tadd_at (l := [sA, sB]) (l' := [sA, sB]) (n := 7) (by decide) HA.out.tab sD_ok).mono ?_
  rintro e v3 ⟨rfl, ht, hx⟩
  replace HA := hidp (HA.out.add ht hx)
  clear ht hx
  go_wp2_with first
    | (with_reducible refine (?_ : wpList _ _ _ _ _ _); refine wpList_load_blkD' 47 rfl (by kernel_rfl) 97 _ rfl (w1.heap.size + 1) (sC sB) 97 rfl (HA.out.th.k2) _ Try.underlying97 rfl (by kernel_rfl) ?_)
  refine (thas_at (l := [sA, sB]) (y := true) (by decide) HA.out.tab sB_ok).mono ?_
  rintro e v4 ⟨rfl, hb⟩
  replace HA := hidp (HA.out.below hb)
  clear hb
  go_wp2_with first
    | (with_reducible refine (?_ : wpList _ _ _ _ _ _); refine wpList_load_blkD' 52 rfl (by kernel_rfl) 97 _ rfl (w1.heap.size + 1 + 1) (sC sD) 97 rfl (HA.out.th.k3) _ Try.underlying97 rfl (by kernel_rfl) ?_)
  refine (thas_at (l := [sA, sB]) (y := false) (by decide) HA.out.tab sD_ok).mono ?_
  rintro e v5 ⟨rfl, hb⟩
  replace HA := hidp (HA.out.below hb)
  clear hb
  go_wp2_with fail
  refine (tlen_any HA.out.tab).mono ?_
  rintro e v9 ⟨rfl, rfl⟩
  go_wp2
  go_ret
  exact ⟨rfl, HA.out.th.bel⟩
/-- What SigsNone keeps: the signature, two tables that are none. -/
structure NnS (w W : World) (g r : Nat) (x : Sg) : Prop where
  kx : Blk W w.heap.size (sC x) 97
  kt : Blk W g [.pointer none, .int .i64 0, .map none] 102
  kr : Blk W r [.pointer none, .pointer (some ⟨g, 0, none⟩)] 89
  bel : Below w.heap.size w W
theorem NnS.below {w W W' : World} {g r : Nat} {x : Sg} (H : NnS w W g r x) (hb : Below W.heap.size W W') : NnS w W' g r x := ⟨hb.blk' H.kx, hb.blk' H.kt, hb.blk' H.kr, H.bel.trans (hb.mono H.bel.size)⟩
def tN (g i : Nat) : Value := if i = 0 then .pointer none else .pointer (some ⟨g, 0, none⟩)
theorem NnS.at {w W : World} {g r : Nat} {x : Sg} (H : NnS w W g r x) {i : Nat} (hi : i < 2) : W.cell? ⟨r, i, none⟩ = some (tN g i) ∧ BadT W (tN g i) := by
  rcases (show i = 0 ∨ i = 1 by omega) with rfl | rfl
  · exact ⟨H.kr.cell 0, .inl rfl⟩
  · exact ⟨H.kr.cell 1, .inr ⟨g, rfl, H.kt.cell 0⟩⟩
theorem NnS.start (w : World) (x : Sg) : NnS w (((w.alloc (.cells (sC x).toArray 97)).alloc (.cells #[.pointer none, .int .i64 0, .map none] 102)).alloc (.cells #[.pointer none, .pointer (some ⟨w.heap.size + 1, 0, none⟩)] 89)) (w.heap.size + 1) (w.heap.size + 2) x :=
  ⟨((Blk.new w _ _).alloc _).alloc _, (Blk.new' _ [.pointer none, .int .i64 0, .map none] _ _ (by simp)).alloc _, Blk.new' _ [.pointer none, .pointer (some ⟨w.heap.size + 1, 0, none⟩)] _ _ (by simp), (((Below.refl _ w).alloc (Nat.le_refl _) _).alloc (by simp) _).alloc (by simp; omega) _⟩
theorem sC_hash {x : Sg} (h : SgOk x) : ∀ j v, (bvs x.p)[j]? = some v → (sC x)[4 + j]? = some v := by
  intro j v hj
  have l1 : (bvs x.k).length = 4 := by rw [bvs_len, h.k.1]
  have hlt := (List.getElem?_eq_some_iff.1 hj).1
  unfold sC
  rw [List.getElem?_append_right (by omega), l1, show 4 + j - 4 = j by omega, List.getElem?_append_left hlt]
  exact hj
theorem range_hash {W : World} {b : Nat} {x : Sg} {T : TypeId} (H : Blk W b (sC x) T) (h : SgOk x) : W.rangeAt b 4 (bvs x.p) := fun j v hj => (H.cell _).trans (sC_hash h j v hj)
set_option maxRecDepth 100000 in
set_option maxHeartbeats 4000000 in
theorem snone_any (x : Sg) (hx : SgOk x) (w : World) : Calls Try.prog 9 #[.agg (sC x).toArray] w fun e w' => e = .returned (.bool true) ∧ Below w.heap.size w w' := by
  have H0 := hidp (NnS.start w x)
  have hok := hidp hx
  have hls := hidp (sC_len hx)
  have hlp := hidp (show (bvs x.p).length = 32 by rw [bvs_len, hx.p.1])
  have hrg := hidp (fun (W : World) (H : Blk W w.heap.size (sC x) 97) => range_hash H hx)
  clear hx
  go_enter Try.func9, Try.ntmps9
  go_wp2_with (with_reducible refine (?_ : wpList _ _ _ _ _ _); refine wpList_buildG (by kernel_rfl) 102 _ rfl #[.pointer none, .int .i64 0, .map none] (by kernel_rfl) ?_)
  go_loopw [4] (fun y wr => ∃ i : Nat, i ≤ 2 ∧ y = .int .i64 i ∧ Hid (NnS w wr (w.heap.size + 1) (w.heap.size + 2) x)) (fun y _ => 2 - (Go.RowKit.intOf y).toNat)
  case atStart => exact ⟨0, by omega, rfl, H0⟩
  case round =>
    obtain ⟨i, hi, rfl, hr⟩ := hrel
    clear H0
    by_cases hlt : i < 2
    · have H := hr
      have hib : (0 : Int) ≤ (i : Int) ∧ (i : Int) < 2 := by omega
      obtain ⟨hc, hbad⟩ := H.out.at hlt
      replace hbad := hidp hbad
      have hI := hidp hlt
      clear hr hi hlt
      obtain ⟨T, hT⟩ : ∃ T, T = tN (w.heap.size + 1) i := ⟨_, rfl⟩
      rw [← hT] at hc hbad
      clear hT
      go_wp2_with fail
      refine (tencode_bad hbad.out).mono ?_
      rintro e u1 ⟨rfl, hb⟩
      replace H := hidp (H.out.below hb)
      replace hbad := hidp (hbad.out.below hb)
      clear hb
      go_wp2_with first
        | (with_reducible refine (?_ : wpList _ _ _ _ _ _); refine wpList_load_blkD' 27 rfl (by kernel_rfl) 97 _ rfl (w.heap.size) (sC x) 97 rfl (H.out.kx) _ Try.underlying97 rfl (by rw [hls.out]; kernel_rfl) ?_)
      refine (tadd_bad hbad.out x).mono ?_
      rintro e u2 ⟨rfl, hb⟩
      replace H := hidp (H.out.below hb)
      replace hbad := hidp (hbad.out.below hb)
      clear hb
      go_wp2_with first
        | (with_reducible refine (?_ : wpList _ _ _ _ _ _); refine wpList_load_blkD' 32 rfl (by kernel_rfl) 97 _ rfl (w.heap.size) (sC x) 97 rfl (H.out.kx) _ Try.underlying97 rfl (by rw [hls.out]; kernel_rfl) ?_)
      refine (thas_bad hbad.out x).mono ?_
      rintro e u3 ⟨rfl, hb⟩
      replace H := hidp (H.out.below hb)
      replace hbad := hidp (hbad.out.below hb)
      clear hb
      go_wp2_with first
        | (with_reducible refine (?_ : wpList _ _ _ _ _ _); refine wpList_load_midD 38 rfl (by kernel_rfl) 34 _ rfl w.heap.size 4 rfl (bvs x.p) _ (hrg.out _ H.out.kx) Try.underlying34 rfl (by rw [hlp.out]; kernel_rfl) ?_)
      refine (twho_bad hbad.out x.p).mono ?_
      rintro e u4 ⟨rfl, hb⟩
      replace H := hidp (H.out.below hb)
      replace hbad := hidp (hbad.out.below hb)
      clear hb
      go_wp2_with fail
      refine (tlen_bad hbad.out).mono ?_
      rintro e u5 ⟨rfl, hb⟩
      replace H := hidp (H.out.below hb)
      replace hbad := hidp (hbad.out.below hb)
      clear hb
      go_wp2_with fail
      refine (tlist_bad hbad.out).mono ?_
      rintro e u6 ⟨rfl, hb⟩
      replace H := hidp (H.out.below hb)
      replace hbad := hidp (hbad.out.below hb)
      clear hb
      go_wp2_with fail
      exact ⟨⟨i + 1, by have := hI.out; omega, rfl, H⟩, by have := hI.out; show 2 - ((i + 1 : Nat) : Int).toNat < 2 - ((i : Nat) : Int).toNat; omega⟩
    · obtain rfl : i = 2 := by omega
      clear hi hlt
      go_wp2_with fail
      refine (sawake_any _).mono ?_
      rintro e u9 ⟨rfl, hb⟩
      have H := hidp (hr.out.below hb)
      clear hb hr
      go_wp2
      go_ret
      exact ⟨rfl, H.out.bel⟩
theorem snone_w (x : Sg) (w : World) (hx : SgOk x) : Calls Try.prog 9 #[.agg (sC x).toArray] w fun e w' => e = .returned (.bool true) ∧ Below w.heap.size w w' := snone_any x hx w
end Go.Proofs.Ytbhkjflpkpkdlaa
