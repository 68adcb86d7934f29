/-
  Header: the walk of HeaderOne.
-/
import Derived.Test.YtdiklimikkplcaaL6j
namespace Go.Proofs.Ytdiklimikkplcaa
set_option linter.unusedSimpArgs false
open Go.RowKit Go.Lib

theorem Blk.c4 {w : World} {b : Nat} {u v : Value} {T : TypeId} (h : Blk w b [u, v] T) : w.cell? ⟨b, 0, none⟩ = some u ∧ w.cell? ⟨b, 1, none⟩ = some v ∧ w.frozen? ⟨b, 0, none⟩ = false ∧ w.frozen? ⟨b, 1, none⟩ = false := ⟨h.cell 0, h.cell 1, h.free 0, h.free 1⟩

set_option maxRecDepth 100000 in
set_option maxHeartbeats 4000000 in
theorem hone_long (p : Option Addr) (cap : Nat) (L : List Nat) (w : World) (hL : 300 < L.length) : Calls Try.prog 11 #[.slice p L.length cap] w fun e w' => e = .returned (.bool true) ∧ Below w.heap.size w w' := by
  go_enter Try.func11, Try.ntmps11
  go_wp2_with fail
  refine (hknown_any w).mono ?_
  rintro e w1 ⟨rfl, hb⟩
  have hB := hidp hb
  clear hb
  go_wp2
  go_ret
  exact ⟨rfl, hB.out⟩
set_option maxRecDepth 100000 in
set_option maxHeartbeats 4000000 in
theorem hone_ok (p : Option Addr) (b oo cap : Nat) (L : List Nat) (w : World) (h : Bs w p b oo L cap) (hL : L.length ≤ 300) (x : Hdr) (hG : HGood x) (hd : decH L = (x, 0, 0)) (hE : encH x = L) :
    Calls Try.prog 11 #[.slice p L.length cap] w fun e w' => e = .returned (.bool true) ∧ Below w.heap.size w w' := by
  have hz : ∀ w, (zeroValue 68).run Try.prog w = .ok (.agg (hC hdr0).toArray) w := (zero_of_info (P := Try.prog) zero_hdr).1
  have hl0 := hidp (hC_len hdr0_ok)
  have hl := hidp (hC_len hG.ok)
  have HD := hidp (fun W (h : Bs W p b oo L cap) => by have q := hdecode_any p b oo cap L W h (by omega); rw [hd] at q; exact q)
  have HE := hidp (fun W => by have q := hencode_ok x hG.ok W hG.c; rw [hE] at q; exact q)
  have HL := hidp h
  clear h hd hE hG
  go_enter Try.func11, Try.ntmps11
  go_wp2_with fail
  refine (hknown_any w).mono ?_
  rintro e w1 ⟨rfl, hb⟩
  have hB := hidp hb
  replace HL := hidp (HL.out.below hb)
  clear hb
  go_wp2_with fail
  refine (HD.out w1 HL.out).mono ?_
  rintro e w2 ⟨rfl, hb⟩
  replace hB := hidp (hB.out.trans (hb.mono hB.out.size))
  replace HL := hidp (HL.out.below hb)
  clear hb HD
  go_wp2_with first
    | (with_reducible refine (?_ : wpList _ _ _ _ _ _); refine wpList_store_blk rfl 68 _ _ rfl w2.heap.size (hC x) (hC hdr0) 68 rfl rfl ((Blk.new w2 (hC hdr0) _).alloc _) (by rw [hl.out]; kernel_rfl) (hl0.out.trans (hl.out).symm) (hC_one _) ?_; intro w3 hw3; have M1 := hidp (Laid.mk1 (Below.refl _ w2) hw3.out); have k0 := M1.out.2.2.cell 0; have k1 := M1.out.2.2.cell 1; have k2 := M1.out.2.2.free 0; have k3 := M1.out.2.2.free 1; simp only [List.getElem?_cons_zero, List.getElem?_cons_succ] at k0 k1)
    | (with_reducible refine (?_ : wpList _ _ _ _ _ _); refine wpList_load_blkG (by kernel_rfl) 68 _ rfl w2.heap.size (hC x) 68 rfl (((Laid.mk2 (Nat.le_refl _) M1.out 0 0).kp.at 0 rfl)) _ Try.underlying68 rfl (by rw [hl.out]; kernel_rfl) ?_)
  have M2 := hidp (Laid.mk2 (Nat.le_refl _) M1.out 0 0)
  try rw [show ((0 : Nat) : Int) = 0 from rfl] at M2
  clear M1 hw3 k0 k1 k2 k3
  obtain ⟨w4, hw4⟩ : ∃ W, W = (w3.setCell ⟨w2.heap.size + 1, 0, none⟩ (.int .i64 0)).setCell ⟨w2.heap.size + 1, 1, none⟩ (.int .i64 0) := ⟨_, rfl⟩
  rw [← hw4] at M2 ⊢
  clear hw4
  replace HL := hidp (HL.out.below M2.out.kp.1)
  replace hB := hidp (hB.out.trans (M2.out.kp.1.mono hB.out.size))
  refine (HE.out w4).mono ?_
  rintro e w5 ⟨⟨p2, b2, c2, rfl, _, _, hs⟩, hb⟩
  replace hB := hidp (hB.out.trans (hb.mono hB.out.size))
  have HS := hidp hs
  replace HL := hidp (HL.out.below hb)
  clear hb hs
  go_wp2_with fail
  refine (sameBytes_yes HL.out HS.out).mono ?_
  rintro e wx ⟨rfl, hwx⟩
  subst hwx
  go_wp2
  go_ret
  exact ⟨rfl, hB.out⟩
set_option maxRecDepth 100000 in
set_option maxHeartbeats 4000000 in
theorem hone_er (p : Option Addr) (b oo cap : Nat) (L : List Nat) (w : World) (h : Bs w p b oo L cap) (hL : L.length ≤ 300) (x y : Nat) (hx : x ≠ 0) (hy : y ≤ L.length) (hd : decH L = (hdr0, x, y)) :
    Calls Try.prog 11 #[.slice p L.length cap] w fun e w' => e = .returned (.bool true) ∧ Below w.heap.size w w' := by
  have hz : ∀ w, (zeroValue 68).run Try.prog w = .ok (.agg (hC hdr0).toArray) w := (zero_of_info (P := Try.prog) zero_hdr).1
  have hl0 := hidp (hC_len hdr0_ok)
  have heq := eqH hdr0 hdr0 hdr0_ok hdr0_ok
  rw [decide_eq_true rfl] at heq
  have hgd := guard_hdr
  have HD := hidp (fun W (h : Bs W p b oo L cap) => by have q := hdecode_any p b oo cap L W h (by omega); rw [hd] at q; exact q)
  have HL := hidp h
  have hbn : (((x : Nat) : Int) != 0) = true := by rw [bne_iff_ne]; omega
  have hyl : ((y : Nat) : Int) ≤ (L.length : Int) := by omega
  have hy0 : (0 : Int) ≤ ((y : Nat) : Int) := by omega
  clear h hd hx hy
  go_enter Try.func11, Try.ntmps11
  go_wp2_with fail
  refine (hknown_any w).mono ?_
  rintro e w1 ⟨rfl, hb⟩
  have hB := hidp hb
  replace HL := hidp (HL.out.below hb)
  clear hb
  go_wp2_with fail
  refine (HD.out w1 HL.out).mono ?_
  rintro e w2 ⟨rfl, hb⟩
  replace hB := hidp (hB.out.trans (hb.mono hB.out.size))
  clear hb HD HL
  go_wp2_with first
    | (with_reducible refine (?_ : wpList _ _ _ _ _ _); refine wpList_store_blk rfl 68 _ _ rfl w2.heap.size (hC hdr0) (hC hdr0) 68 rfl rfl ((Blk.new w2 (hC hdr0) _).alloc _) (by rw [hl0.out]; kernel_rfl) (hl0.out.trans (hl0.out).symm) (hC_one _) ?_; intro w3 hw3; have M1 := hidp (Laid.mk1 (Below.refl _ w2) hw3.out); have k0 := M1.out.2.2.cell 0; have k1 := M1.out.2.2.cell 1; have k2 := M1.out.2.2.free 0; have k3 := M1.out.2.2.free 1; simp only [List.getElem?_cons_zero, List.getElem?_cons_succ] at k0 k1)
    | (with_reducible refine (?_ : wpList _ _ _ _ _ _); refine wpList_load_blkG (by kernel_rfl) 68 _ rfl w2.heap.size (hC hdr0) 68 rfl (((Laid.mk2 (Nat.le_refl _) M1.out x y).kp.at 0 rfl)) _ Try.underlying68 rfl (by rw [hl0.out]; kernel_rfl) ?_)
    | (with_reducible refine (?_ : wpList _ _ _ _ _ _); refine wpList_buildG (by kernel_rfl) 68 _ rfl (hC hdr0).toArray (by kernel_rfl) ?_)
  have M2 := hidp (Laid.mk2 (Nat.le_refl _) M1.out x y)
  clear M1 hw3 k0 k1 k2 k3
  generalize (World.setCell _ _ _) = w4 at M2 ⊢
  go_ret
  exact ⟨rfl, hB.out.trans (M2.out.kp.1.mono hB.out.size)⟩
theorem hone_any (p : Option Addr) (b oo cap : Nat) (L : List Nat) (w : World) (h : Bs w p b oo L cap) : Calls Try.prog 11 #[.slice p L.length cap] w fun e w' => e = .returned (.bool true) ∧ Below w.heap.size w w' := by
  by_cases hL : 300 < L.length
  · exact hone_long p cap L w hL
  rcases hd : decH L with ⟨x, e, a⟩
  have hf := decH_form h.byte
  have hi := decH_in h.byte
  rw [hd] at hf hi
  by_cases h0 : e = 0
  · subst h0
    obtain ⟨rfl, hG, hE⟩ := hf rfl
    exact hone_ok p b oo cap L w h (by omega) x hG hd hE
  · obtain rfl := hi.2 h0
    exact hone_er p b oo cap L w h (by omega) e a h0 hi.1 hd
end Go.Proofs.Ytdiklimikkplcaa
