/-
  Header: what the laws hold first: the chapter's header, some of its examples.
-/
import Derived.Test.YtdiklimikkplcaaL6f
import Derived.Test.YtdiklimikkplcaaUj
import Derived.Deep.RegionHeld3
namespace Go.Proofs.Ytdiklimikkplcaa
set_option linter.unusedSimpArgs false
open Go.RowKit Go.Lib

/-- All is as it was, and blocks hold what they hold. -/
def Kp (w : World) (l : List (Nat × List Value × TypeId)) (w' : World) : Prop := Below w.heap.size w w' ∧ ∀ x ∈ l, Blk w' x.1 x.2.1 x.2.2
theorem Kp.at {w w' : World} {l : List (Nat × List Value × TypeId)} (h : Kp w l w') (i : Nat) {b : Nat} {cs : List Value} {T : TypeId} (hi : l[i]? = some (b, cs, T)) : Blk w' b cs T := h.2 (b, cs, T) (List.mem_of_getElem? hi)
theorem Kp.step {w w1 w2 : World} {l : List (Nat × List Value × TypeId)} (h : Kp w l w1) (k : Below w1.heap.size w1 w2) : Kp w l w2 := ⟨h.1.trans (k.mono h.1.size), fun x hx => k.blk' (h.2 x hx)⟩
theorem Kp.drew {w w1 : World} {l : List (Nat × List Value × TypeId)} (h : Kp w l w1) : Kp w l w1.drew := ⟨h.1.drew, fun x hx => (h.2 x hx).drew⟩
theorem Kp.alloc {w w1 : World} {l : List (Nat × List Value × TypeId)} (h : Kp w l w1) (o : Obj) : Kp w l (w1.alloc o) := h.step ((Below.refl _ _).alloc (Nat.le_refl _) o)
theorem Kp.nil {w w1 : World} (h : Below w.heap.size w w1) : Kp w [] w1 := ⟨h, fun x hx => by cases hx⟩
theorem Kp.cons {w w1 : World} {l : List (Nat × List Value × TypeId)} (h : Kp w l w1) {b : Nat} {cs : List Value} {T : TypeId} (k : Blk w1 b cs T) : Kp w ((b, cs, T) :: l) w1 :=
  ⟨h.1, fun x hx => (List.mem_cons.1 hx).elim (fun e => e ▸ k) (h.2 x)⟩

def oneH : Hdr := ⟨⟨#[97]⟩, 1, 2, z32, z32, z32, z32⟩
theorem oneH_ok : HdrOk oneH := ⟨by decide, by decide, z32_bytes, z32_bytes, z32_bytes, z32_bytes⟩
theorem oneH_chk : chkH oneH = 0 := by decide +kernel
theorem oneH_good : HGood oneH := ⟨oneH_ok, oneH_chk⟩
theorem oneH_len : (encH oneH).length = 135 := by decide +kernel
set_option maxRecDepth 100000 in
theorem one_any (w : World) : Calls Try.prog 51 #[] w fun e w' => e = .returned (.agg (hC oneH).toArray) ∧ Below w.heap.size w w' := by
  have hz : ∀ w, (zeroValue 68).run Try.prog w = .ok (.agg (hC hdr0).toArray) w := (zero_of_info (P := Try.prog) zero_hdr).1
  have hl := hidp (hC_len oneH_ok)
  have hl0 := hidp (hC_len hdr0_ok)
  have h1 := hidp (hC_one oneH)
  have hk := hidp (Blk.new w (hC hdr0) 68)
  have hB := hidp ((Below.refl w.heap.size w).alloc (Nat.le_refl _) (.cells (hC hdr0).toArray 68))
  go_enter Try.func51, Try.ntmps51
  go_wp2_with first
    | (with_reducible refine (?_ : wpList _ _ _ _ _ _); refine wpList_buildG (by kernel_rfl) 68 _ rfl (hC oneH).toArray (by kernel_rfl) ?_)
    | (with_reducible refine (?_ : wpList _ _ _ _ _ _); refine wpList_store_blk rfl 68 _ _ rfl w.heap.size (hC oneH) (hC hdr0) 68 rfl rfl hk.out (by rw [hl.out]; kernel_rfl) (by rw [hl.out, hl0.out]) h1.out ?_; intro w1 hw1)
  have b2 := hk.out.row (cs := hC oneH)
  rw [← hw1.out] at b2
  refine bodyPost_ret (v := .agg (hC oneH).toArray) ?_ rfl ⟨rfl, hB.out.atNew (Bex.ofRow hw1.out)⟩
  exact results_cell_row Try.results51 _ _ w.heap.size 68 _ (0, 0) _ rfl b2 Try.underlying68 rfl (by rw [List.size_toArray, hl.out]; kernel_rfl)

/-- A header that was told is laid into its variable. -/
theorem lay_hdr {w w1 w2 : World} {x : Hdr} {o : Obj} (hB : Below w.heap.size w w1) (h : w2 = ((w1.alloc (.cells (hC hdr0).toArray 68)).alloc o).setRow w1.heap.size (hC x).toArray) :
    Below w.heap.size w w2 ∧ Blk w2 w1.heap.size (hC x) 68 := by
  have b1 := (But.refl w1.heap.size ((w1.alloc (.cells (hC hdr0).toArray 68)).alloc o)).setRow (hC x).toArray
  rw [← h] at b1
  refine ⟨((hB.alloc hB.size _).alloc (by have := hB.size; simp; omega) _).trans (b1.below hB.size), ?_⟩
  rw [h]
  exact ((Blk.new w1 (hC hdr0) _).alloc o).row
/-- What Decode tells lies in two variables: the walk's state behind it. -/
structure Laid (w w2 : World) (b : Nat) (x : Hdr) (e a : Nat) : Prop where
  kp : Kp w [(b, hC x, 68), (b + 1, [.int .i64 (e : Nat), .int .i64 (a : Nat)], 55)] w2
theorem Laid.mk1 {w w1 w2 : World} {x : Hdr} {f0 f1 : Value} (hB : Below w.heap.size w w1) (h : w2 = ((w1.alloc (.cells (hC hdr0).toArray 68)).alloc (.cells #[f0, f1] 55)).setRow w1.heap.size (hC x).toArray) :
    Below w.heap.size w w2 ∧ Blk w2 w1.heap.size (hC x) 68 ∧ Blk w2 (w1.heap.size + 1) [f0, f1] 55 := by
  have q := lay_hdr hB h
  refine ⟨q.1, q.2, ?_⟩
  rw [h]
  exact ((But.refl w1.heap.size _).setRow _).blk (Blk.new' _ _ _ _ (by simp)) (by omega)
theorem Laid.mk2 {w w2 : World} {b : Nat} {x : Hdr} {f0 f1 : Value} (hb : w.heap.size ≤ b) (h : Below w.heap.size w w2 ∧ Blk w2 b (hC x) 68 ∧ Blk w2 (b + 1) [f0, f1] 55) (e a : Nat) :
    Laid w ((w2.setCell ⟨b + 1, 0, none⟩ (.int .i64 (e : Nat))).setCell ⟨b + 1, 1, none⟩ (.int .i64 (a : Nat))) b x e a := by
  refine ⟨Kp.cons (Kp.cons (Kp.nil ?_) ?_) ?_⟩
  · exact (h.1.setCell (p := ⟨b + 1, 0, none⟩) (by show w.heap.size ≤ b + 1; omega) _).setCell (p := ⟨b + 1, 1, none⟩) (by show w.heap.size ≤ b + 1; omega) _
  · exact (h.2.2.set 0 _).set 1 _
  · exact (h.2.1.other _ _ (by show b ≠ b + 1; omega)).other _ _ (by show b ≠ b + 1; omega)
set_option maxRecDepth 100000 in
set_option maxHeartbeats 2000000 in
theorem fails_any (p : Option Addr) (b oo cap : Nat) (L : List Nat) (e a : Nat) (w : World) (h : Bs w p b oo L cap) (hL : L.length ≤ 4000000) (hd : decH L = (hdr0, e, a)) :
    Calls Try.prog 53 #[.slice p L.length cap, .int .i64 (e : Nat), .int .i64 (a : Nat)] w fun e w' => e = .returned (.bool true) ∧ Below w.heap.size w w' := by
  have hz : ∀ w, (zeroValue 68).run Try.prog w = .ok (.agg (hC hdr0).toArray) w := (zero_of_info (P := Try.prog) zero_hdr).1
  have hl0 := hidp (hC_len hdr0_ok)
  have q := hdecode_any p b oo cap L w h hL
  rw [hd] at q
  have HD := hidp q
  have heq := eqH hdr0 hdr0 hdr0_ok hdr0_ok
  rw [decide_eq_true rfl] at heq
  have heF := eqF e a e a
  simp only [beq_self_eq_true, Bool.and_self] at heF
  have hgd := guard_hdr
  have hgF : Try.prog.eqGuardType Try.prog.depth 55 = false := by kernel_rfl
  clear h hL hd q
  go_enter Try.func53, Try.ntmps53
  go_wp2_with fail
  refine HD.out.mono ?_
  rintro e w1 ⟨rfl, hB⟩
  replace hB := hidp hB
  clear HD
  go_wp2_with (with_reducible refine (?_ : wpList _ _ _ _ _ _); refine wpList_store_blk rfl 68 _ _ rfl w1.heap.size (hC hdr0) (hC hdr0) 68 rfl rfl ((Blk.new w1 (hC hdr0) _).alloc _) (by rw [hl0.out]; kernel_rfl) (hl0.out.trans (hl0.out).symm) (hC_one _) ?_; intro w2 hw2; have M1 := hidp (Laid.mk1 hB.out hw2.out); have k0 := M1.out.2.2.cell 0; have k1 := M1.out.2.2.cell 1; have k2 := M1.out.2.2.free 0; have k3 := M1.out.2.2.free 1; simp only [List.getElem?_cons_zero, List.getElem?_cons_succ] at k0 k1)
  have M2 := hidp (Laid.mk2 hB.out.size M1.out e a)
  clear M1 hw2 k0 k1 k2 k3
  obtain ⟨w3, hw3⟩ : ∃ W, W = (w2.setCell ⟨w1.heap.size + 1, 0, none⟩ (.int .i64 (e : Nat))).setCell ⟨w1.heap.size + 1, 1, none⟩ (.int .i64 (a : Nat)) := ⟨_, rfl⟩
  rw [← hw3] at M2 ⊢
  clear hw3
  refine wp_load_row 68 _ rfl w1.heap.size rfl 68 (hC hdr0).toArray (0, 0) _ (M2.out.kp.at 0 rfl) Try.underlying68 rfl (by rw [List.size_toArray, hl0.out]; kernel_rfl) ?_
  have x0 : w3.cell? ⟨w1.heap.size + 1, 0, none⟩ = some (.int .i64 (e : Nat)) := (M2.out.kp.at 1 rfl).cell 0
  have x1 : w3.cell? ⟨w1.heap.size + 1, 1, none⟩ = some (.int .i64 (a : Nat)) := (M2.out.kp.at 1 rfl).cell 1
  go_wp2_with (with_reducible refine (?_ : wpList _ _ _ _ _ _); refine wpList_buildG (by kernel_rfl) 68 _ rfl (hC hdr0).toArray (by kernel_rfl) ?_)
  go_ret
  exact ⟨rfl, M2.out.kp.1⟩
end Go.Proofs.Ytdiklimikkplcaa
