/-
  Commit: slices.Insert between others.
-/
import Derived.Test.YtbhkjflpkpkdlaaL7c
namespace Go.Proofs.Ytbhkjflpkpkdlaa
open Go.RowKit Go.Lib
set_option linter.unusedSimpArgs false

theorem maxLen_63 {cap : Nat} (h : cap ≤ maxLen) : cap ≤ 9223372036854775807 := Nat.le_trans h (by decide)
theorem wrapI_1 (i : Nat) (h : i ≤ 1000) : IntKind.i64.wrap ((i : Int) + 1) = (i : Int) + 1 := by rw [IntKind.wrap_i64]; omega
theorem wrap6_1 (i : Nat) (h : i ≤ 1000) : wrap64 ((i : Int) + 1) = (i : Int) + 1 := by rw [w64 _ (by omega)]
theorem ne_int (i n : Nat) (h : i ≠ n) : ((i : Int) == (n : Int)) = false := by rw [beq_eq_false_iff_ne]; omega
theorem lt_int (c n : Nat) (h : n + 1 ≤ c) : decide ((c : Int) < (n : Int) + 1) = false := decide_eq_false (by omega)
theorem part3 (L : List Value) (n : Nat) (h : n + 2 ≤ L.length) : ∃ X Y Z, L = X ++ (Y ++ Z) ∧ X.length = 2 ∧ Y.length = n :=
  ⟨L.take 2, (L.drop 2).take n, (L.drop 2).drop n, by rw [List.take_append_drop, List.take_append_drop], by rw [List.length_take]; omega, by rw [List.length_take, List.length_drop]; omega⟩
theorem nmin_r {a b : Nat} (h : b ≤ a) : Nat.min a b = b := Nat.min_eq_right h
theorem nmin_l {a b : Nat} (h : a ≤ b) : Nat.min a b = a := Nat.min_eq_left h
theorem size_vote : (Try.prog.info? 83).map (·.size) = some 2 := by kernel_rfl
theorem Blk.isSome {w : World} {b k : Nat} {cs : List Value} {T : TypeId} (h : Blk w b cs T) (hk : k < cs.length) : (w.cell? ⟨b, k, none⟩).isSome = true := by rw [h.cell k, List.getElem?_eq_getElem hk]; rfl
theorem shape_blk {w : World} {b : Nat} {cs : List Value} {T : TypeId} (h : Blk w b cs T) : w.shape? b = some (T, cs.length) := by
  unfold Blk at h
  simp [World.shape?, h]
set_option maxRecDepth 100000 in
set_option maxHeartbeats 4000000 in
/-- Between others, and there is room. -/
theorem tinsert_room (B g cap i : Nat) (l : List Vt) (R : List Value) (v : Vt) (vb : Nat) (w : World) (hk : Blk w g (l.flatMap tL ++ R) 83) (hg : B ≤ g) (hi : i < l.length) (hc : l.length + 1 ≤ cap) (hm : cap ≤ maxLen) (hz : (l.flatMap tL ++ R).length = cap * 2) (hl : l.length ≤ 1000) (hv : Blk w vb (tL v) 83) (hne : vb ≠ g) :
    Calls Try.prog 111 #[.slice (some ⟨g, 0, none⟩) l.length cap, .int .i64 (i : Nat), .slice (some ⟨vb, 0, none⟩) 1 1] w fun e w' => e = .returned (.slice (some ⟨g, 0, none⟩) (l.length + 1) cap) ∧ OwnT w' B (.slice (some ⟨g, 0, none⟩) (l.length + 1) cap) (insT l i v) ∧ w.grownBy w' (some g) := by
  have hc63 := maxLen_63 hm
  have hw1 := wrapI_1 i (by omega)
  have hw3 := wrap6_1 i (by omega)
  have hw2 := wrap6_1 l.length (by omega)
  have ht1 := ne_int i l.length (by omega)
  have ht2 := lt_int cap l.length hc
  have hF := flat2 l
  have hA := flat2 (l.take i)
  have hD := flat2 (l.drop i)
  rw [List.length_take] at hA
  rw [List.length_drop] at hD
  have hAD : l.flatMap tL = (l.take i).flatMap tL ++ (l.drop i).flatMap tL := by rw [← List.flatMap_append, List.take_append_drop]
  have hR : R.length = (cap - l.length) * 2 := by rw [List.length_append, hF] at hz; omega
  obtain ⟨A, hAe⟩ : ∃ A, A = (l.take i).flatMap tL := ⟨_, rfl⟩
  obtain ⟨D, hDe⟩ : ∃ D, D = (l.drop i).flatMap tL := ⟨_, rfl⟩
  rw [← hAe] at hA hAD
  rw [← hDe] at hD hAD
  have hAl : A.length = i * 2 := by omega
  -- what stood from place i on
  have hD0 : ∀ j u, D[j]? = some u → w.cell? ⟨g, i * 2 + j, none⟩ = some u := fun j u hj => by
    rw [hk.cell, hAD, List.append_assoc, List.getElem?_append_right (by omega), hAl, show i * 2 + j - i * 2 = j by omega, List.getElem?_append_left (List.getElem?_eq_some_iff.1 hj).1]
    exact hj
  have hDone : ∀ u ∈ D, u.oneCell' = true := by rw [hDe]; exact flatT_one _
  obtain ⟨W1, hW1⟩ : ∃ W1, W1 = w.drew.setCells g ((i + 1) * 2) D := ⟨_, rfl⟩
  have hk1 : Blk W1 g (setsL (l.flatMap tL ++ R) ((i + 1) * 2) D) 83 := by rw [hW1]; exact hk.drew.sets _ _ _ _
  obtain ⟨X, Y, Z, hXYZ, hX, hY⟩ := part3 (D ++ R) D.length (by rw [List.length_append]; omega)
  have hfull : l.flatMap tL ++ R = A ++ (X ++ (Y ++ Z)) := by rw [hAD, List.append_assoc, hXYZ]
  have hsets : setsL (setsL (l.flatMap tL ++ R) ((i + 1) * 2) D) (i * 2) (tL v) = A ++ (tL v ++ (D ++ Z)) := by rw [hfull]; exact setsL_mid2 hAl hX rfl hY
  have hlen : (A ++ (tL v ++ (D ++ Z))).length = cap * 2 := by
    rw [← hz, hfull]
    simp only [List.length_append, hY, hX, tL_len]
  have hlen1 : (setsL (l.flatMap tL ++ R) ((i + 1) * 2) D).length = cap * 2 := by
    have e1 := setsL_mid D (A ++ X) Y Z hY
    rw [List.append_assoc, List.append_assoc, List.length_append, hAl, hX, show i * 2 + 2 = (i + 1) * 2 by omega] at e1
    rw [hfull, e1]
    rw [← hz, hfull]
    simp only [List.length_append, hY]
  have hsp1 : ∀ k, k < cap * 2 → (W1.cell? ⟨g, k, none⟩).isSome = true := fun k hk' => hk1.isSome (by omega)
  have hgl := hk.lt
  have hvl := hv.lt
  have e0 := run_t_lo g l.length cap i (by omega) (by omega)
  have e1 := run_t_hi g l.length cap (l.length + 1) (by omega)
  have e2 := run_t_lo g (l.length + 1) cap (i + 1) (by omega) (by omega)
  have e3 := run_t_lo g (l.length + 1) cap i (by omega) (by omega)
  rw [show ((l.length + 1 : Nat) : Int) = (l.length : Int) + 1 by omega] at e1
  rw [show ((i + 1 : Nat) : Int) = (i : Int) + 1 by omega] at e2
  have hov : ∀ lb cb, (callFunc 173 #[.slice (some ⟨vb, 0, none⟩) 1 1, .slice (some ⟨g, (i + 1) * 2, none⟩) lb cb]).run Try.prog w = .ok (.value (.bool false)) w := fun lb cb => by
    rw [run_callFunc_extern Try.func173 (by kernel_rfl) (by kernel_rfl) (by kernel_rfl) (e := Extern.SlicesOverlaps.overlaps #[61, 61] #[4]) (by kernel_rfl),
      Lib.run_overlaps_apart w 61 4 83 Try.underlying61 2 run_size_vote ⟨vb, 0, none⟩ ⟨g, (i + 1) * 2, none⟩ 1 1 lb cb hne 83 83 2 (l.flatMap tL ++ R).length (by rw [shape_blk hv]; rfl) (shape_blk hk) (by rw [hz]; omega) (hv.free 0) (hv.free 2)]
    rfl
  have hcp1 : ∀ ty dc sc, (Builtin.copy_ #[61, 61] ty #[.slice (some ⟨g, (i + 1) * 2, none⟩) (l.length - i) dc, .slice (some ⟨g, i * 2, none⟩) (l.length + 1 - i) sc]).run Try.prog w.drew = .ok (goInt (Nat.min (l.length + 1 - i) (l.length - i))) (w.drew.setCells g ((i + 1) * 2) D) := fun ty dc sc =>
    run_copy_cells2 w.drew _ _ ty 83 g ((i + 1) * 2) (l.length - i) dc ⟨g, i * 2, none⟩ (l.length + 1 - i) sc D Try.underlying61 size_vote (by rw [hD, nmin_r (Nat.sub_le_sub_right (Nat.le_succ _) _)])
      (fun j u hj => by rw [Addr.add_lit]; exact hD0 j u hj)
      (fun j hj => hk.drew.isSome (by rw [hz]; omega)) (fun j hj => hk.drew.free _) hDone
  have hcp2 : ∀ (W : World), (∀ x, W.cell? x = W1.cell? x) → (∀ x, W.frozen? x = W1.frozen? x) → ∀ ty dc, (Builtin.copy_ #[61, 61] ty #[.slice (some ⟨g, i * 2, none⟩) (l.length + 1 - i) dc, .slice (some ⟨vb, 0, none⟩) 1 1]).run Try.prog W = .ok (goInt (Nat.min 1 (l.length + 1 - i))) (W.setCells g (i * 2) (tL v)) := fun W hWc hWf ty dc =>
    run_copy_cells2 W _ _ ty 83 g (i * 2) (l.length + 1 - i) dc ⟨vb, 0, none⟩ 1 1 (tL v) Try.underlying61 size_vote (by rw [tL_len]; simp only [Nat.min_def]; split <;> omega)
      (fun j u hj => by
        rw [Addr.add_mid, Nat.zero_add, hWc, hW1, World.cell?_setCells_out g _ _ _ _ (fun h _ => absurd h hne)]
        exact (hv.cell j).trans hj)
      (fun j hj => by rw [hWc]; exact hsp1 _ (by rw [tL_len] at hj; omega)) (fun j hj => by rw [hWf]; exact hk1.free _) (tL_one v)
  rw [← hW1] at hcp1
  have HR := hidp (show ∀ W2, W2 = W1.setCells g (i * 2) (tL v) → OwnT W2 B (.slice (some ⟨g, 0, none⟩) (l.length + 1) cap) (insT l i v) ∧ w.grownBy W2 (some g) from fun W2 hW2 => by
    have hb2 : Blk W2 g (A ++ (tL v ++ (D ++ Z))) 83 := by rw [hW2, ← hsets]; exact hk1.sets _ _ _ _
    rw [hAe, hDe] at hb2 hlen
    refine ⟨ownT_made (by omega) hg hb2 hc hm hlen, ?_⟩
    rw [hW2, hW1]
    exact (((Bex.refl g w).drew.trans (Bex.sets g _ _ _)).trans (Bex.sets g _ _ _)).grownBy)
  clear hk hv hD0 hDone hk1 hsets hlen hlen1 hsp1 hXYZ hfull hAD hF hA hD hAl hX hY hR hz hm hAe hDe hgl hvl
  have mixed : Try.prog.follows Departure.mixedOrders = true := by kernel_rfl
  go_enter Try.func111, Try.ntmps111
  go_wp2_with (simp only [hov])
  go_region_law_o (refine step_copy_runI rfl _ _ 61 61 rfl _ _ (by simp [Act.eval, Act.put]) (by simp [Act.eval, Act.put]) (hcp1 _ _ _) ?_)
  go_wp2_with (at_builtin; refine wpList_copy_runI _ rfl _ _ 61 61 rfl _ _ rfl rfl (hcp2 _ (fun _ => rfl) (fun _ => rfl) _ _) ?_)
  go_ret
  exact ⟨rfl, HR.out _ (by rw [hW1])⟩
end Go.Proofs.Ytbhkjflpkpkdlaa
