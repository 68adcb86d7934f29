/-
  Commit: slices.Insert between others, with no room.
-/
import Derived.Test.YtbhkjflpkpkdlaaL7d
namespace Go.Proofs.Ytbhkjflpkpkdlaa
open Go.RowKit Go.Lib
set_option linter.unusedSimpArgs false

theorem lt_int2 (n : Nat) : decide ((n : Int) < (n : Int) + 1) = true := decide_eq_true (by omega)
theorem sub_int (n i : Nat) (h : i ≤ n) : (n : Int) + 1 - (i : Int) = ((n + 1 - i : Nat) : Int) := by omega
theorem zcells_len (m : Nat) : (Builtin.zeroCells (Value.agg #[.int .i64 0, .int .u64 0]).cells m).toList.length = m * 2 := by
  simp [Builtin.zeroCells, Value.cells]
theorem le63 {n : Nat} (h : n ≤ 1001) : ((n : Nat) : Int) ≤ 9223372036854775807 := by omega
theorem le48 {n : Nat} (h : n ≤ 1001) : n * 16 ≤ 281474976710656 := by omega
theorem le47 {n : Nat} (h : n ≤ 1001) : n * 16 ≤ 140737488355328 := by omega
theorem len2' {n i m G : Nat} (h : i + m = n + 1) (hi : i < n) : (n - i) * 2 + 2 ≤ m * 2 + (G - (n + 1)) * 2 := by omega
theorem len3 {i m n G : Nat} (h : i + m = n + 1) (hG : n + 1 ≤ G) : i * 2 + (m * 2 + (G - (n + 1)) * 2) = G * 2 := by omega
set_option maxRecDepth 100000 in
set_option maxHeartbeats 4000000 in
/-- Between others, and there is no room. -/
theorem tinsert_grow (B g cap i : Nat) (l : List Vt) (R : List Value) (v : Vt) (vb : Nat) (w : World) (hk : Blk w g (l.flatMap tL ++ R) 83) (hBw : B ≤ w.heap.size) (hi : i < l.length) (hc : l.length ≤ cap) (hc2 : cap < l.length + 1) (hl : l.length ≤ 1000) (hv : Blk w vb (tL v) 83) :
    Calls Try.prog 111 #[.slice (some ⟨g, 0, none⟩) l.length cap, .int .i64 (i : Nat), .slice (some ⟨vb, 0, none⟩) 1 1] w fun e w' => ∃ sv', e = .returned sv' ∧ OwnT w' B sv' (insT l i v) ∧ w.grownBy w' (some g) := by
  obtain rfl : cap = l.length := by omega
  have hc63 : l.length ≤ 9223372036854775807 := by omega
  have hw1 := wrapI_1 i (by omega)
  have hw3 := wrap6_1 i (by omega)
  have hw2 := wrap6_1 l.length (by omega)
  have ht1 := ne_int i l.length (by omega)
  have ht2 := lt_int2 l.length
  have hsub := sub_int l.length i (by omega)
  obtain ⟨i0, hi0, hz0, hzs, hzb⟩ := info_parts info_vote
  have hF := flat2 l
  have hA := flat2 (l.take i)
  have hD := flat2 (l.drop i)
  rw [List.length_take] at hA
  rw [List.length_drop] at hD
  have hAD : l.flatMap tL = (l.take i).flatMap tL ++ (l.drop i).flatMap tL := by rw [← List.flatMap_append, List.take_append_drop]
  obtain ⟨A, hAe⟩ : ∃ A, A = (l.take i).flatMap tL := ⟨_, rfl⟩
  obtain ⟨D, hDe⟩ : ∃ D, D = (l.drop i).flatMap tL := ⟨_, rfl⟩
  rw [← hAe] at hA hAD
  rw [← hDe] at hD hAD
  have hAl : A.length = i * 2 := by rw [hA, Nat.min_eq_left (Nat.le_of_lt hi)]
  have hA0 : ∀ j u, A[j]? = some u → w.cell? ⟨g, 0 + j, none⟩ = some u := fun j u hj => by
    rw [Nat.zero_add, hk.cell, hAD, List.append_assoc, List.getElem?_append_left (List.getElem?_eq_some_iff.1 hj).1]
    exact hj
  have hD0 : ∀ j u, D[j]? = some u → w.cell? ⟨g, i * 2 + j, none⟩ = some u := fun j u hj => by
    rw [hk.cell, hAD, List.append_assoc, List.getElem?_append_right (by rw [hAl]; exact Nat.le_add_right _ _), hAl, Nat.add_sub_cancel_left, List.getElem?_append_left (List.getElem?_eq_some_iff.1 hj).1]
    exact hj
  have hDone : ∀ u ∈ D, u.oneCell' = true := by rw [hDe]; exact flatT_one _
  have hold : (Builtin.firstCells i0.size i (.slice (some ⟨g, 0, none⟩) i l.length)).run Try.prog w.drew = .ok A.toArray w.drew := by
    rw [hzs]
    exact run_firstCells_some w.drew 2 i ⟨g, 0, none⟩ i l.length A hAl (fun j u hj => by rw [Addr.add_mid]; exact hA0 j u hj)
  obtain ⟨m, hm⟩ : ∃ m, m = l.length + 1 - i := ⟨_, rfl⟩
  have him : i + m = l.length + 1 := by omega
  have hm0 : 0 < m := by omega
  have hm1 : m ≤ 1001 := by omega
  obtain ⟨G, hG⟩ : ∃ G, G = grownCap w (l.length + 1) l.length 83 := ⟨_, rfl⟩
  have hGn : l.length + 1 ≤ G := by rw [hG]; exact grownCap_ge w _ _ _
  have hGm : G ≤ maxLen := by rw [hG]; exact grownCap_le_maxLen w _ _ _ (by unfold maxLen; omega)
  obtain ⟨Z1, hZ1⟩ : ∃ Z1, Z1 = (Builtin.zeroCells (Value.agg #[.int .i64 0, .int .u64 0]).cells m).toList := ⟨_, rfl⟩
  obtain ⟨Z2, hZ2⟩ : ∃ Z2, Z2 = (Builtin.zeroCells (Value.agg #[.int .i64 0, .int .u64 0]).cells (G - (l.length + 1))).toList := ⟨_, rfl⟩
  have hZ1l : Z1.length = m * 2 := by rw [hZ1]; exact zcells_len m
  have hZ2l : Z2.length = (G - (l.length + 1)) * 2 := by rw [hZ2]; exact zcells_len _
  have hrz : ∀ ty, (Builtin.append_ #[61, 3] ty #[.slice (some ⟨g, 0, none⟩) i l.length, .int .i64 ((l.length + 1 - i : Nat) : Int)]).run Try.prog w =
      .ok (.slice (some ⟨w.heap.size, 0, none⟩) (l.length + 1) G) (w.drew.alloc (.cells (A ++ (Z1 ++ Z2)).toArray 83)) := fun ty => by
    have h := Lib.run_append_grow_zeros (P := Try.prog) w 61 3 ty 83 i0 _ .i64 .i64 Try.underlying61 Try.underlying3 hi0 hz0 (some ⟨g, 0, none⟩) i l.length A hold m hm0 (by rw [hzs]; decide) (by rw [him]; exact hc2) (by rw [him]; exact le63 (by omega)) (by rw [hzb]; exact le48 hm1) (by rw [hzb, him]; exact growslice_fits (by omega) (le47 (by omega)))
    rw [him, ← hG] at h
    rw [← hm, h, hZ1, hZ2]
    congr 3
    apply Array.ext'
    simp
  obtain ⟨X, Y, Z, hXYZ, hX, hY⟩ := part3 (Z1 ++ Z2) D.length (by rw [List.length_append, hZ1l, hZ2l, hD]; exact len2' him hi)
  obtain ⟨W1, hW1⟩ : ∃ W1, W1 = w.drew.alloc (.cells (A ++ (Z1 ++ Z2)).toArray 83) := ⟨_, rfl⟩
  rw [← hW1] at hrz
  have hN : Blk W1 w.heap.size (A ++ (X ++ (Y ++ Z))) 83 := by rw [hW1, hXYZ]; exact Blk.new' w.drew _ _ _ rfl
  have hNl : (A ++ (X ++ (Y ++ Z))).length = G * 2 := by rw [← hXYZ, List.length_append, List.length_append, hAl, hZ1l, hZ2l]; exact len3 him hGn
  have hB1 : Below w.heap.size w W1 := by rw [hW1]; exact (Below.refl _ w).drew.alloc (Nat.le_refl _) _
  have hgl := hk.lt
  have hvl := hv.lt
  have hgN : g ≠ w.heap.size := Nat.ne_of_lt hgl
  have hvN : vb ≠ w.heap.size := Nat.ne_of_lt hvl
  obtain ⟨W2, hW2⟩ : ∃ W2, W2 = W1.setCells w.heap.size (i * 2) (tL v) := ⟨_, rfl⟩
  have hN2 : Blk W2 w.heap.size (setsL (A ++ (X ++ (Y ++ Z))) (i * 2) (tL v)) 83 := by rw [hW2]; exact hN.sets _ _ _ _
  have hN2l : (setsL (A ++ (X ++ (Y ++ Z))) (i * 2) (tL v)).length = G * 2 := by
    have e2 := setsL_mid (tL v) A X (Y ++ Z) (by rw [hX]; rfl)
    rw [hAl] at e2
    rw [e2, ← hNl]
    simp only [List.length_append, hX, tL_len]
  have hsets : setsL (setsL (A ++ (X ++ (Y ++ Z))) (i * 2) (tL v)) ((i + 1) * 2) D = A ++ (tL v ++ (D ++ Z)) := setsL_mid3 hAl hX rfl hY
  have hlen : (A ++ (tL v ++ (D ++ Z))).length = G * 2 := by
    rw [← hNl]
    simp only [List.length_append, hX, hY, tL_len]
  have e1 := run_t_hi g l.length l.length i (Nat.le_of_lt hi)
  have e2 := run_t_lo w.heap.size (l.length + 1) G i (by omega) (by omega)
  have e3 := run_t_lo w.heap.size (l.length + 1) G (i + 1) (by omega) (by omega)
  have e4 := run_t_lo g l.length l.length i (Nat.le_of_lt hi) hi
  rw [show ((i + 1 : Nat) : Int) = (i : Int) + 1 by omega] at e3
  have hcpA : ∀ (W : World), (∀ x, W.cell? x = W1.cell? x) → (∀ x, W.frozen? x = W1.frozen? x) → ∀ ty dc, (Builtin.copy_ #[61, 61] ty #[.slice (some ⟨w.heap.size, i * 2, none⟩) (l.length + 1 - i) dc, .slice (some ⟨vb, 0, none⟩) 1 1]).run Try.prog W = .ok (goInt (Nat.min 1 (l.length + 1 - i))) (W.setCells w.heap.size (i * 2) (tL v)) := fun W hWc hWf ty dc =>
    run_copy_cells2 W _ _ ty 83 w.heap.size (i * 2) (l.length + 1 - i) dc ⟨vb, 0, none⟩ 1 1 (tL v) Try.underlying61 size_vote (by rw [tL_len, nmin_l (by omega)])
      (fun j u hj => by
        rw [Addr.add_mid, Nat.zero_add, hWc]
        exact (hB1.cell (p := ⟨vb, j, none⟩) hvl).trans ((hv.cell j).trans hj))
      (fun j hj => by rw [hWc]; exact hN.isSome (by rw [hNl]; rw [tL_len] at hj; omega)) (fun j hj => by rw [hWf]; exact hN.free _) (tL_one v)
  have hcpB : ∀ (W : World), (∀ x, W.cell? x = W2.cell? x) → (∀ x, W.frozen? x = W2.frozen? x) → ∀ ty dc sc, (Builtin.copy_ #[61, 61] ty #[.slice (some ⟨w.heap.size, (i + 1) * 2, none⟩) (l.length - i) dc, .slice (some ⟨g, i * 2, none⟩) (l.length - i) sc]).run Try.prog W = .ok (goInt (Nat.min (l.length - i) (l.length - i))) (W.setCells w.heap.size ((i + 1) * 2) D) := fun W hWc hWf ty dc sc =>
    run_copy_cells2 W _ _ ty 83 w.heap.size ((i + 1) * 2) (l.length - i) dc ⟨g, i * 2, none⟩ (l.length - i) sc D Try.underlying61 size_vote (by rw [hD, nmin_l (Nat.le_refl _)])
      (fun j u hj => by
        rw [Addr.add_lit, hWc, hW2, World.cell?_setCells_out _ _ _ _ _ (fun h _ => absurd h hgN)]
        exact (hB1.cell (p := ⟨g, i * 2 + j, none⟩) hgl).trans (hD0 j u hj))
      (fun j hj => by rw [hWc]; exact hN2.isSome (by rw [hN2l]; rw [hD] at hj; omega)) (fun j hj => by rw [hWf]; exact hN2.free _) hDone
  have HR := hidp (show ∀ W3, W3 = W2.setCells w.heap.size ((i + 1) * 2) D ∨ W3 = W2.drew.setCells w.heap.size ((i + 1) * 2) D → OwnT W3 B (.slice (some ⟨w.heap.size, 0, none⟩) (l.length + 1) G) (insT l i v) ∧ w.grownBy W3 (some g) from fun W3 hW3 => by
    have hb2 : Blk W3 w.heap.size (A ++ (tL v ++ (D ++ Z))) 83 := by
      rw [← hsets]
      rcases hW3 with rfl | rfl
      · exact hN2.sets _ _ _ _
      · exact hN2.drew.sets _ _ _ _
    rw [hAe, hDe] at hb2 hlen
    refine ⟨ownT_made (by omega) hBw hb2 hGn hGm hlen, ?_⟩
    have hb : Below w.heap.size w W3 := by
      have h2 : Below w.heap.size w W2 := by rw [hW2]; exact hB1.trans ((Bex.sets w.heap.size (tL v) (i * 2) W1).below (Nat.le_refl _) hB1.size)
      rcases hW3 with rfl | rfl
      · exact h2.trans ((Bex.sets w.heap.size D ((i + 1) * 2) W2).below (Nat.le_refl _) h2.size)
      · exact h2.drew.trans ((Bex.sets w.heap.size D ((i + 1) * 2) W2.drew).below (Nat.le_refl _) h2.size)
    exact (Bex.of_below hb).grownBy)
  have hA2 := hcpA ((w.alloc (.cells (A ++ (Z1 ++ Z2)).toArray 83)).drew) (fun _ => by rw [hW1]; rfl) (fun _ => by rw [hW1]; rfl)
  have hB2 := hcpB (((w.alloc (.cells (A ++ (Z1 ++ Z2)).toArray 83)).drew.setCells w.heap.size (i * 2) (tL v)).drew) (fun _ => by rw [hW2, hW1]; rfl) (fun _ => by rw [hW2, hW1]; rfl)
  clear hcpA hcpB
  have mixed : Try.prog.follows Departure.mixedOrders = true := by kernel_rfl
  clear hk hv hA0 hD0 hDone hN hN2 hN2l hsets hlen hNl hXYZ hAD hF hA hD hAl hX hY hAe hDe hZ1 hZ2 hZ1l hZ2l hG hGm hold hB1 hm hm1
  go_enter Try.func111, Try.ntmps111
  go_wp2_with (first
    | (at_builtin; refine Lib.wpList_append_run _ rfl _ _ _ _ rfl _ _ rfl rfl _ _ (hrz _) ?_)
    | (at_builtin; refine wpList_copy_runI _ rfl _ _ 61 61 rfl _ _ rfl rfl (hA2 _ _) ?_))
  go_region_law_o (refine step_copy_runI rfl _ _ 61 61 rfl (.slice (some ⟨w.heap.size, (i + 1) * 2, none⟩) (l.length - i) (G - (i + 1))) (.slice (some ⟨g, i * 2, none⟩) (l.length - i) (l.length - i)) (by simp [Act.eval, Act.put]) (by simp [Act.eval, Act.put]) (hB2 _ _ _) ?_)
  go_wp2
  go_ret
  exact ⟨_, rfl, HR.out _ (by rw [hW2, hW1]; first | exact .inl rfl | exact .inr rfl)⟩
end Go.Proofs.Ytbhkjflpkpkdlaa
