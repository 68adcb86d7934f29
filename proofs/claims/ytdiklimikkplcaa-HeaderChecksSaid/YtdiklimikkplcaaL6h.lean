/-
  Header: the walk of the law's awake.
-/
import Derived.Test.YtdiklimikkplcaaL6g
namespace Go.Proofs.Ytdiklimikkplcaa
set_option linter.unusedSimpArgs false
open Go.RowKit Go.Lib

/-- The chapter's header is encoded, and decoded again. -/
theorem enc_one (w : World) : Calls Try.prog 41 #[.agg (hC oneH).toArray] w fun e w' => (∃ p b cap, e = .returned (.tuple #[.slice p 135 cap, .int .i64 0]) ∧ w.heap.size ≤ b ∧ (p = none → cap = 0) ∧ Bs w' p b 0 (encH oneH) cap) ∧ Below w.heap.size w w' := by
  have q := hencode_ok oneH oneH_ok w oneH_chk
  unfold DoneP at q
  rw [oneH_len] at q
  exact q
theorem dec_oneH (p : Option Addr) (b c : Nat) (w : World) (h : Bs w p b 0 (encH oneH) c) : Calls Try.prog 49 #[.slice p 135 c] w fun e w' => e = .returned (.tuple #[.agg (hC oneH).toArray, .agg #[.int .i64 0, .int .i64 0]]) ∧ Below w.heap.size w w' := by
  have q := hdecode_any p b 0 c (encH oneH) w h (by rw [oneH_len]; decide)
  rw [oneH_len, decH_back oneH_good] at q
  exact q
theorem name_lit (s : ByteArray) (r : Bool) (h : nmS s = r) (w : World) : Calls Try.prog 47 #[.string s] w fun e w' => e = .returned (.bool r) ∧ Below w.heap.size w w' := h ▸ name_any s w
set_option maxRecDepth 100000 in
set_option maxHeartbeats 8000000 in
theorem hawake_any (w : World) : Calls Try.prog 40 #[] w fun e w' => e = .returned (.bool true) ∧ Below w.heap.size w w' := by
  have hz : ∀ w, (zeroValue 68).run Try.prog w = .ok (.agg (hC hdr0).toArray) w := (zero_of_info (P := Try.prog) zero_hdr).1
  have hl0 := hidp (hC_len hdr0_ok)
  have hl := hidp (hC_len oneH_ok)
  have heq := eqH oneH oneH oneH_ok oneH_ok
  rw [decide_eq_true rfl] at heq
  have heF := eqF 0 0 0 0
  simp only [beq_self_eq_true, Bool.and_self] at heF
  have hgd := guard_hdr
  have hgF : Try.prog.eqGuardType Try.prog.depth 55 = false := by kernel_rfl
  go_enter Try.func40, Try.ntmps40
  go_wp2_with fail
  refine (one_any w).mono ?_
  rintro e w1 ⟨rfl, hb⟩
  have hB := hidp hb
  clear hb
  go_wp2_with fail
  refine (enc_one w1).mono ?_
  rintro e w2 ⟨⟨p, b, cap, rfl, _, _, hs⟩, hb⟩
  have HS := hidp hs
  replace hB := hidp (hB.out.trans (hb.mono hB.out.size))
  clear hs hb
  go_wp2_with fail
  refine (dec_oneH p b cap w2 HS.out).mono ?_
  rintro e w3 ⟨rfl, hb⟩
  replace hB := hidp (hB.out.trans (hb.mono hB.out.size))
  clear hb HS
  go_wp2_with (with_reducible refine (?_ : wpList _ _ _ _ _ _); refine wpList_store_blk rfl 68 _ _ rfl w3.heap.size (hC oneH) (hC hdr0) 68 rfl rfl ((Blk.new w3 (hC hdr0) _).alloc _) (by rw [hl.out]; kernel_rfl) (hl0.out.trans (hl.out).symm) (hC_one _) ?_; intro w4 hw4; have M1 := hidp (Laid.mk1 hB.out hw4.out); have k0 := M1.out.2.2.cell 0; have k1 := M1.out.2.2.cell 1; have k2 := M1.out.2.2.free 0; have k3 := M1.out.2.2.free 1; simp only [List.getElem?_cons_zero, List.getElem?_cons_succ] at k0 k1)
  have M2 := hidp (Laid.mk2 hB.out.size M1.out 0 0)
  try rw [show ((0 : Nat) : Int) = 0 from rfl] at M2
  clear M1 hw4 k0 k1 k2 k3
  obtain ⟨w5, hw5⟩ : ∃ W, W = (w4.setCell ⟨w3.heap.size + 1, 0, none⟩ (.int .i64 0)).setCell ⟨w3.heap.size + 1, 1, none⟩ (.int .i64 0) := ⟨_, rfl⟩
  rw [← hw5] at M2 ⊢
  clear hw5 hB
  have hT := hidp (M2.out.kp)
  refine wp_region_held_drew (S := Kp w [(w3.heap.size, hC oneH, 68), (w3.heap.size + 1, [.int .i64 ((0 : Nat) : Int), .int .i64 ((0 : Nat) : Int)], 55)]) (by kernel_rfl) hT.out.drew (fun hHeld => ?_)
  replace hT := hidp hT.out.drew
  try simp only [Act.put, List.setIfInBounds_toArray, List.set_cons_zero, List.set_cons_succ]
  refine wpAnyH_takeTo2 (i := 0) (oi := _) (v := ?_) (some 15) rfl rfl (by kernel_rfl) (by kernel_rfl) (by kernel_rfl) (fun _ _ _ h => h) (Or.inl ⟨by rfl, ?_⟩) hHeld ?_
  rotate_left
  · intro w hSw
    go_simp
    try with_reducible rfl
  try simp only [Act.put, List.setIfInBounds_toArray, List.set_cons_zero, List.set_cons_succ]
  refine wpAnyH_takeTo2 (i := 1) (oi := _) (v := ?_) (some 16) rfl rfl (by kernel_rfl) (by kernel_rfl) (by kernel_rfl) (fun _ _ _ h => h) (Or.inl ⟨by rfl, ?_⟩) hHeld ?_
  rotate_left
  · intro w hSw
    go_simp
    try with_reducible rfl
  try simp only [Act.put, List.setIfInBounds_toArray, List.set_cons_zero, List.set_cons_succ]
  refine wpAnyH_takeTo2 (i := 2) (oi := _) (v := ?_) (some 17) rfl rfl (by kernel_rfl) (by kernel_rfl) (by kernel_rfl) (fun _ _ _ h => h) (Or.inl ⟨by rfl, ?_⟩) hHeld ?_
  rotate_left
  · intro w hSw
    go_simp
    try with_reducible rfl
  try simp only [Act.put, List.setIfInBounds_toArray, List.set_cons_zero, List.set_cons_succ]
  refine wpAnyH_takeTo2 (i := 3) (oi := _) (v := ?_) (some 18) rfl rfl (by kernel_rfl) (by kernel_rfl) (by kernel_rfl) (fun _ _ _ h => h) (Or.inl ⟨by rfl, ?_⟩) hHeld ?_
  rotate_left
  · intro w hSw
    go_simp
    try with_reducible rfl
  try simp only [Act.put, List.setIfInBounds_toArray, List.set_cons_zero, List.set_cons_succ]
  refine wpAnyH_takeTo2 (i := 4) (oi := _) (v := ?_) (some 19) rfl rfl (by kernel_rfl) (by kernel_rfl) (by kernel_rfl) (fun _ _ _ h => h) (Or.inl ⟨by rfl, ?_⟩) hHeld ?_
  rotate_left
  · intro w hSw
    go_simp
    try with_reducible rfl
  try simp only [Act.put, List.setIfInBounds_toArray, List.set_cons_zero, List.set_cons_succ]
  refine wpAnyH_takeTo2 (i := 5) (oi := _) (v := ?_) (some 20) rfl rfl (by kernel_rfl) (by kernel_rfl) (by kernel_rfl) (fun _ _ _ h => h) (Or.inl ⟨by rfl, ?_⟩) hHeld ?_
  rotate_left
  · intro w hSw
    go_simp
    try with_reducible rfl
  try simp only [Act.put, List.setIfInBounds_toArray, List.set_cons_zero, List.set_cons_succ]
  refine wpAnyH_takeTo2 (i := 6) (oi := _) (v := ?_) (some 21) rfl rfl (by kernel_rfl) (by kernel_rfl) (by kernel_rfl) (fun _ _ _ h => h) (Or.inl ⟨by rfl, ?_⟩) hHeld ?_
  rotate_left
  · intro w hSw
    go_simp
    try with_reducible rfl
  try simp only [Act.put, List.setIfInBounds_toArray, List.set_cons_zero, List.set_cons_succ]
  refine wpAnyH_takeTo2 (i := 7) (oi := _) (v := ?_) (some 22) rfl rfl (by kernel_rfl) (by kernel_rfl) (by kernel_rfl) (fun _ _ _ h => h) (Or.inl ⟨by rfl, ?_⟩) hHeld ?_
  rotate_left
  · intro w hSw
    go_simp
    try with_reducible rfl
  try simp only [Act.put, List.setIfInBounds_toArray, List.set_cons_zero, List.set_cons_succ]
  refine wpAnyH_takeTo2 (i := 8) (oi := _) (v := .agg ([.int .i64 ((0 : Nat) : Int), .int .i64 ((0 : Nat) : Int)]).toArray) (some 23) rfl rfl (by kernel_rfl) (by kernel_rfl) (by kernel_rfl) (fun _ _ _ h => h) (yieldsIf_load_mid (by rfl) 55 _ rfl (w3.heap.size + 1) 0 rfl ([.int .i64 ((0 : Nat) : Int), .int .i64 ((0 : Nat) : Int)]) _ (fun w' hw' j v hj => by rw [Nat.zero_add]; exact ((hw'.at 1 rfl).cell j).trans hj) Try.underlying55 rfl (by kernel_rfl)) hHeld ?_
  try simp only [Act.put, List.setIfInBounds_toArray, List.set_cons_zero, List.set_cons_succ]
  refine wpAnyH_takeTo2 (i := 9) (oi := _) (v := ?_) (some 24) rfl rfl (by kernel_rfl) (by kernel_rfl) (by kernel_rfl) (fun _ _ _ h => h) (Or.inl ⟨by rfl, ?_⟩) hHeld ?_
  rotate_left
  · intro w hSw
    go_simp
    try with_reducible rfl
  try simp only [Act.put, List.setIfInBounds_toArray, List.set_cons_zero, List.set_cons_succ]
  refine wpAnyH_takeTo2 (i := 10) (oi := _) (v := ?_) (some 25) rfl rfl (by kernel_rfl) (by kernel_rfl) (by kernel_rfl) (fun _ _ _ h => h) (Or.inl ⟨by rfl, ?_⟩) hHeld ?_
  rotate_left
  · intro w hSw
    go_simp
    try with_reducible rfl
  try simp only [Act.put, List.setIfInBounds_toArray, List.set_cons_zero, List.set_cons_succ]
  refine wpAnyH_takeTo2 (i := 11) (oi := _) (v := ?_) (some 26) rfl rfl (by kernel_rfl) (by kernel_rfl) (by kernel_rfl) (fun _ _ _ h => h) (Or.inl ⟨by rfl, ?_⟩) hHeld ?_
  rotate_left
  · intro w hSw
    go_simp
    try with_reducible rfl
  try simp only [Act.put, List.setIfInBounds_toArray, List.set_cons_zero, List.set_cons_succ]
  refine wpAnyH_takeTo2 (i := 12) (oi := _) (v := ?_) (some 27) rfl rfl (by kernel_rfl) (by kernel_rfl) (by kernel_rfl) (fun _ _ _ h => h) (Or.inl ⟨by rfl, ?_⟩) hHeld ?_
  rotate_left
  · intro w hSw
    go_simp
    try with_reducible rfl
  try simp only [Act.put, List.setIfInBounds_toArray, List.set_cons_zero, List.set_cons_succ]
  refine wpAnyH_takeTo2 (i := 13) (oi := _) (v := .agg (hC oneH).toArray) (some 28) rfl rfl (by kernel_rfl) (by kernel_rfl) (by kernel_rfl) (fun _ _ _ h => h) (yieldsIf_load_mid (by rfl) 68 _ rfl (w3.heap.size) 0 rfl (hC oneH) _ (fun w' hw' j v hj => by rw [Nat.zero_add]; exact ((hw'.at 0 rfl).cell j).trans hj) Try.underlying68 rfl (by rw [hl.out]; kernel_rfl)) hHeld ?_
  try simp only [Act.put, List.setIfInBounds_toArray, List.set_cons_zero, List.set_cons_succ]
  refine wpAnyH_ready (rs := [14]) (by kernel_rfl) (by simp) ?_
  refine AllReadyH.cons (o := _) rfl (fun K hK => ?_) AllReadyH.nil
  go_simp
  refine (one_any _).mono ?_
  rintro e wN ⟨rfl, hN⟩
  replace hT := hidp (hT.out.step hN)
  clear hN
  go_wp2_with fail
  refine hK.out _ _ hT.out (fun hHeld' => ?_)
  clear hK K hHeld
  have hHeld := hHeld'
  clear hHeld'
  try simp only [Act.put, List.setIfInBounds_toArray, List.set_cons_zero, List.set_cons_succ]
  refine wpAnyH_takeTo2 (i := 15) (oi := _) (v := ?_) (some 30) rfl rfl (by kernel_rfl) (by kernel_rfl) (by kernel_rfl) (fun _ _ _ h => h) (Or.inl ⟨by rfl, ?_⟩) hHeld ?_
  rotate_left
  · intro w hSw
    go_simp
    try with_reducible rfl
  try simp only [Act.put, List.setIfInBounds_toArray, List.set_cons_zero, List.set_cons_succ]
  refine wpAnyH_takeTo2 (i := 16) (oi := _) (v := ?_) (some 31) rfl rfl (by kernel_rfl) (by kernel_rfl) (by kernel_rfl) (fun _ _ _ h => h) (Or.inl ⟨by rfl, ?_⟩) hHeld ?_
  rotate_left
  · intro w hSw
    go_simp
    try with_reducible rfl
  try simp only [Act.put, List.setIfInBounds_toArray, List.set_cons_zero, List.set_cons_succ]
  refine wpAnyH_takeTo2 (i := 17) (oi := _) (v := ?_) (some 32) rfl rfl (by kernel_rfl) (by kernel_rfl) (by kernel_rfl) (fun _ _ _ h => h) (Or.inl ⟨by rfl, ?_⟩) hHeld ?_
  rotate_left
  · intro w hSw
    go_simp
    try with_reducible rfl
  try simp only [Act.put, List.setIfInBounds_toArray, List.set_cons_zero, List.set_cons_succ]
  refine wpAnyH_ready (rs := [18]) (by kernel_rfl) (by simp) ?_
  refine AllReadyH.cons (o := _) rfl (fun K hK => ?_) AllReadyH.nil
  go_simp
  refine (name_lit ⟨#[97, 45, 49]⟩ true (by decide +kernel) _).mono ?_
  rintro e wN ⟨rfl, hN⟩
  replace hT := hidp (hT.out.step hN)
  clear hN
  go_wp2_with fail
  refine hK.out _ _ hT.out (fun hHeld' => ?_)
  clear hK K hHeld
  have hHeld := hHeld'
  clear hHeld'
  try simp only [Act.put, List.setIfInBounds_toArray, List.set_cons_zero, List.set_cons_succ]
  refine wpAnyH_takeTo2 (i := 19) (oi := _) (v := ?_) (some 34) rfl rfl (by kernel_rfl) (by kernel_rfl) (by kernel_rfl) (fun _ _ _ h => h) (Or.inl ⟨by rfl, ?_⟩) hHeld ?_
  rotate_left
  · intro w hSw
    go_simp
    try with_reducible rfl
  try simp only [Act.put, List.setIfInBounds_toArray, List.set_cons_zero, List.set_cons_succ]
  refine wpAnyH_takeTo2 (i := 20) (oi := _) (v := ?_) (some 35) rfl rfl (by kernel_rfl) (by kernel_rfl) (by kernel_rfl) (fun _ _ _ h => h) (Or.inl ⟨by rfl, ?_⟩) hHeld ?_
  rotate_left
  · intro w hSw
    go_simp
    try with_reducible rfl
  try simp only [Act.put, List.setIfInBounds_toArray, List.set_cons_zero, List.set_cons_succ]
  refine wpAnyH_ready (rs := [21]) (by kernel_rfl) (by simp) ?_
  refine AllReadyH.cons (o := _) rfl (fun K hK => ?_) AllReadyH.nil
  go_simp
  refine (name_lit ⟨#[65]⟩ false (by decide +kernel) _).mono ?_
  rintro e wN ⟨rfl, hN⟩
  replace hT := hidp (hT.out.step hN)
  clear hN
  go_wp2_with fail
  refine hK.out _ _ hT.out (fun hHeld' => ?_)
  clear hK K hHeld
  have hHeld := hHeld'
  clear hHeld'
  try simp only [Act.put, List.setIfInBounds_toArray, List.set_cons_zero, List.set_cons_succ]
  refine wpAnyH_takeTo2 (i := 22) (oi := _) (v := ?_) (some 37) rfl rfl (by kernel_rfl) (by kernel_rfl) (by kernel_rfl) (fun _ _ _ h => h) (Or.inl ⟨by rfl, ?_⟩) hHeld ?_
  rotate_left
  · intro w hSw
    go_simp
    try with_reducible rfl
  try simp only [Act.put, List.setIfInBounds_toArray, List.set_cons_zero, List.set_cons_succ]
  refine wpAnyH_takeTo2 (i := 23) (oi := _) (v := ?_) (some 38) rfl rfl (by kernel_rfl) (by kernel_rfl) (by kernel_rfl) (fun _ _ _ h => h) (Or.inl ⟨by rfl, ?_⟩) hHeld ?_
  rotate_left
  · intro w hSw
    go_simp
    try with_reducible rfl
  try simp only [Act.put, List.setIfInBounds_toArray, List.set_cons_zero, List.set_cons_succ]
  refine wpAnyH_takeTo2 (i := 24) (oi := _) (v := ?_) (some 0) rfl rfl (by kernel_rfl) (by kernel_rfl) (by kernel_rfl) (fun _ _ _ h => h) (Or.inl ⟨by rfl, ?_⟩) hHeld ?_
  rotate_left
  · intro w hSw
    go_simp
    try with_reducible rfl
  try simp only [Act.put, List.setIfInBounds_toArray, List.set_cons_zero, List.set_cons_succ]
  refine wpAnyH_done (by kernel_rfl) ?_ _
  go_wp2
  go_ret
  exact ⟨rfl, hT.out.1⟩
end Go.Proofs.Ytdiklimikkplcaa
