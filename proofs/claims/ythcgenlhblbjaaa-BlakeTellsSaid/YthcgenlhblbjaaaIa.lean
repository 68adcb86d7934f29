/-
  Contract: the answer's Text.
-/
import Derived.Test.YthcgenlhblbjaaaHy
import Derived.Test.YthcgenlhblbjaaaHq
import Derived.Lib.SlBytesRow
namespace Go.Proofs.Ythcgenlhblbjaaa
open Go.RowKit Go.Lib

def headT (h : List Nat) (i : Nat) : ByteArray := toB ((textL h).take (2 * i))
theorem headT_step {h : List Nat} {i : Nat} (hi : i < 32) (x : Nat) (hx : h.getD i 0 = x) : headT h i ++ ⟨#[UInt8.ofNat (hexC (x / 16)), UInt8.ofNat (hexC (x % 16))]⟩ = headT h (i + 1) := by
  have e1 : (textL h)[2 * i]? = some (hexC (x / 16)) := by
    unfold textL
    rw [List.getElem?_map, List.getElem?_range (by omega)]
    simp only [Option.map_some, digT]
    rw [if_pos (by omega), show 2 * i / 2 = i by omega, hx]
  have e2 : (textL h)[2 * i + 1]? = some (hexC (x % 16)) := by
    unfold textL
    rw [List.getElem?_map, List.getElem?_range (by omega)]
    simp only [Option.map_some, digT]
    rw [if_neg (by omega), show (2 * i + 1) / 2 = i by omega, hx]
  have e3 : (textL h).take (2 * (i + 1)) = (textL h).take (2 * i) ++ [hexC (x / 16), hexC (x % 16)] := by
    rw [show 2 * (i + 1) = 2 * i + 1 + 1 by omega, List.take_add_one, List.take_add_one, e1, e2]
    simp
  unfold headT
  rw [e3]
  apply ByteArray.ext
  apply Array.toList_inj.1
  unfold toB
  simp
theorem headT_size (h : List Nat) {i : Nat} (hi : i ≤ 32) : (headT h i).size = 2 * i := by
  unfold headT
  rw [toB_size, List.length_take, textL_len]; omega
theorem headT_all (h : List Nat) : headT h 32 = textB h := by
  unfold headT textB
  rw [List.take_of_length_le (by rw [textL_len]; omega)]

set_option linter.unusedSimpArgs false
set_option maxRecDepth 20000 in
set_option maxHeartbeats 4000000 in
theorem refText_any (h : List Nat) (w : World) (hh : Bytes 32 h) :
    Calls Try.prog 17 #[.agg (bvs h).toArray] w fun e w' => e = .returned (.string (textB h)) ∧ Below w.heap.size w w' := by
  have HH := hidp hh
  have h0 : Hid ((⟨#[]⟩ : ByteArray) = headT h 0) := hidp rfl
  clear hh
  go_enter Try.func17, Try.ntmps17
  go_wp2
  go_loopw [3, 4] (fun s x wr => ∃ i : Nat, i ≤ 32 ∧ x = .int .i64 i ∧ s = .string (headT h i) ∧ Hid (Blk wr w.heap.size (bvs h) 26 ∧ Below w.heap.size w wr)) (fun _ x _ => 32 - (RowKit.intOf x).toNat)
  case atStart => exact ⟨0, by omega, rfl, by rw [← h0.out], Blk.new w _ _, (Below.refl _ w).alloc (Nat.le_refl _) _⟩
  case round =>
    obtain ⟨i, hi, rfl, rfl, hr⟩ := hrel
    by_cases h32 : i < 32
    · have hx := HH.out.get i
      have hst := headT_step (h := h) h32 (h.getD i 0) rfl
      generalize hxx : h.getD i 0 = x at hx hst
      have hst := hidp hst
      have hsz := headT_size h hi
      have d1 := run_dig (x / 16) (by omega)
      have d2 := run_dig (x % 16) (by omega)
      have l1 := hexC_lt (show x / 16 < 16 by omega)
      have l2 := hexC_lt (show x % 16 < 16 by omega)
      have q1 : (x : Int) / 16 = ((x / 16 : Nat) : Int) := by omega
      have q2 : (x : Int) % 16 = ((x % 16 : Nat) : Int) := by omega
      have q3 : (x : Int).tdiv 16 = ((x / 16 : Nat) : Int) := by rw [Int.tdiv_eq_ediv_of_nonneg (by omega)]; omega
      have q4 : (x : Int).tmod 16 = ((x % 16 : Nat) : Int) := by rw [Int.tmod_eq_emod_of_nonneg (by omega)]; omega
      generalize hexC (x / 16) = ca at hst d1 l1
      generalize hexC (x % 16) = cb at hst d2 l2
      generalize x / 16 = xa at d1 q1 q3
      generalize x % 16 = xb at d2 q2 q4
      have hlt : (i : Int) < 32 := by omega
      have hno : ¬ (9223372036854775807 < 2 * i + 2) := by omega
      have q5 : IntKind.u8.wrap ((xa : Nat) : Int) = (xa : Int) := wraps_u8 _ (by omega) (by omega)
      have q6 : IntKind.u8.wrap ((xb : Nat) : Int) = (xb : Int) := wraps_u8 _ (by omega) (by omega)
      have HX := hidp hxx
      have H32 := hidp h32
      clear hxx h32 h0
      unfold digS at d1 d2
      go_wp2
      have hS0 : Hid (wr.drew.cell? ⟨w.heap.size, i, none⟩ = some (.int .u8 (x : Nat)) ∧ Blk wr.drew w.heap.size (bvs h) 26 ∧ Below w.heap.size w wr.drew) := by
        have hcell := (hr.out.1.drew.cell i).trans (bvs_get (by rw [HH.out.1]; exact H32.out))
        rw [HX.out] at hcell
        exact hidp ⟨hcell, hr.out.1.drew, hr.out.2.drew⟩
      refine wp_region_held_drew (S := fun w' => w'.cell? ⟨w.heap.size, i, none⟩ = some (.int .u8 (x : Nat)) ∧ Blk w' w.heap.size (bvs h) 26 ∧ Below w.heap.size w w') (by kernel_rfl) hS0.out (fun hHeld => ?_)
      have hS1 : Hid ((wr.drew.alloc (.cells #[.int .u8 (ca : Nat), .int .u8 (cb : Nat)] 5)).cell? ⟨w.heap.size, i, none⟩ = some (.int .u8 (x : Nat)) ∧ Blk (wr.drew.alloc (.cells #[.int .u8 (ca : Nat), .int .u8 (cb : Nat)] 5)) w.heap.size (bvs h) 26 ∧ Below w.heap.size w (wr.drew.alloc (.cells #[.int .u8 (ca : Nat), .int .u8 (cb : Nat)] 5))) := by
        have hb := hS0.out.2.1.alloc (.cells #[.int .u8 (ca : Nat), .int .u8 (cb : Nat)] 5)
        have hcell := (hb.cell i).trans (bvs_get (by rw [HH.out.1]; exact H32.out))
        rw [HX.out] at hcell
        exact hidp ⟨hcell, hb, hS0.out.2.2.alloc hS0.out.2.2.size _⟩
      have hcv := run_convert_whole (P := Try.prog) (wr.drew.alloc (.cells #[.int .u8 (ca : Nat), .int .u8 (cb : Nat)] 5)) 22 5 9 Try.underlying22 Try.underlying5 Try.underlying9 wr.drew.heap.size 0 (toB [ca, cb]) (by
        intro k hk
        have hk2 : k < 2 := by rw [toB_size] at hk; exact hk
        rw [toB_get (by intro z hz; simp only [List.mem_cons, List.not_mem_nil, or_false] at hz; rcases hz with rfl | rfl <;> omega) hk, Nat.zero_add]
        exact ((Blk.new wr.drew (bvs [ca, cb]) 5).cell k).trans (bvs_get hk2)) 2
      have hcv : (convert 22 9 (.slice (some ⟨wr.heap.size, 0, none⟩) 2 2)).run Try.prog (wr.alloc (.cells #[.int .u8 (ca : Nat), .int .u8 (cb : Nat)] 5)).drew = .ok (.string ⟨#[UInt8.ofNat ca, UInt8.ofNat cb]⟩) (wr.alloc (.cells #[.int .u8 (ca : Nat), .int .u8 (cb : Nat)] 5)).drew := hcv
      clear hr
      refine wpAnyH_takeTo (i := 0) (oi := _) (v := ?_) (some 9) rfl rfl (by kernel_rfl) (by kernel_rfl) (by kernel_rfl) (fun _ _ _ h => h) (Or.inl ⟨by rfl, ?_⟩) (by assumption) ?_
      rotate_left
      · intro w hSw
        have hcc := hSw.1
        go_simp
        try with_reducible rfl
      try simp only [Act.put, List.setIfInBounds_toArray, List.set_cons_zero, List.set_cons_succ]
      refine wpAnyH_takeTo (i := 1) (oi := _) (v := ?_) (some 10) rfl rfl (by kernel_rfl) (by kernel_rfl) (by kernel_rfl) (fun _ _ _ h => h) (Or.inl ⟨by rfl, ?_⟩) (by assumption) ?_
      rotate_left
      · intro w hSw
        have hcc := hSw.1
        go_simp
        try with_reducible rfl
      try simp only [Act.put, List.setIfInBounds_toArray, List.set_cons_zero, List.set_cons_succ]
      refine wpAnyH_takeTo (i := 2) (oi := _) (v := ?_) (some 11) rfl rfl (by kernel_rfl) (by kernel_rfl) (by kernel_rfl) (fun _ _ _ h => h) (Or.inl ⟨by rfl, ?_⟩) (by assumption) ?_
      rotate_left
      · intro w hSw
        have hcc := hSw.1
        go_simp
        try with_reducible rfl
      try simp only [Act.put, List.setIfInBounds_toArray, List.set_cons_zero, List.set_cons_succ]
      refine wpAnyH_takeTo (i := 3) (oi := _) (v := ?_) (some 12) rfl rfl (by kernel_rfl) (by kernel_rfl) (by kernel_rfl) (fun _ _ _ h => h) (Or.inl ⟨by rfl, ?_⟩) (by assumption) ?_
      rotate_left
      · intro w hSw
        have hcc := hSw.1
        go_simp
        try with_reducible rfl
      try simp only [Act.put, List.setIfInBounds_toArray, List.set_cons_zero, List.set_cons_succ]
      refine wpAnyH_takeTo (i := 4) (oi := _) (v := ?_) (some 13) rfl rfl (by kernel_rfl) (by kernel_rfl) (by kernel_rfl) (fun _ _ _ h => h) (Or.inl ⟨by rfl, ?_⟩) (by assumption) ?_
      rotate_left
      · intro w hSw
        have hcc := hSw.1
        go_simp
        try with_reducible rfl
      try simp only [Act.put, List.setIfInBounds_toArray, List.set_cons_zero, List.set_cons_succ]
      refine wpAnyH_takeTo (i := 5) (oi := _) (v := ?_) (some 14) rfl rfl (by kernel_rfl) (by kernel_rfl) (by kernel_rfl) (fun _ _ _ h => h) (Or.inl ⟨by rfl, ?_⟩) (by assumption) ?_
      rotate_left
      · intro w hSw
        have hcc := hSw.1
        go_simp
        try with_reducible rfl
      try simp only [Act.put, List.setIfInBounds_toArray, List.set_cons_zero, List.set_cons_succ]
      refine wpAnyH_takeTo (i := 6) (oi := _) (v := ?_) (some 15) rfl rfl (by kernel_rfl) (by kernel_rfl) (by kernel_rfl) (fun _ _ _ h => h) (Or.inl ⟨by rfl, ?_⟩) (by assumption) ?_
      rotate_left
      · intro w hSw
        have hcc := hSw.1
        go_simp
        try with_reducible rfl
      try simp only [Act.put, List.setIfInBounds_toArray, List.set_cons_zero, List.set_cons_succ]
      refine wpAnyH_takeTo (i := 7) (oi := _) (v := ?_) (some 16) rfl rfl (by kernel_rfl) (by kernel_rfl) (by kernel_rfl) (fun _ _ _ h => h) (Or.inl ⟨by rfl, ?_⟩) (by assumption) ?_
      rotate_left
      · intro w hSw
        have hcc := hSw.1
        go_simp
        try with_reducible rfl
      try simp only [Act.put, List.setIfInBounds_toArray, List.set_cons_zero, List.set_cons_succ]
      refine wpAnyH_takeTo (i := 8) (oi := _) (v := ?_) (some 17) rfl rfl (by kernel_rfl) (by kernel_rfl) (by kernel_rfl) (fun _ _ _ h => h) (Or.inl ⟨by rfl, ?_⟩) (by assumption) ?_
      rotate_left
      · intro w hSw
        have hcc := hSw.1
        go_simp
        try with_reducible rfl
      try simp only [Act.put, List.setIfInBounds_toArray, List.set_cons_zero, List.set_cons_succ]
      refine wpAnyH_takeTo (i := 9) (oi := _) (v := ?_) (some 18) rfl rfl (by kernel_rfl) (by kernel_rfl) (by kernel_rfl) (fun _ _ _ h => h) (Or.inl ⟨by rfl, ?_⟩) (by assumption) ?_
      rotate_left
      · intro w hSw
        have hcc := hSw.1
        go_simp
        try with_reducible rfl
      try simp only [Act.put, List.setIfInBounds_toArray, List.set_cons_zero, List.set_cons_succ]
      refine wpAnyH_takeTo (i := 10) (oi := _) (v := ?_) (some 19) rfl rfl (by kernel_rfl) (by kernel_rfl) (by kernel_rfl) (fun _ _ _ h => h) (Or.inl ⟨by rfl, ?_⟩) (by assumption) ?_
      rotate_left
      · intro w hSw
        have hcc := hSw.1
        go_simp
        try with_reducible rfl
      try simp only [Act.put, List.setIfInBounds_toArray, List.set_cons_zero, List.set_cons_succ]
      refine wpAnyH_ready (rs := [11]) (by kernel_rfl) (by simp) ?_
      refine AllReadyH.cons (o := _) rfl (fun K hK => ?_) AllReadyH.nil
      go_simp
      refine hK.out _ _ hS1.out (fun hHeld' => ?_)
      clear hK K hHeld
      have hHeld := hHeld'
      clear hHeld'
      try simp only [Act.put, List.setIfInBounds_toArray, List.set_cons_zero, List.set_cons_succ]
      refine wpAnyH_ready (rs := [12]) (by kernel_rfl) (by simp) ?_
      refine AllReadyH.cons (o := _) rfl (fun K hK => ?_) AllReadyH.nil
      go_simp
      refine hK.out _ _ hS1.out (fun hHeld' => ?_)
      clear hK K hHeld
      have hHeld := hHeld'
      clear hHeld'
      try simp only [Act.put, List.setIfInBounds_toArray, List.set_cons_zero, List.set_cons_succ]
      refine wpAnyH_takeTo (i := 13) (oi := _) (v := ?_) (some 22) rfl rfl (by kernel_rfl) (by kernel_rfl) (by kernel_rfl) (fun _ _ _ h => h) (Or.inl ⟨by rfl, ?_⟩) (by assumption) ?_
      rotate_left
      · intro w hSw
        have hcc := hSw.1
        go_simp
        try with_reducible rfl
      try simp only [Act.put, List.setIfInBounds_toArray, List.set_cons_zero, List.set_cons_succ]
      refine wpAnyH_takeTo (i := 14) (oi := _) (v := ?_) (some 3) rfl rfl (by kernel_rfl) (by kernel_rfl) (by kernel_rfl) (fun _ _ _ h => h) (Or.inl ⟨by rfl, ?_⟩) (by assumption) ?_
      rotate_left
      · intro w hSw
        have hcc := hSw.1
        go_simp
        try with_reducible rfl
      try simp only [Act.put, List.setIfInBounds_toArray, List.set_cons_zero, List.set_cons_succ]
      refine wpAnyH_done (by kernel_rfl) ?_ _
      go_wp2
      refine ⟨⟨i + 1, by have := H32.out; omega, by go_num, by rw [← hst.out], hidp hS1.out.2⟩, by have := H32.out; simp [RowKit.intOf]; omega⟩
    · obtain rfl : i = 32 := by omega
      have ha := hidp (headT_all h)
      go_wp2
      go_ret
      exact ⟨by rw [← ha.out]; rfl, hr.out.2⟩
end Go.Proofs.Ythcgenlhblbjaaa
