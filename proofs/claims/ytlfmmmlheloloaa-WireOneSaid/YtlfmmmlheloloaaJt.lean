/-
  Contracts: writers and readers that nobody made.
-/
import Derived.Test.YtlfmmmlheloloaaJs
namespace Go.Proofs.Ytlfmmmlheloloaa
open Go.RowKit Go.Lib Go.Maps

set_option maxRecDepth 20000 in
theorem wHash_bad {w : World} {x : Value} (h : BadW w x) (a : List Nat) (_ha : a.length = 32) : Calls Try.prog 71 #[x, .agg (bvs a).toArray] w (BadP w) := by
  have HR := hidp (fun (w' : World) (hB : Below w.heap.size w w') (s : Value) => put_bad (h.below hB) s)
  have hsl := fun w' => run_sliceAt_all (P := Try.prog) (t := 34) (e := 5) (n := 32) Try.underlying34 (by kernel_rfl) (by decide) w.heap.size 0 w'
  clear h
  go_enter Try.func71, Try.ntmps71
  go_wp2_with fail
  refine (HR.out _ (((Below.refl _ w).alloc (Nat.le_refl _) _).alloc (by simp) _) _).mono ?_
  rintro e w2 ⟨rfl, rfl⟩
  go_wp2
  go_ret
  exact ⟨rfl, by (repeat' (first | (with_reducible exact Below.refl _ _) | (with_reducible refine Below.alloc ?_ ?_ _) | (with_reducible refine Below.drew ?_) | (with_reducible refine Below.drewN ?_ _) | (with_reducible refine Below.setCell ?_ ?_ _) | go_size))⟩

set_option maxRecDepth 20000 in
theorem wKey_bad {w : World} {x : Value} (h : BadW w x) (a : List Nat) (_ha : a.length = 4) : Calls Try.prog 72 #[x, .agg (bvs a).toArray] w (BadP w) := by
  have HR := hidp (fun (w' : World) (hB : Below w.heap.size w w') (s : Value) => put_bad (h.below hB) s)
  have hsl := fun w' => run_sliceAt_all (P := Try.prog) (t := 36) (e := 5) (n := 4) Try.underlying36 (by kernel_rfl) (by decide) w.heap.size 0 w'
  clear h
  go_enter Try.func72, Try.ntmps72
  go_wp2_with fail
  refine (HR.out _ (((Below.refl _ w).alloc (Nat.le_refl _) _).alloc (by simp) _) _).mono ?_
  rintro e w2 ⟨rfl, rfl⟩
  go_wp2
  go_ret
  exact ⟨rfl, by (repeat' (first | (with_reducible exact Below.refl _ _) | (with_reducible refine Below.alloc ?_ ?_ _) | (with_reducible refine Below.drew ?_) | (with_reducible refine Below.drewN ?_ _) | (with_reducible refine Below.setCell ?_ ?_ _) | go_size))⟩

set_option maxRecDepth 20000 in
set_option maxHeartbeats 4000000 in
theorem wWord_bad {w : World} {x : Value} (h : BadW w x) (n : Nat) (hn : n < 18446744073709551616) : Calls Try.prog 67 #[x, .int .u64 (n : Nat)] w (BadP w) := by
  have HR := hidp (fun (w' : World) (hB : Below w.heap.size w w') (s : Value) => put_bad (h.below hB) s)
  have h0 := hidp (Blk.new w (bvs (formW n 0)) 171)
  have hB := hidp ((Below.refl _ w).alloc (Nat.le_refl _) (.cells (bvs (formW n 0)).toArray 171))
  rw [formW_zero] at h0 hB
  clear h
  go_enter Try.func67, Try.ntmps67
  go_wp2
  go_loopw [7] (fun x wr => ∃ i : Nat, i ≤ 8 ∧ x = .int .i64 i ∧ Hid (Blk wr w.heap.size (bvs (formW n i)) 171 ∧ Below w.heap.size w wr)) (fun x _ => 8 - (Go.RowKit.intOf x).toNat)
  case atStart => exact ⟨0, by omega, rfl, by rw [formW_zero]; exact hidp ⟨h0.out, hB.out⟩⟩
  case round =>
    obtain ⟨i, hi, rfl, hr⟩ := hrel
    by_cases hik : i < 8
    · have hset := hidp (formW_set n hik)
      obtain ⟨vo, ho⟩ : ∃ v, wr.cell? ⟨w.heap.size, 7 - i, none⟩ = some v := ⟨_, (hr.out.1.cell (7 - i)).trans (bvs_get (by rw [formW_len]; omega))⟩
      have hfree := hr.out.1.free (7 - i)
      have h8 : i = 0 ∨ i = 1 ∨ i = 2 ∨ i = 3 ∨ i = 4 ∨ i = 5 ∨ i = 6 ∨ i = 7 := by omega
      clear h0 hB hi hik
      rcases h8 with rfl | rfl | rfl | rfl | rfl | rfl | rfl | rfl
      · simp only [Int.cast_ofNat_Int]
        have hv : Hid (((n / 256 ^ 0 % 256 : Nat) : Int) = (n : Int) % 256) := hidp (by omega)
        go_wp2
        refine ⟨⟨0 + 1, by omega, rfl, ?_⟩, by simp [Go.RowKit.intOf]⟩
        rw [← hset.out]
        have hE := hv.out
        try rw [← hE]
        exact hidp ⟨bvs_set _ _ _ ▸ hr.out.1.set _ _, hr.out.2.setCell (by simp) _⟩
      · simp only [Int.cast_ofNat_Int]
        have hv : Hid (((n / 256 ^ 1 % 256 : Nat) : Int) = (n : Int) / 256 % 256) := hidp (by omega)
        go_wp2
        refine ⟨⟨1 + 1, by omega, rfl, ?_⟩, by simp [Go.RowKit.intOf]⟩
        rw [← hset.out]
        have hE := hv.out
        try rw [← hE]
        exact hidp ⟨bvs_set _ _ _ ▸ hr.out.1.set _ _, hr.out.2.setCell (by simp) _⟩
      · simp only [Int.cast_ofNat_Int]
        have hv : Hid (((n / 256 ^ 2 % 256 : Nat) : Int) = (n : Int) / 65536 % 256) := hidp (by omega)
        go_wp2
        refine ⟨⟨2 + 1, by omega, rfl, ?_⟩, by simp [Go.RowKit.intOf]⟩
        rw [← hset.out]
        have hE := hv.out
        try rw [← hE]
        exact hidp ⟨bvs_set _ _ _ ▸ hr.out.1.set _ _, hr.out.2.setCell (by simp) _⟩
      · simp only [Int.cast_ofNat_Int]
        have hv : Hid (((n / 256 ^ 3 % 256 : Nat) : Int) = (n : Int) / 16777216 % 256) := hidp (by omega)
        go_wp2
        refine ⟨⟨3 + 1, by omega, rfl, ?_⟩, by simp [Go.RowKit.intOf]⟩
        rw [← hset.out]
        have hE := hv.out
        try rw [← hE]
        exact hidp ⟨bvs_set _ _ _ ▸ hr.out.1.set _ _, hr.out.2.setCell (by simp) _⟩
      · simp only [Int.cast_ofNat_Int]
        have hv : Hid (((n / 256 ^ 4 % 256 : Nat) : Int) = (n : Int) / 4294967296 % 256) := hidp (by omega)
        go_wp2
        refine ⟨⟨4 + 1, by omega, rfl, ?_⟩, by simp [Go.RowKit.intOf]⟩
        rw [← hset.out]
        have hE := hv.out
        try rw [← hE]
        exact hidp ⟨bvs_set _ _ _ ▸ hr.out.1.set _ _, hr.out.2.setCell (by simp) _⟩
      · simp only [Int.cast_ofNat_Int]
        have hv : Hid (((n / 256 ^ 5 % 256 : Nat) : Int) = (n : Int) / 1099511627776 % 256) := hidp (by omega)
        go_wp2
        refine ⟨⟨5 + 1, by omega, rfl, ?_⟩, by simp [Go.RowKit.intOf]⟩
        rw [← hset.out]
        have hE := hv.out
        try rw [← hE]
        exact hidp ⟨bvs_set _ _ _ ▸ hr.out.1.set _ _, hr.out.2.setCell (by simp) _⟩
      · simp only [Int.cast_ofNat_Int]
        have hv : Hid (((n / 256 ^ 6 % 256 : Nat) : Int) = (n : Int) / 281474976710656 % 256) := hidp (by omega)
        go_wp2
        refine ⟨⟨6 + 1, by omega, rfl, ?_⟩, by simp [Go.RowKit.intOf]⟩
        rw [← hset.out]
        have hE := hv.out
        try rw [← hE]
        exact hidp ⟨bvs_set _ _ _ ▸ hr.out.1.set _ _, hr.out.2.setCell (by simp) _⟩
      · simp only [Int.cast_ofNat_Int]
        have hv : Hid (((n / 256 ^ 7 % 256 : Nat) : Int) = (n : Int) / 72057594037927936) := hidp (by omega)
        go_wp2
        refine ⟨⟨7 + 1, by omega, rfl, ?_⟩, by simp [Go.RowKit.intOf]⟩
        rw [← hset.out]
        have hE := hv.out
        try rw [← hE]
        exact hidp ⟨bvs_set _ _ _ ▸ hr.out.1.set _ _, hr.out.2.setCell (by simp) _⟩
    · obtain rfl : i = 8 := by omega
      simp only [Int.cast_ofNat_Int]
      have hsl := fun w' => run_sliceAt_all (P := Try.prog) (t := 171) (e := 5) (n := 8) Try.underlying171 (by kernel_rfl) (by decide) w.heap.size 0 w'
      clear h0 hB hi hik
      go_wp2_with fail
      have hb := hr.out.2.alloc hr.out.2.size (.cells #[.slice (some ⟨w.heap.size, 0, none⟩) 8 8] 32)
      refine (HR.out _ hb _).mono ?_
      rintro e w2 ⟨rfl, rfl⟩
      replace hb := hidp hb
      clear hsl
      go_wp2
      go_ret
      exact ⟨rfl, hb.out⟩
theorem formN_lt (x : Nat) (h : x < 18446744073709551616) : formN x < 18446744073709551616 := by
  unfold formN nanForm
  split <;> omega
set_option maxRecDepth 20000 in
theorem wPace_bad {w : World} {x : Value} (h : BadW w x) (n : Nat) (hn : n < 18446744073709551616) : Calls Try.prog 73 #[x, .float .f64 n] w (BadP w) := by
  have HB := hidp (fun w' => Bits_any n w')
  have HW := hidp (wWord_bad h (formN n) (formN_lt n hn))
  clear h hn
  go_enter Try.func73, Try.ntmps73
  go_wp2_with (go_at_call 140; refine (HB.out _).mono ?_; rintro e w1 ⟨rfl, rfl⟩)
  refine HW.out.mono ?_
  rintro e w2 ⟨rfl, hB⟩
  replace hB := hidp hB
  go_wp2
  go_ret
  exact ⟨rfl, hB.out⟩

/-! Readers that nobody made. -/
def BadR (w : World) (x : Value) : Prop := x = .pointer none ∨ ∃ g, x = .pointer (some ⟨g, 0, none⟩) ∧ w.cell? ⟨g, 0, none⟩ = some (.pointer none)
theorem BadR.below {w w' : World} {x : Value} (h : BadR w x) (hB : Below w.heap.size w w') : BadR w' x := by
  rcases h with h | ⟨g, h, hc⟩
  · exact .inl h
  · exact .inr ⟨g, h, (hB.cell (cell_lt hc)).trans hc⟩
theorem valid_bad {w : World} {x : Value} (h : BadR w x) : Calls Try.prog 94 #[x] w fun e w' => e = .returned (.bool false) ∧ w = w' := by
  rcases h with rfl | ⟨g, rfl, hc⟩
  · exact valid_nil w
  · exact valid_no hc
theorem BadR.cellV {w : World} {x : Value} (h : BadR w x) : x.oneCell' = true := by
  rcases h with rfl | ⟨g, rfl, _⟩ <;> rfl

set_option maxRecDepth 20000 in
theorem elemNum_bad {w : World} {x : Value} (h : BadR w x) (f : Value) : Calls Try.prog 95 #[x, f] w fun e w' => e = .returned (.int .i64 0) ∧ Below w.heap.size w w' := by
  have hmf : ∀ (fn : Fn) (first cap : Array Value) (w : World), (Instr.makeFunc fn first cap).run Try.prog w = .ok (.func fn first cap) w := fun _ _ _ _ => rfl
  have HV := hidp (fun (w' : World) (hB : Below w.heap.size w w') => valid_bad (h.below hB))
  rcases h with rfl | ⟨g, rfl, hc⟩
  · go_enter_defers Try.func95, Try.ntmps95
    go_wp2_with (go_at_call 94; refine (HV.out _ (by (repeat' (first | (with_reducible exact Below.refl _ _) | (with_reducible refine Below.alloc ?_ ?_ _) | (with_reducible refine Below.drew ?_) | (with_reducible refine Below.drewN ?_ _) | (with_reducible refine Below.setCell ?_ ?_ _) | go_size)))).mono ?_; rintro e wx ⟨rfl, rfl⟩)
    exact ⟨_, results_tmp rfl _ _ _, rfl, by (repeat' (first | (with_reducible exact Below.refl _ _) | (with_reducible refine Below.alloc ?_ ?_ _) | (with_reducible refine Below.drew ?_) | (with_reducible refine Below.drewN ?_ _) | (with_reducible refine Below.setCell ?_ ?_ _) | go_size))⟩
  · clear hc
    go_enter_defers Try.func95, Try.ntmps95
    go_wp2_with (go_at_call 94; refine (HV.out _ (by (repeat' (first | (with_reducible exact Below.refl _ _) | (with_reducible refine Below.alloc ?_ ?_ _) | (with_reducible refine Below.drew ?_) | (with_reducible refine Below.drewN ?_ _) | (with_reducible refine Below.setCell ?_ ?_ _) | go_size)))).mono ?_; rintro e wx ⟨rfl, rfl⟩)
    exact ⟨_, results_tmp rfl _ _ _, rfl, by (repeat' (first | (with_reducible exact Below.refl _ _) | (with_reducible refine Below.alloc ?_ ?_ _) | (with_reducible refine Below.drew ?_) | (with_reducible refine Below.drewN ?_ _) | (with_reducible refine Below.setCell ?_ ?_ _) | go_size))⟩

set_option maxRecDepth 20000 in
theorem mNum_bad {w : World} {x : Value} (h : BadR w x) : Calls Try.prog 33 #[x] w fun e w' => e = .returned (.int .i64 0) ∧ Below w.heap.size w w' := by
  have HE := hidp (fun f => elemNum_bad h f)
  clear h
  go_enter Try.func33, Try.ntmps33
  go_wp2_with fail
  refine (HE.out _).mono ?_
  rintro e w1 ⟨rfl, h1⟩
  have HX := hidp h1
  clear h1
  go_wp2
  go_ret
  exact ⟨rfl, HX.out⟩

set_option maxRecDepth 20000 in
theorem elemText_bad {w : World} {x : Value} (h : BadR w x) (f : Value) : Calls Try.prog 97 #[x, f] w fun e w' => e = .returned (.string ⟨#[]⟩) ∧ Below w.heap.size w w' := by
  have hmf : ∀ (fn : Fn) (first cap : Array Value) (w : World), (Instr.makeFunc fn first cap).run Try.prog w = .ok (.func fn first cap) w := fun _ _ _ _ => rfl
  have HV := hidp (fun (w' : World) (hB : Below w.heap.size w w') => valid_bad (h.below hB))
  rcases h with rfl | ⟨g, rfl, hc⟩
  · go_enter_defers Try.func97, Try.ntmps97
    go_wp2_with (go_at_call 94; refine (HV.out _ (by (repeat' (first | (with_reducible exact Below.refl _ _) | (with_reducible refine Below.alloc ?_ ?_ _) | (with_reducible refine Below.drew ?_) | (with_reducible refine Below.drewN ?_ _) | (with_reducible refine Below.setCell ?_ ?_ _) | go_size)))).mono ?_; rintro e wx ⟨rfl, rfl⟩)
    exact ⟨_, results_tmp rfl _ _ _, rfl, by (repeat' (first | (with_reducible exact Below.refl _ _) | (with_reducible refine Below.alloc ?_ ?_ _) | (with_reducible refine Below.drew ?_) | (with_reducible refine Below.drewN ?_ _) | (with_reducible refine Below.setCell ?_ ?_ _) | go_size))⟩
  · clear hc
    go_enter_defers Try.func97, Try.ntmps97
    go_wp2_with (go_at_call 94; refine (HV.out _ (by (repeat' (first | (with_reducible exact Below.refl _ _) | (with_reducible refine Below.alloc ?_ ?_ _) | (with_reducible refine Below.drew ?_) | (with_reducible refine Below.drewN ?_ _) | (with_reducible refine Below.setCell ?_ ?_ _) | go_size)))).mono ?_; rintro e wx ⟨rfl, rfl⟩)
    exact ⟨_, results_tmp rfl _ _ _, rfl, by (repeat' (first | (with_reducible exact Below.refl _ _) | (with_reducible refine Below.alloc ?_ ?_ _) | (with_reducible refine Below.drew ?_) | (with_reducible refine Below.drewN ?_ _) | (with_reducible refine Below.setCell ?_ ?_ _) | go_size))⟩

set_option maxRecDepth 20000 in
theorem mText_bad {w : World} {x : Value} (h : BadR w x) (most : Int) : Calls Try.prog 34 #[x, .int .i64 most] w fun e w' => e = .returned (.string ⟨#[]⟩) ∧ Below w.heap.size w w' := by
  have hmf : ∀ (fn : Fn) (first cap : Array Value) (w : World), (Instr.makeFunc fn first cap).run Try.prog w = .ok (.func fn first cap) w := fun _ _ _ _ => rfl
  have HB : Hid (Below w.heap.size w (w.alloc (.cells #[.int .i64 most] 3))) := hidp ((Below.refl _ w).alloc (Nat.le_refl _) _)
  have HE := hidp (fun f => elemText_bad (h.below HB.out) f)
  clear h
  go_enter Try.func34, Try.ntmps34
  go_wp2_with fail
  refine (HE.out _).mono ?_
  rintro e w1 ⟨rfl, h1⟩
  have HX := hidp (btrans HB.out h1)
  clear h1 HE HB
  go_wp2
  go_ret
  exact ⟨rfl, HX.out⟩

set_option maxRecDepth 20000 in
theorem elemBytes_bad {w : World} {x : Value} (h : BadR w x) (f : Value) : Calls Try.prog 102 #[x, f] w fun e w' => e = .returned (.slice none 0 0) ∧ Below w.heap.size w w' := by
  have hmf : ∀ (fn : Fn) (first cap : Array Value) (w : World), (Instr.makeFunc fn first cap).run Try.prog w = .ok (.func fn first cap) w := fun _ _ _ _ => rfl
  have HV := hidp (fun (w' : World) (hB : Below w.heap.size w w') => valid_bad (h.below hB))
  rcases h with rfl | ⟨g, rfl, hc⟩
  · go_enter_defers Try.func102, Try.ntmps102
    go_wp2_with (go_at_call 94; refine (HV.out _ (by (repeat' (first | (with_reducible exact Below.refl _ _) | (with_reducible refine Below.alloc ?_ ?_ _) | (with_reducible refine Below.drew ?_) | (with_reducible refine Below.drewN ?_ _) | (with_reducible refine Below.setCell ?_ ?_ _) | go_size)))).mono ?_; rintro e wx ⟨rfl, rfl⟩)
    exact ⟨_, results_tmp rfl _ _ _, rfl, by (repeat' (first | (with_reducible exact Below.refl _ _) | (with_reducible refine Below.alloc ?_ ?_ _) | (with_reducible refine Below.drew ?_) | (with_reducible refine Below.drewN ?_ _) | (with_reducible refine Below.setCell ?_ ?_ _) | go_size))⟩
  · clear hc
    go_enter_defers Try.func102, Try.ntmps102
    go_wp2_with (go_at_call 94; refine (HV.out _ (by (repeat' (first | (with_reducible exact Below.refl _ _) | (with_reducible refine Below.alloc ?_ ?_ _) | (with_reducible refine Below.drew ?_) | (with_reducible refine Below.drewN ?_ _) | (with_reducible refine Below.setCell ?_ ?_ _) | go_size)))).mono ?_; rintro e wx ⟨rfl, rfl⟩)
    exact ⟨_, results_tmp rfl _ _ _, rfl, by (repeat' (first | (with_reducible exact Below.refl _ _) | (with_reducible refine Below.alloc ?_ ?_ _) | (with_reducible refine Below.drew ?_) | (with_reducible refine Below.drewN ?_ _) | (with_reducible refine Below.setCell ?_ ?_ _) | go_size))⟩

set_option maxRecDepth 20000 in
theorem mBytes_bad {w : World} {x : Value} (h : BadR w x) (most : Int) : Calls Try.prog 35 #[x, .int .i64 most] w fun e w' => e = .returned (.slice none 0 0) ∧ Below w.heap.size w w' := by
  have hmf : ∀ (fn : Fn) (first cap : Array Value) (w : World), (Instr.makeFunc fn first cap).run Try.prog w = .ok (.func fn first cap) w := fun _ _ _ _ => rfl
  have HB : Hid (Below w.heap.size w (w.alloc (.cells #[.int .i64 most] 3))) := hidp ((Below.refl _ w).alloc (Nat.le_refl _) _)
  have HE := hidp (fun f => elemBytes_bad (h.below HB.out) f)
  clear h
  go_enter Try.func35, Try.ntmps35
  go_wp2_with fail
  refine (HE.out _).mono ?_
  rintro e w1 ⟨rfl, h1⟩
  have HX := hidp (btrans HB.out h1)
  clear h1 HE HB
  go_wp2
  go_ret
  exact ⟨rfl, HX.out⟩

set_option maxRecDepth 20000 in
theorem elemWord_bad {w : World} {x : Value} (h : BadR w x) (f : Value) : Calls Try.prog 113 #[x, f] w fun e w' => e = .returned (.int .u64 0) ∧ Below w.heap.size w w' := by
  have hmf : ∀ (fn : Fn) (first cap : Array Value) (w : World), (Instr.makeFunc fn first cap).run Try.prog w = .ok (.func fn first cap) w := fun _ _ _ _ => rfl
  have HV := hidp (fun (w' : World) (hB : Below w.heap.size w w') => valid_bad (h.below hB))
  rcases h with rfl | ⟨g, rfl, hc⟩
  · go_enter_defers Try.func113, Try.ntmps113
    go_wp2_with (go_at_call 94; refine (HV.out _ (by (repeat' (first | (with_reducible exact Below.refl _ _) | (with_reducible refine Below.alloc ?_ ?_ _) | (with_reducible refine Below.drew ?_) | (with_reducible refine Below.drewN ?_ _) | (with_reducible refine Below.setCell ?_ ?_ _) | go_size)))).mono ?_; rintro e wx ⟨rfl, rfl⟩)
    exact ⟨_, results_tmp rfl _ _ _, rfl, by (repeat' (first | (with_reducible exact Below.refl _ _) | (with_reducible refine Below.alloc ?_ ?_ _) | (with_reducible refine Below.drew ?_) | (with_reducible refine Below.drewN ?_ _) | (with_reducible refine Below.setCell ?_ ?_ _) | go_size))⟩
  · clear hc
    go_enter_defers Try.func113, Try.ntmps113
    go_wp2_with (go_at_call 94; refine (HV.out _ (by (repeat' (first | (with_reducible exact Below.refl _ _) | (with_reducible refine Below.alloc ?_ ?_ _) | (with_reducible refine Below.drew ?_) | (with_reducible refine Below.drewN ?_ _) | (with_reducible refine Below.setCell ?_ ?_ _) | go_size)))).mono ?_; rintro e wx ⟨rfl, rfl⟩)
    exact ⟨_, results_tmp rfl _ _ _, rfl, by (repeat' (first | (with_reducible exact Below.refl _ _) | (with_reducible refine Below.alloc ?_ ?_ _) | (with_reducible refine Below.drew ?_) | (with_reducible refine Below.drewN ?_ _) | (with_reducible refine Below.setCell ?_ ?_ _) | go_size))⟩

set_option maxRecDepth 20000 in
theorem mWord_bad {w : World} {x : Value} (h : BadR w x) : Calls Try.prog 38 #[x] w fun e w' => e = .returned (.int .u64 0) ∧ Below w.heap.size w w' := by
  have HE := hidp (fun f => elemWord_bad h f)
  clear h
  go_enter Try.func38, Try.ntmps38
  go_wp2_with fail
  refine (HE.out _).mono ?_
  rintro e w1 ⟨rfl, h1⟩
  have HX := hidp h1
  clear h1
  go_wp2
  go_ret
  exact ⟨rfl, HX.out⟩

set_option maxRecDepth 20000 in
theorem elemPace_bad {w : World} {x : Value} (h : BadR w x) (f : Value) : Calls Try.prog 117 #[x, f] w fun e w' => e = .returned (.float .f64 0) ∧ Below w.heap.size w w' := by
  have hmf : ∀ (fn : Fn) (first cap : Array Value) (w : World), (Instr.makeFunc fn first cap).run Try.prog w = .ok (.func fn first cap) w := fun _ _ _ _ => rfl
  have HV := hidp (fun (w' : World) (hB : Below w.heap.size w w') => valid_bad (h.below hB))
  rcases h with rfl | ⟨g, rfl, hc⟩
  · go_enter_defers Try.func117, Try.ntmps117
    go_wp2_with (go_at_call 94; refine (HV.out _ (by (repeat' (first | (with_reducible exact Below.refl _ _) | (with_reducible refine Below.alloc ?_ ?_ _) | (with_reducible refine Below.drew ?_) | (with_reducible refine Below.drewN ?_ _) | (with_reducible refine Below.setCell ?_ ?_ _) | go_size)))).mono ?_; rintro e wx ⟨rfl, rfl⟩)
    exact ⟨_, results_tmp rfl _ _ _, rfl, by (repeat' (first | (with_reducible exact Below.refl _ _) | (with_reducible refine Below.alloc ?_ ?_ _) | (with_reducible refine Below.drew ?_) | (with_reducible refine Below.drewN ?_ _) | (with_reducible refine Below.setCell ?_ ?_ _) | go_size))⟩
  · clear hc
    go_enter_defers Try.func117, Try.ntmps117
    go_wp2_with (go_at_call 94; refine (HV.out _ (by (repeat' (first | (with_reducible exact Below.refl _ _) | (with_reducible refine Below.alloc ?_ ?_ _) | (with_reducible refine Below.drew ?_) | (with_reducible refine Below.drewN ?_ _) | (with_reducible refine Below.setCell ?_ ?_ _) | go_size)))).mono ?_; rintro e wx ⟨rfl, rfl⟩)
    exact ⟨_, results_tmp rfl _ _ _, rfl, by (repeat' (first | (with_reducible exact Below.refl _ _) | (with_reducible refine Below.alloc ?_ ?_ _) | (with_reducible refine Below.drew ?_) | (with_reducible refine Below.drewN ?_ _) | (with_reducible refine Below.setCell ?_ ?_ _) | go_size))⟩

set_option maxRecDepth 20000 in
theorem mPace_bad {w : World} {x : Value} (h : BadR w x) : Calls Try.prog 39 #[x] w fun e w' => e = .returned (.float .f64 0) ∧ Below w.heap.size w w' := by
  have HE := hidp (fun f => elemPace_bad h f)
  clear h
  go_enter Try.func39, Try.ntmps39
  go_wp2_with fail
  refine (HE.out _).mono ?_
  rintro e w1 ⟨rfl, h1⟩
  have HX := hidp h1
  clear h1
  go_wp2
  go_ret
  exact ⟨rfl, HX.out⟩

set_option maxRecDepth 20000 in
theorem elemBool_bad {w : World} {x : Value} (h : BadR w x) (f : Value) : Calls Try.prog 121 #[x, f] w fun e w' => e = .returned (.bool false) ∧ Below w.heap.size w w' := by
  have hmf : ∀ (fn : Fn) (first cap : Array Value) (w : World), (Instr.makeFunc fn first cap).run Try.prog w = .ok (.func fn first cap) w := fun _ _ _ _ => rfl
  have HV := hidp (fun (w' : World) (hB : Below w.heap.size w w') => valid_bad (h.below hB))
  rcases h with rfl | ⟨g, rfl, hc⟩
  · go_enter_defers Try.func121, Try.ntmps121
    go_wp2_with (go_at_call 94; refine (HV.out _ (by (repeat' (first | (with_reducible exact Below.refl _ _) | (with_reducible refine Below.alloc ?_ ?_ _) | (with_reducible refine Below.drew ?_) | (with_reducible refine Below.drewN ?_ _) | (with_reducible refine Below.setCell ?_ ?_ _) | go_size)))).mono ?_; rintro e wx ⟨rfl, rfl⟩)
    exact ⟨_, results_tmp rfl _ _ _, rfl, by (repeat' (first | (with_reducible exact Below.refl _ _) | (with_reducible refine Below.alloc ?_ ?_ _) | (with_reducible refine Below.drew ?_) | (with_reducible refine Below.drewN ?_ _) | (with_reducible refine Below.setCell ?_ ?_ _) | go_size))⟩
  · clear hc
    go_enter_defers Try.func121, Try.ntmps121
    go_wp2_with (go_at_call 94; refine (HV.out _ (by (repeat' (first | (with_reducible exact Below.refl _ _) | (with_reducible refine Below.alloc ?_ ?_ _) | (with_reducible refine Below.drew ?_) | (with_reducible refine Below.drewN ?_ _) | (with_reducible refine Below.setCell ?_ ?_ _) | go_size)))).mono ?_; rintro e wx ⟨rfl, rfl⟩)
    exact ⟨_, results_tmp rfl _ _ _, rfl, by (repeat' (first | (with_reducible exact Below.refl _ _) | (with_reducible refine Below.alloc ?_ ?_ _) | (with_reducible refine Below.drew ?_) | (with_reducible refine Below.drewN ?_ _) | (with_reducible refine Below.setCell ?_ ?_ _) | go_size))⟩

set_option maxRecDepth 20000 in
theorem mBool_bad {w : World} {x : Value} (h : BadR w x) : Calls Try.prog 40 #[x] w fun e w' => e = .returned (.bool false) ∧ Below w.heap.size w w' := by
  have HE := hidp (fun f => elemBool_bad h f)
  clear h
  go_enter Try.func40, Try.ntmps40
  go_wp2_with fail
  refine (HE.out _).mono ?_
  rintro e w1 ⟨rfl, h1⟩
  have HX := hidp h1
  clear h1
  go_wp2
  go_ret
  exact ⟨rfl, HX.out⟩

set_option maxRecDepth 20000 in
theorem elemHash_bad {w : World} {x : Value} (h : BadR w x) (f : Value) : Calls Try.prog 105 #[x, f] w fun e w' => e = .returned (.agg (bvs (List.replicate 32 0)).toArray) ∧ Below w.heap.size w w' := by
  have hmf : ∀ (fn : Fn) (first cap : Array Value) (w : World), (Instr.makeFunc fn first cap).run Try.prog w = .ok (.func fn first cap) w := fun _ _ _ _ => rfl
  have HV := hidp (fun (w' : World) (hB : Below w.heap.size w w') => valid_bad (h.below hB))
  have HZ1 := hidp ((Blk.new' (w.alloc (.cells #[x] 48)) (bvs (List.replicate 32 0)) 34 (w.heap.size + 1) (by simp)).alloc (.cells (bvs (List.replicate 32 0)).toArray 34))
  have HZ2 := hidp (Blk.new' ((w.alloc (.cells #[x] 48)).alloc (.cells (bvs (List.replicate 32 0)).toArray 34)) (bvs (List.replicate 32 0)) 34 (w.heap.size + 1 + 1) (by simp))
  rcases h with rfl | ⟨g, rfl, hc⟩
  · go_enter_defers Try.func105, Try.ntmps105
    go_wp2_with (first | (go_at_call 94; refine (HV.out _ (by (repeat' (first | (with_reducible exact Below.refl _ _) | (with_reducible refine Below.alloc ?_ ?_ _) | (with_reducible refine Below.drew ?_) | (with_reducible refine Below.drewN ?_ _) | (with_reducible refine Below.setCell ?_ ?_ _) | go_size)))).mono ?_; rintro e wx ⟨rfl, rfl⟩) | refine wpList_load_blk rfl 34 _ rfl _ _ 34 rfl HZ2.out _ Try.underlying34 rfl (by kernel_rfl) ?_ | (refine wpList_store_blk rfl 34 _ _ rfl _ (bvs (List.replicate 32 0)) (bvs (List.replicate 32 0)) 34 rfl rfl HZ1.out (by kernel_rfl) rfl (bvs_one _) ?_; intro w6 hw6))
    have b2 : Blk w6 (w.heap.size + 1) (bvs (List.replicate 32 0)) 34 := by rw [hw6.out]; exact HZ1.out.row
    refine ⟨.agg (bvs (List.replicate 32 0)).toArray, results_cell_row Try.results105 _ _ (w.heap.size + 1) 34 _ (0, 0) _ rfl b2 Try.underlying34 rfl (by kernel_rfl), rfl, ?_⟩
    rw [hw6.out]
    exact below_setRow (by (repeat' (first | (with_reducible exact Below.refl _ _) | (with_reducible refine Below.alloc ?_ ?_ _) | (with_reducible refine Below.drew ?_) | (with_reducible refine Below.drewN ?_ _) | (with_reducible refine Below.setCell ?_ ?_ _) | go_size))) (by omega) _
  · clear hc
    go_enter_defers Try.func105, Try.ntmps105
    go_wp2_with (first | (go_at_call 94; refine (HV.out _ (by (repeat' (first | (with_reducible exact Below.refl _ _) | (with_reducible refine Below.alloc ?_ ?_ _) | (with_reducible refine Below.drew ?_) | (with_reducible refine Below.drewN ?_ _) | (with_reducible refine Below.setCell ?_ ?_ _) | go_size)))).mono ?_; rintro e wx ⟨rfl, rfl⟩) | refine wpList_load_blk rfl 34 _ rfl _ _ 34 rfl HZ2.out _ Try.underlying34 rfl (by kernel_rfl) ?_ | (refine wpList_store_blk rfl 34 _ _ rfl _ (bvs (List.replicate 32 0)) (bvs (List.replicate 32 0)) 34 rfl rfl HZ1.out (by kernel_rfl) rfl (bvs_one _) ?_; intro w6 hw6))
    have b2 : Blk w6 (w.heap.size + 1) (bvs (List.replicate 32 0)) 34 := by rw [hw6.out]; exact HZ1.out.row
    refine ⟨.agg (bvs (List.replicate 32 0)).toArray, results_cell_row Try.results105 _ _ (w.heap.size + 1) 34 _ (0, 0) _ rfl b2 Try.underlying34 rfl (by kernel_rfl), rfl, ?_⟩
    rw [hw6.out]
    exact below_setRow (by (repeat' (first | (with_reducible exact Below.refl _ _) | (with_reducible refine Below.alloc ?_ ?_ _) | (with_reducible refine Below.drew ?_) | (with_reducible refine Below.drewN ?_ _) | (with_reducible refine Below.setCell ?_ ?_ _) | go_size))) (by omega) _

set_option maxRecDepth 20000 in
theorem elemKey_bad {w : World} {x : Value} (h : BadR w x) (f : Value) : Calls Try.prog 109 #[x, f] w fun e w' => e = .returned (.agg (bvs (List.replicate 4 0)).toArray) ∧ Below w.heap.size w w' := by
  have hmf : ∀ (fn : Fn) (first cap : Array Value) (w : World), (Instr.makeFunc fn first cap).run Try.prog w = .ok (.func fn first cap) w := fun _ _ _ _ => rfl
  have HV := hidp (fun (w' : World) (hB : Below w.heap.size w w') => valid_bad (h.below hB))
  have HZ1 := hidp ((Blk.new' (w.alloc (.cells #[x] 48)) (bvs (List.replicate 4 0)) 36 (w.heap.size + 1) (by simp)).alloc (.cells (bvs (List.replicate 4 0)).toArray 36))
  have HZ2 := hidp (Blk.new' ((w.alloc (.cells #[x] 48)).alloc (.cells (bvs (List.replicate 4 0)).toArray 36)) (bvs (List.replicate 4 0)) 36 (w.heap.size + 1 + 1) (by simp))
  rcases h with rfl | ⟨g, rfl, hc⟩
  · go_enter_defers Try.func109, Try.ntmps109
    go_wp2_with (first | (go_at_call 94; refine (HV.out _ (by (repeat' (first | (with_reducible exact Below.refl _ _) | (with_reducible refine Below.alloc ?_ ?_ _) | (with_reducible refine Below.drew ?_) | (with_reducible refine Below.drewN ?_ _) | (with_reducible refine Below.setCell ?_ ?_ _) | go_size)))).mono ?_; rintro e wx ⟨rfl, rfl⟩) | refine wpList_load_blk rfl 36 _ rfl _ _ 36 rfl HZ2.out _ Try.underlying36 rfl (by kernel_rfl) ?_ | (refine wpList_store_blk rfl 36 _ _ rfl _ (bvs (List.replicate 4 0)) (bvs (List.replicate 4 0)) 36 rfl rfl HZ1.out (by kernel_rfl) rfl (bvs_one _) ?_; intro w6 hw6))
    have b2 : Blk w6 (w.heap.size + 1) (bvs (List.replicate 4 0)) 36 := by rw [hw6.out]; exact HZ1.out.row
    refine ⟨.agg (bvs (List.replicate 4 0)).toArray, results_cell_row Try.results109 _ _ (w.heap.size + 1) 36 _ (0, 0) _ rfl b2 Try.underlying36 rfl (by kernel_rfl), rfl, ?_⟩
    rw [hw6.out]
    exact below_setRow (by (repeat' (first | (with_reducible exact Below.refl _ _) | (with_reducible refine Below.alloc ?_ ?_ _) | (with_reducible refine Below.drew ?_) | (with_reducible refine Below.drewN ?_ _) | (with_reducible refine Below.setCell ?_ ?_ _) | go_size))) (by omega) _
  · clear hc
    go_enter_defers Try.func109, Try.ntmps109
    go_wp2_with (first | (go_at_call 94; refine (HV.out _ (by (repeat' (first | (with_reducible exact Below.refl _ _) | (with_reducible refine Below.alloc ?_ ?_ _) | (with_reducible refine Below.drew ?_) | (with_reducible refine Below.drewN ?_ _) | (with_reducible refine Below.setCell ?_ ?_ _) | go_size)))).mono ?_; rintro e wx ⟨rfl, rfl⟩) | refine wpList_load_blk rfl 36 _ rfl _ _ 36 rfl HZ2.out _ Try.underlying36 rfl (by kernel_rfl) ?_ | (refine wpList_store_blk rfl 36 _ _ rfl _ (bvs (List.replicate 4 0)) (bvs (List.replicate 4 0)) 36 rfl rfl HZ1.out (by kernel_rfl) rfl (bvs_one _) ?_; intro w6 hw6))
    have b2 : Blk w6 (w.heap.size + 1) (bvs (List.replicate 4 0)) 36 := by rw [hw6.out]; exact HZ1.out.row
    refine ⟨.agg (bvs (List.replicate 4 0)).toArray, results_cell_row Try.results109 _ _ (w.heap.size + 1) 36 _ (0, 0) _ rfl b2 Try.underlying36 rfl (by kernel_rfl), rfl, ?_⟩
    rw [hw6.out]
    exact below_setRow (by (repeat' (first | (with_reducible exact Below.refl _ _) | (with_reducible refine Below.alloc ?_ ?_ _) | (with_reducible refine Below.drew ?_) | (with_reducible refine Below.drewN ?_ _) | (with_reducible refine Below.setCell ?_ ?_ _) | go_size))) (by omega) _

end Go.Proofs.Ytlfmmmlheloloaa
