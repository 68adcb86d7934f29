/-
  Texts Jr, Js, Jt, Jy, Ju, one behind the other.
-/
import Derived.Test.YtcmkmnidnapabaaGreatQe

/-! Jr: The walk of landfalllaw04's WireKnown. -/
namespace Go.Proofs.YtcmkmnidnapabaaGreat
open Go.RowKit Go.Lib Go.Maps

theorem r_ne (a : Addr) (w : World) : (binOp .eql 128 (.pointer (some a)) (.pointer none)).run Tryz.prog w = .ok (.bool false) w := by
  have h : ∀ d : Nat, (Op.equalIn (d + 1) 128 (.pointer (some a)) (.pointer none)).run Tryz.prog w = .ok false w := fun d => by
    simp [Op.equalIn, run_underlying Tryz.underlying128]
  simp only [binOp]
  simp [Op.equal, Op.maxDepth, h 9999]
theorem RdX.below {w w' : World} {g t b : Nat} {R : List Nat} {e f : Nat} (H : RdX w g t b R e f) (hB : Below w.heap.size w w') : RdX w' g t b R e f := by
  obtain ⟨p, o, c, h⟩ := H
  exact ⟨p, o, c, h.below hB⟩
theorem RdX.bex {c : Nat} {w w' : World} {g t b : Nat} {R : List Nat} {e f : Nat} (H : RdX w g t b R e f) (hx : Bex c w w') (hg : g ≠ c) (hb : c ≠ b) : RdX w' g t b R e f := by
  obtain ⟨p, o, k, h⟩ := H
  exact ⟨p, o, k, h.bex hx hg (fun _ => hb)⟩
theorem RdX.lt {w : World} {g t b : Nat} {R : List Nat} {e f : Nat} (H : RdX w g t b R e f) (h0 : 0 < R.length) : g < w.heap.size ∧ b < w.heap.size := by
  obtain ⟨p, o, k, h⟩ := H
  exact ⟨h.blk.lt, (h.bs.ptr (by have := h.bs.le; omega)).2⟩
theorem fq_5_0 (w : World) : (binOp .eql 52 (.agg #[.int .i64 ((5 : Nat) : Int), .int .i64 ((0 : Nat) : Int)]) (.agg #[.int .i64 ((5 : Nat) : Int), .int .i64 ((0 : Nat) : Int)])).run Tryz.prog w = .ok (.bool true) w := by kernel_rfl
theorem fq_6_0 (w : World) : (binOp .eql 52 (.agg #[.int .i64 ((6 : Nat) : Int), .int .i64 ((0 : Nat) : Int)]) (.agg #[.int .i64 ((6 : Nat) : Int), .int .i64 ((0 : Nat) : Int)])).run Tryz.prog w = .ok (.bool true) w := by kernel_rfl
theorem fq_4_2 (w : World) : (binOp .eql 52 (.agg #[.int .i64 ((4 : Nat) : Int), .int .i64 ((2 : Nat) : Int)]) (.agg #[.int .i64 ((4 : Nat) : Int), .int .i64 ((2 : Nat) : Int)])).run Tryz.prog w = .ok (.bool true) w := by kernel_rfl
theorem fq_4_0 (w : World) : (binOp .eql 52 (.agg #[.int .i64 ((4 : Nat) : Int), .int .i64 ((0 : Nat) : Int)]) (.agg #[.int .i64 ((4 : Nat) : Int), .int .i64 ((0 : Nat) : Int)])).run Tryz.prog w = .ok (.bool true) w := by kernel_rfl
theorem fq_5_2 (w : World) : (binOp .eql 52 (.agg #[.int .i64 ((5 : Nat) : Int), .int .i64 ((2 : Nat) : Int)]) (.agg #[.int .i64 ((5 : Nat) : Int), .int .i64 ((2 : Nat) : Int)])).run Tryz.prog w = .ok (.bool true) w := by kernel_rfl

theorem pace_bad : pPace [255, 255, 255, 255, 255, 255, 255, 255] = .er 5 := by
  unfold pPace
  rw [if_neg (by decide), if_neg (by decide +kernel)]
end Go.Proofs.YtcmkmnidnapabaaGreat

/-! Js: Contracts: writers that nobody made. -/
namespace Go.Proofs.YtcmkmnidnapabaaGreat
open Go.RowKit Go.Lib Go.Maps

theorem w_eq_nil (w : World) : (binOp .eql 115 (.pointer none) (.pointer none)).run Tryz.prog w = .ok (.bool true) w := by kernel_rfl
theorem w_nil_ne (a : Addr) (w : World) : (binOp .neq 115 (.pointer none) (.pointer (some a))).run Tryz.prog w = .ok (.bool true) w := by
  have h : ∀ d : Nat, (Op.equalIn (d + 1) 115 (.pointer none) (.pointer (some a))).run Tryz.prog w = .ok false w := fun d => by
    simp [Op.equalIn, run_underlying Tryz.underlying115]
  simp only [binOp]
  simp [Op.equal, Op.maxDepth, h 9999]
set_option maxRecDepth 20000 in
theorem refusal_nil (w : World) : Calls Tryz.prog 148 #[.pointer none] w fun e w' => e = .returned (.int .i64 1) ∧ w = w' := by
  have q := w_eq_nil w
  go_enter Tryz.func148, Tryz.ntmps148
  go_wp2
  go_ret
  exact ⟨rfl, rfl⟩
set_option maxRecDepth 20000 in
theorem refusal_zero {w : World} {g : Nat} (h0 : w.cell? ⟨g, 0, none⟩ = some (.pointer none)) : Calls Tryz.prog 148 #[.pointer (some ⟨g, 0, none⟩)] w fun e w' => e = .returned (.int .i64 1) ∧ w = w' := by
  have q1 := w_ne_nil ⟨g, 0, none⟩ w
  have q2 := w_nil_ne ⟨g, 0, none⟩ w
  go_enter Tryz.func148, Tryz.ntmps148
  go_wp2
  go_ret
  exact ⟨rfl, rfl⟩
/-- A writer that nobody made. -/
def BadW (w : World) (x : Value) : Prop := x = .pointer none ∨ ∃ g, x = .pointer (some ⟨g, 0, none⟩) ∧ w.cell? ⟨g, 0, none⟩ = some (.pointer none)
theorem BadW.below {w w' : World} {x : Value} (h : BadW w x) (hB : Below w.heap.size w w') : BadW w' x := by
  rcases h with h | ⟨g, h, hc⟩
  · exact .inl h
  · exact .inr ⟨g, h, (hB.cell (cell_lt hc)).trans hc⟩
theorem refusal_bad {w : World} {x : Value} (h : BadW w x) : Calls Tryz.prog 148 #[x] w fun e w' => e = .returned (.int .i64 1) ∧ w = w' := by
  rcases h with rfl | ⟨g, rfl, hc⟩
  · exact refusal_nil w
  · exact refusal_zero hc
set_option maxRecDepth 20000 in
theorem wNum_bad {w : World} {x : Value} (h : BadW w x) (n : Int) : Calls Tryz.prog 77 #[x, .int .i64 n] w fun e w' => e = .returned (.int .i64 1) ∧ w = w' := by
  have HR := hidp (refusal_bad h)
  clear h
  go_enter Tryz.func77, Tryz.ntmps77
  go_wp2_with (go_at_call 148; refine HR.out.mono ?_; rintro e wx ⟨rfl, rfl⟩)
  go_ret
  exact ⟨rfl, rfl⟩
set_option maxRecDepth 20000 in
theorem put_bad {w : World} {x : Value} (h : BadW w x) (s : Value) : Calls Tryz.prog 150 #[x, s] w fun e w' => e = .returned (.int .i64 1) ∧ w = w' := by
  have HR := hidp (refusal_bad h)
  clear h
  go_enter Tryz.func150, Tryz.ntmps150
  go_wp2_with (go_at_call 148; refine HR.out.mono ?_; rintro e wx ⟨rfl, rfl⟩)
  go_ret
  exact ⟨rfl, rfl⟩
set_option maxRecDepth 20000 in
theorem wDone_bad {w : World} {x : Value} (h : BadW w x) : Calls Tryz.prog 79 #[x] w fun e w' => e = .returned (.tuple #[.slice none 0 0, .int .i64 1]) ∧ w = w' := by
  have HR := hidp (refusal_bad h)
  clear h
  go_enter Tryz.func79, Tryz.ntmps79
  go_wp2_with (go_at_call 148; refine HR.out.mono ?_; rintro e wx ⟨rfl, rfl⟩)
  go_ret2
  exact ⟨rfl, rfl⟩
/-- What a method of a writer that nobody made tells. -/
def BadP (w : World) (e : Ending) (w' : World) : Prop := e = .returned (.int .i64 1) ∧ Below w.heap.size w w'
set_option maxRecDepth 20000 in
theorem wBytes_bad {w : World} {x : Value} (h : BadW w x) (p : Option Addr) (n cap k : Nat) (hn : n ≤ 1000000) (hd : Digs n k) : Calls Tryz.prog 116 #[x, .slice p n cap] w (BadP w) := by
  have HR := hidp (fun (w' : World) (hB : Below w.heap.size w w') (s : Value) => put_bad (h.below hB) s)
  have HN := hidp (numForm_any n k w (by omega) hd)
  clear h hd
  go_enter Tryz.func116, Tryz.ntmps116
  go_wp2_with (first | (go_at_call 151; refine HN.out.mono ?_; rintro e w1 ⟨rfl, hb1, hB1⟩; clear hb1; have hB1 := hidp hB1) | fail)
  have hB2 := hB1.out.alloc hB1.out.size (.cells #[.slice (some ⟨w.heap.size, 8 - k, none⟩) (k + 1) (k + 1), .slice p n cap] 35)
  refine (HR.out _ hB2 _).mono ?_
  rintro e w2 ⟨rfl, rfl⟩
  replace hB2 := hidp hB2
  go_wp2
  go_ret
  exact ⟨rfl, hB2.out⟩
set_option maxRecDepth 20000 in
theorem wText_bad {w : World} {x : Value} (h : BadW w x) (s : ByteArray) (k : Nat) (hn : s.size ≤ 1000000) (hd : Digs s.size k) : Calls Tryz.prog 179 #[x, .string s] w (BadP w) := by
  have kc := fun W : World => _root_.Go.Lib.run_convert_string_bytes (P := Tryz.prog) W 9 35 5 s Tryz.underlying9 Tryz.underlying35 Tryz.underlying5
  have HB := hidp (wBytes_bad (h.below (bytesW_below w s)) (some ⟨w.heap.size, 0, none⟩) s.size (grownCap w s.size 0 5) k hn hd)
  clear h hn hd
  go_enter Tryz.func179, Tryz.ntmps179
  go_wp2_with fail
  refine HB.out.mono ?_
  rintro e w2 ⟨rfl, hB⟩
  have hB := hidp (btrans (bytesW_below w s) hB)
  go_wp2
  go_ret
  exact ⟨rfl, hB.out⟩
end Go.Proofs.YtcmkmnidnapabaaGreat

/-! Jt: Contracts: writers and readers that nobody made. -/
namespace Go.Proofs.YtcmkmnidnapabaaGreat
open Go.RowKit Go.Lib Go.Maps

set_option maxRecDepth 20000 in
theorem wHash_bad {w : World} {x : Value} (h : BadW w x) (a : List Nat) (_ha : a.length = 32) : Calls Tryz.prog 106 #[x, .agg (bvs a).toArray] w (BadP w) := by
  have HR := hidp (fun (w' : World) (hB : Below w.heap.size w w') (s : Value) => put_bad (h.below hB) s)
  have hsl := fun w' => run_sliceAt_all (P := Tryz.prog) (t := 39) (e := 5) (n := 32) Tryz.underlying39 (by kernel_rfl) (by decide) w.heap.size 0 w'
  clear h
  go_enter Tryz.func106, Tryz.ntmps106
  go_wp2_with fail
  refine (HR.out _ (((Below.refl _ w).alloc (Nat.le_refl _) _).alloc (by simp) _) _).mono ?_
  rintro e w2 ⟨rfl, rfl⟩
  go_wp2
  go_ret
  exact ⟨rfl, by (repeat' (first | (with_reducible exact Below.refl _ _) | (with_reducible refine Below.alloc ?_ ?_ _) | (with_reducible refine Below.drew ?_) | (with_reducible refine Below.drewN ?_ _) | (with_reducible refine Below.setCell ?_ ?_ _) | go_size))⟩

set_option maxRecDepth 20000 in
theorem wKey_bad {w : World} {x : Value} (h : BadW w x) (a : List Nat) (_ha : a.length = 4) : Calls Tryz.prog 78 #[x, .agg (bvs a).toArray] w (BadP w) := by
  have HR := hidp (fun (w' : World) (hB : Below w.heap.size w w') (s : Value) => put_bad (h.below hB) s)
  have hsl := fun w' => run_sliceAt_all (P := Tryz.prog) (t := 24) (e := 5) (n := 4) Tryz.underlying24 (by kernel_rfl) (by decide) w.heap.size 0 w'
  clear h
  go_enter Tryz.func78, Tryz.ntmps78
  go_wp2_with fail
  refine (HR.out _ (((Below.refl _ w).alloc (Nat.le_refl _) _).alloc (by simp) _) _).mono ?_
  rintro e w2 ⟨rfl, rfl⟩
  go_wp2
  go_ret
  exact ⟨rfl, by (repeat' (first | (with_reducible exact Below.refl _ _) | (with_reducible refine Below.alloc ?_ ?_ _) | (with_reducible refine Below.drew ?_) | (with_reducible refine Below.drewN ?_ _) | (with_reducible refine Below.setCell ?_ ?_ _) | go_size))⟩

set_option maxRecDepth 20000 in
set_option maxHeartbeats 4000000 in
theorem wWord_bad {w : World} {x : Value} (h : BadW w x) (n : Nat) (hn : n < 18446744073709551616) : Calls Tryz.prog 107 #[x, .int .u64 (n : Nat)] w (BadP w) := by
  have HR := hidp (fun (w' : World) (hB : Below w.heap.size w w') (s : Value) => put_bad (h.below hB) s)
  have h0 := hidp (Blk.new w (bvs (formW n 0)) 229)
  have hB := hidp ((Below.refl _ w).alloc (Nat.le_refl _) (.cells (bvs (formW n 0)).toArray 229))
  rw [formW_zero] at h0 hB
  clear h
  go_enter Tryz.func107, Tryz.ntmps107
  go_wp2
  go_loopw [7] (fun x wr => ∃ i : Nat, i ≤ 8 ∧ x = .int .i64 i ∧ Hid (Blk wr w.heap.size (bvs (formW n i)) 229 ∧ Below w.heap.size w wr)) (fun x _ => 8 - (Go.RowKit.intOf x).toNat)
  case atStart => exact ⟨0, by omega, rfl, by rw [formW_zero]; exact hidp ⟨h0.out, hB.out⟩⟩
  case round =>
    obtain ⟨i, hi, rfl, hr⟩ := hrel
    by_cases hik : i < 8
    · have hset := hidp (formW_set n hik)
      obtain ⟨vo, ho⟩ : ∃ v, wr.cell? ⟨w.heap.size, 7 - i, none⟩ = some v := ⟨_, (hr.out.1.cell (7 - i)).trans (bvs_get (by rw [formW_len]; omega))⟩
      have hfree := hr.out.1.free (7 - i)
      have h8 : i = 0 ∨ i = 1 ∨ i = 2 ∨ i = 3 ∨ i = 4 ∨ i = 5 ∨ i = 6 ∨ i = 7 := by omega
      clear h0 hB hi hik
      rcases h8 with rfl | rfl | rfl | rfl | rfl | rfl | rfl | rfl
      · simp only [Int.cast_ofNat_Int]
        have hv : Hid (((n / 256 ^ 0 % 256 : Nat) : Int) = (n : Int) % 256) := hidp (by omega)
        go_wp2
        refine ⟨⟨0 + 1, by omega, rfl, ?_⟩, by simp [Go.RowKit.intOf]⟩
        rw [← hset.out]
        have hE := hv.out
        try rw [← hE]
        exact hidp ⟨bvs_set _ _ _ ▸ hr.out.1.set _ _, hr.out.2.setCell (by simp) _⟩
      · simp only [Int.cast_ofNat_Int]
        have hv : Hid (((n / 256 ^ 1 % 256 : Nat) : Int) = (n : Int) / 256 % 256) := hidp (by omega)
        go_wp2
        refine ⟨⟨1 + 1, by omega, rfl, ?_⟩, by simp [Go.RowKit.intOf]⟩
        rw [← hset.out]
        have hE := hv.out
        try rw [← hE]
        exact hidp ⟨bvs_set _ _ _ ▸ hr.out.1.set _ _, hr.out.2.setCell (by simp) _⟩
      · simp only [Int.cast_ofNat_Int]
        have hv : Hid (((n / 256 ^ 2 % 256 : Nat) : Int) = (n : Int) / 65536 % 256) := hidp (by omega)
        go_wp2
        refine ⟨⟨2 + 1, by omega, rfl, ?_⟩, by simp [Go.RowKit.intOf]⟩
        rw [← hset.out]
        have hE := hv.out
        try rw [← hE]
        exact hidp ⟨bvs_set _ _ _ ▸ hr.out.1.set _ _, hr.out.2.setCell (by simp) _⟩
      · simp only [Int.cast_ofNat_Int]
        have hv : Hid (((n / 256 ^ 3 % 256 : Nat) : Int) = (n : Int) / 16777216 % 256) := hidp (by omega)
        go_wp2
        refine ⟨⟨3 + 1, by omega, rfl, ?_⟩, by simp [Go.RowKit.intOf]⟩
        rw [← hset.out]
        have hE := hv.out
        try rw [← hE]
        exact hidp ⟨bvs_set _ _ _ ▸ hr.out.1.set _ _, hr.out.2.setCell (by simp) _⟩
      · simp only [Int.cast_ofNat_Int]
        have hv : Hid (((n / 256 ^ 4 % 256 : Nat) : Int) = (n : Int) / 4294967296 % 256) := hidp (by omega)
        go_wp2
        refine ⟨⟨4 + 1, by omega, rfl, ?_⟩, by simp [Go.RowKit.intOf]⟩
        rw [← hset.out]
        have hE := hv.out
        try rw [← hE]
        exact hidp ⟨bvs_set _ _ _ ▸ hr.out.1.set _ _, hr.out.2.setCell (by simp) _⟩
      · simp only [Int.cast_ofNat_Int]
        have hv : Hid (((n / 256 ^ 5 % 256 : Nat) : Int) = (n : Int) / 1099511627776 % 256) := hidp (by omega)
        go_wp2
        refine ⟨⟨5 + 1, by omega, rfl, ?_⟩, by simp [Go.RowKit.intOf]⟩
        rw [← hset.out]
        have hE := hv.out
        try rw [← hE]
        exact hidp ⟨bvs_set _ _ _ ▸ hr.out.1.set _ _, hr.out.2.setCell (by simp) _⟩
      · simp only [Int.cast_ofNat_Int]
        have hv : Hid (((n / 256 ^ 6 % 256 : Nat) : Int) = (n : Int) / 281474976710656 % 256) := hidp (by omega)
        go_wp2
        refine ⟨⟨6 + 1, by omega, rfl, ?_⟩, by simp [Go.RowKit.intOf]⟩
        rw [← hset.out]
        have hE := hv.out
        try rw [← hE]
        exact hidp ⟨bvs_set _ _ _ ▸ hr.out.1.set _ _, hr.out.2.setCell (by simp) _⟩
      · simp only [Int.cast_ofNat_Int]
        have hv : Hid (((n / 256 ^ 7 % 256 : Nat) : Int) = (n : Int) / 72057594037927936) := hidp (by omega)
        go_wp2
        refine ⟨⟨7 + 1, by omega, rfl, ?_⟩, by simp [Go.RowKit.intOf]⟩
        rw [← hset.out]
        have hE := hv.out
        try rw [← hE]
        exact hidp ⟨bvs_set _ _ _ ▸ hr.out.1.set _ _, hr.out.2.setCell (by simp) _⟩
    · obtain rfl : i = 8 := by omega
      simp only [Int.cast_ofNat_Int]
      have hsl := fun w' => run_sliceAt_all (P := Tryz.prog) (t := 229) (e := 5) (n := 8) Tryz.underlying229 (by kernel_rfl) (by decide) w.heap.size 0 w'
      clear h0 hB hi hik
      go_wp2_with fail
      have hb := hr.out.2.alloc hr.out.2.size (.cells #[.slice (some ⟨w.heap.size, 0, none⟩) 8 8] 35)
      refine (HR.out _ hb _).mono ?_
      rintro e w2 ⟨rfl, rfl⟩
      replace hb := hidp hb
      clear hsl
      go_wp2
      go_ret
      exact ⟨rfl, hb.out⟩
theorem formN_lt (x : Nat) (h : x < 18446744073709551616) : formN x < 18446744073709551616 := by
  unfold formN nanForm
  split <;> omega
/-! Readers that nobody made. -/
def BadR (w : World) (x : Value) : Prop := x = .pointer none ∨ ∃ g, x = .pointer (some ⟨g, 0, none⟩) ∧ w.cell? ⟨g, 0, none⟩ = some (.pointer none)
theorem BadR.below {w w' : World} {x : Value} (h : BadR w x) (hB : Below w.heap.size w w') : BadR w' x := by
  rcases h with h | ⟨g, h, hc⟩
  · exact .inl h
  · exact .inr ⟨g, h, (hB.cell (cell_lt hc)).trans hc⟩
theorem valid_bad {w : World} {x : Value} (h : BadR w x) : Calls Tryz.prog 163 #[x] w fun e w' => e = .returned (.bool false) ∧ w = w' := by
  rcases h with rfl | ⟨g, rfl, hc⟩
  · exact valid_nil w
  · exact valid_no hc
theorem BadR.cellV {w : World} {x : Value} (h : BadR w x) : x.oneCell' = true := by
  rcases h with rfl | ⟨g, rfl, _⟩ <;> rfl

set_option maxRecDepth 20000 in
theorem elemNum_bad {w : World} {x : Value} (h : BadR w x) (f : Value) : Calls Tryz.prog 161 #[x, f] w fun e w' => e = .returned (.int .i64 0) ∧ Below w.heap.size w w' := by
  have hmf : ∀ (fn : Fn) (first cap : Array Value) (w : World), (Instr.makeFunc fn first cap).run Tryz.prog w = .ok (.func fn first cap) w := fun _ _ _ _ => rfl
  have HV := hidp (fun (w' : World) (hB : Below w.heap.size w w') => valid_bad (h.below hB))
  rcases h with rfl | ⟨g, rfl, hc⟩
  · go_enter_defers Tryz.func161, Tryz.ntmps161
    go_wp2_with (go_at_call 163; refine (HV.out _ (by (repeat' (first | (with_reducible exact Below.refl _ _) | (with_reducible refine Below.alloc ?_ ?_ _) | (with_reducible refine Below.drew ?_) | (with_reducible refine Below.drewN ?_ _) | (with_reducible refine Below.setCell ?_ ?_ _) | go_size)))).mono ?_; rintro e wx ⟨rfl, rfl⟩)
    exact ⟨_, results_tmp rfl _ _ _, rfl, by (repeat' (first | (with_reducible exact Below.refl _ _) | (with_reducible refine Below.alloc ?_ ?_ _) | (with_reducible refine Below.drew ?_) | (with_reducible refine Below.drewN ?_ _) | (with_reducible refine Below.setCell ?_ ?_ _) | go_size))⟩
  · clear hc
    go_enter_defers Tryz.func161, Tryz.ntmps161
    go_wp2_with (go_at_call 163; refine (HV.out _ (by (repeat' (first | (with_reducible exact Below.refl _ _) | (with_reducible refine Below.alloc ?_ ?_ _) | (with_reducible refine Below.drew ?_) | (with_reducible refine Below.drewN ?_ _) | (with_reducible refine Below.setCell ?_ ?_ _) | go_size)))).mono ?_; rintro e wx ⟨rfl, rfl⟩)
    exact ⟨_, results_tmp rfl _ _ _, rfl, by (repeat' (first | (with_reducible exact Below.refl _ _) | (with_reducible refine Below.alloc ?_ ?_ _) | (with_reducible refine Below.drew ?_) | (with_reducible refine Below.drewN ?_ _) | (with_reducible refine Below.setCell ?_ ?_ _) | go_size))⟩

set_option maxRecDepth 20000 in
theorem mNum_bad {w : World} {x : Value} (h : BadR w x) : Calls Tryz.prog 89 #[x] w fun e w' => e = .returned (.int .i64 0) ∧ Below w.heap.size w w' := by
  have HE := hidp (fun f => elemNum_bad h f)
  clear h
  go_enter Tryz.func89, Tryz.ntmps89
  go_wp2_with fail
  refine (HE.out _).mono ?_
  rintro e w1 ⟨rfl, h1⟩
  have HX := hidp h1
  clear h1
  go_wp2
  go_ret
  exact ⟨rfl, HX.out⟩

set_option maxRecDepth 20000 in
theorem elemText_bad {w : World} {x : Value} (h : BadR w x) (f : Value) : Calls Tryz.prog 248 #[x, f] w fun e w' => e = .returned (.string ⟨#[]⟩) ∧ Below w.heap.size w w' := by
  have hmf : ∀ (fn : Fn) (first cap : Array Value) (w : World), (Instr.makeFunc fn first cap).run Tryz.prog w = .ok (.func fn first cap) w := fun _ _ _ _ => rfl
  have HV := hidp (fun (w' : World) (hB : Below w.heap.size w w') => valid_bad (h.below hB))
  rcases h with rfl | ⟨g, rfl, hc⟩
  · go_enter_defers Tryz.func248, Tryz.ntmps248
    go_wp2_with (go_at_call 163; refine (HV.out _ (by (repeat' (first | (with_reducible exact Below.refl _ _) | (with_reducible refine Below.alloc ?_ ?_ _) | (with_reducible refine Below.drew ?_) | (with_reducible refine Below.drewN ?_ _) | (with_reducible refine Below.setCell ?_ ?_ _) | go_size)))).mono ?_; rintro e wx ⟨rfl, rfl⟩)
    exact ⟨_, results_tmp rfl _ _ _, rfl, by (repeat' (first | (with_reducible exact Below.refl _ _) | (with_reducible refine Below.alloc ?_ ?_ _) | (with_reducible refine Below.drew ?_) | (with_reducible refine Below.drewN ?_ _) | (with_reducible refine Below.setCell ?_ ?_ _) | go_size))⟩
  · clear hc
    go_enter_defers Tryz.func248, Tryz.ntmps248
    go_wp2_with (go_at_call 163; refine (HV.out _ (by (repeat' (first | (with_reducible exact Below.refl _ _) | (with_reducible refine Below.alloc ?_ ?_ _) | (with_reducible refine Below.drew ?_) | (with_reducible refine Below.drewN ?_ _) | (with_reducible refine Below.setCell ?_ ?_ _) | go_size)))).mono ?_; rintro e wx ⟨rfl, rfl⟩)
    exact ⟨_, results_tmp rfl _ _ _, rfl, by (repeat' (first | (with_reducible exact Below.refl _ _) | (with_reducible refine Below.alloc ?_ ?_ _) | (with_reducible refine Below.drew ?_) | (with_reducible refine Below.drewN ?_ _) | (with_reducible refine Below.setCell ?_ ?_ _) | go_size))⟩

set_option maxRecDepth 20000 in
theorem mText_bad {w : World} {x : Value} (h : BadR w x) (most : Int) : Calls Tryz.prog 197 #[x, .int .i64 most] w fun e w' => e = .returned (.string ⟨#[]⟩) ∧ Below w.heap.size w w' := by
  have hmf : ∀ (fn : Fn) (first cap : Array Value) (w : World), (Instr.makeFunc fn first cap).run Tryz.prog w = .ok (.func fn first cap) w := fun _ _ _ _ => rfl
  have HB : Hid (Below w.heap.size w (w.alloc (.cells #[.int .i64 most] 3))) := hidp ((Below.refl _ w).alloc (Nat.le_refl _) _)
  have HE := hidp (fun f => elemText_bad (h.below HB.out) f)
  clear h
  go_enter Tryz.func197, Tryz.ntmps197
  go_wp2_with fail
  refine (HE.out _).mono ?_
  rintro e w1 ⟨rfl, h1⟩
  have HX := hidp (btrans HB.out h1)
  clear h1 HE HB
  go_wp2
  go_ret
  exact ⟨rfl, HX.out⟩

set_option maxRecDepth 20000 in
theorem elemBytes_bad {w : World} {x : Value} (h : BadR w x) (f : Value) : Calls Tryz.prog 244 #[x, f] w fun e w' => e = .returned (.slice none 0 0) ∧ Below w.heap.size w w' := by
  have hmf : ∀ (fn : Fn) (first cap : Array Value) (w : World), (Instr.makeFunc fn first cap).run Tryz.prog w = .ok (.func fn first cap) w := fun _ _ _ _ => rfl
  have HV := hidp (fun (w' : World) (hB : Below w.heap.size w w') => valid_bad (h.below hB))
  rcases h with rfl | ⟨g, rfl, hc⟩
  · go_enter_defers Tryz.func244, Tryz.ntmps244
    go_wp2_with (go_at_call 163; refine (HV.out _ (by (repeat' (first | (with_reducible exact Below.refl _ _) | (with_reducible refine Below.alloc ?_ ?_ _) | (with_reducible refine Below.drew ?_) | (with_reducible refine Below.drewN ?_ _) | (with_reducible refine Below.setCell ?_ ?_ _) | go_size)))).mono ?_; rintro e wx ⟨rfl, rfl⟩)
    exact ⟨_, results_tmp rfl _ _ _, rfl, by (repeat' (first | (with_reducible exact Below.refl _ _) | (with_reducible refine Below.alloc ?_ ?_ _) | (with_reducible refine Below.drew ?_) | (with_reducible refine Below.drewN ?_ _) | (with_reducible refine Below.setCell ?_ ?_ _) | go_size))⟩
  · clear hc
    go_enter_defers Tryz.func244, Tryz.ntmps244
    go_wp2_with (go_at_call 163; refine (HV.out _ (by (repeat' (first | (with_reducible exact Below.refl _ _) | (with_reducible refine Below.alloc ?_ ?_ _) | (with_reducible refine Below.drew ?_) | (with_reducible refine Below.drewN ?_ _) | (with_reducible refine Below.setCell ?_ ?_ _) | go_size)))).mono ?_; rintro e wx ⟨rfl, rfl⟩)
    exact ⟨_, results_tmp rfl _ _ _, rfl, by (repeat' (first | (with_reducible exact Below.refl _ _) | (with_reducible refine Below.alloc ?_ ?_ _) | (with_reducible refine Below.drew ?_) | (with_reducible refine Below.drewN ?_ _) | (with_reducible refine Below.setCell ?_ ?_ _) | go_size))⟩

set_option maxRecDepth 20000 in
theorem mBytes_bad {w : World} {x : Value} (h : BadR w x) (most : Int) : Calls Tryz.prog 195 #[x, .int .i64 most] w fun e w' => e = .returned (.slice none 0 0) ∧ Below w.heap.size w w' := by
  have hmf : ∀ (fn : Fn) (first cap : Array Value) (w : World), (Instr.makeFunc fn first cap).run Tryz.prog w = .ok (.func fn first cap) w := fun _ _ _ _ => rfl
  have HB : Hid (Below w.heap.size w (w.alloc (.cells #[.int .i64 most] 3))) := hidp ((Below.refl _ w).alloc (Nat.le_refl _) _)
  have HE := hidp (fun f => elemBytes_bad (h.below HB.out) f)
  clear h
  go_enter Tryz.func195, Tryz.ntmps195
  go_wp2_with fail
  refine (HE.out _).mono ?_
  rintro e w1 ⟨rfl, h1⟩
  have HX := hidp (btrans HB.out h1)
  clear h1 HE HB
  go_wp2
  go_ret
  exact ⟨rfl, HX.out⟩

set_option maxRecDepth 20000 in
theorem elemWord_bad {w : World} {x : Value} (h : BadR w x) (f : Value) : Calls Tryz.prog 225 #[x, f] w fun e w' => e = .returned (.int .u64 0) ∧ Below w.heap.size w w' := by
  have hmf : ∀ (fn : Fn) (first cap : Array Value) (w : World), (Instr.makeFunc fn first cap).run Tryz.prog w = .ok (.func fn first cap) w := fun _ _ _ _ => rfl
  have HV := hidp (fun (w' : World) (hB : Below w.heap.size w w') => valid_bad (h.below hB))
  rcases h with rfl | ⟨g, rfl, hc⟩
  · go_enter_defers Tryz.func225, Tryz.ntmps225
    go_wp2_with (go_at_call 163; refine (HV.out _ (by (repeat' (first | (with_reducible exact Below.refl _ _) | (with_reducible refine Below.alloc ?_ ?_ _) | (with_reducible refine Below.drew ?_) | (with_reducible refine Below.drewN ?_ _) | (with_reducible refine Below.setCell ?_ ?_ _) | go_size)))).mono ?_; rintro e wx ⟨rfl, rfl⟩)
    exact ⟨_, results_tmp rfl _ _ _, rfl, by (repeat' (first | (with_reducible exact Below.refl _ _) | (with_reducible refine Below.alloc ?_ ?_ _) | (with_reducible refine Below.drew ?_) | (with_reducible refine Below.drewN ?_ _) | (with_reducible refine Below.setCell ?_ ?_ _) | go_size))⟩
  · clear hc
    go_enter_defers Tryz.func225, Tryz.ntmps225
    go_wp2_with (go_at_call 163; refine (HV.out _ (by (repeat' (first | (with_reducible exact Below.refl _ _) | (with_reducible refine Below.alloc ?_ ?_ _) | (with_reducible refine Below.drew ?_) | (with_reducible refine Below.drewN ?_ _) | (with_reducible refine Below.setCell ?_ ?_ _) | go_size)))).mono ?_; rintro e wx ⟨rfl, rfl⟩)
    exact ⟨_, results_tmp rfl _ _ _, rfl, by (repeat' (first | (with_reducible exact Below.refl _ _) | (with_reducible refine Below.alloc ?_ ?_ _) | (with_reducible refine Below.drew ?_) | (with_reducible refine Below.drewN ?_ _) | (with_reducible refine Below.setCell ?_ ?_ _) | go_size))⟩

set_option maxRecDepth 20000 in
theorem mWord_bad {w : World} {x : Value} (h : BadR w x) : Calls Tryz.prog 165 #[x] w fun e w' => e = .returned (.int .u64 0) ∧ Below w.heap.size w w' := by
  have HE := hidp (fun f => elemWord_bad h f)
  clear h
  go_enter Tryz.func165, Tryz.ntmps165
  go_wp2_with fail
  refine (HE.out _).mono ?_
  rintro e w1 ⟨rfl, h1⟩
  have HX := hidp h1
  clear h1
  go_wp2
  go_ret
  exact ⟨rfl, HX.out⟩

set_option maxRecDepth 20000 in
theorem elemHash_bad {w : World} {x : Value} (h : BadR w x) (f : Value) : Calls Tryz.prog 221 #[x, f] w fun e w' => e = .returned (.agg (bvs (List.replicate 32 0)).toArray) ∧ Below w.heap.size w w' := by
  have hmf : ∀ (fn : Fn) (first cap : Array Value) (w : World), (Instr.makeFunc fn first cap).run Tryz.prog w = .ok (.func fn first cap) w := fun _ _ _ _ => rfl
  have HV := hidp (fun (w' : World) (hB : Below w.heap.size w w') => valid_bad (h.below hB))
  have HZ1 := hidp ((Blk.new' (w.alloc (.cells #[x] 128)) (bvs (List.replicate 32 0)) 39 (w.heap.size + 1) (by simp)).alloc (.cells (bvs (List.replicate 32 0)).toArray 39))
  have HZ2 := hidp (Blk.new' ((w.alloc (.cells #[x] 128)).alloc (.cells (bvs (List.replicate 32 0)).toArray 39)) (bvs (List.replicate 32 0)) 39 (w.heap.size + 1 + 1) (by simp))
  rcases h with rfl | ⟨g, rfl, hc⟩
  · go_enter_defers Tryz.func221, Tryz.ntmps221
    go_wp2_with (first | (go_at_call 163; refine (HV.out _ (by (repeat' (first | (with_reducible exact Below.refl _ _) | (with_reducible refine Below.alloc ?_ ?_ _) | (with_reducible refine Below.drew ?_) | (with_reducible refine Below.drewN ?_ _) | (with_reducible refine Below.setCell ?_ ?_ _) | go_size)))).mono ?_; rintro e wx ⟨rfl, rfl⟩) | refine wpList_load_blk rfl 39 _ rfl _ _ 39 rfl HZ2.out _ Tryz.underlying39 rfl (by kernel_rfl) ?_ | (refine wpList_store_blk rfl 39 _ _ rfl _ (bvs (List.replicate 32 0)) (bvs (List.replicate 32 0)) 39 rfl rfl HZ1.out (by kernel_rfl) rfl (bvs_one _) ?_; intro w6 hw6))
    have b2 : Blk w6 (w.heap.size + 1) (bvs (List.replicate 32 0)) 39 := by rw [hw6.out]; exact HZ1.out.row
    refine ⟨.agg (bvs (List.replicate 32 0)).toArray, results_cell_row Tryz.results221 _ _ (w.heap.size + 1) 39 _ (0, 0) _ rfl b2 Tryz.underlying39 rfl (by kernel_rfl), rfl, ?_⟩
    rw [hw6.out]
    exact below_setRow (by (repeat' (first | (with_reducible exact Below.refl _ _) | (with_reducible refine Below.alloc ?_ ?_ _) | (with_reducible refine Below.drew ?_) | (with_reducible refine Below.drewN ?_ _) | (with_reducible refine Below.setCell ?_ ?_ _) | go_size))) (by omega) _
  · clear hc
    go_enter_defers Tryz.func221, Tryz.ntmps221
    go_wp2_with (first | (go_at_call 163; refine (HV.out _ (by (repeat' (first | (with_reducible exact Below.refl _ _) | (with_reducible refine Below.alloc ?_ ?_ _) | (with_reducible refine Below.drew ?_) | (with_reducible refine Below.drewN ?_ _) | (with_reducible refine Below.setCell ?_ ?_ _) | go_size)))).mono ?_; rintro e wx ⟨rfl, rfl⟩) | refine wpList_load_blk rfl 39 _ rfl _ _ 39 rfl HZ2.out _ Tryz.underlying39 rfl (by kernel_rfl) ?_ | (refine wpList_store_blk rfl 39 _ _ rfl _ (bvs (List.replicate 32 0)) (bvs (List.replicate 32 0)) 39 rfl rfl HZ1.out (by kernel_rfl) rfl (bvs_one _) ?_; intro w6 hw6))
    have b2 : Blk w6 (w.heap.size + 1) (bvs (List.replicate 32 0)) 39 := by rw [hw6.out]; exact HZ1.out.row
    refine ⟨.agg (bvs (List.replicate 32 0)).toArray, results_cell_row Tryz.results221 _ _ (w.heap.size + 1) 39 _ (0, 0) _ rfl b2 Tryz.underlying39 rfl (by kernel_rfl), rfl, ?_⟩
    rw [hw6.out]
    exact below_setRow (by (repeat' (first | (with_reducible exact Below.refl _ _) | (with_reducible refine Below.alloc ?_ ?_ _) | (with_reducible refine Below.drew ?_) | (with_reducible refine Below.drewN ?_ _) | (with_reducible refine Below.setCell ?_ ?_ _) | go_size))) (by omega) _

set_option maxRecDepth 20000 in
theorem elemKey_bad {w : World} {x : Value} (h : BadR w x) (f : Value) : Calls Tryz.prog 200 #[x, f] w fun e w' => e = .returned (.agg (bvs (List.replicate 4 0)).toArray) ∧ Below w.heap.size w w' := by
  have hmf : ∀ (fn : Fn) (first cap : Array Value) (w : World), (Instr.makeFunc fn first cap).run Tryz.prog w = .ok (.func fn first cap) w := fun _ _ _ _ => rfl
  have HV := hidp (fun (w' : World) (hB : Below w.heap.size w w') => valid_bad (h.below hB))
  have HZ1 := hidp ((Blk.new' (w.alloc (.cells #[x] 128)) (bvs (List.replicate 4 0)) 24 (w.heap.size + 1) (by simp)).alloc (.cells (bvs (List.replicate 4 0)).toArray 24))
  have HZ2 := hidp (Blk.new' ((w.alloc (.cells #[x] 128)).alloc (.cells (bvs (List.replicate 4 0)).toArray 24)) (bvs (List.replicate 4 0)) 24 (w.heap.size + 1 + 1) (by simp))
  rcases h with rfl | ⟨g, rfl, hc⟩
  · go_enter_defers Tryz.func200, Tryz.ntmps200
    go_wp2_with (first | (go_at_call 163; refine (HV.out _ (by (repeat' (first | (with_reducible exact Below.refl _ _) | (with_reducible refine Below.alloc ?_ ?_ _) | (with_reducible refine Below.drew ?_) | (with_reducible refine Below.drewN ?_ _) | (with_reducible refine Below.setCell ?_ ?_ _) | go_size)))).mono ?_; rintro e wx ⟨rfl, rfl⟩) | refine wpList_load_blk rfl 24 _ rfl _ _ 24 rfl HZ2.out _ Tryz.underlying24 rfl (by kernel_rfl) ?_ | (refine wpList_store_blk rfl 24 _ _ rfl _ (bvs (List.replicate 4 0)) (bvs (List.replicate 4 0)) 24 rfl rfl HZ1.out (by kernel_rfl) rfl (bvs_one _) ?_; intro w6 hw6))
    have b2 : Blk w6 (w.heap.size + 1) (bvs (List.replicate 4 0)) 24 := by rw [hw6.out]; exact HZ1.out.row
    refine ⟨.agg (bvs (List.replicate 4 0)).toArray, results_cell_row Tryz.results200 _ _ (w.heap.size + 1) 24 _ (0, 0) _ rfl b2 Tryz.underlying24 rfl (by kernel_rfl), rfl, ?_⟩
    rw [hw6.out]
    exact below_setRow (by (repeat' (first | (with_reducible exact Below.refl _ _) | (with_reducible refine Below.alloc ?_ ?_ _) | (with_reducible refine Below.drew ?_) | (with_reducible refine Below.drewN ?_ _) | (with_reducible refine Below.setCell ?_ ?_ _) | go_size))) (by omega) _
  · clear hc
    go_enter_defers Tryz.func200, Tryz.ntmps200
    go_wp2_with (first | (go_at_call 163; refine (HV.out _ (by (repeat' (first | (with_reducible exact Below.refl _ _) | (with_reducible refine Below.alloc ?_ ?_ _) | (with_reducible refine Below.drew ?_) | (with_reducible refine Below.drewN ?_ _) | (with_reducible refine Below.setCell ?_ ?_ _) | go_size)))).mono ?_; rintro e wx ⟨rfl, rfl⟩) | refine wpList_load_blk rfl 24 _ rfl _ _ 24 rfl HZ2.out _ Tryz.underlying24 rfl (by kernel_rfl) ?_ | (refine wpList_store_blk rfl 24 _ _ rfl _ (bvs (List.replicate 4 0)) (bvs (List.replicate 4 0)) 24 rfl rfl HZ1.out (by kernel_rfl) rfl (bvs_one _) ?_; intro w6 hw6))
    have b2 : Blk w6 (w.heap.size + 1) (bvs (List.replicate 4 0)) 24 := by rw [hw6.out]; exact HZ1.out.row
    refine ⟨.agg (bvs (List.replicate 4 0)).toArray, results_cell_row Tryz.results200 _ _ (w.heap.size + 1) 24 _ (0, 0) _ rfl b2 Tryz.underlying24 rfl (by kernel_rfl), rfl, ?_⟩
    rw [hw6.out]
    exact below_setRow (by (repeat' (first | (with_reducible exact Below.refl _ _) | (with_reducible refine Below.alloc ?_ ?_ _) | (with_reducible refine Below.drew ?_) | (with_reducible refine Below.drewN ?_ _) | (with_reducible refine Below.setCell ?_ ?_ _) | go_size))) (by omega) _

end Go.Proofs.YtcmkmnidnapabaaGreat

/-! Jy: Contracts: a valid writer's Hash, Key, Pace. -/
namespace Go.Proofs.YtcmkmnidnapabaaGreat
open Go.RowKit Go.Lib Go.Maps

set_option maxRecDepth 20000 in
theorem wHash_ok {w : World} {g lim : Nat} {v : Value} {L : List Nat} (H : Wr w g lim v L 0) (a : List Nat) (ha : Bytes 32 a) (hs : L.length + 32 ≤ lim) :
    Calls Tryz.prog 106 #[.pointer (some ⟨g, 0, none⟩), .agg (bvs a).toArray] w (PutP w g lim v (L ++ a)) := by
  have HH := hidp H
  have HS := hidp hs
  have HA := hidp ha
  have hsl := fun w' => run_sliceAt_all (P := Tryz.prog) (t := 39) (e := 5) (n := 32) Tryz.underlying39 (by kernel_rfl) (by decide) w.heap.size 0 w'
  clear H hs ha
  go_enter Tryz.func106, Tryz.ntmps106
  go_wp2_with fail
  have hpc := new_piece w a HA.out.2 39 (.cells #[.slice (some ⟨w.heap.size, 0, none⟩) 32 32] 35)
  rw [HA.out.1] at hpc
  refine (put1 HH.out (((Below.refl _ w).alloc (Nat.le_refl _) _).alloc (by simp) _) hpc (fun _ => Nat.le_refl _) (fun h => by cases h) (by simp) (by rw [HA.out.1]; exact Blk.new' _ _ _ _ (by simp)) (by rw [HA.out.1]; exact HS.out) _).mono ?_
  rintro e w2 ⟨rfl, h⟩
  replace h := hidp h
  clear hpc
  go_wp2
  go_ret
  exact ⟨rfl, h.out⟩

set_option maxRecDepth 20000 in
theorem wHash_long {w : World} {g lim : Nat} {v : Value} {L : List Nat} (H : Wr w g lim v L 0) (a : List Nat) (ha : Bytes 32 a) (hs : lim < L.length + 32) :
    Calls Tryz.prog 106 #[.pointer (some ⟨g, 0, none⟩), .agg (bvs a).toArray] w (LongP w g lim) := by
  have HH := hidp H
  have HS := hidp hs
  have HA := hidp ha
  have hsl := fun w' => run_sliceAt_all (P := Tryz.prog) (t := 39) (e := 5) (n := 32) Tryz.underlying39 (by kernel_rfl) (by decide) w.heap.size 0 w'
  clear H hs ha
  go_enter Tryz.func106, Tryz.ntmps106
  go_wp2_with fail
  have hpc := new_piece w a HA.out.2 39 (.cells #[.slice (some ⟨w.heap.size, 0, none⟩) 32 32] 35)
  rw [HA.out.1] at hpc
  refine (put1_long HH.out (((Below.refl _ w).alloc (Nat.le_refl _) _).alloc (by simp) _) hpc (fun _ => Nat.le_refl _) (fun h => by cases h) (by simp) (by rw [HA.out.1]; exact Blk.new' _ _ _ _ (by simp)) (by rw [HA.out.1]; exact HS.out) (by rw [HA.out.1]; omega) _).mono ?_
  rintro e w2 ⟨rfl, h⟩
  replace h := hidp h
  clear hpc
  go_wp2
  go_ret
  exact ⟨rfl, h.out⟩

set_option maxRecDepth 20000 in
theorem wKey_ok {w : World} {g lim : Nat} {v : Value} {L : List Nat} (H : Wr w g lim v L 0) (a : List Nat) (ha : Bytes 4 a) (hs : L.length + 4 ≤ lim) :
    Calls Tryz.prog 78 #[.pointer (some ⟨g, 0, none⟩), .agg (bvs a).toArray] w (PutP w g lim v (L ++ a)) := by
  have HH := hidp H
  have HS := hidp hs
  have HA := hidp ha
  have hsl := fun w' => run_sliceAt_all (P := Tryz.prog) (t := 24) (e := 5) (n := 4) Tryz.underlying24 (by kernel_rfl) (by decide) w.heap.size 0 w'
  clear H hs ha
  go_enter Tryz.func78, Tryz.ntmps78
  go_wp2_with fail
  have hpc := new_piece w a HA.out.2 24 (.cells #[.slice (some ⟨w.heap.size, 0, none⟩) 4 4] 35)
  rw [HA.out.1] at hpc
  refine (put1 HH.out (((Below.refl _ w).alloc (Nat.le_refl _) _).alloc (by simp) _) hpc (fun _ => Nat.le_refl _) (fun h => by cases h) (by simp) (by rw [HA.out.1]; exact Blk.new' _ _ _ _ (by simp)) (by rw [HA.out.1]; exact HS.out) _).mono ?_
  rintro e w2 ⟨rfl, h⟩
  replace h := hidp h
  clear hpc
  go_wp2
  go_ret
  exact ⟨rfl, h.out⟩

set_option maxRecDepth 20000 in
theorem wKey_long {w : World} {g lim : Nat} {v : Value} {L : List Nat} (H : Wr w g lim v L 0) (a : List Nat) (ha : Bytes 4 a) (hs : lim < L.length + 4) :
    Calls Tryz.prog 78 #[.pointer (some ⟨g, 0, none⟩), .agg (bvs a).toArray] w (LongP w g lim) := by
  have HH := hidp H
  have HS := hidp hs
  have HA := hidp ha
  have hsl := fun w' => run_sliceAt_all (P := Tryz.prog) (t := 24) (e := 5) (n := 4) Tryz.underlying24 (by kernel_rfl) (by decide) w.heap.size 0 w'
  clear H hs ha
  go_enter Tryz.func78, Tryz.ntmps78
  go_wp2_with fail
  have hpc := new_piece w a HA.out.2 24 (.cells #[.slice (some ⟨w.heap.size, 0, none⟩) 4 4] 35)
  rw [HA.out.1] at hpc
  refine (put1_long HH.out (((Below.refl _ w).alloc (Nat.le_refl _) _).alloc (by simp) _) hpc (fun _ => Nat.le_refl _) (fun h => by cases h) (by simp) (by rw [HA.out.1]; exact Blk.new' _ _ _ _ (by simp)) (by rw [HA.out.1]; exact HS.out) (by rw [HA.out.1]; omega) _).mono ?_
  rintro e w2 ⟨rfl, h⟩
  replace h := hidp h
  clear hpc
  go_wp2
  go_ret
  exact ⟨rfl, h.out⟩

end Go.Proofs.YtcmkmnidnapabaaGreat

/-! Ju: Contracts: readers that nobody made: Hash, Key, Rest, End; puts of a writer that nobody made. -/
namespace Go.Proofs.YtcmkmnidnapabaaGreat
open Go.RowKit Go.Lib Go.Maps
set_option maxRecDepth 20000 in
theorem mHash_bad {w : World} {x : Value} (h : BadR w x) : Calls Tryz.prog 164 #[x] w fun e w' => e = .returned (.agg (bvs (List.replicate 32 0)).toArray) ∧ Below w.heap.size w w' := by
  have HB : Hid (Below w.heap.size w (w.alloc (.cells (bvs (List.replicate 32 0)).toArray 39))) := hidp ((Below.refl _ w).alloc (Nat.le_refl _) _)
  have HZ := hidp (Blk.new w (bvs (List.replicate 32 0)) 39)
  have HE := hidp (fun f => elemHash_bad (h.below HB.out) f)
  clear h
  go_enter Tryz.func164, Tryz.ntmps164
  go_wp2_with fail
  refine (HE.out _).mono ?_
  rintro e w1 ⟨rfl, h1⟩
  have HX := hidp (btrans HB.out h1)
  replace HZ := hidp (HZ.out.below h1 (by simp))
  clear h1 HE HB
  go_wp2_with (refine wpList_store_blk rfl 39 _ _ rfl w.heap.size (bvs (List.replicate 32 0)) (bvs (List.replicate 32 0)) 39 rfl rfl HZ.out (by kernel_rfl) rfl (bvs_one _) ?_; intro w6 hw6)
  have b2 : Blk w6 w.heap.size (bvs (List.replicate 32 0)) 39 := by rw [hw6.out]; exact HZ.out.row
  refine bodyPost_ret (v := .agg (bvs (List.replicate 32 0)).toArray) ?_ rfl ⟨rfl, ?_⟩
  · exact results_cell_row Tryz.results164 _ _ w.heap.size 39 _ (0, 0) _ rfl b2 Tryz.underlying39 rfl (by kernel_rfl)
  · rw [hw6.out]; exact below_setRow HX.out (Nat.le_refl _) _

set_option maxRecDepth 20000 in
theorem mKey_bad {w : World} {x : Value} (h : BadR w x) : Calls Tryz.prog 140 #[x] w fun e w' => e = .returned (.agg (bvs (List.replicate 4 0)).toArray) ∧ Below w.heap.size w w' := by
  have HB : Hid (Below w.heap.size w (w.alloc (.cells (bvs (List.replicate 4 0)).toArray 24))) := hidp ((Below.refl _ w).alloc (Nat.le_refl _) _)
  have HZ := hidp (Blk.new w (bvs (List.replicate 4 0)) 24)
  have HE := hidp (fun f => elemKey_bad (h.below HB.out) f)
  clear h
  go_enter Tryz.func140, Tryz.ntmps140
  go_wp2_with fail
  refine (HE.out _).mono ?_
  rintro e w1 ⟨rfl, h1⟩
  have HX := hidp (btrans HB.out h1)
  replace HZ := hidp (HZ.out.below h1 (by simp))
  clear h1 HE HB
  go_wp2_with (refine wpList_store_blk rfl 24 _ _ rfl w.heap.size (bvs (List.replicate 4 0)) (bvs (List.replicate 4 0)) 24 rfl rfl HZ.out (by kernel_rfl) rfl (bvs_one _) ?_; intro w6 hw6)
  have b2 : Blk w6 w.heap.size (bvs (List.replicate 4 0)) 24 := by rw [hw6.out]; exact HZ.out.row
  refine bodyPost_ret (v := .agg (bvs (List.replicate 4 0)).toArray) ?_ rfl ⟨rfl, ?_⟩
  · exact results_cell_row Tryz.results140 _ _ w.heap.size 24 _ (0, 0) _ rfl b2 Tryz.underlying24 rfl (by kernel_rfl)
  · rw [hw6.out]; exact below_setRow HX.out (Nat.le_refl _) _

theorem mRest_bad {w : World} {x : Value} (h : BadR w x) : Calls Tryz.prog 90 #[x] w fun e w' => e = .returned (.int .i64 0) ∧ w = w' := by
  have HV := hidp (valid_bad h)
  clear h
  go_enter Tryz.func90, Tryz.ntmps90
  go_wp2_with (go_at_call 163; refine HV.out.mono ?_; rintro e wx ⟨rfl, rfl⟩)
  go_ret
  exact ⟨rfl, rfl⟩
set_option maxRecDepth 20000 in
theorem mEnd_bad {w : World} {x : Value} (h : BadR w x) : Calls Tryz.prog 92 #[x] w fun e w' => e = .returned (.agg #[.int .i64 1, .int .i64 0]) ∧ Below w.heap.size w w' := by
  have HV := hidp (fun (w' : World) (hB : Below w.heap.size w w') => valid_bad (h.below hB))
  clear h
  go_enter Tryz.func92, Tryz.ntmps92
  go_wp2_with (go_at_call 163; refine (HV.out _ (by (repeat' (first | (with_reducible exact Below.refl _ _) | (with_reducible refine Below.alloc ?_ ?_ _) | (with_reducible refine Below.drew ?_) | (with_reducible refine Below.drewN ?_ _) | (with_reducible refine Below.setCell ?_ ?_ _) | go_size)))).mono ?_; rintro e wx ⟨rfl, rfl⟩)
  exact bodyPost_ret (v := .agg #[.int .i64 1, .int .i64 0]) (by simp [results, Tryz.results92, go_sem]) rfl ⟨rfl, by (repeat' (first | (with_reducible exact Below.refl _ _) | (with_reducible refine Below.alloc ?_ ?_ _) | (with_reducible refine Below.drew ?_) | (with_reducible refine Below.drewN ?_ _) | (with_reducible refine Below.setCell ?_ ?_ _) | go_size))⟩

/-! A thing. -/
def thL (kind n : Int) (p : Option Addr) (len cap : Nat) (h k : List Nat) (x : Nat) (is : Bool) : List Value := .int .i64 kind :: .int .i64 n :: .slice p len cap :: (bvs h ++ (bvs k ++ [.int .u64 (x : Nat), .bool is]))
theorem thL_len (kind n : Int) (p : Option Addr) (len cap : Nat) {h k : List Nat} (x : Nat) (is : Bool) (hh : h.length = 32) (hk : k.length = 4) : (thL kind n p len cap h k x is).length = 41 := by
  unfold thL; simp [bvs_len, hh, hk]
theorem thL_h {kind n : Int} {p : Option Addr} {len cap : Nat} {h k : List Nat} {x : Nat} {is : Bool} (j : Nat) (v : Value) (hj : (bvs h)[j]? = some v) : (thL kind n p len cap h k x is)[3 + j]? = some v := by
  have hlt := (List.getElem?_eq_some_iff.1 hj).1
  rw [show 3 + j = j + 1 + 1 + 1 by omega]
  unfold thL
  rw [List.getElem?_cons_succ, List.getElem?_cons_succ, List.getElem?_cons_succ, List.getElem?_append_left hlt]
  exact hj
theorem thL_k {kind n : Int} {p : Option Addr} {len cap : Nat} {h k : List Nat} {x : Nat} {is : Bool} (hh : h.length = 32) (j : Nat) (v : Value) (hj : (bvs k)[j]? = some v) : (thL kind n p len cap h k x is)[35 + j]? = some v := by
  have hlt := (List.getElem?_eq_some_iff.1 hj).1
  rw [show 35 + j = (32 + j) + 1 + 1 + 1 by omega]
  unfold thL
  rw [List.getElem?_cons_succ, List.getElem?_cons_succ, List.getElem?_cons_succ, List.getElem?_append_right (by rw [bvs_len]; omega), bvs_len, hh, show 32 + j - 32 = j by omega, List.getElem?_append_left hlt]
  exact hj
theorem thL_e {kind n : Int} {p : Option Addr} {len cap : Nat} {h k : List Nat} {x : Nat} {is : Bool} (hh : h.length = 32) (hk : k.length = 4) (j : Nat) : (thL kind n p len cap h k x is)[39 + j]? = ([Value.int .u64 (x : Nat), .bool is] : List Value)[j]? := by
  rw [show 39 + j = (36 + j) + 1 + 1 + 1 by omega]
  unfold thL
  rw [List.getElem?_cons_succ, List.getElem?_cons_succ, List.getElem?_cons_succ, List.getElem?_append_right (by rw [bvs_len]; omega), bvs_len, hh, List.getElem?_append_right (by rw [bvs_len]; omega), bvs_len, hk, show 36 + j - 32 - 4 = j by omega]
theorem digs_ex (n : Nat) (h : n < 65536) : ∃ k, Digs n k := by
  by_cases h0 : n = 0
  · exact ⟨0, by subst h0; decide⟩
  · by_cases h1 : n < 256
    · exact ⟨1, by simpa using h1, fun _ => by simp; omega, by decide⟩
    · exact ⟨2, by simpa using h, fun _ => by simp; omega, by decide⟩
theorem strB_size (L : List Nat) : (strB L).size = L.length := by show (List.map UInt8.ofNat L).toArray.size = _; simp

end Go.Proofs.YtcmkmnidnapabaaGreat
