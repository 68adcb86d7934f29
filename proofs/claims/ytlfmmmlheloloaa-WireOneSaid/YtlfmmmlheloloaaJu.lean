/-
  Contracts: readers that nobody made: Hash, Key, Rest, End; puts of a writer that nobody made.
-/
import Derived.Test.YtlfmmmlheloloaaJt
namespace Go.Proofs.Ytlfmmmlheloloaa
open Go.RowKit Go.Lib Go.Maps
attribute [local go_sem] run_bits run_frombits

set_option maxRecDepth 20000 in
theorem mHash_bad {w : World} {x : Value} (h : BadR w x) : Calls Try.prog 36 #[x] w fun e w' => e = .returned (.agg (bvs (List.replicate 32 0)).toArray) ∧ Below w.heap.size w w' := by
  have HB : Hid (Below w.heap.size w (w.alloc (.cells (bvs (List.replicate 32 0)).toArray 34))) := hidp ((Below.refl _ w).alloc (Nat.le_refl _) _)
  have HZ := hidp (Blk.new w (bvs (List.replicate 32 0)) 34)
  have HE := hidp (fun f => elemHash_bad (h.below HB.out) f)
  clear h
  go_enter Try.func36, Try.ntmps36
  go_wp2_with fail
  refine (HE.out _).mono ?_
  rintro e w1 ⟨rfl, h1⟩
  have HX := hidp (btrans HB.out h1)
  replace HZ := hidp (HZ.out.below h1 (by simp))
  clear h1 HE HB
  go_wp2_with (refine wpList_store_blk rfl 34 _ _ rfl w.heap.size (bvs (List.replicate 32 0)) (bvs (List.replicate 32 0)) 34 rfl rfl HZ.out (by kernel_rfl) rfl (bvs_one _) ?_; intro w6 hw6)
  have b2 : Blk w6 w.heap.size (bvs (List.replicate 32 0)) 34 := by rw [hw6.out]; exact HZ.out.row
  refine bodyPost_ret (v := .agg (bvs (List.replicate 32 0)).toArray) ?_ rfl ⟨rfl, ?_⟩
  · exact results_cell_row Try.results36 _ _ w.heap.size 34 _ (0, 0) _ rfl b2 Try.underlying34 rfl (by kernel_rfl)
  · rw [hw6.out]; exact below_setRow HX.out (Nat.le_refl _) _

set_option maxRecDepth 20000 in
theorem mKey_bad {w : World} {x : Value} (h : BadR w x) : Calls Try.prog 37 #[x] w fun e w' => e = .returned (.agg (bvs (List.replicate 4 0)).toArray) ∧ Below w.heap.size w w' := by
  have HB : Hid (Below w.heap.size w (w.alloc (.cells (bvs (List.replicate 4 0)).toArray 36))) := hidp ((Below.refl _ w).alloc (Nat.le_refl _) _)
  have HZ := hidp (Blk.new w (bvs (List.replicate 4 0)) 36)
  have HE := hidp (fun f => elemKey_bad (h.below HB.out) f)
  clear h
  go_enter Try.func37, Try.ntmps37
  go_wp2_with fail
  refine (HE.out _).mono ?_
  rintro e w1 ⟨rfl, h1⟩
  have HX := hidp (btrans HB.out h1)
  replace HZ := hidp (HZ.out.below h1 (by simp))
  clear h1 HE HB
  go_wp2_with (refine wpList_store_blk rfl 36 _ _ rfl w.heap.size (bvs (List.replicate 4 0)) (bvs (List.replicate 4 0)) 36 rfl rfl HZ.out (by kernel_rfl) rfl (bvs_one _) ?_; intro w6 hw6)
  have b2 : Blk w6 w.heap.size (bvs (List.replicate 4 0)) 36 := by rw [hw6.out]; exact HZ.out.row
  refine bodyPost_ret (v := .agg (bvs (List.replicate 4 0)).toArray) ?_ rfl ⟨rfl, ?_⟩
  · exact results_cell_row Try.results37 _ _ w.heap.size 36 _ (0, 0) _ rfl b2 Try.underlying36 rfl (by kernel_rfl)
  · rw [hw6.out]; exact below_setRow HX.out (Nat.le_refl _) _

theorem mRest_bad {w : World} {x : Value} (h : BadR w x) : Calls Try.prog 29 #[x] w fun e w' => e = .returned (.int .i64 0) ∧ w = w' := by
  have HV := hidp (valid_bad h)
  clear h
  go_enter Try.func29, Try.ntmps29
  go_wp2_with (go_at_call 94; refine HV.out.mono ?_; rintro e wx ⟨rfl, rfl⟩)
  go_ret
  exact ⟨rfl, rfl⟩
set_option maxRecDepth 20000 in
theorem mEnd_bad {w : World} {x : Value} (h : BadR w x) : Calls Try.prog 31 #[x] w fun e w' => e = .returned (.agg #[.int .i64 1, .int .i64 0]) ∧ Below w.heap.size w w' := by
  have HV := hidp (fun (w' : World) (hB : Below w.heap.size w w') => valid_bad (h.below hB))
  clear h
  go_enter Try.func31, Try.ntmps31
  go_wp2_with (go_at_call 94; refine (HV.out _ (by (repeat' (first | (with_reducible exact Below.refl _ _) | (with_reducible refine Below.alloc ?_ ?_ _) | (with_reducible refine Below.drew ?_) | (with_reducible refine Below.drewN ?_ _) | (with_reducible refine Below.setCell ?_ ?_ _) | go_size)))).mono ?_; rintro e wx ⟨rfl, rfl⟩)
  exact bodyPost_ret (v := .agg #[.int .i64 1, .int .i64 0]) (by simp [results, Try.results31, go_sem]) rfl ⟨rfl, by (repeat' (first | (with_reducible exact Below.refl _ _) | (with_reducible refine Below.alloc ?_ ?_ _) | (with_reducible refine Below.drew ?_) | (with_reducible refine Below.drewN ?_ _) | (with_reducible refine Below.setCell ?_ ?_ _) | go_size))⟩

/-! A thing. -/
def thL (kind n : Int) (p : Option Addr) (len cap : Nat) (h k : List Nat) (x : Nat) (is : Bool) : List Value := .int .i64 kind :: .int .i64 n :: .slice p len cap :: (bvs h ++ (bvs k ++ [.int .u64 (x : Nat), .bool is]))
theorem thL_len (kind n : Int) (p : Option Addr) (len cap : Nat) {h k : List Nat} (x : Nat) (is : Bool) (hh : h.length = 32) (hk : k.length = 4) : (thL kind n p len cap h k x is).length = 41 := by
  unfold thL; simp [bvs_len, hh, hk]
/-- A thing lies in block g. -/
structure Th (w : World) (g : Nat) (kind n : Int) (p : Option Addr) (len cap : Nat) (h k : List Nat) (x : Nat) (is : Bool) : Prop where
  blk : Blk w g (thL kind n p len cap h k x is) 39
  hh : Bytes 32 h
  hk : Bytes 4 k
theorem Th.c0 {w : World} {g : Nat} {kind n : Int} {p : Option Addr} {len cap : Nat} {h k : List Nat} {x : Nat} {is : Bool} (H : Th w g kind n p len cap h k x is) : w.cell? ⟨g, 0, none⟩ = some (.int .i64 kind) := H.blk.cell 0
theorem Th.c1 {w : World} {g : Nat} {kind n : Int} {p : Option Addr} {len cap : Nat} {h k : List Nat} {x : Nat} {is : Bool} (H : Th w g kind n p len cap h k x is) : w.cell? ⟨g, 1, none⟩ = some (.int .i64 n) := H.blk.cell 1
theorem Th.c2 {w : World} {g : Nat} {kind n : Int} {p : Option Addr} {len cap : Nat} {h k : List Nat} {x : Nat} {is : Bool} (H : Th w g kind n p len cap h k x is) : w.cell? ⟨g, 2, none⟩ = some (.slice p len cap) := H.blk.cell 2
theorem thL_h {kind n : Int} {p : Option Addr} {len cap : Nat} {h k : List Nat} {x : Nat} {is : Bool} (j : Nat) (v : Value) (hj : (bvs h)[j]? = some v) : (thL kind n p len cap h k x is)[3 + j]? = some v := by
  have hlt := (List.getElem?_eq_some_iff.1 hj).1
  rw [show 3 + j = j + 1 + 1 + 1 by omega]
  unfold thL
  rw [List.getElem?_cons_succ, List.getElem?_cons_succ, List.getElem?_cons_succ, List.getElem?_append_left hlt]
  exact hj
theorem thL_k {kind n : Int} {p : Option Addr} {len cap : Nat} {h k : List Nat} {x : Nat} {is : Bool} (hh : h.length = 32) (j : Nat) (v : Value) (hj : (bvs k)[j]? = some v) : (thL kind n p len cap h k x is)[35 + j]? = some v := by
  have hlt := (List.getElem?_eq_some_iff.1 hj).1
  rw [show 35 + j = (32 + j) + 1 + 1 + 1 by omega]
  unfold thL
  rw [List.getElem?_cons_succ, List.getElem?_cons_succ, List.getElem?_cons_succ, List.getElem?_append_right (by rw [bvs_len]; omega), bvs_len, hh, show 32 + j - 32 = j by omega, List.getElem?_append_left hlt]
  exact hj
theorem thL_e {kind n : Int} {p : Option Addr} {len cap : Nat} {h k : List Nat} {x : Nat} {is : Bool} (hh : h.length = 32) (hk : k.length = 4) (j : Nat) : (thL kind n p len cap h k x is)[39 + j]? = ([Value.int .u64 (x : Nat), .bool is] : List Value)[j]? := by
  rw [show 39 + j = (36 + j) + 1 + 1 + 1 by omega]
  unfold thL
  rw [List.getElem?_cons_succ, List.getElem?_cons_succ, List.getElem?_cons_succ, List.getElem?_append_right (by rw [bvs_len]; omega), bvs_len, hh, List.getElem?_append_right (by rw [bvs_len]; omega), bvs_len, hk, show 36 + j - 32 - 4 = j by omega]
theorem Th.rh {w : World} {g : Nat} {kind n : Int} {p : Option Addr} {len cap : Nat} {h k : List Nat} {x : Nat} {is : Bool} (H : Th w g kind n p len cap h k x is) : w.rangeAt g 3 (bvs h) := fun j v hj => (H.blk.cell _).trans (thL_h j v hj)
theorem Th.rk {w : World} {g : Nat} {kind n : Int} {p : Option Addr} {len cap : Nat} {h k : List Nat} {x : Nat} {is : Bool} (H : Th w g kind n p len cap h k x is) : w.rangeAt g 35 (bvs k) := fun j v hj => (H.blk.cell _).trans (thL_k H.hh.1 j v hj)
theorem Th.c39 {w : World} {g : Nat} {kind n : Int} {p : Option Addr} {len cap : Nat} {h k : List Nat} {x : Nat} {is : Bool} (H : Th w g kind n p len cap h k x is) : w.cell? ⟨g, 39, none⟩ = some (.int .u64 (x : Nat)) := (H.blk.cell 39).trans (thL_e H.hh.1 H.hk.1 0)
theorem Th.c40 {w : World} {g : Nat} {kind n : Int} {p : Option Addr} {len cap : Nat} {h k : List Nat} {x : Nat} {is : Bool} (H : Th w g kind n p len cap h k x is) : w.cell? ⟨g, 40, none⟩ = some (.bool is) := (H.blk.cell 40).trans (thL_e H.hh.1 H.hk.1 1)
theorem digs_ex (n : Nat) (h : n < 65536) : ∃ k, Digs n k := by
  by_cases h0 : n = 0
  · exact ⟨0, by subst h0; decide⟩
  · by_cases h1 : n < 256
    · exact ⟨1, by simpa using h1, fun _ => by simp; omega, by decide⟩
    · exact ⟨2, by simpa using h, fun _ => by simp; omega, by decide⟩
theorem strB_size (L : List Nat) : (strB L).size = L.length := by show (List.map UInt8.ofNat L).toArray.size = _; simp

set_option maxRecDepth 100000 in
set_option maxHeartbeats 8000000 in
theorem puts_bad {w : World} {y : Value} (hy : BadW w y) (kind n : Int) (p : Option Addr) (b o cap : Nat) (L : List Nat) (h k : List Nat) (x : Nat) (is : Bool) (hk0 : 0 ≤ kind) (hk7 : kind ≤ 7) (hL : Bs w p b o L cap) (hn : L.length ≤ 1000) (hh : Bytes 32 h) (hk : Bytes 4 k) (hx : x < 18446744073709551616) :
    Calls Try.prog 19 #[y, .agg (thL kind n p L.length cap h k x is).toArray] w (BadP w) := by
  have hB := hidp ((Below.refl _ w).alloc (Nat.le_refl _) (.cells (thL kind n p L.length cap h k x is).toArray 39))
  have HT : Hid (Th (w.alloc (.cells (thL kind n p L.length cap h k x is).toArray 39)) w.heap.size kind n p L.length cap h k x is) := hidp ⟨Blk.new w _ _, hh, hk⟩
  have c0 := HT.out.c0
  have c1 := HT.out.c1
  have c2 := HT.out.c2
  have c39 := HT.out.c39
  have c40 := HT.out.c40
  have HX := hidp hy
  have HL := hidp hn
  have HW := hidp hx
  obtain ⟨dk, hd⟩ := digs_ex L.length (by omega)
  have HD := hidp hd
  have hcv := conv_bs (hL.below hB.out) cap
  have hcase : kind = 0 ∨ kind = 1 ∨ kind = 2 ∨ kind = 3 ∨ kind = 4 ∨ kind = 5 ∨ kind = 6 ∨ kind = 7 := by omega
  clear hy hn hd hk0 hk7 hL hh hk hx
  rcases hcase with rfl | rfl | rfl | rfl | rfl | rfl | rfl | rfl
  · go_enter Try.func19, Try.ntmps19
    go_wp2_with fail
    refine (wNum_bad (HX.out.below hB.out) n).mono ?_
    rintro e w2 ⟨rfl, rfl⟩
    have h2 := hB
    go_wp2
    go_ret
    exact ⟨rfl, h2.out⟩
  · go_enter Try.func19, Try.ntmps19
    go_wp2_with fail
    refine (wText_bad (HX.out.below hB.out) (strB L) dk (by rw [strB_size]; have := HL.out; omega) (by rw [strB_size]; exact HD.out)).mono ?_
    rintro e w2 ⟨rfl, h2⟩
    replace h2 := hidp (btrans hB.out h2)
    go_wp2
    go_ret
    exact ⟨rfl, h2.out⟩
  · go_enter Try.func19, Try.ntmps19
    go_wp2_with fail
    refine (wBytes_bad (HX.out.below hB.out) p L.length cap dk (by have := HL.out; omega) HD.out).mono ?_
    rintro e w2 ⟨rfl, h2⟩
    replace h2 := hidp (btrans hB.out h2)
    go_wp2
    go_ret
    exact ⟨rfl, h2.out⟩
  · go_enter Try.func19, Try.ntmps19
    go_wp2_with (refine wpList_load_mid rfl 34 _ rfl w.heap.size 3 rfl _ _ HT.out.rh Try.underlying34 rfl (by rw [bvs_len, HT.out.hh.1]; kernel_rfl) ?_)
    refine (wHash_bad (HX.out.below hB.out) h HT.out.hh.1).mono ?_
    rintro e w2 ⟨rfl, h2⟩
    replace h2 := hidp (btrans hB.out h2)
    go_wp2
    go_ret
    exact ⟨rfl, h2.out⟩
  · go_enter Try.func19, Try.ntmps19
    go_wp2_with (refine wpList_load_mid rfl 36 _ rfl w.heap.size 35 rfl _ _ HT.out.rk Try.underlying36 rfl (by rw [bvs_len, HT.out.hk.1]; kernel_rfl) ?_)
    refine (wKey_bad (HX.out.below hB.out) k HT.out.hk.1).mono ?_
    rintro e w2 ⟨rfl, h2⟩
    replace h2 := hidp (btrans hB.out h2)
    go_wp2
    go_ret
    exact ⟨rfl, h2.out⟩
  · go_enter Try.func19, Try.ntmps19
    go_wp2_with fail
    refine (wWord_bad (HX.out.below hB.out) x HW.out).mono ?_
    rintro e w2 ⟨rfl, h2⟩
    replace h2 := hidp (btrans hB.out h2)
    go_wp2
    go_ret
    exact ⟨rfl, h2.out⟩
  · go_enter Try.func19, Try.ntmps19
    go_wp2_with fail
    refine (wPace_bad (HX.out.below hB.out) x HW.out).mono ?_
    rintro e w2 ⟨rfl, h2⟩
    replace h2 := hidp (btrans hB.out h2)
    go_wp2
    go_ret
    exact ⟨rfl, h2.out⟩
  · go_enter Try.func19, Try.ntmps19
    go_wp2_with fail
    refine (wBool_bad (HX.out.below hB.out) is).mono ?_
    rintro e w2 ⟨rfl, h2⟩
    replace h2 := hidp (btrans hB.out h2)
    go_wp2
    go_ret
    exact ⟨rfl, h2.out⟩

end Go.Proofs.Ytlfmmmlheloloaa
