/-
  Contracts: the helpers of the stage's statements.
-/
import Derived.Test.YtbldmenaaedffaaWj
import Derived.Test.YtbldmenaaedffaaWq
import Derived.Test.YtbldmenaaedffaaWt
namespace Go.Proofs.Ytbldmenaaedffaa
open Go.RowKit

theorem btrans {w w1 w2 : World} (h : Below w.heap.size w w1) (k : Below w1.heap.size w1 w2) : Below w.heap.size w w2 := h.trans (k.mono h.size)

def mostN : Nat := 340282366920938463463374607431768211455
theorem mostN_lt : mostN < W128 := by decide
theorem most_any (w : World) : Calls Try.prog 33 #[] w fun e w' => e = .returned (wv mostN) ∧ Below w.heap.size w w' := by
  go_enter Try.func33, Try.ntmps33
  go_wp2
  exact bodyPost_ret (v := .agg #[.int .u64 18446744073709551615, .int .u64 18446744073709551615]) (by simp [results, Try.results33, go_sem]) rfl ⟨rfl, by (repeat' (first | (with_reducible exact Below.refl _ _) | (with_reducible refine Below.alloc ?_ ?_ _) | (with_reducible refine Below.drew ?_) | (with_reducible refine Below.drewN ?_ _) | (with_reducible refine Below.setCell ?_ ?_ _) | go_size))⟩
theorem low_any (n : Int) (w : World) : Calls Try.prog 31 #[.int .u64 n] w fun e w' => e = .returned (.agg #[.int .u64 0, .int .u64 n]) ∧ Below w.heap.size w w' := by
  go_enter Try.func31, Try.ntmps31
  go_wp2
  exact bodyPost_ret (v := .agg #[.int .u64 0, .int .u64 n]) (by simp [results, Try.results31, go_sem]) rfl ⟨rfl, by (repeat' (first | (with_reducible exact Below.refl _ _) | (with_reducible refine Below.alloc ?_ ?_ _) | (with_reducible refine Below.drew ?_) | (with_reducible refine Below.drewN ?_ _) | (with_reducible refine Below.setCell ?_ ?_ _) | go_size))⟩
theorem high_any (n : Int) (w : World) : Calls Try.prog 35 #[.int .u64 n] w fun e w' => e = .returned (.agg #[.int .u64 n, .int .u64 0]) ∧ Below w.heap.size w w' := by
  go_enter Try.func35, Try.ntmps35
  go_wp2
  exact bodyPost_ret (v := .agg #[.int .u64 n, .int .u64 0]) (by simp [results, Try.results35, go_sem]) rfl ⟨rfl, by (repeat' (first | (with_reducible exact Below.refl _ _) | (with_reducible refine Below.alloc ?_ ?_ _) | (with_reducible refine Below.drew ?_) | (with_reducible refine Below.drewN ?_ _) | (with_reducible refine Below.setCell ?_ ?_ _) | go_size))⟩

set_option maxHeartbeats 400000 in
theorem lplus_true (a b r : Nat) (x : Int) (w : World) (hP : ∀ w, Calls Try.prog 14 #[wv a, wv b] w fun e w' => e = .returned (.tuple #[wv r, .int .i64 x]) ∧ Below w.heap.size w w') :
    Calls Try.prog 32 #[wv a, wv b, wv r, .int .i64 x] w fun e w' => e = .returned (.bool true) ∧ Below w.heap.size w w' := by
  have HP := hidp hP; clear hP
  go_enter Try.func32, Try.ntmps32
  go_wp2_with fail
  refine (HP.out _).mono ?_
  rintro e w1 ⟨rfl, hB⟩
  have b1 : Blk w1 (w.heap.size + 2) [.int .u64 (hiw r), .int .u64 (low r)] 24 := (Blk.new' _ [.int .u64 (hiw r), .int .u64 (low r)] _ _ (by simp)).below hB (by simp)
  have c0 := b1.cell 0
  have c1 := b1.cell 1
  simp only [List.getElem?_cons_zero, List.getElem?_cons_succ] at c0 c1
  have hz := b1.lt
  have HB := hidp hB; clear hB b1
  go_wp2
  go_ret
  exact ⟨rfl, by (repeat' (first | (with_reducible exact Below.refl _ _) | (with_reducible refine Below.alloc ?_ ?_ _) | (with_reducible refine Below.drew ?_) | (with_reducible refine Below.drewN ?_ _) | (with_reducible refine Below.setCell ?_ ?_ _) | (with_reducible refine Below.trans ?_ (Below.mono HB.out ?_)) | go_size | (have i0_ := HB.out.size; (try simp at i0_); (try simp); omega)))⟩

set_option maxHeartbeats 400000 in
theorem ltimes_true (a r : Nat) (n x : Int) (w : World) (hP : ∀ w, Calls Try.prog 16 #[wv a, .int .i64 n] w fun e w' => e = .returned (.tuple #[wv r, .int .i64 x]) ∧ Below w.heap.size w w') :
    Calls Try.prog 34 #[wv a, .int .i64 n, wv r, .int .i64 x] w fun e w' => e = .returned (.bool true) ∧ Below w.heap.size w w' := by
  have HP := hidp hP; clear hP
  go_enter Try.func34, Try.ntmps34
  go_wp2_with fail
  refine (HP.out _).mono ?_
  rintro e w1 ⟨rfl, hB⟩
  have b1 : Blk w1 (w.heap.size + 1) [.int .u64 (hiw r), .int .u64 (low r)] 24 := (Blk.new' _ [.int .u64 (hiw r), .int .u64 (low r)] _ _ (by simp)).below hB (by simp)
  have c0 := b1.cell 0
  have c1 := b1.cell 1
  simp only [List.getElem?_cons_zero, List.getElem?_cons_succ] at c0 c1
  have hz := b1.lt
  have HB := hidp hB; clear hB b1
  go_wp2
  go_ret
  exact ⟨rfl, by (repeat' (first | (with_reducible exact Below.refl _ _) | (with_reducible refine Below.alloc ?_ ?_ _) | (with_reducible refine Below.drew ?_) | (with_reducible refine Below.drewN ?_ _) | (with_reducible refine Below.setCell ?_ ?_ _) | (with_reducible refine Below.trans ?_ (Below.mono HB.out ?_)) | go_size | (have i0_ := HB.out.size; (try simp at i0_); (try simp); omega)))⟩

set_option maxHeartbeats 400000 in
theorem lmore_true (a b : Nat) (n m : Int) (q : Bool) (w : World) (hP : ∀ w, Calls Try.prog 25 #[wv a, .int .i64 n, wv b, .int .i64 m] w fun e w' => e = .returned (.tuple #[.bool q, .int .i64 0]) ∧ Below w.heap.size w w') :
    Calls Try.prog 36 #[wv a, .int .i64 n, wv b, .int .i64 m, .bool q] w fun e w' => e = .returned (.bool true) ∧ Below w.heap.size w w' := by
  have HP := hidp hP; clear hP
  go_enter Try.func36, Try.ntmps36
  go_wp2_with fail
  refine (HP.out _).mono ?_
  rintro e w1 ⟨rfl, hB⟩
  have HB := hidp hB; clear hB
  cases q
  all_goals go_wp2
  all_goals go_ret
  all_goals exact ⟨rfl, by (repeat' (first | (with_reducible exact Below.refl _ _) | (with_reducible refine Below.alloc ?_ ?_ _) | (with_reducible refine Below.drew ?_) | (with_reducible refine Below.drewN ?_ _) | (with_reducible refine Below.setCell ?_ ?_ _) | (with_reducible refine Below.trans ?_ (Below.mono HB.out ?_)) | go_size | (have i0_ := HB.out.size; (try simp at i0_); (try simp); omega)))⟩

set_option maxHeartbeats 400000 in
theorem lreads_true (s : ByteArray) (r : Nat) (x i : Int) (w : World) (hP : ∀ w, Calls Try.prog 27 #[.string s] w fun e w' => e = .returned (.tuple #[wv r, fv x i]) ∧ Below w.heap.size w w') :
    Calls Try.prog 37 #[.string s, wv r, .int .i64 x, .int .i64 i] w fun e w' => e = .returned (.bool true) ∧ Below w.heap.size w w' := by
  have HP := hidp hP; clear hP
  go_enter Try.func37, Try.ntmps37
  go_wp2_with fail
  refine (HP.out _).mono ?_
  rintro e w1 ⟨rfl, hB⟩
  have b1 : Blk w1 w.heap.size [.int .u64 (hiw r), .int .u64 (low r)] 24 := (Blk.new' _ [.int .u64 (hiw r), .int .u64 (low r)] _ _ (by simp)).below hB (by simp)
  have c0 := b1.cell 0
  have c1 := b1.cell 1
  simp only [List.getElem?_cons_zero, List.getElem?_cons_succ] at c0 c1
  have hz := b1.lt
  have HB := hidp hB; clear hB b1
  go_wp2
  go_ret
  exact ⟨rfl, by (repeat' (first | (with_reducible exact Below.refl _ _) | (with_reducible refine Below.alloc ?_ ?_ _) | (with_reducible refine Below.drew ?_) | (with_reducible refine Below.drewN ?_ _) | (with_reducible refine Below.setCell ?_ ?_ _) | (with_reducible refine Below.trans ?_ (Below.mono HB.out ?_)) | go_size | (have i0_ := HB.out.size; (try simp at i0_); (try simp); omega)))⟩
end Go.Proofs.Ytbldmenaaedffaa
