/-
  Contracts: a valid writer's Hash, Key, Pace.
-/
import Derived.Test.YtlfmmmlheloloaaJt
namespace Go.Proofs.Ytlfmmmlheloloaa
open Go.RowKit Go.Lib Go.Maps

set_option maxRecDepth 20000 in
theorem wHash_ok {w : World} {g lim : Nat} {v : Value} {L : List Nat} (H : Wr w g lim v L 0) (a : List Nat) (ha : Bytes 32 a) (hs : L.length + 32 ≤ lim) :
    Calls Try.prog 71 #[.pointer (some ⟨g, 0, none⟩), .agg (bvs a).toArray] w (PutP w g lim v (L ++ a)) := by
  have HH := hidp H
  have HS := hidp hs
  have HA := hidp ha
  have hsl := fun w' => run_sliceAt_all (P := Try.prog) (t := 34) (e := 5) (n := 32) Try.underlying34 (by kernel_rfl) (by decide) w.heap.size 0 w'
  clear H hs ha
  go_enter Try.func71, Try.ntmps71
  go_wp2_with fail
  have hpc := new_piece w a HA.out.2 34 (.cells #[.slice (some ⟨w.heap.size, 0, none⟩) 32 32] 32)
  rw [HA.out.1] at hpc
  refine (put1 HH.out (((Below.refl _ w).alloc (Nat.le_refl _) _).alloc (by simp) _) hpc (fun _ => Nat.le_refl _) (fun h => by cases h) (by simp) (by rw [HA.out.1]; exact Blk.new' _ _ _ _ (by simp)) (by rw [HA.out.1]; exact HS.out) _).mono ?_
  rintro e w2 ⟨rfl, h⟩
  replace h := hidp h
  clear hpc
  go_wp2
  go_ret
  exact ⟨rfl, h.out⟩

set_option maxRecDepth 20000 in
theorem wHash_long {w : World} {g lim : Nat} {v : Value} {L : List Nat} (H : Wr w g lim v L 0) (a : List Nat) (ha : Bytes 32 a) (hs : lim < L.length + 32) :
    Calls Try.prog 71 #[.pointer (some ⟨g, 0, none⟩), .agg (bvs a).toArray] w (LongP w g lim) := by
  have HH := hidp H
  have HS := hidp hs
  have HA := hidp ha
  have hsl := fun w' => run_sliceAt_all (P := Try.prog) (t := 34) (e := 5) (n := 32) Try.underlying34 (by kernel_rfl) (by decide) w.heap.size 0 w'
  clear H hs ha
  go_enter Try.func71, Try.ntmps71
  go_wp2_with fail
  have hpc := new_piece w a HA.out.2 34 (.cells #[.slice (some ⟨w.heap.size, 0, none⟩) 32 32] 32)
  rw [HA.out.1] at hpc
  refine (put1_long HH.out (((Below.refl _ w).alloc (Nat.le_refl _) _).alloc (by simp) _) hpc (fun _ => Nat.le_refl _) (fun h => by cases h) (by simp) (by rw [HA.out.1]; exact Blk.new' _ _ _ _ (by simp)) (by rw [HA.out.1]; exact HS.out) (by rw [HA.out.1]; omega) _).mono ?_
  rintro e w2 ⟨rfl, h⟩
  replace h := hidp h
  clear hpc
  go_wp2
  go_ret
  exact ⟨rfl, h.out⟩

set_option maxRecDepth 20000 in
theorem wKey_ok {w : World} {g lim : Nat} {v : Value} {L : List Nat} (H : Wr w g lim v L 0) (a : List Nat) (ha : Bytes 4 a) (hs : L.length + 4 ≤ lim) :
    Calls Try.prog 72 #[.pointer (some ⟨g, 0, none⟩), .agg (bvs a).toArray] w (PutP w g lim v (L ++ a)) := by
  have HH := hidp H
  have HS := hidp hs
  have HA := hidp ha
  have hsl := fun w' => run_sliceAt_all (P := Try.prog) (t := 36) (e := 5) (n := 4) Try.underlying36 (by kernel_rfl) (by decide) w.heap.size 0 w'
  clear H hs ha
  go_enter Try.func72, Try.ntmps72
  go_wp2_with fail
  have hpc := new_piece w a HA.out.2 36 (.cells #[.slice (some ⟨w.heap.size, 0, none⟩) 4 4] 32)
  rw [HA.out.1] at hpc
  refine (put1 HH.out (((Below.refl _ w).alloc (Nat.le_refl _) _).alloc (by simp) _) hpc (fun _ => Nat.le_refl _) (fun h => by cases h) (by simp) (by rw [HA.out.1]; exact Blk.new' _ _ _ _ (by simp)) (by rw [HA.out.1]; exact HS.out) _).mono ?_
  rintro e w2 ⟨rfl, h⟩
  replace h := hidp h
  clear hpc
  go_wp2
  go_ret
  exact ⟨rfl, h.out⟩

set_option maxRecDepth 20000 in
theorem wKey_long {w : World} {g lim : Nat} {v : Value} {L : List Nat} (H : Wr w g lim v L 0) (a : List Nat) (ha : Bytes 4 a) (hs : lim < L.length + 4) :
    Calls Try.prog 72 #[.pointer (some ⟨g, 0, none⟩), .agg (bvs a).toArray] w (LongP w g lim) := by
  have HH := hidp H
  have HS := hidp hs
  have HA := hidp ha
  have hsl := fun w' => run_sliceAt_all (P := Try.prog) (t := 36) (e := 5) (n := 4) Try.underlying36 (by kernel_rfl) (by decide) w.heap.size 0 w'
  clear H hs ha
  go_enter Try.func72, Try.ntmps72
  go_wp2_with fail
  have hpc := new_piece w a HA.out.2 36 (.cells #[.slice (some ⟨w.heap.size, 0, none⟩) 4 4] 32)
  rw [HA.out.1] at hpc
  refine (put1_long HH.out (((Below.refl _ w).alloc (Nat.le_refl _) _).alloc (by simp) _) hpc (fun _ => Nat.le_refl _) (fun h => by cases h) (by simp) (by rw [HA.out.1]; exact Blk.new' _ _ _ _ (by simp)) (by rw [HA.out.1]; exact HS.out) (by rw [HA.out.1]; omega) _).mono ?_
  rintro e w2 ⟨rfl, h⟩
  replace h := hidp h
  clear hpc
  go_wp2
  go_ret
  exact ⟨rfl, h.out⟩

set_option maxRecDepth 20000 in
theorem wPace_ok {w : World} {g lim : Nat} {v : Value} {L : List Nat} (H : Wr w g lim v L 0) (n : Nat) (hn : n < 18446744073709551616) (hs : L.length + 8 ≤ lim) :
    Calls Try.prog 73 #[.pointer (some ⟨g, 0, none⟩), .float .f64 n] w (PutP w g lim v (L ++ wordB (formN n))) := by
  have HB := hidp (fun w' => Bits_any n w')
  have HW := hidp (wWord_ok H (formN n) (formN_lt n hn) hs)
  clear H hn hs
  go_enter Try.func73, Try.ntmps73
  go_wp2_with (go_at_call 140; refine (HB.out _).mono ?_; rintro e w1 ⟨rfl, rfl⟩)
  refine HW.out.mono ?_
  rintro e w2 ⟨rfl, h⟩
  replace h := hidp h
  go_wp2
  go_ret
  exact ⟨rfl, h.out⟩

set_option maxRecDepth 20000 in
theorem wPace_long {w : World} {g lim : Nat} {v : Value} {L : List Nat} (H : Wr w g lim v L 0) (n : Nat) (hn : n < 18446744073709551616) (hs : lim < L.length + 8) :
    Calls Try.prog 73 #[.pointer (some ⟨g, 0, none⟩), .float .f64 n] w (LongP w g lim) := by
  have HB := hidp (fun w' => Bits_any n w')
  have HW := hidp (wWord_long H (formN n) (formN_lt n hn) hs)
  clear H hn hs
  go_enter Try.func73, Try.ntmps73
  go_wp2_with (go_at_call 140; refine (HB.out _).mono ?_; rintro e w1 ⟨rfl, rfl⟩)
  refine HW.out.mono ?_
  rintro e w2 ⟨rfl, h⟩
  replace h := hidp h
  go_wp2
  go_ret
  exact ⟨rfl, h.out⟩

end Go.Proofs.Ytlfmmmlheloloaa
