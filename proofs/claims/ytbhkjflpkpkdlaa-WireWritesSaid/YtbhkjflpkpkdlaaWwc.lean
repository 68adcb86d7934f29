/-
  WireWrites: a thing is written, by the code's writer and by the answer's.
-/
import Derived.Test.YtbhkjflpkpkdlaaWwb
namespace Go.Proofs.Ytbhkjflpkpkdlaa
open Go.RowKit Go.Lib Go.Maps
set_option linter.unusedVariables false
set_option linter.unusedSimpArgs false
attribute [local go_sem] run_bits run_frombits
set_option maxRecDepth 100000 in
set_option maxHeartbeats 1000000 in
theorem puts_via0 {w : World} {g : Nat} {R : Ending → World → Prop} (n : Int) (p : Option Addr) (cap : Nat) (L h k : List Nat) (x : Nat) (is : Bool) (hh : Bytes 32 h) (hk : Bytes 4 k)
    (HC0 : Calls Try.prog 62 #[.pointer (some ⟨g, 0, none⟩), .int .i64 n] (w.alloc (.cells (thL 0 n p L.length cap h k x is).toArray 39)) R) (hR : ∀ e w', R e w' → ∃ e1 : Nat, e = .returned (.int .i64 e1)) :
    Calls Try.prog 15 #[.pointer (some ⟨g, 0, none⟩), .agg (thL 0 n p L.length cap h k x is).toArray] w R := by
  have HT : Hid (Th (w.alloc (.cells (thL 0 n p L.length cap h k x is).toArray 39)) w.heap.size 0 n p L.length cap h k x is) := hidp ⟨Blk.new w _ _, hh, hk⟩
  have c0 := HT.out.c0
  have c1 := HT.out.c1
  have c2 := HT.out.c2
  have c39 := HT.out.c39
  have c40 := HT.out.c40
  have HC := hidp HC0
  have HRR := hidp hR
  clear HC0 hh hk hR
  go_enter Try.func15, Try.ntmps15
  go_wp2_with fail
  refine HC.out.mono ?_
  rintro e w2 hq
  obtain ⟨e1, rfl⟩ := HRR.out _ _ hq
  replace hq := hidp hq
  clear HC HRR
  go_wp2
  exact hq.out
set_option maxRecDepth 100000 in
set_option maxHeartbeats 1000000 in
theorem puts_via1 {w : World} {g : Nat} {R : Ending → World → Prop} (n : Int) (p : Option Addr) (cap : Nat) (L h k : List Nat) (x : Nat) (is : Bool) (hh : Bytes 32 h) (hk : Bytes 4 k) (b o : Nat) (hL : Bs (w.alloc (.cells (thL 1 n p L.length cap h k x is).toArray 39)) p b o L cap)
    (HC0 : Calls Try.prog 63 #[.pointer (some ⟨g, 0, none⟩), .string (strB L)] (w.alloc (.cells (thL 1 n p L.length cap h k x is).toArray 39)) R) (hR : ∀ e w', R e w' → ∃ e1 : Nat, e = .returned (.int .i64 e1)) :
    Calls Try.prog 15 #[.pointer (some ⟨g, 0, none⟩), .agg (thL 1 n p L.length cap h k x is).toArray] w R := by
  have HT : Hid (Th (w.alloc (.cells (thL 1 n p L.length cap h k x is).toArray 39)) w.heap.size 1 n p L.length cap h k x is) := hidp ⟨Blk.new w _ _, hh, hk⟩
  have c0 := HT.out.c0
  have c1 := HT.out.c1
  have c2 := HT.out.c2
  have c39 := HT.out.c39
  have c40 := HT.out.c40
  have hcv := conv_bs hL cap
  have HC := hidp HC0
  have HRR := hidp hR
  clear HC0 hh hk hR hL
  go_enter Try.func15, Try.ntmps15
  go_wp2_with fail
  refine HC.out.mono ?_
  rintro e w2 hq
  obtain ⟨e1, rfl⟩ := HRR.out _ _ hq
  replace hq := hidp hq
  clear HC HRR
  go_wp2
  exact hq.out
set_option maxRecDepth 100000 in
set_option maxHeartbeats 1000000 in
theorem puts_via2 {w : World} {g : Nat} {R : Ending → World → Prop} (n : Int) (p : Option Addr) (cap : Nat) (L h k : List Nat) (x : Nat) (is : Bool) (hh : Bytes 32 h) (hk : Bytes 4 k)
    (HC0 : Calls Try.prog 71 #[.pointer (some ⟨g, 0, none⟩), .slice p L.length cap] (w.alloc (.cells (thL 2 n p L.length cap h k x is).toArray 39)) R) (hR : ∀ e w', R e w' → ∃ e1 : Nat, e = .returned (.int .i64 e1)) :
    Calls Try.prog 15 #[.pointer (some ⟨g, 0, none⟩), .agg (thL 2 n p L.length cap h k x is).toArray] w R := by
  have HT : Hid (Th (w.alloc (.cells (thL 2 n p L.length cap h k x is).toArray 39)) w.heap.size 2 n p L.length cap h k x is) := hidp ⟨Blk.new w _ _, hh, hk⟩
  have c0 := HT.out.c0
  have c1 := HT.out.c1
  have c2 := HT.out.c2
  have c39 := HT.out.c39
  have c40 := HT.out.c40
  have HC := hidp HC0
  have HRR := hidp hR
  clear HC0 hh hk hR
  go_enter Try.func15, Try.ntmps15
  go_wp2_with fail
  refine HC.out.mono ?_
  rintro e w2 hq
  obtain ⟨e1, rfl⟩ := HRR.out _ _ hq
  replace hq := hidp hq
  clear HC HRR
  go_wp2
  exact hq.out
set_option maxRecDepth 100000 in
set_option maxHeartbeats 1000000 in
theorem puts_via3 {w : World} {g : Nat} {R : Ending → World → Prop} (n : Int) (p : Option Addr) (cap : Nat) (L h k : List Nat) (x : Nat) (is : Bool) (hh : Bytes 32 h) (hk : Bytes 4 k)
    (HC0 : Calls Try.prog 72 #[.pointer (some ⟨g, 0, none⟩), .agg (bvs h).toArray] (w.alloc (.cells (thL 3 n p L.length cap h k x is).toArray 39)) R) (hR : ∀ e w', R e w' → ∃ e1 : Nat, e = .returned (.int .i64 e1)) :
    Calls Try.prog 15 #[.pointer (some ⟨g, 0, none⟩), .agg (thL 3 n p L.length cap h k x is).toArray] w R := by
  have HT : Hid (Th (w.alloc (.cells (thL 3 n p L.length cap h k x is).toArray 39)) w.heap.size 3 n p L.length cap h k x is) := hidp ⟨Blk.new w _ _, hh, hk⟩
  have c0 := HT.out.c0
  have c1 := HT.out.c1
  have c2 := HT.out.c2
  have c39 := HT.out.c39
  have c40 := HT.out.c40
  have HC := hidp HC0
  have HRR := hidp hR
  clear HC0 hh hk hR
  go_enter Try.func15, Try.ntmps15
  go_wp2_with (refine wpList_load_mid rfl 34 _ rfl w.heap.size 3 rfl _ _ HT.out.rh Try.underlying34 rfl (by rw [bvs_len, HT.out.hh.1]; kernel_rfl) ?_)
  refine HC.out.mono ?_
  rintro e w2 hq
  obtain ⟨e1, rfl⟩ := HRR.out _ _ hq
  replace hq := hidp hq
  clear HC HRR
  go_wp2
  exact hq.out
set_option maxRecDepth 100000 in
set_option maxHeartbeats 1000000 in
theorem puts_via4 {w : World} {g : Nat} {R : Ending → World → Prop} (n : Int) (p : Option Addr) (cap : Nat) (L h k : List Nat) (x : Nat) (is : Bool) (hh : Bytes 32 h) (hk : Bytes 4 k)
    (HC0 : Calls Try.prog 73 #[.pointer (some ⟨g, 0, none⟩), .agg (bvs k).toArray] (w.alloc (.cells (thL 4 n p L.length cap h k x is).toArray 39)) R) (hR : ∀ e w', R e w' → ∃ e1 : Nat, e = .returned (.int .i64 e1)) :
    Calls Try.prog 15 #[.pointer (some ⟨g, 0, none⟩), .agg (thL 4 n p L.length cap h k x is).toArray] w R := by
  have HT : Hid (Th (w.alloc (.cells (thL 4 n p L.length cap h k x is).toArray 39)) w.heap.size 4 n p L.length cap h k x is) := hidp ⟨Blk.new w _ _, hh, hk⟩
  have c0 := HT.out.c0
  have c1 := HT.out.c1
  have c2 := HT.out.c2
  have c39 := HT.out.c39
  have c40 := HT.out.c40
  have HC := hidp HC0
  have HRR := hidp hR
  clear HC0 hh hk hR
  go_enter Try.func15, Try.ntmps15
  go_wp2_with (refine wpList_load_mid rfl 36 _ rfl w.heap.size 35 rfl _ _ HT.out.rk Try.underlying36 rfl (by rw [bvs_len, HT.out.hk.1]; kernel_rfl) ?_)
  refine HC.out.mono ?_
  rintro e w2 hq
  obtain ⟨e1, rfl⟩ := HRR.out _ _ hq
  replace hq := hidp hq
  clear HC HRR
  go_wp2
  exact hq.out
set_option maxRecDepth 100000 in
set_option maxHeartbeats 1000000 in
theorem puts_via5 {w : World} {g : Nat} {R : Ending → World → Prop} (n : Int) (p : Option Addr) (cap : Nat) (L h k : List Nat) (x : Nat) (is : Bool) (hh : Bytes 32 h) (hk : Bytes 4 k)
    (HC0 : Calls Try.prog 64 #[.pointer (some ⟨g, 0, none⟩), .int .u64 (x : Nat)] (w.alloc (.cells (thL 5 n p L.length cap h k x is).toArray 39)) R) (hR : ∀ e w', R e w' → ∃ e1 : Nat, e = .returned (.int .i64 e1)) :
    Calls Try.prog 15 #[.pointer (some ⟨g, 0, none⟩), .agg (thL 5 n p L.length cap h k x is).toArray] w R := by
  have HT : Hid (Th (w.alloc (.cells (thL 5 n p L.length cap h k x is).toArray 39)) w.heap.size 5 n p L.length cap h k x is) := hidp ⟨Blk.new w _ _, hh, hk⟩
  have c0 := HT.out.c0
  have c1 := HT.out.c1
  have c2 := HT.out.c2
  have c39 := HT.out.c39
  have c40 := HT.out.c40
  have HC := hidp HC0
  have HRR := hidp hR
  clear HC0 hh hk hR
  go_enter Try.func15, Try.ntmps15
  go_wp2_with fail
  refine HC.out.mono ?_
  rintro e w2 hq
  obtain ⟨e1, rfl⟩ := HRR.out _ _ hq
  replace hq := hidp hq
  clear HC HRR
  go_wp2
  exact hq.out
set_option maxRecDepth 100000 in
set_option maxHeartbeats 1000000 in
theorem puts_via6 {w : World} {g : Nat} {R : Ending → World → Prop} (n : Int) (p : Option Addr) (cap : Nat) (L h k : List Nat) (x : Nat) (is : Bool) (hh : Bytes 32 h) (hk : Bytes 4 k)
    (HC0 : Calls Try.prog 74 #[.pointer (some ⟨g, 0, none⟩), .float .f64 x] (w.alloc (.cells (thL 6 n p L.length cap h k x is).toArray 39)) R) (hR : ∀ e w', R e w' → ∃ e1 : Nat, e = .returned (.int .i64 e1)) :
    Calls Try.prog 15 #[.pointer (some ⟨g, 0, none⟩), .agg (thL 6 n p L.length cap h k x is).toArray] w R := by
  have HT : Hid (Th (w.alloc (.cells (thL 6 n p L.length cap h k x is).toArray 39)) w.heap.size 6 n p L.length cap h k x is) := hidp ⟨Blk.new w _ _, hh, hk⟩
  have c0 := HT.out.c0
  have c1 := HT.out.c1
  have c2 := HT.out.c2
  have c39 := HT.out.c39
  have c40 := HT.out.c40
  have HC := hidp HC0
  have HRR := hidp hR
  clear HC0 hh hk hR
  go_enter Try.func15, Try.ntmps15
  go_wp2_with fail
  refine HC.out.mono ?_
  rintro e w2 hq
  obtain ⟨e1, rfl⟩ := HRR.out _ _ hq
  replace hq := hidp hq
  clear HC HRR
  go_wp2
  exact hq.out
set_option maxRecDepth 100000 in
set_option maxHeartbeats 1000000 in
theorem puts_via7 {w : World} {g : Nat} {R : Ending → World → Prop} (n : Int) (p : Option Addr) (cap : Nat) (L h k : List Nat) (x : Nat) (is : Bool) (hh : Bytes 32 h) (hk : Bytes 4 k)
    (HC0 : Calls Try.prog 65 #[.pointer (some ⟨g, 0, none⟩), .bool is] (w.alloc (.cells (thL 7 n p L.length cap h k x is).toArray 39)) R) (hR : ∀ e w', R e w' → ∃ e1 : Nat, e = .returned (.int .i64 e1)) :
    Calls Try.prog 15 #[.pointer (some ⟨g, 0, none⟩), .agg (thL 7 n p L.length cap h k x is).toArray] w R := by
  have HT : Hid (Th (w.alloc (.cells (thL 7 n p L.length cap h k x is).toArray 39)) w.heap.size 7 n p L.length cap h k x is) := hidp ⟨Blk.new w _ _, hh, hk⟩
  have c0 := HT.out.c0
  have c1 := HT.out.c1
  have c2 := HT.out.c2
  have c39 := HT.out.c39
  have c40 := HT.out.c40
  have HC := hidp HC0
  have HRR := hidp hR
  clear HC0 hh hk hR
  go_enter Try.func15, Try.ntmps15
  go_wp2_with fail
  refine HC.out.mono ?_
  rintro e w2 hq
  obtain ⟨e1, rfl⟩ := HRR.out _ _ hq
  replace hq := hidp hq
  clear HC HRR
  go_wp2
  exact hq.out
set_option maxRecDepth 100000 in
set_option maxHeartbeats 1000000 in
theorem puts_other {w : World} {g : Nat} (kd n : Int) (p : Option Addr) (len cap : Nat) (h k : List Nat) (x : Nat) (is : Bool) (hk : kd < 0 ∨ 7 < kd) :
    Calls Try.prog 15 #[.pointer (some ⟨g, 0, none⟩), .agg (thL kd n p len cap h k x is).toArray] w fun e w' => e = .returned (.int .i64 0) ∧ Below w.heap.size w w' := by
  have c0 : (w.alloc (.cells (thL kd n p len cap h k x is).toArray 39)).cell? ⟨w.heap.size, 0, none⟩ = some (.int .i64 kd) := (Blk.new w (thL kd n p len cap h k x is) _).cell 0
  have k0 : (kd == 0) = false := by rw [beq_eq_false_iff_ne]; omega
  have k1 : (kd == 1) = false := by rw [beq_eq_false_iff_ne]; omega
  have k2 : (kd == 2) = false := by rw [beq_eq_false_iff_ne]; omega
  have k3 : (kd == 3) = false := by rw [beq_eq_false_iff_ne]; omega
  have k4 : (kd == 4) = false := by rw [beq_eq_false_iff_ne]; omega
  have k5 : (kd == 5) = false := by rw [beq_eq_false_iff_ne]; omega
  have k6 : (kd == 6) = false := by rw [beq_eq_false_iff_ne]; omega
  have k7 : (kd == 7) = false := by rw [beq_eq_false_iff_ne]; omega
  clear hk
  go_enter Try.func15, Try.ntmps15
  go_wp2_with fail
  go_ret
  exact ⟨rfl, (Below.refl _ w).alloc (Nat.le_refl _) _⟩
set_option maxRecDepth 100000 in
set_option maxHeartbeats 1000000 in
theorem ours_via0 {w : World} {g : Nat} {R : Ending → World → Prop} (n : Int) (p : Option Addr) (cap : Nat) (L h k : List Nat) (x : Nat) (is : Bool) (hh : Bytes 32 h) (hk : Bytes 4 k)
    (HC0 : Calls Try.prog 76 #[.pointer (some ⟨g, 0, none⟩), .int .i64 n] (w.alloc (.cells (thL 0 n p L.length cap h k x is).toArray 39)) R) (hR : ∀ e w', R e w' → ∃ e1 : Nat, e = .returned (.int .i64 e1)) :
    Calls Try.prog 16 #[.pointer (some ⟨g, 0, none⟩), .agg (thL 0 n p L.length cap h k x is).toArray] w R := by
  have HT : Hid (Th (w.alloc (.cells (thL 0 n p L.length cap h k x is).toArray 39)) w.heap.size 0 n p L.length cap h k x is) := hidp ⟨Blk.new w _ _, hh, hk⟩
  have c0 := HT.out.c0
  have c1 := HT.out.c1
  have c2 := HT.out.c2
  have c39 := HT.out.c39
  have c40 := HT.out.c40
  have HC := hidp HC0
  have HRR := hidp hR
  clear HC0 hh hk hR
  go_enter Try.func16, Try.ntmps16
  go_wp2_with fail
  refine HC.out.mono ?_
  rintro e w2 hq
  obtain ⟨e1, rfl⟩ := HRR.out _ _ hq
  replace hq := hidp hq
  clear HC HRR
  go_wp2
  exact hq.out
set_option maxRecDepth 100000 in
set_option maxHeartbeats 1000000 in
theorem ours_via1 {w : World} {g : Nat} {R : Ending → World → Prop} (n : Int) (p : Option Addr) (cap : Nat) (L h k : List Nat) (x : Nat) (is : Bool) (hh : Bytes 32 h) (hk : Bytes 4 k) (b o : Nat) (hL : Bs (w.alloc (.cells (thL 1 n p L.length cap h k x is).toArray 39)) p b o L cap)
    (HC0 : Calls Try.prog 77 #[.pointer (some ⟨g, 0, none⟩), .string (strB L)] (w.alloc (.cells (thL 1 n p L.length cap h k x is).toArray 39)) R) (hR : ∀ e w', R e w' → ∃ e1 : Nat, e = .returned (.int .i64 e1)) :
    Calls Try.prog 16 #[.pointer (some ⟨g, 0, none⟩), .agg (thL 1 n p L.length cap h k x is).toArray] w R := by
  have HT : Hid (Th (w.alloc (.cells (thL 1 n p L.length cap h k x is).toArray 39)) w.heap.size 1 n p L.length cap h k x is) := hidp ⟨Blk.new w _ _, hh, hk⟩
  have c0 := HT.out.c0
  have c1 := HT.out.c1
  have c2 := HT.out.c2
  have c39 := HT.out.c39
  have c40 := HT.out.c40
  have hcv := conv_bs hL cap
  have HC := hidp HC0
  have HRR := hidp hR
  clear HC0 hh hk hR hL
  go_enter Try.func16, Try.ntmps16
  go_wp2_with fail
  refine HC.out.mono ?_
  rintro e w2 hq
  obtain ⟨e1, rfl⟩ := HRR.out _ _ hq
  replace hq := hidp hq
  clear HC HRR
  go_wp2
  exact hq.out
set_option maxRecDepth 100000 in
set_option maxHeartbeats 1000000 in
theorem ours_via2 {w : World} {g : Nat} {R : Ending → World → Prop} (n : Int) (p : Option Addr) (cap : Nat) (L h k : List Nat) (x : Nat) (is : Bool) (hh : Bytes 32 h) (hk : Bytes 4 k)
    (HC0 : Calls Try.prog 78 #[.pointer (some ⟨g, 0, none⟩), .slice p L.length cap] (w.alloc (.cells (thL 2 n p L.length cap h k x is).toArray 39)) R) (hR : ∀ e w', R e w' → ∃ e1 : Nat, e = .returned (.int .i64 e1)) :
    Calls Try.prog 16 #[.pointer (some ⟨g, 0, none⟩), .agg (thL 2 n p L.length cap h k x is).toArray] w R := by
  have HT : Hid (Th (w.alloc (.cells (thL 2 n p L.length cap h k x is).toArray 39)) w.heap.size 2 n p L.length cap h k x is) := hidp ⟨Blk.new w _ _, hh, hk⟩
  have c0 := HT.out.c0
  have c1 := HT.out.c1
  have c2 := HT.out.c2
  have c39 := HT.out.c39
  have c40 := HT.out.c40
  have HC := hidp HC0
  have HRR := hidp hR
  clear HC0 hh hk hR
  go_enter Try.func16, Try.ntmps16
  go_wp2_with fail
  refine HC.out.mono ?_
  rintro e w2 hq
  obtain ⟨e1, rfl⟩ := HRR.out _ _ hq
  replace hq := hidp hq
  clear HC HRR
  go_wp2
  exact hq.out
set_option maxRecDepth 100000 in
set_option maxHeartbeats 1000000 in
theorem ours_via3 {w : World} {g : Nat} {R : Ending → World → Prop} (n : Int) (p : Option Addr) (cap : Nat) (L h k : List Nat) (x : Nat) (is : Bool) (hh : Bytes 32 h) (hk : Bytes 4 k)
    (HC0 : Calls Try.prog 79 #[.pointer (some ⟨g, 0, none⟩), .agg (bvs h).toArray] (w.alloc (.cells (thL 3 n p L.length cap h k x is).toArray 39)) R) (hR : ∀ e w', R e w' → ∃ e1 : Nat, e = .returned (.int .i64 e1)) :
    Calls Try.prog 16 #[.pointer (some ⟨g, 0, none⟩), .agg (thL 3 n p L.length cap h k x is).toArray] w R := by
  have HT : Hid (Th (w.alloc (.cells (thL 3 n p L.length cap h k x is).toArray 39)) w.heap.size 3 n p L.length cap h k x is) := hidp ⟨Blk.new w _ _, hh, hk⟩
  have c0 := HT.out.c0
  have c1 := HT.out.c1
  have c2 := HT.out.c2
  have c39 := HT.out.c39
  have c40 := HT.out.c40
  have HC := hidp HC0
  have HRR := hidp hR
  clear HC0 hh hk hR
  go_enter Try.func16, Try.ntmps16
  go_wp2_with (refine wpList_load_mid rfl 34 _ rfl w.heap.size 3 rfl _ _ HT.out.rh Try.underlying34 rfl (by rw [bvs_len, HT.out.hh.1]; kernel_rfl) ?_)
  refine HC.out.mono ?_
  rintro e w2 hq
  obtain ⟨e1, rfl⟩ := HRR.out _ _ hq
  replace hq := hidp hq
  clear HC HRR
  go_wp2
  exact hq.out
set_option maxRecDepth 100000 in
set_option maxHeartbeats 1000000 in
theorem ours_via4 {w : World} {g : Nat} {R : Ending → World → Prop} (n : Int) (p : Option Addr) (cap : Nat) (L h k : List Nat) (x : Nat) (is : Bool) (hh : Bytes 32 h) (hk : Bytes 4 k)
    (HC0 : Calls Try.prog 80 #[.pointer (some ⟨g, 0, none⟩), .agg (bvs k).toArray] (w.alloc (.cells (thL 4 n p L.length cap h k x is).toArray 39)) R) (hR : ∀ e w', R e w' → ∃ e1 : Nat, e = .returned (.int .i64 e1)) :
    Calls Try.prog 16 #[.pointer (some ⟨g, 0, none⟩), .agg (thL 4 n p L.length cap h k x is).toArray] w R := by
  have HT : Hid (Th (w.alloc (.cells (thL 4 n p L.length cap h k x is).toArray 39)) w.heap.size 4 n p L.length cap h k x is) := hidp ⟨Blk.new w _ _, hh, hk⟩
  have c0 := HT.out.c0
  have c1 := HT.out.c1
  have c2 := HT.out.c2
  have c39 := HT.out.c39
  have c40 := HT.out.c40
  have HC := hidp HC0
  have HRR := hidp hR
  clear HC0 hh hk hR
  go_enter Try.func16, Try.ntmps16
  go_wp2_with (refine wpList_load_mid rfl 36 _ rfl w.heap.size 35 rfl _ _ HT.out.rk Try.underlying36 rfl (by rw [bvs_len, HT.out.hk.1]; kernel_rfl) ?_)
  refine HC.out.mono ?_
  rintro e w2 hq
  obtain ⟨e1, rfl⟩ := HRR.out _ _ hq
  replace hq := hidp hq
  clear HC HRR
  go_wp2
  exact hq.out
set_option maxRecDepth 100000 in
set_option maxHeartbeats 1000000 in
theorem ours_via5 {w : World} {g : Nat} {R : Ending → World → Prop} (n : Int) (p : Option Addr) (cap : Nat) (L h k : List Nat) (x : Nat) (is : Bool) (hh : Bytes 32 h) (hk : Bytes 4 k)
    (HC0 : Calls Try.prog 81 #[.pointer (some ⟨g, 0, none⟩), .int .u64 (x : Nat)] (w.alloc (.cells (thL 5 n p L.length cap h k x is).toArray 39)) R) (hR : ∀ e w', R e w' → ∃ e1 : Nat, e = .returned (.int .i64 e1)) :
    Calls Try.prog 16 #[.pointer (some ⟨g, 0, none⟩), .agg (thL 5 n p L.length cap h k x is).toArray] w R := by
  have HT : Hid (Th (w.alloc (.cells (thL 5 n p L.length cap h k x is).toArray 39)) w.heap.size 5 n p L.length cap h k x is) := hidp ⟨Blk.new w _ _, hh, hk⟩
  have c0 := HT.out.c0
  have c1 := HT.out.c1
  have c2 := HT.out.c2
  have c39 := HT.out.c39
  have c40 := HT.out.c40
  have HC := hidp HC0
  have HRR := hidp hR
  clear HC0 hh hk hR
  go_enter Try.func16, Try.ntmps16
  go_wp2_with fail
  refine HC.out.mono ?_
  rintro e w2 hq
  obtain ⟨e1, rfl⟩ := HRR.out _ _ hq
  replace hq := hidp hq
  clear HC HRR
  go_wp2
  exact hq.out
set_option maxRecDepth 100000 in
set_option maxHeartbeats 1000000 in
theorem ours_via6 {w : World} {g : Nat} {R : Ending → World → Prop} (n : Int) (p : Option Addr) (cap : Nat) (L h k : List Nat) (x : Nat) (is : Bool) (hh : Bytes 32 h) (hk : Bytes 4 k)
    (HC0 : Calls Try.prog 82 #[.pointer (some ⟨g, 0, none⟩), .float .f64 x] (w.alloc (.cells (thL 6 n p L.length cap h k x is).toArray 39)) R) (hR : ∀ e w', R e w' → ∃ e1 : Nat, e = .returned (.int .i64 e1)) :
    Calls Try.prog 16 #[.pointer (some ⟨g, 0, none⟩), .agg (thL 6 n p L.length cap h k x is).toArray] w R := by
  have HT : Hid (Th (w.alloc (.cells (thL 6 n p L.length cap h k x is).toArray 39)) w.heap.size 6 n p L.length cap h k x is) := hidp ⟨Blk.new w _ _, hh, hk⟩
  have c0 := HT.out.c0
  have c1 := HT.out.c1
  have c2 := HT.out.c2
  have c39 := HT.out.c39
  have c40 := HT.out.c40
  have HC := hidp HC0
  have HRR := hidp hR
  clear HC0 hh hk hR
  go_enter Try.func16, Try.ntmps16
  go_wp2_with fail
  refine HC.out.mono ?_
  rintro e w2 hq
  obtain ⟨e1, rfl⟩ := HRR.out _ _ hq
  replace hq := hidp hq
  clear HC HRR
  go_wp2
  exact hq.out
set_option maxRecDepth 100000 in
set_option maxHeartbeats 1000000 in
theorem ours_via7 {w : World} {g : Nat} {R : Ending → World → Prop} (n : Int) (p : Option Addr) (cap : Nat) (L h k : List Nat) (x : Nat) (is : Bool) (hh : Bytes 32 h) (hk : Bytes 4 k)
    (HC0 : Calls Try.prog 83 #[.pointer (some ⟨g, 0, none⟩), .bool is] (w.alloc (.cells (thL 7 n p L.length cap h k x is).toArray 39)) R) (hR : ∀ e w', R e w' → ∃ e1 : Nat, e = .returned (.int .i64 e1)) :
    Calls Try.prog 16 #[.pointer (some ⟨g, 0, none⟩), .agg (thL 7 n p L.length cap h k x is).toArray] w R := by
  have HT : Hid (Th (w.alloc (.cells (thL 7 n p L.length cap h k x is).toArray 39)) w.heap.size 7 n p L.length cap h k x is) := hidp ⟨Blk.new w _ _, hh, hk⟩
  have c0 := HT.out.c0
  have c1 := HT.out.c1
  have c2 := HT.out.c2
  have c39 := HT.out.c39
  have c40 := HT.out.c40
  have HC := hidp HC0
  have HRR := hidp hR
  clear HC0 hh hk hR
  go_enter Try.func16, Try.ntmps16
  go_wp2_with fail
  refine HC.out.mono ?_
  rintro e w2 hq
  obtain ⟨e1, rfl⟩ := HRR.out _ _ hq
  replace hq := hidp hq
  clear HC HRR
  go_wp2
  exact hq.out
set_option maxRecDepth 100000 in
set_option maxHeartbeats 1000000 in
theorem ours_other {w : World} {g : Nat} (kd n : Int) (p : Option Addr) (len cap : Nat) (h k : List Nat) (x : Nat) (is : Bool) (hk : kd < 0 ∨ 7 < kd) :
    Calls Try.prog 16 #[.pointer (some ⟨g, 0, none⟩), .agg (thL kd n p len cap h k x is).toArray] w fun e w' => e = .returned (.int .i64 0) ∧ Below w.heap.size w w' := by
  have c0 : (w.alloc (.cells (thL kd n p len cap h k x is).toArray 39)).cell? ⟨w.heap.size, 0, none⟩ = some (.int .i64 kd) := (Blk.new w (thL kd n p len cap h k x is) _).cell 0
  have k0 : (kd == 0) = false := by rw [beq_eq_false_iff_ne]; omega
  have k1 : (kd == 1) = false := by rw [beq_eq_false_iff_ne]; omega
  have k2 : (kd == 2) = false := by rw [beq_eq_false_iff_ne]; omega
  have k3 : (kd == 3) = false := by rw [beq_eq_false_iff_ne]; omega
  have k4 : (kd == 4) = false := by rw [beq_eq_false_iff_ne]; omega
  have k5 : (kd == 5) = false := by rw [beq_eq_false_iff_ne]; omega
  have k6 : (kd == 6) = false := by rw [beq_eq_false_iff_ne]; omega
  have k7 : (kd == 7) = false := by rw [beq_eq_false_iff_ne]; omega
  clear hk
  go_enter Try.func16, Try.ntmps16
  go_wp2_with fail
  go_ret
  exact ⟨rfl, (Below.refl _ w).alloc (Nat.le_refl _) _⟩
/-- The error that a writer has behind a thing; what the thing's writing tells. -/
def stE (e lim : Nat) (L : List Nat) (t : Tg) : Nat := if t.kd < 0 ∨ 7 < t.kd then e else if t.kd = 0 then nxN e lim L t.n else nxE e lim L (formT t)
def rtE (e lim : Nat) (L : List Nat) (t : Tg) : Nat := if t.kd < 0 ∨ 7 < t.kd then 0 else stE e lim L t
def PutT (w : World) (g lim : Nat) (v : Value) (L : List Nat) (e0 : Nat) (t : Tg) (e : Ending) (w' : World) : Prop := e = .returned (.int .i64 (rtE e0 lim L t : Nat)) ∧ ∃ v', CW w' g lim v' (L ++ formT t) (stE e0 lim L t) ∧ Wfr g v w w' v'
def OurT (w : World) (g b lim : Nat) (L : List Nat) (e0 : Nat) (t : Tg) (e : Ending) (w' : World) : Prop := e = .returned (.int .i64 (rtE e0 lim L t : Nat)) ∧ (∃ b', RW w' g b' lim (L ++ formT t) (stE e0 lim L t) ∧ (b' = b ∨ w.heap.size ≤ b')) ∧ Bex g w w'
theorem CW.below {w w' : World} {g lim e : Nat} {v : Value} {L : List Nat} (H : CW w g lim v L e) (h : Below w.heap.size w w') : CW w' g lim v L e := by
  obtain ⟨M, h1, h2⟩ := H
  exact ⟨M, h1.below h, h2⟩
theorem formT_other {t : Tg} (h : t.kd < 0 ∨ 7 < t.kd) : formT t = [] := by
  unfold formT
  rw [if_neg (by omega), if_neg (by omega), if_neg (by omega), if_neg (by omega), if_neg (by omega), if_neg (by omega), if_neg (by omega), if_neg (by omega)]
theorem stE_k {e lim : Nat} {L : List Nat} {t : Tg} (h : 0 < t.kd ∧ t.kd ≤ 7) : stE e lim L t = nxE e lim L (formT t) ∧ rtE e lim L t = nxE e lim L (formT t) := by
  unfold rtE stE
  rw [if_neg (by omega), if_neg (by omega), if_neg (by omega)]
  exact ⟨rfl, rfl⟩
theorem PutG.to {w w1 w' : World} {g lim e0 : Nat} {v : Value} {L X : List Nat} {t : Tg} {e : Ending} {e1 : Nat} (hA : Below w.heap.size w w1) (hX : X = formT t) (h1 : rtE e0 lim L t = e1) (h2 : stE e0 lim L t = e1) (h : PutG w1 g lim v (L ++ X) e1 e w') : PutT w g lim v L e0 t e w' := by
  obtain ⟨q1, v', q2, q3⟩ := h
  subst hX
  unfold PutT
  rw [h1, h2]
  exact ⟨q1, v', q2, (Wfr.ofBelow hA).trans q3⟩
theorem RP.to {w w1 w' : World} {g b lim e0 : Nat} {L X : List Nat} {t : Tg} {e : Ending} {e1 : Nat} (hA : Below w.heap.size w w1) (hX : X = formT t) (h1 : rtE e0 lim L t = e1) (h2 : stE e0 lim L t = e1) (h : RP w1 g b lim (L ++ X) e1 e w') : OurT w g b lim L e0 t e w' := by
  have h := RP.low h hA
  subst hX
  unfold OurT
  rw [h1, h2]
  exact h
theorem puts_all {w : World} {g lim e0 : Nat} {v : Value} {L0 : List Nat} (H : CW w g lim v L0 e0) (t : Tg) (hk : TgOk w t) (hL : t.L.length ≤ 300) (hap : ∀ a, t.p = some a → 0 < t.L.length → a.block ≠ g ∧ v.ownBlock ≠ some a.block) :
    Calls Try.prog 15 #[.pointer (some ⟨g, 0, none⟩), .agg (tgL t).toArray] w (PutT w g lim v L0 e0 t) := by
  by_cases hq : t.kd < 0 ∨ 7 < t.kd
  · have e2 : stE e0 lim L0 t = e0 := by unfold stE; rw [if_pos hq]
    have e1 : rtE e0 lim L0 t = 0 := by unfold rtE; rw [if_pos hq]
    refine (puts_other t.kd t.n t.p t.L.length t.cap t.h t.k t.x t.is hq).mono fun e w' h => ?_
    obtain ⟨h1, h2⟩ := h
    subst h1
    unfold PutT
    rw [e1, e2, formT_other hq, List.append_nil]
    exact ⟨rfl, v, H.below h2, Wfr.ofBelow h2⟩
  obtain ⟨kd, n, p, bb, oo, cap, L, h, k, x, is⟩ := t
  unfold tgL
  simp only at hL hq ⊢
  have hdg := dg_le L.length
  rcases (show kd = 0 ∨ kd = 1 ∨ kd = 2 ∨ kd = 3 ∨ kd = 4 ∨ kd = 5 ∨ kd = 6 ∨ kd = 7 by omega) with rfl | rfl | rfl | rfl | rfl | rfl | rfl | rfl
  · have hA := (Below.refl w.heap.size w).alloc (Nat.le_refl _) (.cells (thL 0 n p L.length cap h k x is).toArray 39)
    have s2 : stE e0 lim L0 ⟨0, n, p, bb, oo, cap, L, h, k, x, is⟩ = nxN e0 lim L0 n := by unfold stE; simp
    have s1 : rtE e0 lim L0 ⟨0, n, p, bb, oo, cap, L, h, k, x, is⟩ = nxN e0 lim L0 n := by unfold rtE; simp [s2]
    exact puts_via0 n p cap L h k x is hk.h hk.k ((wNum_gen (H.below hA) n hk.n.2).mono fun e w' q => PutG.to hA rfl s1 s2 q) (fun e w' q => ⟨_, q.1⟩)
  · have hA := (Below.refl w.heap.size w).alloc (Nat.le_refl _) (.cells (thL 1 n p L.length cap h k x is).toArray 39)
    obtain ⟨s2, s1⟩ := stE_k (e := e0) (lim := lim) (L := L0) (t := ⟨1, n, p, bb, oo, cap, L, h, k, x, is⟩) (by simp only; omega)
    have q := wText_gen (H.below hA) (strB L) (by rw [strB_size]; omega)
    rw [strB_size, strL_strB hk.bs.byte] at q
    exact puts_via1 n p cap L h k x is hk.h hk.k bb oo (hk.bs.below hA) ((q).mono fun e w' q => PutG.to hA rfl s1 s2 q) (fun e w' q => ⟨_, q.1⟩)
  · have hA := (Below.refl w.heap.size w).alloc (Nat.le_refl _) (.cells (thL 2 n p L.length cap h k x is).toArray 39)
    obtain ⟨s2, s1⟩ := stE_k (e := e0) (lim := lim) (L := L0) (t := ⟨2, n, p, bb, oo, cap, L, h, k, x, is⟩) (by simp only; omega)
    exact puts_via2 n p cap L h k x is hk.h hk.k ((wBytes_gen (H.below hA) p bb oo cap L (hk.bs.below hA) hap (by omega)).mono fun e w' q => PutG.to hA rfl s1 s2 q) (fun e w' q => ⟨_, q.1⟩)
  · have hA := (Below.refl w.heap.size w).alloc (Nat.le_refl _) (.cells (thL 3 n p L.length cap h k x is).toArray 39)
    obtain ⟨s2, s1⟩ := stE_k (e := e0) (lim := lim) (L := L0) (t := ⟨3, n, p, bb, oo, cap, L, h, k, x, is⟩) (by simp only; omega)
    exact puts_via3 n p cap L h k x is hk.h hk.k ((wHash_gen (H.below hA) h hk.h).mono fun e w' q => PutG.to hA rfl s1 s2 q) (fun e w' q => ⟨_, q.1⟩)
  · have hA := (Below.refl w.heap.size w).alloc (Nat.le_refl _) (.cells (thL 4 n p L.length cap h k x is).toArray 39)
    obtain ⟨s2, s1⟩ := stE_k (e := e0) (lim := lim) (L := L0) (t := ⟨4, n, p, bb, oo, cap, L, h, k, x, is⟩) (by simp only; omega)
    exact puts_via4 n p cap L h k x is hk.h hk.k ((wKey_gen (H.below hA) k hk.k).mono fun e w' q => PutG.to hA rfl s1 s2 q) (fun e w' q => ⟨_, q.1⟩)
  · have hA := (Below.refl w.heap.size w).alloc (Nat.le_refl _) (.cells (thL 5 n p L.length cap h k x is).toArray 39)
    obtain ⟨s2, s1⟩ := stE_k (e := e0) (lim := lim) (L := L0) (t := ⟨5, n, p, bb, oo, cap, L, h, k, x, is⟩) (by simp only; omega)
    exact puts_via5 n p cap L h k x is hk.h hk.k ((wWord_gen (H.below hA) x hk.x).mono fun e w' q => PutG.to hA rfl s1 s2 q) (fun e w' q => ⟨_, q.1⟩)
  · have hA := (Below.refl w.heap.size w).alloc (Nat.le_refl _) (.cells (thL 6 n p L.length cap h k x is).toArray 39)
    obtain ⟨s2, s1⟩ := stE_k (e := e0) (lim := lim) (L := L0) (t := ⟨6, n, p, bb, oo, cap, L, h, k, x, is⟩) (by simp only; omega)
    exact puts_via6 n p cap L h k x is hk.h hk.k ((wPace_gen (H.below hA) x hk.x).mono fun e w' q => PutG.to hA rfl s1 s2 q) (fun e w' q => ⟨_, q.1⟩)
  · have hA := (Below.refl w.heap.size w).alloc (Nat.le_refl _) (.cells (thL 7 n p L.length cap h k x is).toArray 39)
    obtain ⟨s2, s1⟩ := stE_k (e := e0) (lim := lim) (L := L0) (t := ⟨7, n, p, bb, oo, cap, L, h, k, x, is⟩) (by simp only; omega)
    exact puts_via7 n p cap L h k x is hk.h hk.k ((wBool_gen (H.below hA) is).mono fun e w' q => PutG.to hA rfl s1 s2 q) (fun e w' q => ⟨_, q.1⟩)
theorem ours_all {w : World} {g b0 lim e0 : Nat} {L0 : List Nat} (H : RW w g b0 lim L0 e0) (t : Tg) (hk : TgOk w t) (hL : t.L.length ≤ 300) :
    Calls Try.prog 16 #[.pointer (some ⟨g, 0, none⟩), .agg (tgL t).toArray] w (OurT w g b0 lim L0 e0 t) := by
  by_cases hq : t.kd < 0 ∨ 7 < t.kd
  · have e2 : stE e0 lim L0 t = e0 := by unfold stE; rw [if_pos hq]
    have e1 : rtE e0 lim L0 t = 0 := by unfold rtE; rw [if_pos hq]
    refine (ours_other t.kd t.n t.p t.L.length t.cap t.h t.k t.x t.is hq).mono fun e w' h => ?_
    obtain ⟨h1, h2⟩ := h
    subst h1
    unfold OurT
    rw [e1, e2, formT_other hq, List.append_nil]
    exact ⟨rfl, ⟨b0, H.below h2, .inl rfl⟩, Bex.of_below h2⟩
  obtain ⟨kd, n, p, bb, oo, cap, L, h, k, x, is⟩ := t
  unfold tgL
  simp only at hL hq ⊢
  have hdg := dg_le L.length
  rcases (show kd = 0 ∨ kd = 1 ∨ kd = 2 ∨ kd = 3 ∨ kd = 4 ∨ kd = 5 ∨ kd = 6 ∨ kd = 7 by omega) with rfl | rfl | rfl | rfl | rfl | rfl | rfl | rfl
  · have hA := (Below.refl w.heap.size w).alloc (Nat.le_refl _) (.cells (thL 0 n p L.length cap h k x is).toArray 39)
    have s2 : stE e0 lim L0 ⟨0, n, p, bb, oo, cap, L, h, k, x, is⟩ = nxN e0 lim L0 n := by unfold stE; simp
    have s1 : rtE e0 lim L0 ⟨0, n, p, bb, oo, cap, L, h, k, x, is⟩ = nxN e0 lim L0 n := by unfold rtE; simp [s2]
    exact ours_via0 n p cap L h k x is hk.h hk.k ((rWNum_gen (H.below hA) n hk.n.2).mono fun e w' q => RP.to hA rfl s1 s2 q) (fun e w' q => ⟨_, q.1⟩)
  · have hA := (Below.refl w.heap.size w).alloc (Nat.le_refl _) (.cells (thL 1 n p L.length cap h k x is).toArray 39)
    obtain ⟨s2, s1⟩ := stE_k (e := e0) (lim := lim) (L := L0) (t := ⟨1, n, p, bb, oo, cap, L, h, k, x, is⟩) (by simp only; omega)
    have q := rWText_gen (H.below hA) (strB L) (by rw [strB_size]; omega)
    rw [strL_strB hk.bs.byte] at q
    exact ours_via1 n p cap L h k x is hk.h hk.k bb oo (hk.bs.below hA) ((q).mono fun e w' q => RP.to hA rfl s1 s2 q) (fun e w' q => ⟨_, q.1⟩)
  · have hA := (Below.refl w.heap.size w).alloc (Nat.le_refl _) (.cells (thL 2 n p L.length cap h k x is).toArray 39)
    obtain ⟨s2, s1⟩ := stE_k (e := e0) (lim := lim) (L := L0) (t := ⟨2, n, p, bb, oo, cap, L, h, k, x, is⟩) (by simp only; omega)
    exact ours_via2 n p cap L h k x is hk.h hk.k ((rWBytes_gen (H.below hA) p cap L (ByS.of_bs (hk.bs.below hA) hk.bs.none_cap) (by omega)).mono fun e w' q => RP.to hA rfl s1 s2 q) (fun e w' q => ⟨_, q.1⟩)
  · have hA := (Below.refl w.heap.size w).alloc (Nat.le_refl _) (.cells (thL 3 n p L.length cap h k x is).toArray 39)
    obtain ⟨s2, s1⟩ := stE_k (e := e0) (lim := lim) (L := L0) (t := ⟨3, n, p, bb, oo, cap, L, h, k, x, is⟩) (by simp only; omega)
    exact ours_via3 n p cap L h k x is hk.h hk.k ((rWHash_gen (H.below hA) h hk.h).mono fun e w' q => RP.to hA rfl s1 s2 q) (fun e w' q => ⟨_, q.1⟩)
  · have hA := (Below.refl w.heap.size w).alloc (Nat.le_refl _) (.cells (thL 4 n p L.length cap h k x is).toArray 39)
    obtain ⟨s2, s1⟩ := stE_k (e := e0) (lim := lim) (L := L0) (t := ⟨4, n, p, bb, oo, cap, L, h, k, x, is⟩) (by simp only; omega)
    exact ours_via4 n p cap L h k x is hk.h hk.k ((rWKey_gen (H.below hA) k hk.k).mono fun e w' q => RP.to hA rfl s1 s2 q) (fun e w' q => ⟨_, q.1⟩)
  · have hA := (Below.refl w.heap.size w).alloc (Nat.le_refl _) (.cells (thL 5 n p L.length cap h k x is).toArray 39)
    obtain ⟨s2, s1⟩ := stE_k (e := e0) (lim := lim) (L := L0) (t := ⟨5, n, p, bb, oo, cap, L, h, k, x, is⟩) (by simp only; omega)
    exact ours_via5 n p cap L h k x is hk.h hk.k ((rWWord_gen (H.below hA) x hk.x).mono fun e w' q => RP.to hA rfl s1 s2 q) (fun e w' q => ⟨_, q.1⟩)
  · have hA := (Below.refl w.heap.size w).alloc (Nat.le_refl _) (.cells (thL 6 n p L.length cap h k x is).toArray 39)
    obtain ⟨s2, s1⟩ := stE_k (e := e0) (lim := lim) (L := L0) (t := ⟨6, n, p, bb, oo, cap, L, h, k, x, is⟩) (by simp only; omega)
    exact ours_via6 n p cap L h k x is hk.h hk.k ((rWPace_gen (H.below hA) x hk.x).mono fun e w' q => RP.to hA rfl s1 s2 q) (fun e w' q => ⟨_, q.1⟩)
  · have hA := (Below.refl w.heap.size w).alloc (Nat.le_refl _) (.cells (thL 7 n p L.length cap h k x is).toArray 39)
    obtain ⟨s2, s1⟩ := stE_k (e := e0) (lim := lim) (L := L0) (t := ⟨7, n, p, bb, oo, cap, L, h, k, x, is⟩) (by simp only; omega)
    exact ours_via7 n p cap L h k x is hk.h hk.k ((rWBool_gen (H.below hA) is).mono fun e w' q => RP.to hA rfl s1 s2 q) (fun e w' q => ⟨_, q.1⟩)
end Go.Proofs.Ytbhkjflpkpkdlaa
