/-
  Contracts: puts of a valid writer, kind by kind.
-/
import Derived.Test.YtlfmmmlheloloaaJx
import Derived.Test.YtlfmmmlheloloaaJy
import Derived.Test.YtlfmmmlheloloaaJu
namespace Go.Proofs.Ytlfmmmlheloloaa
open Go.RowKit Go.Lib Go.Maps
attribute [local go_sem] run_bits run_frombits

theorem PutP.from {w w1 w' : World} {g lim : Nat} {v : Value} {L : List Nat} {e : Ending} (hB : Below w.heap.size w w1) (h : PutP w1 g lim v L e w') : PutP w g lim v L e w' := by
  obtain ⟨rfl, h⟩ := h
  exact PutP.of hB h
theorem strL_strB {L : List Nat} (h : ∀ x ∈ L, x < 256) : strL (strB L) = L := by
  unfold strL strB
  simp only [List.map_map]
  rw [List.map_congr_left (g := id) (fun x hx => by have := h x hx; simp [Nat.mod_eq_of_lt this]), List.map_id]

set_option maxRecDepth 100000 in
set_option maxHeartbeats 1000000 in
theorem puts0_ok {w : World} {g lim : Nat} {v : Value} {X : List Nat} (H : Wr w g lim v X 0) (p : Option Addr) (len cap : Nat) (x : Nat) (is : Bool) (h k : List Nat) (hh : Bytes 32 h) (hk : Bytes 4 k) (n dk : Nat) (hn : n < 9223372036854775808) (hd : Digs n dk) (hs : X.length + (dk + 1) ≤ lim) :
    Calls Try.prog 19 #[.pointer (some ⟨g, 0, none⟩), .agg (thL 0 (n : Nat) p len cap h k x is).toArray] w (PutP w g lim v (X ++ numB n dk)) := by
  have hB : Below w.heap.size w (w.alloc (.cells (thL 0 (n : Nat) p len cap h k x is).toArray 39)) := (Below.refl _ w).alloc (Nat.le_refl _) _
  have HT : Hid (Th (w.alloc (.cells (thL 0 (n : Nat) p len cap h k x is).toArray 39)) w.heap.size 0 (n : Nat) p len cap h k x is) := hidp ⟨Blk.new w _ _, hh, hk⟩
  have c0 := HT.out.c0
  have c1 := HT.out.c1
  have c2 := HT.out.c2
  have c39 := HT.out.c39
  have c40 := HT.out.c40
  have HC := hidp (wNum_ok (H.below hB) n dk hn hd hs)
  have HB := hidp hB
  clear hB H hn hd hs
  go_enter Try.func19, Try.ntmps19
  go_wp2_with fail
  refine HC.out.mono ?_
  rintro e w2 ⟨rfl, hq⟩
  replace hq := hidp (PutP.of HB.out hq)
  go_wp2
  go_ret
  exact hq.out

set_option maxRecDepth 100000 in
set_option maxHeartbeats 1000000 in
theorem puts1_ok {w : World} {g lim : Nat} {v : Value} {X : List Nat} (H : Wr w g lim v X 0) (n : Int) (p : Option Addr) (cap : Nat) (x : Nat) (is : Bool) (h k : List Nat) (hh : Bytes 32 h) (hk : Bytes 4 k) (b o : Nat) (L : List Nat) (hL : Bs w p b o L cap) (dk : Nat) (hd : Digs L.length dk) (hs : X.length + (dk + 1) + L.length ≤ lim) :
    Calls Try.prog 19 #[.pointer (some ⟨g, 0, none⟩), .agg (thL 1 n p L.length cap h k x is).toArray] w (PutP w g lim v (X ++ (numB L.length dk ++ L))) := by
  have hB : Below w.heap.size w (w.alloc (.cells (thL 1 n p L.length cap h k x is).toArray 39)) := (Below.refl _ w).alloc (Nat.le_refl _) _
  have HT : Hid (Th (w.alloc (.cells (thL 1 n p L.length cap h k x is).toArray 39)) w.heap.size 1 n p L.length cap h k x is) := hidp ⟨Blk.new w _ _, hh, hk⟩
  have c0 := HT.out.c0
  have c1 := HT.out.c1
  have c2 := HT.out.c2
  have c39 := HT.out.c39
  have c40 := HT.out.c40
  have hcv := conv_bs (hL.below hB) cap
  have HC := hidp ((by have q := wText_ok (H.below hB) (strB L) dk (by rw [strB_size]; exact hd) (by rw [strB_size]; exact hs); rw [strB_size, strL_strB hL.byte] at q; exact q))
  have HB := hidp hB
  clear hB H hL hd hs
  go_enter Try.func19, Try.ntmps19
  go_wp2_with fail
  refine HC.out.mono ?_
  rintro e w2 ⟨rfl, hq⟩
  replace hq := hidp (PutP.of HB.out hq)
  go_wp2
  go_ret
  exact hq.out

set_option maxRecDepth 100000 in
set_option maxHeartbeats 1000000 in
theorem puts2_ok {w : World} {g lim : Nat} {v : Value} {X : List Nat} (H : Wr w g lim v X 0) (n : Int) (p : Option Addr) (cap : Nat) (x : Nat) (is : Bool) (h k : List Nat) (hh : Bytes 32 h) (hk : Bytes 4 k) (b o : Nat) (L : List Nat) (hL : Bs w p b o L cap) (hap : ∀ a, p = some a → 0 < L.length → a.block ≠ g ∧ v.ownBlock ≠ some a.block) (dk : Nat) (hd : Digs L.length dk) (hs : X.length + (dk + 1) + L.length ≤ lim) :
    Calls Try.prog 19 #[.pointer (some ⟨g, 0, none⟩), .agg (thL 2 n p L.length cap h k x is).toArray] w (PutP w g lim v (X ++ (numB L.length dk ++ L))) := by
  have hB : Below w.heap.size w (w.alloc (.cells (thL 2 n p L.length cap h k x is).toArray 39)) := (Below.refl _ w).alloc (Nat.le_refl _) _
  have HT : Hid (Th (w.alloc (.cells (thL 2 n p L.length cap h k x is).toArray 39)) w.heap.size 2 n p L.length cap h k x is) := hidp ⟨Blk.new w _ _, hh, hk⟩
  have c0 := HT.out.c0
  have c1 := HT.out.c1
  have c2 := HT.out.c2
  have c39 := HT.out.c39
  have c40 := HT.out.c40
  have HC := hidp (wBytes_ok (H.below hB) p b o cap L (hL.below hB) (hL.none_cap) hap dk hd hs)
  have HB := hidp hB
  clear hB H hL hap hd hs
  go_enter Try.func19, Try.ntmps19
  go_wp2_with fail
  refine HC.out.mono ?_
  rintro e w2 ⟨rfl, hq⟩
  replace hq := hidp (PutP.of HB.out hq)
  go_wp2
  go_ret
  exact hq.out

set_option maxRecDepth 100000 in
set_option maxHeartbeats 1000000 in
theorem puts3_ok {w : World} {g lim : Nat} {v : Value} {X : List Nat} (H : Wr w g lim v X 0) (n : Int) (p : Option Addr) (len cap : Nat) (x : Nat) (is : Bool) (h k : List Nat) (hh : Bytes 32 h) (hk : Bytes 4 k) (hs : X.length + 32 ≤ lim) :
    Calls Try.prog 19 #[.pointer (some ⟨g, 0, none⟩), .agg (thL 3 n p len cap h k x is).toArray] w (PutP w g lim v (X ++ h)) := by
  have hB : Below w.heap.size w (w.alloc (.cells (thL 3 n p len cap h k x is).toArray 39)) := (Below.refl _ w).alloc (Nat.le_refl _) _
  have HT : Hid (Th (w.alloc (.cells (thL 3 n p len cap h k x is).toArray 39)) w.heap.size 3 n p len cap h k x is) := hidp ⟨Blk.new w _ _, hh, hk⟩
  have c0 := HT.out.c0
  have c1 := HT.out.c1
  have c2 := HT.out.c2
  have c39 := HT.out.c39
  have c40 := HT.out.c40
  have HC := hidp (wHash_ok (H.below hB) h hh hs)
  have HB := hidp hB
  clear hB H hs hh hk
  go_enter Try.func19, Try.ntmps19
  go_wp2_with (refine wpList_load_mid rfl 34 _ rfl w.heap.size 3 rfl _ _ HT.out.rh Try.underlying34 rfl (by rw [bvs_len, HT.out.hh.1]; kernel_rfl) ?_)
  refine HC.out.mono ?_
  rintro e w2 ⟨rfl, hq⟩
  replace hq := hidp (PutP.of HB.out hq)
  go_wp2
  go_ret
  exact hq.out

set_option maxRecDepth 100000 in
set_option maxHeartbeats 1000000 in
theorem puts4_ok {w : World} {g lim : Nat} {v : Value} {X : List Nat} (H : Wr w g lim v X 0) (n : Int) (p : Option Addr) (len cap : Nat) (x : Nat) (is : Bool) (h k : List Nat) (hh : Bytes 32 h) (hk : Bytes 4 k) (hs : X.length + 4 ≤ lim) :
    Calls Try.prog 19 #[.pointer (some ⟨g, 0, none⟩), .agg (thL 4 n p len cap h k x is).toArray] w (PutP w g lim v (X ++ k)) := by
  have hB : Below w.heap.size w (w.alloc (.cells (thL 4 n p len cap h k x is).toArray 39)) := (Below.refl _ w).alloc (Nat.le_refl _) _
  have HT : Hid (Th (w.alloc (.cells (thL 4 n p len cap h k x is).toArray 39)) w.heap.size 4 n p len cap h k x is) := hidp ⟨Blk.new w _ _, hh, hk⟩
  have c0 := HT.out.c0
  have c1 := HT.out.c1
  have c2 := HT.out.c2
  have c39 := HT.out.c39
  have c40 := HT.out.c40
  have HC := hidp (wKey_ok (H.below hB) k hk hs)
  have HB := hidp hB
  clear hB H hs hh hk
  go_enter Try.func19, Try.ntmps19
  go_wp2_with (refine wpList_load_mid rfl 36 _ rfl w.heap.size 35 rfl _ _ HT.out.rk Try.underlying36 rfl (by rw [bvs_len, HT.out.hk.1]; kernel_rfl) ?_)
  refine HC.out.mono ?_
  rintro e w2 ⟨rfl, hq⟩
  replace hq := hidp (PutP.of HB.out hq)
  go_wp2
  go_ret
  exact hq.out

set_option maxRecDepth 100000 in
set_option maxHeartbeats 1000000 in
theorem puts5_ok {w : World} {g lim : Nat} {v : Value} {X : List Nat} (H : Wr w g lim v X 0) (n : Int) (p : Option Addr) (len cap : Nat) (x : Nat) (is : Bool) (h k : List Nat) (hh : Bytes 32 h) (hk : Bytes 4 k) (hx : x < 18446744073709551616) (hs : X.length + 8 ≤ lim) :
    Calls Try.prog 19 #[.pointer (some ⟨g, 0, none⟩), .agg (thL 5 n p len cap h k x is).toArray] w (PutP w g lim v (X ++ wordB x)) := by
  have hB : Below w.heap.size w (w.alloc (.cells (thL 5 n p len cap h k x is).toArray 39)) := (Below.refl _ w).alloc (Nat.le_refl _) _
  have HT : Hid (Th (w.alloc (.cells (thL 5 n p len cap h k x is).toArray 39)) w.heap.size 5 n p len cap h k x is) := hidp ⟨Blk.new w _ _, hh, hk⟩
  have c0 := HT.out.c0
  have c1 := HT.out.c1
  have c2 := HT.out.c2
  have c39 := HT.out.c39
  have c40 := HT.out.c40
  have HC := hidp (wWord_ok (H.below hB) x hx hs)
  have HB := hidp hB
  clear hB H hx hs
  go_enter Try.func19, Try.ntmps19
  go_wp2_with fail
  refine HC.out.mono ?_
  rintro e w2 ⟨rfl, hq⟩
  replace hq := hidp (PutP.of HB.out hq)
  go_wp2
  go_ret
  exact hq.out

set_option maxRecDepth 100000 in
set_option maxHeartbeats 1000000 in
theorem puts6_ok {w : World} {g lim : Nat} {v : Value} {X : List Nat} (H : Wr w g lim v X 0) (n : Int) (p : Option Addr) (len cap : Nat) (x : Nat) (is : Bool) (h k : List Nat) (hh : Bytes 32 h) (hk : Bytes 4 k) (hx : x < 18446744073709551616) (hs : X.length + 8 ≤ lim) :
    Calls Try.prog 19 #[.pointer (some ⟨g, 0, none⟩), .agg (thL 6 n p len cap h k x is).toArray] w (PutP w g lim v (X ++ wordB (formN x))) := by
  have hB : Below w.heap.size w (w.alloc (.cells (thL 6 n p len cap h k x is).toArray 39)) := (Below.refl _ w).alloc (Nat.le_refl _) _
  have HT : Hid (Th (w.alloc (.cells (thL 6 n p len cap h k x is).toArray 39)) w.heap.size 6 n p len cap h k x is) := hidp ⟨Blk.new w _ _, hh, hk⟩
  have c0 := HT.out.c0
  have c1 := HT.out.c1
  have c2 := HT.out.c2
  have c39 := HT.out.c39
  have c40 := HT.out.c40
  have HC := hidp (wPace_ok (H.below hB) x hx hs)
  have HB := hidp hB
  clear hB H hx hs
  go_enter Try.func19, Try.ntmps19
  go_wp2_with fail
  refine HC.out.mono ?_
  rintro e w2 ⟨rfl, hq⟩
  replace hq := hidp (PutP.of HB.out hq)
  go_wp2
  go_ret
  exact hq.out

set_option maxRecDepth 100000 in
set_option maxHeartbeats 1000000 in
theorem puts7_ok {w : World} {g lim : Nat} {v : Value} {X : List Nat} (H : Wr w g lim v X 0) (n : Int) (p : Option Addr) (len cap : Nat) (x : Nat) (is : Bool) (h k : List Nat) (hh : Bytes 32 h) (hk : Bytes 4 k) (hs : X.length + 1 ≤ lim) :
    Calls Try.prog 19 #[.pointer (some ⟨g, 0, none⟩), .agg (thL 7 n p len cap h k x is).toArray] w (PutP w g lim v (X ++ [bN is])) := by
  have hB : Below w.heap.size w (w.alloc (.cells (thL 7 n p len cap h k x is).toArray 39)) := (Below.refl _ w).alloc (Nat.le_refl _) _
  have HT : Hid (Th (w.alloc (.cells (thL 7 n p len cap h k x is).toArray 39)) w.heap.size 7 n p len cap h k x is) := hidp ⟨Blk.new w _ _, hh, hk⟩
  have c0 := HT.out.c0
  have c1 := HT.out.c1
  have c2 := HT.out.c2
  have c39 := HT.out.c39
  have c40 := HT.out.c40
  have HC := hidp (wBool_ok (H.below hB) is hs)
  have HB := hidp hB
  clear hB H hs
  go_enter Try.func19, Try.ntmps19
  go_wp2_with fail
  refine HC.out.mono ?_
  rintro e w2 ⟨rfl, hq⟩
  replace hq := hidp (PutP.of HB.out hq)
  go_wp2
  go_ret
  exact hq.out

end Go.Proofs.Ytlfmmmlheloloaa
