/-
  Layer 4: both readers side by side: reads, kind by kind.
-/
import Derived.Test.YtbhkjflpkpkdlaaR4r
import Derived.Test.YtbhkjflpkpkdlaaQi
import Derived.Test.YtbhkjflpkpkdlaaR5d
namespace Go.Proofs.Ytbhkjflpkpkdlaa
set_option linter.unusedSimpArgs false
open Go.RowKit Go.Lib Go.Maps

theorem RdQ.bexA {k : Nat} {w w' : World} {g b : Nat} {s : RS} (H : RdQ w g b s) (hB : Bex k w w') (hg : g ≠ k) (hb : k ≠ b) : RdQ w' g b s := by
  obtain ⟨p, cap, B, t, h1, h2, h3⟩ := H.q
  exact ⟨p, cap, B, t, ⟨hB.blk h1.blk hg, h1.bs.bexN hB (fun _ => hb), h1.ne, h1.le⟩, h2, h3⟩
/-- Both readers, of one plain state. -/
structure RR (w : World) (g b g2 b2 : Nat) (s : RS) : Prop where
  r : RdS w g b s
  q : RdQ w g2 b2 s
  ne : g ≠ g2 ∧ g2 ≠ b ∧ g ≠ b2
  l2 : b2 < w.heap.size
theorem RR.below {w w' : World} {g b g2 b2 : Nat} {s : RS} (H : RR w g b g2 b2 s) (h : Below w.heap.size w w') : RR w' g b g2 b2 s := ⟨H.r.below h, H.q.below h, H.ne, Nat.lt_of_lt_of_le H.l2 h.size⟩
def RRP (w : World) (g b g2 b2 : Nat) (s : RS) (e : Ending) (w' : World) : Prop := e = .returned (.bool true) ∧ RR w' g b g2 b2 s ∧ ∃ w1, Bex g w w1 ∧ Bex g2 w1 w'
set_option maxRecDepth 100000 in
set_option maxHeartbeats 4000000 in
theorem reads_Num {w : World} {g b g2 b2 : Nat} {s : RS} (H : RR w g b g2 b2 s) (n : Int) (p : Option Addr) (len cap : Nat) (h k : List Nat) (x : Nat) (is : Bool) :
    Calls Try.prog 24 #[.pointer (some ⟨g, 0, none⟩), .pointer (some ⟨g2, 0, none⟩), .agg (thL 0 n p len cap h k x is).toArray] w (RRP w g b g2 b2 (rdN pNum s)) := by
  have hA := (Below.refl w.heap.size w).alloc (Nat.le_refl _) (.cells (thL 0 n p len cap h k x is).toArray 39)
  have HH := hidp (H.below hA)
  have hAx := hidp (Bex.of_below (g := g) hA)
  have c0 : (w.alloc (.cells (thL 0 n p len cap h k x is).toArray 39)).cell? ⟨w.heap.size, 0, none⟩ = some (.int .i64 0) := (Blk.new w (thL 0 n p len cap h k x is) _).cell 0
  have HA := hidp (sNum HH.out.r)
  have HB := hidp (fun W (hW : RdQ W g2 b2 s) => refNum_any hW)
  generalize rdV pNum 0 s = V at *
  generalize rdN pNum s = S at *
  have hvv : ((V : Int) == (V : Int)) = true := beq_self_eq_true _
  clear H hA
  go_enter Try.func24, Try.ntmps24
  go_wp2_with fail
  refine HA.out.mono ?_
  rintro e w1 ⟨rfl, h1, h2⟩
  have HR := hidp (And.intro h1 (hAx.out.trans h2))
  have HQ := hidp (HH.out.q.bexA h2 (fun e => HH.out.ne.1 e.symm) HH.out.ne.2.2)
  have HL2 := hidp (Nat.lt_of_lt_of_le HH.out.l2 h2.size)
  clear h1 h2 HA c0
  go_wp2_with fail
  refine (HB.out _ HQ.out).mono ?_
  rintro e w2 ⟨rfl, h1, h2⟩
  have HF := hidp (And.intro h1 h2)
  clear h1 h2 HB HQ
  go_wp2_with fail
  go_ret
  exact ⟨rfl, ⟨HR.out.1.bexA HF.out.2 HH.out.ne.1 HH.out.ne.2.1, HF.out.1, HH.out.ne, Nat.lt_of_lt_of_le HL2.out HF.out.2.size⟩, w1, HR.out.2, HF.out.2⟩
set_option maxRecDepth 100000 in
set_option maxHeartbeats 4000000 in
theorem reads_Word {w : World} {g b g2 b2 : Nat} {s : RS} (H : RR w g b g2 b2 s) (n : Int) (p : Option Addr) (len cap : Nat) (h k : List Nat) (x : Nat) (is : Bool) :
    Calls Try.prog 24 #[.pointer (some ⟨g, 0, none⟩), .pointer (some ⟨g2, 0, none⟩), .agg (thL 5 n p len cap h k x is).toArray] w (RRP w g b g2 b2 (rdN pWord s)) := by
  have hA := (Below.refl w.heap.size w).alloc (Nat.le_refl _) (.cells (thL 5 n p len cap h k x is).toArray 39)
  have HH := hidp (H.below hA)
  have hAx := hidp (Bex.of_below (g := g) hA)
  have c0 : (w.alloc (.cells (thL 5 n p len cap h k x is).toArray 39)).cell? ⟨w.heap.size, 0, none⟩ = some (.int .i64 5) := (Blk.new w (thL 5 n p len cap h k x is) _).cell 0
  have HA := hidp (sWord HH.out.r)
  have HB := hidp (fun W (hW : RdQ W g2 b2 s) => refWord_any hW)
  generalize rdV pWord 0 s = V at *
  generalize rdN pWord s = S at *
  have hvv : ((V : Int) == (V : Int)) = true := beq_self_eq_true _
  clear H hA
  go_enter Try.func24, Try.ntmps24
  go_wp2_with fail
  refine HA.out.mono ?_
  rintro e w1 ⟨rfl, h1, h2⟩
  have HR := hidp (And.intro h1 (hAx.out.trans h2))
  have HQ := hidp (HH.out.q.bexA h2 (fun e => HH.out.ne.1 e.symm) HH.out.ne.2.2)
  have HL2 := hidp (Nat.lt_of_lt_of_le HH.out.l2 h2.size)
  clear h1 h2 HA c0
  go_wp2_with fail
  refine (HB.out _ HQ.out).mono ?_
  rintro e w2 ⟨rfl, h1, h2⟩
  have HF := hidp (And.intro h1 h2)
  clear h1 h2 HB HQ
  go_wp2_with fail
  go_ret
  exact ⟨rfl, ⟨HR.out.1.bexA HF.out.2 HH.out.ne.1 HH.out.ne.2.1, HF.out.1, HH.out.ne, Nat.lt_of_lt_of_le HL2.out HF.out.2.size⟩, w1, HR.out.2, HF.out.2⟩
set_option maxRecDepth 100000 in
set_option maxHeartbeats 4000000 in
theorem reads_Bool {w : World} {g b g2 b2 : Nat} {s : RS} (H : RR w g b g2 b2 s) (n : Int) (p : Option Addr) (len cap : Nat) (h k : List Nat) (x : Nat) (is : Bool) :
    Calls Try.prog 24 #[.pointer (some ⟨g, 0, none⟩), .pointer (some ⟨g2, 0, none⟩), .agg (thL 7 n p len cap h k x is).toArray] w (RRP w g b g2 b2 (rdN pBool s)) := by
  have hA := (Below.refl w.heap.size w).alloc (Nat.le_refl _) (.cells (thL 7 n p len cap h k x is).toArray 39)
  have HH := hidp (H.below hA)
  have hAx := hidp (Bex.of_below (g := g) hA)
  have c0 : (w.alloc (.cells (thL 7 n p len cap h k x is).toArray 39)).cell? ⟨w.heap.size, 0, none⟩ = some (.int .i64 7) := (Blk.new w (thL 7 n p len cap h k x is) _).cell 0
  have HA := hidp (sBool HH.out.r)
  have HB := hidp (fun W (hW : RdQ W g2 b2 s) => refBool_any hW)
  generalize rdV pBool false s = V at *
  generalize rdN pBool s = S at *
  have hvv : (V == V) = true := beq_self_eq_true _
  clear H hA
  go_enter Try.func24, Try.ntmps24
  go_wp2_with fail
  refine HA.out.mono ?_
  rintro e w1 ⟨rfl, h1, h2⟩
  have HR := hidp (And.intro h1 (hAx.out.trans h2))
  have HQ := hidp (HH.out.q.bexA h2 (fun e => HH.out.ne.1 e.symm) HH.out.ne.2.2)
  have HL2 := hidp (Nat.lt_of_lt_of_le HH.out.l2 h2.size)
  clear h1 h2 HA c0
  go_wp2_with fail
  refine (HB.out _ HQ.out).mono ?_
  rintro e w2 ⟨rfl, h1, h2⟩
  have HF := hidp (And.intro h1 h2)
  clear h1 h2 HB HQ
  go_wp2_with fail
  go_ret
  exact ⟨rfl, ⟨HR.out.1.bexA HF.out.2 HH.out.ne.1 HH.out.ne.2.1, HF.out.1, HH.out.ne, Nat.lt_of_lt_of_le HL2.out HF.out.2.size⟩, w1, HR.out.2, HF.out.2⟩
theorem refKeyB {w : World} {g b : Nat} {s : RS} (H : RdQ w g b s) (hb : Bytes 4 (rdV (pRaw 4) (List.replicate 4 0) s)) :
    Calls Try.prog 93 #[.pointer (some ⟨g, 0, none⟩)] w fun e w' => e = .returned (.agg (bvs (rdV (pRaw 4) (List.replicate 4 0) s)).toArray) ∧ RdQ w' g b (rdN (pRaw 4) s) ∧ Bex g w w' := by
  have q := refKeyN H
  rw [key_val rfl hb] at q
  exact q
theorem rdHash_len {s : RS} : (rdV (pRaw 32) (List.replicate 32 0) s).length = 32 := by
  unfold rdV
  split
  · rfl
  · split
    · rename_i hp
      obtain ⟨h1, _, h2⟩ := pRaw_ok hp
      rw [h1, List.length_take]; omega
    · rfl
set_option maxRecDepth 100000 in
set_option maxHeartbeats 4000000 in
theorem reads_Hash {w : World} {g b g2 b2 : Nat} {s : RS} (H : RR w g b g2 b2 s) (n : Int) (p : Option Addr) (len cap : Nat) (h k : List Nat) (x : Nat) (is : Bool) :
    Calls Try.prog 24 #[.pointer (some ⟨g, 0, none⟩), .pointer (some ⟨g2, 0, none⟩), .agg (thL 3 n p len cap h k x is).toArray] w (RRP w g b g2 b2 (rdN (pRaw 32) s)) := by
  have hA := (Below.refl w.heap.size w).alloc (Nat.le_refl _) (.cells (thL 3 n p len cap h k x is).toArray 39)
  have HH := hidp (H.below hA)
  have hAx := hidp (Bex.of_below (g := g) hA)
  have c0 : (w.alloc (.cells (thL 3 n p len cap h k x is).toArray 39)).cell? ⟨w.heap.size, 0, none⟩ = some (.int .i64 3) := (Blk.new w (thL 3 n p len cap h k x is) _).cell 0
  have HA := hidp (sHash HH.out.r)
  have hlen := rdHash_len (s := s)
  have HB := hidp (fun W (hW : RdQ W g2 b2 s) (hl2 : b2 < W.heap.size) => (refHash_any hW hl2))
  rw [show hz32 = List.replicate 32 0 from rfl] at HB
  have heq := run_eql_hash (rdV (pRaw 32) (List.replicate 32 0) s) (rdV (pRaw 32) (List.replicate 32 0) s) hlen hlen
  rw [decide_eq_true rfl] at heq
  have hgd := guard_hash
  clear hlen
  generalize rdV (pRaw 32) (List.replicate 32 0) s = V at *
  generalize rdN (pRaw 32) s = S at *
  clear H hA
  go_enter Try.func24, Try.ntmps24
  go_wp2_with fail
  refine HA.out.mono ?_
  rintro e w1 ⟨rfl, h1, h2⟩
  have HR := hidp (And.intro h1 (hAx.out.trans h2))
  have HQ := hidp (HH.out.q.bexA h2 (fun e => HH.out.ne.1 e.symm) HH.out.ne.2.2)
  have HL2 := hidp (Nat.lt_of_lt_of_le HH.out.l2 h2.size)
  clear h1 h2 HA c0
  go_wp2_with fail
  refine (HB.out _ HQ.out HL2.out).mono ?_
  rintro e w2 ⟨rfl, h1, h2⟩
  have HF := hidp (And.intro h1 h2)
  clear h1 h2 HB HQ
  go_wp2_with fail
  go_ret
  exact ⟨rfl, ⟨HR.out.1.bexA HF.out.2 HH.out.ne.1 HH.out.ne.2.1, HF.out.1, HH.out.ne, Nat.lt_of_lt_of_le HL2.out HF.out.2.size⟩, w1, HR.out.2, HF.out.2⟩
set_option maxRecDepth 100000 in
set_option maxHeartbeats 4000000 in
theorem reads_Key {w : World} {g b g2 b2 : Nat} {s : RS} (H : RR w g b g2 b2 s) (n : Int) (p : Option Addr) (len cap : Nat) (h k : List Nat) (x : Nat) (is : Bool) :
    Calls Try.prog 24 #[.pointer (some ⟨g, 0, none⟩), .pointer (some ⟨g2, 0, none⟩), .agg (thL 4 n p len cap h k x is).toArray] w (RRP w g b g2 b2 (rdN (pRaw 4) s)) := by
  have hA := (Below.refl w.heap.size w).alloc (Nat.le_refl _) (.cells (thL 4 n p len cap h k x is).toArray 39)
  have HH := hidp (H.below hA)
  have hAx := hidp (Bex.of_below (g := g) hA)
  have c0 : (w.alloc (.cells (thL 4 n p len cap h k x is).toArray 39)).cell? ⟨w.heap.size, 0, none⟩ = some (.int .i64 4) := (Blk.new w (thL 4 n p len cap h k x is) _).cell 0
  have HA := hidp (sKey HH.out.r)
  have hb4 := rdKey_bytes H.r.byte
  have HB := hidp (fun W (hW : RdQ W g2 b2 s) (hl2 : b2 < W.heap.size) => (refKeyB hW hb4))
  have hlen := hb4.1
  have heq := run_eql_key (rdV (pRaw 4) (List.replicate 4 0) s) (rdV (pRaw 4) (List.replicate 4 0) s) hlen hlen
  rw [decide_eq_true rfl] at heq
  have hgd := guard_key
  clear hb4 hlen
  generalize rdV (pRaw 4) (List.replicate 4 0) s = V at *
  generalize rdN (pRaw 4) s = S at *
  clear H hA
  go_enter Try.func24, Try.ntmps24
  go_wp2_with fail
  refine HA.out.mono ?_
  rintro e w1 ⟨rfl, h1, h2⟩
  have HR := hidp (And.intro h1 (hAx.out.trans h2))
  have HQ := hidp (HH.out.q.bexA h2 (fun e => HH.out.ne.1 e.symm) HH.out.ne.2.2)
  have HL2 := hidp (Nat.lt_of_lt_of_le HH.out.l2 h2.size)
  clear h1 h2 HA c0
  go_wp2_with fail
  refine (HB.out _ HQ.out HL2.out).mono ?_
  rintro e w2 ⟨rfl, h1, h2⟩
  have HF := hidp (And.intro h1 h2)
  clear h1 h2 HB HQ
  go_wp2_with fail
  go_ret
  exact ⟨rfl, ⟨HR.out.1.bexA HF.out.2 HH.out.ne.1 HH.out.ne.2.1, HF.out.1, HH.out.ne, Nat.lt_of_lt_of_le HL2.out HF.out.2.size⟩, w1, HR.out.2, HF.out.2⟩
set_option maxRecDepth 100000 in
set_option maxHeartbeats 4000000 in
theorem reads_Pace {w : World} {g b g2 b2 : Nat} {s : RS} (H : RR w g b g2 b2 s) (n : Int) (p : Option Addr) (len cap : Nat) (h k : List Nat) (x : Nat) (is : Bool) :
    Calls Try.prog 24 #[.pointer (some ⟨g, 0, none⟩), .pointer (some ⟨g2, 0, none⟩), .agg (thL 6 n p len cap h k x is).toArray] w (RRP w g b g2 b2 (rdN pPace s)) := by
  have hA := (Below.refl w.heap.size w).alloc (Nat.le_refl _) (.cells (thL 6 n p len cap h k x is).toArray 39)
  have HH := hidp (H.below hA)
  have hAx := hidp (Bex.of_below (g := g) hA)
  have c0 : (w.alloc (.cells (thL 6 n p len cap h k x is).toArray 39)).cell? ⟨w.heap.size, 0, none⟩ = some (.int .i64 6) := (Blk.new w (thL 6 n p len cap h k x is) _).cell 0
  have HA := hidp (sPace HH.out.r)
  have HB := hidp (fun W (hW : RdQ W g2 b2 s) => refPace_any hW)
  have HC := hidp (fun W => refBits_any (rdV pPace 0 s) W)
  generalize rdV pPace 0 s = V at *
  generalize formN V = U at *
  generalize rdN pPace s = S at *
  have hvv : ((U : Int) == (U : Int)) = true := beq_self_eq_true _
  clear H hA
  go_enter Try.func24, Try.ntmps24
  go_wp2_with fail
  refine HA.out.mono ?_
  rintro e w1 ⟨rfl, h1, h2⟩
  have HR := hidp (And.intro h1 (hAx.out.trans h2))
  have HQ := hidp (HH.out.q.bexA h2 (fun e => HH.out.ne.1 e.symm) HH.out.ne.2.2)
  have HL2 := hidp (Nat.lt_of_lt_of_le HH.out.l2 h2.size)
  clear h1 h2 HA c0
  go_wp2_with fail
  refine (HC.out _).mono ?_
  rintro e w2 ⟨rfl, rfl⟩
  go_wp2_with fail
  refine (HB.out _ HQ.out).mono ?_
  rintro e w3 ⟨rfl, h1, h2⟩
  have HF := hidp (And.intro h1 h2)
  clear h1 h2 HB HQ
  go_wp2_with fail
  refine (HC.out _).mono ?_
  rintro e w4 ⟨rfl, rfl⟩
  clear HC
  go_wp2_with fail
  go_ret
  exact ⟨rfl, ⟨HR.out.1.bexA HF.out.2 HH.out.ne.1 HH.out.ne.2.1, HF.out.1, HH.out.ne, Nat.lt_of_lt_of_le HL2.out HF.out.2.size⟩, w1, HR.out.2, HF.out.2⟩
set_option maxRecDepth 100000 in
set_option maxHeartbeats 4000000 in
theorem reads_else {w : World} {g b g2 b2 : Nat} {s : RS} (H : RR w g b g2 b2 s) (kd n : Int) (p : Option Addr) (len cap : Nat) (h k : List Nat) (x : Nat) (is : Bool) (hk : kd < 0 ∨ 7 < kd) :
    Calls Try.prog 24 #[.pointer (some ⟨g, 0, none⟩), .pointer (some ⟨g2, 0, none⟩), .agg (thL kd n p len cap h k x is).toArray] w (RRP w g b g2 b2 s) := by
  have hA := (Below.refl w.heap.size w).alloc (Nat.le_refl _) (.cells (thL kd n p len cap h k x is).toArray 39)
  have HH := hidp (H.below hA)
  have hAx := hidp (Bex.of_below (g := g) hA)
  have c0 : (w.alloc (.cells (thL kd n p len cap h k x is).toArray 39)).cell? ⟨w.heap.size, 0, none⟩ = some (.int .i64 kd) := (Blk.new w (thL kd n p len cap h k x is) _).cell 0
  have k0 : (kd == 0) = false := by rw [beq_eq_false_iff_ne]; omega
  have k1 : (kd == 1) = false := by rw [beq_eq_false_iff_ne]; omega
  have k2 : (kd == 2) = false := by rw [beq_eq_false_iff_ne]; omega
  have k3 : (kd == 3) = false := by rw [beq_eq_false_iff_ne]; omega
  have k4 : (kd == 4) = false := by rw [beq_eq_false_iff_ne]; omega
  have k5 : (kd == 5) = false := by rw [beq_eq_false_iff_ne]; omega
  have k6 : (kd == 6) = false := by rw [beq_eq_false_iff_ne]; omega
  have k7 : (kd == 7) = false := by rw [beq_eq_false_iff_ne]; omega
  clear H hA hk
  go_enter Try.func24, Try.ntmps24
  go_wp2_with fail
  go_ret
  exact ⟨rfl, HH.out, _, hAx.out, Bex.refl _ _⟩
def NS (x : Nat) (n : Int) (W : World) : Prop := W.cell? ⟨x, 1, none⟩ = some (.int .i64 n)
theorem NS.drew {x : Nat} {n : Int} {W : World} (h : Hid (NS x n W)) : Hid (NS x n W.drew) := hidp h.out
set_option maxRecDepth 100000 in
set_option maxHeartbeats 4000000 in
theorem reads_Text {w : World} {g b g2 b2 : Nat} {s : RS} (H : RR w g b g2 b2 s) (n : Int) (p : Option Addr) (len cap : Nat) (h k : List Nat) (x : Nat) (is : Bool) :
    Calls Try.prog 24 #[.pointer (some ⟨g, 0, none⟩), .pointer (some ⟨g2, 0, none⟩), .agg (thL 1 n p len cap h k x is).toArray] w (RRP w g b g2 b2 (rdN (fun R => pText R n) s)) := by
  have hA := (Below.refl w.heap.size w).alloc (Nat.le_refl _) (.cells (thL 1 n p len cap h k x is).toArray 39)
  have HH := hidp (H.below hA)
  have hAx := hidp (Bex.of_below (g := g) hA)
  have hbl := Blk.new w (thL 1 n p len cap h k x is) 39
  have c0 : (w.alloc (.cells (thL 1 n p len cap h k x is).toArray 39)).cell? ⟨w.heap.size, 0, none⟩ = some (.int .i64 1) := hbl.cell 0
  have hne := hidp (show w.heap.size ≠ g ∧ w.heap.size ≠ g2 by have := H.r.glt; have := H.q.glt; omega)
  have HK := hidp hbl
  have HNS : Hid (NS w.heap.size n (w.alloc (.cells (thL 1 n p len cap h k x is).toArray 39))) := hidp (hbl.cell 1)
  obtain ⟨w0, hw0⟩ : ∃ W, W = w.alloc (.cells (thL 1 n p len cap h k x is).toArray 39) := ⟨_, rfl⟩
  have HA := hidp (fun W (hW : W = w0 ∨ W = w0.drew) => (show Bex g w0 W ∧ RdS W g b s ∧ RdQ W g2 b2 s ∧ Blk W w.heap.size (thL 1 n p len cap h k x is) 39 from by
    rw [← hw0] at HH HK
    rcases hW with rfl | rfl
    · exact ⟨Bex.refl _ _, HH.out.r, HH.out.q, HK.out⟩
    · exact ⟨(Bex.refl _ _).drew, HH.out.r.drew, HH.out.q.drew, HK.out.drew⟩))
  have HL20 := hidp HH.out.l2
  have HNE := hidp HH.out.ne
  have HA2 := hidp (fun W (hW : RdS W g b s) => sText hW n)
  have HB := hidp (fun W (hW : RdQ W g2 b2 s) => refText_any hW n)
  generalize rdV (fun R => pText R n) [] s = V at *
  generalize rdN (fun R => pText R n) s = S at *
  clear H hA hbl
  go_enter Try.func24, Try.ntmps24
  go_wp2_with fail
  rw [← hw0] at hAx HL20 HNS ⊢
  clear HH HK hw0 c0
  go_region_held3 (fun W => W.cell? ⟨w.heap.size, 1, none⟩ = some (.int .i64 n))
    (first | exact Hid.out (p := NS w.heap.size n _) (by with_reducible assumption) | exact Hid.out (p := NS w.heap.size n _) (NS.drew (by with_reducible assumption)))
    (first
     | (go_at_call 68; refine (HA2.out _ (HA.out _ (by first | exact .inl rfl | exact .inr rfl)).2.1).mono ?_; rintro e w1 ⟨rfl, h1, h2⟩; have K1 := hidp (show RdS w1 g b S ∧ Bex g w0 w1 ∧ RdQ w1 g2 b2 s ∧ Blk w1 w.heap.size (thL 1 n p len cap h k x is) 39 from ⟨h1, (HA.out _ (by first | exact .inl rfl | exact .inr rfl)).1.trans h2, (HA.out _ (by first | exact .inl rfl | exact .inr rfl)).2.2.1.bexA h2 (fun e => HNE.out.1 e.symm) HNE.out.2.2, h2.blk (HA.out _ (by first | exact .inl rfl | exact .inr rfl)).2.2.2 hne.out.1⟩); have hT1 : Hid (NS w.heap.size n w1) := hidp ((h2.blk (HA.out _ (by first | exact .inl rfl | exact .inr rfl)).2.2.2 hne.out.1).cell 1); clear h1 h2)
     | (go_at_call 87; refine (HB.out _ K1.out.2.2.1).mono ?_; rintro e w2 ⟨rfl, h1, h2⟩; have K2 := hidp (And.intro h1 h2); have hT2 : Hid (NS w.heap.size n w2) := hidp ((h2.blk K1.out.2.2.2 hne.out.2).cell 1); clear h1 h2))
  go_wp2_with fail
  go_ret
  exact ⟨rfl, ⟨K1.out.1.bexA K2.out.2 HNE.out.1 HNE.out.2.1, K2.out.1, HNE.out, Nat.lt_of_lt_of_le HL20.out (Nat.le_trans K1.out.2.1.size K2.out.2.size)⟩, w1, hAx.out.trans K1.out.2.1, K2.out.2⟩
end Go.Proofs.Ytbhkjflpkpkdlaa
