/-
  The walk of WideRing, case by case.
-/
import Derived.Test.YtbldmenaaedffaaGc
import Derived.Test.YtbldmenaaedffaaKb
import Derived.Test.YtbldmenaaedffaaFm
namespace Go.Proofs.Ytbldmenaaedffaa
open Go.RowKit

set_option maxRecDepth 100000 in
set_option maxHeartbeats 4000000 in
theorem ring_700_1 (a b c p x y s t u v r : Nat) (h j o : Int) (n m : Int) (n' m' : Nat) (w : World)
    (en : bits .and .i64 n 9223372036854775807 = n') (em : bits .and .i64 m 9223372036854775807 = m')
    (hP : (∀ w, Calls Try.prog 14 #[wv a, wv b] w fun e w' => e = .returned (.tuple #[wv p, .int .i64 7]) ∧ Below w.heap.size w w'))
    (hQ : (∀ w, Calls Try.prog 14 #[wv b, wv a] w fun e w' => e = .returned (.tuple #[wv p, .int .i64 7]) ∧ Below w.heap.size w w'))
    (hX : (∀ w, Calls Try.prog 14 #[wv p, wv c] w fun e w' => e = .returned (.tuple #[wv x, .int .i64 0]) ∧ Below w.heap.size w w'))
    (hY : (∀ w, Calls Try.prog 14 #[wv b, wv c] w fun e w' => e = .returned (.tuple #[wv y, .int .i64 h]) ∧ Below w.heap.size w w'))
    (hS : (∀ w, Calls Try.prog 16 #[wv a, .int .i64 n'] w fun e w' => e = .returned (.tuple #[wv s, .int .i64 7]) ∧ Below w.heap.size w w'))
    (hT : (∀ w, Calls Try.prog 16 #[wv b, .int .i64 n'] w fun e w' => e = .returned (.tuple #[wv t, .int .i64 j]) ∧ Below w.heap.size w w'))
    (hU : (∀ w, Calls Try.prog 16 #[wv p, .int .i64 n'] w fun e w' => e = .returned (.tuple #[wv u, .int .i64 0]) ∧ Below w.heap.size w w'))
    (hW : (∀ w, Calls Try.prog 16 #[wv s, .int .i64 m'] w fun e w' => e = .returned (.tuple #[wv v, .int .i64 0]) ∧ Below w.heap.size w w'))
    (hR : (∀ w, Calls Try.prog 16 #[wv a, .int .i64 m'] w fun e w' => e = .returned (.tuple #[wv r, .int .i64 o]) ∧ Below w.heap.size w w')) :
    Calls Try.prog 7 #[wv a, wv b, wv c, .int .i64 n, .int .i64 m] w fun e w' => e = .returned (.bool true) ∧ Below w.heap.size w w' := by
  have KP := hidp hP; have KQ := hidp hQ; have KX := hidp hX; have KY := hidp hY; have KS := hidp hS; have KT := hidp hT; have KU := hidp hU; have KW := hidp hW; have KR := hidp hR
  clear hP hQ hX hY hS hT hU hW hR
  have BX0 := hidp ((((Bx.nil w).push a).push b).push c)
  have V0 := hidp ((((Below.refl w.heap.size w).alloc (Nat.le_refl _) (.cells #[.int .u64 (hiw a), .int .u64 (low a)] 24)).alloc (by simp) (.cells #[.int .u64 (hiw b), .int .u64 (low b)] 24)).alloc (by simp; omega) (.cells #[.int .u64 (hiw c), .int .u64 (low c)] 24))
  go_enter Try.func7, Try.ntmps7
  go_wp2_with fail
  refine (known_any _).mono ?_
  rintro e w1 ⟨rfl, hN⟩
  have BY1 := hidp (BX0.out.step hN)
  have V1 := hidp (V0.out.trans (hN.mono V0.out.size))
  obtain ⟨ca0, ca1, cal⟩ := BY1.out.get (b := w.heap.size) (r := a) (by simp)
  obtain ⟨cb0, cb1, cbl⟩ := BY1.out.get (b := w.heap.size + 1) (r := b) (by simp)
  have BX1 := BY1
  clear hN BX0 BY1 V0
  go_wp2_with fail
  with_reducible refine (KP.out _).mono ?_
  rintro e w2 ⟨rfl, hN⟩
  clear ca0 ca1 cal cb0 cb1 cbl
  have BY2 := hidp (BX1.out.step hN)
  have V2 := hidp (btrans (V1.out) hN)
  obtain ⟨ca0, ca1, cal⟩ := BY2.out.get (b := w.heap.size) (r := a) (by simp)
  obtain ⟨cb0, cb1, cbl⟩ := BY2.out.get (b := w.heap.size + 1) (r := b) (by simp)
  have BX2 := hidp (BY2.out.push p)
  clear hN BX1 BY2 V1
  go_wp2_with fail
  with_reducible refine (KQ.out _).mono ?_
  rintro e w3 ⟨rfl, hN⟩
  clear ca0 ca1 cal cb0 cb1 cbl
  have BY3 := hidp (BX2.out.step hN)
  have V3 := hidp (btrans (V2.out.alloc V2.out.size _) hN)
  obtain ⟨cp0, cp1, cpl⟩ := BY3.out.get (b := w2.heap.size) (r := p) (by simp)
  obtain ⟨cc0, cc1, ccl⟩ := BY3.out.get (b := w.heap.size + 1 + 1) (r := c) (by simp)
  have BX3 := hidp (BY3.out.push p)
  clear hN BX2 BY3 V2
  go_wp2_with fail
  with_reducible refine (KX.out _).mono ?_
  rintro e w4 ⟨rfl, hN⟩
  clear cp0 cp1 cpl cc0 cc1 ccl
  have BY4 := hidp (BX3.out.step hN)
  have V4 := hidp (btrans (V3.out.alloc V3.out.size _) hN)
  obtain ⟨cb0, cb1, cbl⟩ := BY4.out.get (b := w.heap.size + 1) (r := b) (by simp)
  obtain ⟨cc0, cc1, ccl⟩ := BY4.out.get (b := w.heap.size + 1 + 1) (r := c) (by simp)
  have BX4 := hidp (BY4.out.push x)
  clear hN BX3 BY4 V3
  go_wp2_with fail
  with_reducible refine (KY.out _).mono ?_
  rintro e w5 ⟨rfl, hN⟩
  clear cb0 cb1 cbl cc0 cc1 ccl
  have BY5 := hidp (BX4.out.step hN)
  have V5 := hidp (btrans (V4.out.alloc V4.out.size _) hN)
  obtain ⟨ca0, ca1, cal⟩ := BY5.out.get (b := w.heap.size) (r := a) (by simp)
  have BX5 := hidp (BY5.out.push y)
  clear hN BX4 BY5 V4
  go_wp2_with fail
  with_reducible refine (KS.out _).mono ?_
  rintro e w6 ⟨rfl, hN⟩
  clear ca0 ca1 cal
  have BY6 := hidp (BX5.out.step hN)
  have V6 := hidp (btrans (V5.out.alloc V5.out.size _) hN)
  obtain ⟨cb0, cb1, cbl⟩ := BY6.out.get (b := w.heap.size + 1) (r := b) (by simp)
  have BX6 := hidp (BY6.out.push s)
  clear hN BX5 BY6 V5
  go_wp2_with fail
  with_reducible refine (KT.out _).mono ?_
  rintro e w7 ⟨rfl, hN⟩
  clear cb0 cb1 cbl
  have BY7 := hidp (BX6.out.step hN)
  have V7 := hidp (btrans (V6.out.alloc V6.out.size _) hN)
  obtain ⟨cp0, cp1, cpl⟩ := BY7.out.get (b := w2.heap.size) (r := p) (by simp)
  have BX7 := hidp (BY7.out.push t)
  clear hN BX6 BY7 V6
  go_wp2_with fail
  with_reducible refine (KU.out _).mono ?_
  rintro e w8 ⟨rfl, hN⟩
  clear cp0 cp1 cpl
  have BY8 := hidp (BX7.out.step hN)
  have V8 := hidp (btrans (V7.out.alloc V7.out.size _) hN)
  obtain ⟨cs0, cs1, csl⟩ := BY8.out.get (b := w6.heap.size) (r := s) (by simp)
  have BX8 := hidp (BY8.out.push u)
  clear hN BX7 BY8 V7
  go_wp2_with fail
  with_reducible refine (KW.out _).mono ?_
  rintro e w9 ⟨rfl, hN⟩
  clear cs0 cs1 csl
  have BY9 := hidp (BX8.out.step hN)
  have V9 := hidp (btrans (V8.out.alloc V8.out.size _) hN)
  obtain ⟨ca0, ca1, cal⟩ := BY9.out.get (b := w.heap.size) (r := a) (by simp)
  have BX9 := hidp (BY9.out.push v)
  clear hN BX8 BY9 V8
  go_wp2_with fail
  with_reducible refine (KR.out _).mono ?_
  rintro e w10 ⟨rfl, hN⟩
  clear ca0 ca1 cal
  have BY10 := hidp (BX9.out.step hN)
  have V10 := hidp (btrans (V9.out.alloc V9.out.size _) hN)
  have BX10 := hidp (BY10.out.push r)
  clear hN BX9 BY10 V9
  go_wp2
  go_ret
  exact ⟨rfl, V10.out.alloc V10.out.size _⟩

set_option maxRecDepth 100000 in
set_option maxHeartbeats 4000000 in
theorem ring_700_2 (a b c p x y s t u v r : Nat) (h j o : Int) (n m : Int) (n' m' : Nat) (w : World)
    (en : bits .and .i64 n 9223372036854775807 = n') (em : bits .and .i64 m 9223372036854775807 = m')
    (hP : (∀ w, Calls Try.prog 14 #[wv a, wv b] w fun e w' => e = .returned (.tuple #[wv p, .int .i64 7]) ∧ Below w.heap.size w w'))
    (hQ : (∀ w, Calls Try.prog 14 #[wv b, wv a] w fun e w' => e = .returned (.tuple #[wv p, .int .i64 7]) ∧ Below w.heap.size w w'))
    (hX : (∀ w, Calls Try.prog 14 #[wv p, wv c] w fun e w' => e = .returned (.tuple #[wv x, .int .i64 0]) ∧ Below w.heap.size w w'))
    (hY : (∀ w, Calls Try.prog 14 #[wv b, wv c] w fun e w' => e = .returned (.tuple #[wv y, .int .i64 h]) ∧ Below w.heap.size w w'))
    (hS : (∀ w, Calls Try.prog 16 #[wv a, .int .i64 n'] w fun e w' => e = .returned (.tuple #[wv s, .int .i64 0]) ∧ Below w.heap.size w w'))
    (hT : (∀ w, Calls Try.prog 16 #[wv b, .int .i64 n'] w fun e w' => e = .returned (.tuple #[wv t, .int .i64 j]) ∧ Below w.heap.size w w'))
    (hU : (∀ w, Calls Try.prog 16 #[wv p, .int .i64 n'] w fun e w' => e = .returned (.tuple #[wv u, .int .i64 0]) ∧ Below w.heap.size w w'))
    (hW : (∀ w, Calls Try.prog 16 #[wv s, .int .i64 m'] w fun e w' => e = .returned (.tuple #[wv v, .int .i64 7]) ∧ Below w.heap.size w w'))
    (hR : (∀ w, Calls Try.prog 16 #[wv a, .int .i64 m'] w fun e w' => e = .returned (.tuple #[wv r, .int .i64 o]) ∧ Below w.heap.size w w')) :
    Calls Try.prog 7 #[wv a, wv b, wv c, .int .i64 n, .int .i64 m] w fun e w' => e = .returned (.bool true) ∧ Below w.heap.size w w' := by
  have KP := hidp hP; have KQ := hidp hQ; have KX := hidp hX; have KY := hidp hY; have KS := hidp hS; have KT := hidp hT; have KU := hidp hU; have KW := hidp hW; have KR := hidp hR
  clear hP hQ hX hY hS hT hU hW hR
  have BX0 := hidp ((((Bx.nil w).push a).push b).push c)
  have V0 := hidp ((((Below.refl w.heap.size w).alloc (Nat.le_refl _) (.cells #[.int .u64 (hiw a), .int .u64 (low a)] 24)).alloc (by simp) (.cells #[.int .u64 (hiw b), .int .u64 (low b)] 24)).alloc (by simp; omega) (.cells #[.int .u64 (hiw c), .int .u64 (low c)] 24))
  go_enter Try.func7, Try.ntmps7
  go_wp2_with fail
  refine (known_any _).mono ?_
  rintro e w1 ⟨rfl, hN⟩
  have BY1 := hidp (BX0.out.step hN)
  have V1 := hidp (V0.out.trans (hN.mono V0.out.size))
  obtain ⟨ca0, ca1, cal⟩ := BY1.out.get (b := w.heap.size) (r := a) (by simp)
  obtain ⟨cb0, cb1, cbl⟩ := BY1.out.get (b := w.heap.size + 1) (r := b) (by simp)
  have BX1 := BY1
  clear hN BX0 BY1 V0
  go_wp2_with fail
  with_reducible refine (KP.out _).mono ?_
  rintro e w2 ⟨rfl, hN⟩
  clear ca0 ca1 cal cb0 cb1 cbl
  have BY2 := hidp (BX1.out.step hN)
  have V2 := hidp (btrans (V1.out) hN)
  obtain ⟨ca0, ca1, cal⟩ := BY2.out.get (b := w.heap.size) (r := a) (by simp)
  obtain ⟨cb0, cb1, cbl⟩ := BY2.out.get (b := w.heap.size + 1) (r := b) (by simp)
  have BX2 := hidp (BY2.out.push p)
  clear hN BX1 BY2 V1
  go_wp2_with fail
  with_reducible refine (KQ.out _).mono ?_
  rintro e w3 ⟨rfl, hN⟩
  clear ca0 ca1 cal cb0 cb1 cbl
  have BY3 := hidp (BX2.out.step hN)
  have V3 := hidp (btrans (V2.out.alloc V2.out.size _) hN)
  obtain ⟨cp0, cp1, cpl⟩ := BY3.out.get (b := w2.heap.size) (r := p) (by simp)
  obtain ⟨cc0, cc1, ccl⟩ := BY3.out.get (b := w.heap.size + 1 + 1) (r := c) (by simp)
  have BX3 := hidp (BY3.out.push p)
  clear hN BX2 BY3 V2
  go_wp2_with fail
  with_reducible refine (KX.out _).mono ?_
  rintro e w4 ⟨rfl, hN⟩
  clear cp0 cp1 cpl cc0 cc1 ccl
  have BY4 := hidp (BX3.out.step hN)
  have V4 := hidp (btrans (V3.out.alloc V3.out.size _) hN)
  obtain ⟨cb0, cb1, cbl⟩ := BY4.out.get (b := w.heap.size + 1) (r := b) (by simp)
  obtain ⟨cc0, cc1, ccl⟩ := BY4.out.get (b := w.heap.size + 1 + 1) (r := c) (by simp)
  have BX4 := hidp (BY4.out.push x)
  clear hN BX3 BY4 V3
  go_wp2_with fail
  with_reducible refine (KY.out _).mono ?_
  rintro e w5 ⟨rfl, hN⟩
  clear cb0 cb1 cbl cc0 cc1 ccl
  have BY5 := hidp (BX4.out.step hN)
  have V5 := hidp (btrans (V4.out.alloc V4.out.size _) hN)
  obtain ⟨ca0, ca1, cal⟩ := BY5.out.get (b := w.heap.size) (r := a) (by simp)
  have BX5 := hidp (BY5.out.push y)
  clear hN BX4 BY5 V4
  go_wp2_with fail
  with_reducible refine (KS.out _).mono ?_
  rintro e w6 ⟨rfl, hN⟩
  clear ca0 ca1 cal
  have BY6 := hidp (BX5.out.step hN)
  have V6 := hidp (btrans (V5.out.alloc V5.out.size _) hN)
  obtain ⟨cb0, cb1, cbl⟩ := BY6.out.get (b := w.heap.size + 1) (r := b) (by simp)
  have BX6 := hidp (BY6.out.push s)
  clear hN BX5 BY6 V5
  go_wp2_with fail
  with_reducible refine (KT.out _).mono ?_
  rintro e w7 ⟨rfl, hN⟩
  clear cb0 cb1 cbl
  have BY7 := hidp (BX6.out.step hN)
  have V7 := hidp (btrans (V6.out.alloc V6.out.size _) hN)
  obtain ⟨cp0, cp1, cpl⟩ := BY7.out.get (b := w2.heap.size) (r := p) (by simp)
  have BX7 := hidp (BY7.out.push t)
  clear hN BX6 BY7 V6
  go_wp2_with fail
  with_reducible refine (KU.out _).mono ?_
  rintro e w8 ⟨rfl, hN⟩
  clear cp0 cp1 cpl
  have BY8 := hidp (BX7.out.step hN)
  have V8 := hidp (btrans (V7.out.alloc V7.out.size _) hN)
  obtain ⟨cs0, cs1, csl⟩ := BY8.out.get (b := w6.heap.size) (r := s) (by simp)
  have BX8 := hidp (BY8.out.push u)
  clear hN BX7 BY8 V7
  go_wp2_with fail
  with_reducible refine (KW.out _).mono ?_
  rintro e w9 ⟨rfl, hN⟩
  clear cs0 cs1 csl
  have BY9 := hidp (BX8.out.step hN)
  have V9 := hidp (btrans (V8.out.alloc V8.out.size _) hN)
  obtain ⟨ca0, ca1, cal⟩ := BY9.out.get (b := w.heap.size) (r := a) (by simp)
  have BX9 := hidp (BY9.out.push v)
  clear hN BX8 BY9 V8
  go_wp2_with fail
  with_reducible refine (KR.out _).mono ?_
  rintro e w10 ⟨rfl, hN⟩
  clear ca0 ca1 cal
  have BY10 := hidp (BX9.out.step hN)
  have V10 := hidp (btrans (V9.out.alloc V9.out.size _) hN)
  have BX10 := hidp (BY10.out.push r)
  clear hN BX9 BY10 V9
  go_wp2
  go_ret
  exact ⟨rfl, V10.out.alloc V10.out.size _⟩

set_option maxRecDepth 100000 in
set_option maxHeartbeats 4000000 in
theorem ring_700_3 (a b c p x y s t u v r : Nat) (h j o : Int) (n m : Int) (n' m' : Nat) (w : World)
    (en : bits .and .i64 n 9223372036854775807 = n') (em : bits .and .i64 m 9223372036854775807 = m')
    (hP : (∀ w, Calls Try.prog 14 #[wv a, wv b] w fun e w' => e = .returned (.tuple #[wv p, .int .i64 7]) ∧ Below w.heap.size w w'))
    (hQ : (∀ w, Calls Try.prog 14 #[wv b, wv a] w fun e w' => e = .returned (.tuple #[wv p, .int .i64 7]) ∧ Below w.heap.size w w'))
    (hX : (∀ w, Calls Try.prog 14 #[wv p, wv c] w fun e w' => e = .returned (.tuple #[wv x, .int .i64 0]) ∧ Below w.heap.size w w'))
    (hY : (∀ w, Calls Try.prog 14 #[wv b, wv c] w fun e w' => e = .returned (.tuple #[wv y, .int .i64 h]) ∧ Below w.heap.size w w'))
    (hS : (∀ w, Calls Try.prog 16 #[wv a, .int .i64 n'] w fun e w' => e = .returned (.tuple #[wv s, .int .i64 0]) ∧ Below w.heap.size w w'))
    (hT : (∀ w, Calls Try.prog 16 #[wv b, .int .i64 n'] w fun e w' => e = .returned (.tuple #[wv t, .int .i64 j]) ∧ Below w.heap.size w w'))
    (hU : (∀ w, Calls Try.prog 16 #[wv p, .int .i64 n'] w fun e w' => e = .returned (.tuple #[wv u, .int .i64 0]) ∧ Below w.heap.size w w'))
    (hW : (∀ w, Calls Try.prog 16 #[wv s, .int .i64 m'] w fun e w' => e = .returned (.tuple #[wv v, .int .i64 0]) ∧ Below w.heap.size w w'))
    (hR : (∀ w, Calls Try.prog 16 #[wv a, .int .i64 m'] w fun e w' => e = .returned (.tuple #[wv r, .int .i64 o]) ∧ Below w.heap.size w w')) (hn : n' ≤ 0) :
    Calls Try.prog 7 #[wv a, wv b, wv c, .int .i64 n, .int .i64 m] w fun e w' => e = .returned (.bool true) ∧ Below w.heap.size w w' := by
  have KP := hidp hP; have KQ := hidp hQ; have KX := hidp hX; have KY := hidp hY; have KS := hidp hS; have KT := hidp hT; have KU := hidp hU; have KW := hidp hW; have KR := hidp hR
  clear hP hQ hX hY hS hT hU hW hR
  have BX0 := hidp ((((Bx.nil w).push a).push b).push c)
  have V0 := hidp ((((Below.refl w.heap.size w).alloc (Nat.le_refl _) (.cells #[.int .u64 (hiw a), .int .u64 (low a)] 24)).alloc (by simp) (.cells #[.int .u64 (hiw b), .int .u64 (low b)] 24)).alloc (by simp; omega) (.cells #[.int .u64 (hiw c), .int .u64 (low c)] 24))
  go_enter Try.func7, Try.ntmps7
  go_wp2_with fail
  refine (known_any _).mono ?_
  rintro e w1 ⟨rfl, hN⟩
  have BY1 := hidp (BX0.out.step hN)
  have V1 := hidp (V0.out.trans (hN.mono V0.out.size))
  obtain ⟨ca0, ca1, cal⟩ := BY1.out.get (b := w.heap.size) (r := a) (by simp)
  obtain ⟨cb0, cb1, cbl⟩ := BY1.out.get (b := w.heap.size + 1) (r := b) (by simp)
  have BX1 := BY1
  clear hN BX0 BY1 V0
  go_wp2_with fail
  with_reducible refine (KP.out _).mono ?_
  rintro e w2 ⟨rfl, hN⟩
  clear ca0 ca1 cal cb0 cb1 cbl
  have BY2 := hidp (BX1.out.step hN)
  have V2 := hidp (btrans (V1.out) hN)
  obtain ⟨ca0, ca1, cal⟩ := BY2.out.get (b := w.heap.size) (r := a) (by simp)
  obtain ⟨cb0, cb1, cbl⟩ := BY2.out.get (b := w.heap.size + 1) (r := b) (by simp)
  have BX2 := hidp (BY2.out.push p)
  clear hN BX1 BY2 V1
  go_wp2_with fail
  with_reducible refine (KQ.out _).mono ?_
  rintro e w3 ⟨rfl, hN⟩
  clear ca0 ca1 cal cb0 cb1 cbl
  have BY3 := hidp (BX2.out.step hN)
  have V3 := hidp (btrans (V2.out.alloc V2.out.size _) hN)
  obtain ⟨cp0, cp1, cpl⟩ := BY3.out.get (b := w2.heap.size) (r := p) (by simp)
  obtain ⟨cc0, cc1, ccl⟩ := BY3.out.get (b := w.heap.size + 1 + 1) (r := c) (by simp)
  have BX3 := hidp (BY3.out.push p)
  clear hN BX2 BY3 V2
  go_wp2_with fail
  with_reducible refine (KX.out _).mono ?_
  rintro e w4 ⟨rfl, hN⟩
  clear cp0 cp1 cpl cc0 cc1 ccl
  have BY4 := hidp (BX3.out.step hN)
  have V4 := hidp (btrans (V3.out.alloc V3.out.size _) hN)
  obtain ⟨cb0, cb1, cbl⟩ := BY4.out.get (b := w.heap.size + 1) (r := b) (by simp)
  obtain ⟨cc0, cc1, ccl⟩ := BY4.out.get (b := w.heap.size + 1 + 1) (r := c) (by simp)
  have BX4 := hidp (BY4.out.push x)
  clear hN BX3 BY4 V3
  go_wp2_with fail
  with_reducible refine (KY.out _).mono ?_
  rintro e w5 ⟨rfl, hN⟩
  clear cb0 cb1 cbl cc0 cc1 ccl
  have BY5 := hidp (BX4.out.step hN)
  have V5 := hidp (btrans (V4.out.alloc V4.out.size _) hN)
  obtain ⟨ca0, ca1, cal⟩ := BY5.out.get (b := w.heap.size) (r := a) (by simp)
  have BX5 := hidp (BY5.out.push y)
  clear hN BX4 BY5 V4
  go_wp2_with fail
  with_reducible refine (KS.out _).mono ?_
  rintro e w6 ⟨rfl, hN⟩
  clear ca0 ca1 cal
  have BY6 := hidp (BX5.out.step hN)
  have V6 := hidp (btrans (V5.out.alloc V5.out.size _) hN)
  obtain ⟨cb0, cb1, cbl⟩ := BY6.out.get (b := w.heap.size + 1) (r := b) (by simp)
  have BX6 := hidp (BY6.out.push s)
  clear hN BX5 BY6 V5
  go_wp2_with fail
  with_reducible refine (KT.out _).mono ?_
  rintro e w7 ⟨rfl, hN⟩
  clear cb0 cb1 cbl
  have BY7 := hidp (BX6.out.step hN)
  have V7 := hidp (btrans (V6.out.alloc V6.out.size _) hN)
  obtain ⟨cp0, cp1, cpl⟩ := BY7.out.get (b := w2.heap.size) (r := p) (by simp)
  have BX7 := hidp (BY7.out.push t)
  clear hN BX6 BY7 V6
  go_wp2_with fail
  with_reducible refine (KU.out _).mono ?_
  rintro e w8 ⟨rfl, hN⟩
  clear cp0 cp1 cpl
  have BY8 := hidp (BX7.out.step hN)
  have V8 := hidp (btrans (V7.out.alloc V7.out.size _) hN)
  obtain ⟨cs0, cs1, csl⟩ := BY8.out.get (b := w6.heap.size) (r := s) (by simp)
  have BX8 := hidp (BY8.out.push u)
  clear hN BX7 BY8 V7
  go_wp2_with fail
  with_reducible refine (KW.out _).mono ?_
  rintro e w9 ⟨rfl, hN⟩
  clear cs0 cs1 csl
  have BY9 := hidp (BX8.out.step hN)
  have V9 := hidp (btrans (V8.out.alloc V8.out.size _) hN)
  obtain ⟨ca0, ca1, cal⟩ := BY9.out.get (b := w.heap.size) (r := a) (by simp)
  have BX9 := hidp (BY9.out.push v)
  clear hN BX8 BY9 V8
  go_wp2_with fail
  with_reducible refine (KR.out _).mono ?_
  rintro e w10 ⟨rfl, hN⟩
  clear ca0 ca1 cal
  have BY10 := hidp (BX9.out.step hN)
  have V10 := hidp (btrans (V9.out.alloc V9.out.size _) hN)
  have BX10 := hidp (BY10.out.push r)
  clear hN BX9 BY10 V9
  go_wp2
  go_ret
  exact ⟨rfl, V10.out.alloc V10.out.size _⟩

set_option maxRecDepth 100000 in
set_option maxHeartbeats 4000000 in
theorem ring_700_4 (a b c p x y s t u v r : Nat) (h j o : Int) (n m : Int) (n' m' : Nat) (w : World)
    (en : bits .and .i64 n 9223372036854775807 = n') (em : bits .and .i64 m 9223372036854775807 = m')
    (hP : (∀ w, Calls Try.prog 14 #[wv a, wv b] w fun e w' => e = .returned (.tuple #[wv p, .int .i64 7]) ∧ Below w.heap.size w w'))
    (hQ : (∀ w, Calls Try.prog 14 #[wv b, wv a] w fun e w' => e = .returned (.tuple #[wv p, .int .i64 7]) ∧ Below w.heap.size w w'))
    (hX : (∀ w, Calls Try.prog 14 #[wv p, wv c] w fun e w' => e = .returned (.tuple #[wv x, .int .i64 0]) ∧ Below w.heap.size w w'))
    (hY : (∀ w, Calls Try.prog 14 #[wv b, wv c] w fun e w' => e = .returned (.tuple #[wv y, .int .i64 h]) ∧ Below w.heap.size w w'))
    (hS : (∀ w, Calls Try.prog 16 #[wv a, .int .i64 n'] w fun e w' => e = .returned (.tuple #[wv s, .int .i64 0]) ∧ Below w.heap.size w w'))
    (hT : (∀ w, Calls Try.prog 16 #[wv b, .int .i64 n'] w fun e w' => e = .returned (.tuple #[wv t, .int .i64 j]) ∧ Below w.heap.size w w'))
    (hU : (∀ w, Calls Try.prog 16 #[wv p, .int .i64 n'] w fun e w' => e = .returned (.tuple #[wv u, .int .i64 0]) ∧ Below w.heap.size w w'))
    (hW : (∀ w, Calls Try.prog 16 #[wv s, .int .i64 m'] w fun e w' => e = .returned (.tuple #[wv v, .int .i64 0]) ∧ Below w.heap.size w w'))
    (hR : (∀ w, Calls Try.prog 16 #[wv a, .int .i64 m'] w fun e w' => e = .returned (.tuple #[wv r, .int .i64 o]) ∧ Below w.heap.size w w')) (hn : 0 < n') (hm : m' ≤ 0) :
    Calls Try.prog 7 #[wv a, wv b, wv c, .int .i64 n, .int .i64 m] w fun e w' => e = .returned (.bool true) ∧ Below w.heap.size w w' := by
  have KP := hidp hP; have KQ := hidp hQ; have KX := hidp hX; have KY := hidp hY; have KS := hidp hS; have KT := hidp hT; have KU := hidp hU; have KW := hidp hW; have KR := hidp hR
  clear hP hQ hX hY hS hT hU hW hR
  have BX0 := hidp ((((Bx.nil w).push a).push b).push c)
  have V0 := hidp ((((Below.refl w.heap.size w).alloc (Nat.le_refl _) (.cells #[.int .u64 (hiw a), .int .u64 (low a)] 24)).alloc (by simp) (.cells #[.int .u64 (hiw b), .int .u64 (low b)] 24)).alloc (by simp; omega) (.cells #[.int .u64 (hiw c), .int .u64 (low c)] 24))
  go_enter Try.func7, Try.ntmps7
  go_wp2_with fail
  refine (known_any _).mono ?_
  rintro e w1 ⟨rfl, hN⟩
  have BY1 := hidp (BX0.out.step hN)
  have V1 := hidp (V0.out.trans (hN.mono V0.out.size))
  obtain ⟨ca0, ca1, cal⟩ := BY1.out.get (b := w.heap.size) (r := a) (by simp)
  obtain ⟨cb0, cb1, cbl⟩ := BY1.out.get (b := w.heap.size + 1) (r := b) (by simp)
  have BX1 := BY1
  clear hN BX0 BY1 V0
  go_wp2_with fail
  with_reducible refine (KP.out _).mono ?_
  rintro e w2 ⟨rfl, hN⟩
  clear ca0 ca1 cal cb0 cb1 cbl
  have BY2 := hidp (BX1.out.step hN)
  have V2 := hidp (btrans (V1.out) hN)
  obtain ⟨ca0, ca1, cal⟩ := BY2.out.get (b := w.heap.size) (r := a) (by simp)
  obtain ⟨cb0, cb1, cbl⟩ := BY2.out.get (b := w.heap.size + 1) (r := b) (by simp)
  have BX2 := hidp (BY2.out.push p)
  clear hN BX1 BY2 V1
  go_wp2_with fail
  with_reducible refine (KQ.out _).mono ?_
  rintro e w3 ⟨rfl, hN⟩
  clear ca0 ca1 cal cb0 cb1 cbl
  have BY3 := hidp (BX2.out.step hN)
  have V3 := hidp (btrans (V2.out.alloc V2.out.size _) hN)
  obtain ⟨cp0, cp1, cpl⟩ := BY3.out.get (b := w2.heap.size) (r := p) (by simp)
  obtain ⟨cc0, cc1, ccl⟩ := BY3.out.get (b := w.heap.size + 1 + 1) (r := c) (by simp)
  have BX3 := hidp (BY3.out.push p)
  clear hN BX2 BY3 V2
  go_wp2_with fail
  with_reducible refine (KX.out _).mono ?_
  rintro e w4 ⟨rfl, hN⟩
  clear cp0 cp1 cpl cc0 cc1 ccl
  have BY4 := hidp (BX3.out.step hN)
  have V4 := hidp (btrans (V3.out.alloc V3.out.size _) hN)
  obtain ⟨cb0, cb1, cbl⟩ := BY4.out.get (b := w.heap.size + 1) (r := b) (by simp)
  obtain ⟨cc0, cc1, ccl⟩ := BY4.out.get (b := w.heap.size + 1 + 1) (r := c) (by simp)
  have BX4 := hidp (BY4.out.push x)
  clear hN BX3 BY4 V3
  go_wp2_with fail
  with_reducible refine (KY.out _).mono ?_
  rintro e w5 ⟨rfl, hN⟩
  clear cb0 cb1 cbl cc0 cc1 ccl
  have BY5 := hidp (BX4.out.step hN)
  have V5 := hidp (btrans (V4.out.alloc V4.out.size _) hN)
  obtain ⟨ca0, ca1, cal⟩ := BY5.out.get (b := w.heap.size) (r := a) (by simp)
  have BX5 := hidp (BY5.out.push y)
  clear hN BX4 BY5 V4
  go_wp2_with fail
  with_reducible refine (KS.out _).mono ?_
  rintro e w6 ⟨rfl, hN⟩
  clear ca0 ca1 cal
  have BY6 := hidp (BX5.out.step hN)
  have V6 := hidp (btrans (V5.out.alloc V5.out.size _) hN)
  obtain ⟨cb0, cb1, cbl⟩ := BY6.out.get (b := w.heap.size + 1) (r := b) (by simp)
  have BX6 := hidp (BY6.out.push s)
  clear hN BX5 BY6 V5
  go_wp2_with fail
  with_reducible refine (KT.out _).mono ?_
  rintro e w7 ⟨rfl, hN⟩
  clear cb0 cb1 cbl
  have BY7 := hidp (BX6.out.step hN)
  have V7 := hidp (btrans (V6.out.alloc V6.out.size _) hN)
  obtain ⟨cp0, cp1, cpl⟩ := BY7.out.get (b := w2.heap.size) (r := p) (by simp)
  have BX7 := hidp (BY7.out.push t)
  clear hN BX6 BY7 V6
  go_wp2_with fail
  with_reducible refine (KU.out _).mono ?_
  rintro e w8 ⟨rfl, hN⟩
  clear cp0 cp1 cpl
  have BY8 := hidp (BX7.out.step hN)
  have V8 := hidp (btrans (V7.out.alloc V7.out.size _) hN)
  obtain ⟨cs0, cs1, csl⟩ := BY8.out.get (b := w6.heap.size) (r := s) (by simp)
  have BX8 := hidp (BY8.out.push u)
  clear hN BX7 BY8 V7
  go_wp2_with fail
  with_reducible refine (KW.out _).mono ?_
  rintro e w9 ⟨rfl, hN⟩
  clear cs0 cs1 csl
  have BY9 := hidp (BX8.out.step hN)
  have V9 := hidp (btrans (V8.out.alloc V8.out.size _) hN)
  obtain ⟨ca0, ca1, cal⟩ := BY9.out.get (b := w.heap.size) (r := a) (by simp)
  have BX9 := hidp (BY9.out.push v)
  clear hN BX8 BY9 V8
  go_wp2_with fail
  with_reducible refine (KR.out _).mono ?_
  rintro e w10 ⟨rfl, hN⟩
  clear ca0 ca1 cal
  have BY10 := hidp (BX9.out.step hN)
  have V10 := hidp (btrans (V9.out.alloc V9.out.size _) hN)
  have BX10 := hidp (BY10.out.push r)
  clear hN BX9 BY10 V9
  go_wp2
  go_ret
  exact ⟨rfl, V10.out.alloc V10.out.size _⟩

set_option maxRecDepth 100000 in
set_option maxHeartbeats 4000000 in
theorem ring_700_5 (a b c p x y s t u v r : Nat) (h j : Int) (n m : Int) (n' m' : Nat) (w : World)
    (en : bits .and .i64 n 9223372036854775807 = n') (em : bits .and .i64 m 9223372036854775807 = m')
    (hP : (∀ w, Calls Try.prog 14 #[wv a, wv b] w fun e w' => e = .returned (.tuple #[wv p, .int .i64 7]) ∧ Below w.heap.size w w'))
    (hQ : (∀ w, Calls Try.prog 14 #[wv b, wv a] w fun e w' => e = .returned (.tuple #[wv p, .int .i64 7]) ∧ Below w.heap.size w w'))
    (hX : (∀ w, Calls Try.prog 14 #[wv p, wv c] w fun e w' => e = .returned (.tuple #[wv x, .int .i64 0]) ∧ Below w.heap.size w w'))
    (hY : (∀ w, Calls Try.prog 14 #[wv b, wv c] w fun e w' => e = .returned (.tuple #[wv y, .int .i64 h]) ∧ Below w.heap.size w w'))
    (hS : (∀ w, Calls Try.prog 16 #[wv a, .int .i64 n'] w fun e w' => e = .returned (.tuple #[wv s, .int .i64 0]) ∧ Below w.heap.size w w'))
    (hT : (∀ w, Calls Try.prog 16 #[wv b, .int .i64 n'] w fun e w' => e = .returned (.tuple #[wv t, .int .i64 j]) ∧ Below w.heap.size w w'))
    (hU : (∀ w, Calls Try.prog 16 #[wv p, .int .i64 n'] w fun e w' => e = .returned (.tuple #[wv u, .int .i64 0]) ∧ Below w.heap.size w w'))
    (hW : (∀ w, Calls Try.prog 16 #[wv s, .int .i64 m'] w fun e w' => e = .returned (.tuple #[wv v, .int .i64 0]) ∧ Below w.heap.size w w'))
    (hR : (∀ w, Calls Try.prog 16 #[wv a, .int .i64 m'] w fun e w' => e = .returned (.tuple #[wv r, .int .i64 0]) ∧ Below w.heap.size w w'))
    (hO : (∀ w, Calls Try.prog 16 #[wv r, .int .i64 n'] w fun e w' => e = .returned (.tuple #[wv v, .int .i64 0]) ∧ Below w.heap.size w w')) (hn : 0 < n') (hm : 0 < m') :
    Calls Try.prog 7 #[wv a, wv b, wv c, .int .i64 n, .int .i64 m] w fun e w' => e = .returned (.bool true) ∧ Below w.heap.size w w' := by
  have KP := hidp hP; have KQ := hidp hQ; have KX := hidp hX; have KY := hidp hY; have KS := hidp hS; have KT := hidp hT; have KU := hidp hU; have KW := hidp hW; have KR := hidp hR; have KO := hidp hO
  clear hP hQ hX hY hS hT hU hW hR hO
  have BX0 := hidp ((((Bx.nil w).push a).push b).push c)
  have V0 := hidp ((((Below.refl w.heap.size w).alloc (Nat.le_refl _) (.cells #[.int .u64 (hiw a), .int .u64 (low a)] 24)).alloc (by simp) (.cells #[.int .u64 (hiw b), .int .u64 (low b)] 24)).alloc (by simp; omega) (.cells #[.int .u64 (hiw c), .int .u64 (low c)] 24))
  go_enter Try.func7, Try.ntmps7
  go_wp2_with fail
  refine (known_any _).mono ?_
  rintro e w1 ⟨rfl, hN⟩
  have BY1 := hidp (BX0.out.step hN)
  have V1 := hidp (V0.out.trans (hN.mono V0.out.size))
  obtain ⟨ca0, ca1, cal⟩ := BY1.out.get (b := w.heap.size) (r := a) (by simp)
  obtain ⟨cb0, cb1, cbl⟩ := BY1.out.get (b := w.heap.size + 1) (r := b) (by simp)
  have BX1 := BY1
  clear hN BX0 BY1 V0
  go_wp2_with fail
  with_reducible refine (KP.out _).mono ?_
  rintro e w2 ⟨rfl, hN⟩
  clear ca0 ca1 cal cb0 cb1 cbl
  have BY2 := hidp (BX1.out.step hN)
  have V2 := hidp (btrans (V1.out) hN)
  obtain ⟨ca0, ca1, cal⟩ := BY2.out.get (b := w.heap.size) (r := a) (by simp)
  obtain ⟨cb0, cb1, cbl⟩ := BY2.out.get (b := w.heap.size + 1) (r := b) (by simp)
  have BX2 := hidp (BY2.out.push p)
  clear hN BX1 BY2 V1
  go_wp2_with fail
  with_reducible refine (KQ.out _).mono ?_
  rintro e w3 ⟨rfl, hN⟩
  clear ca0 ca1 cal cb0 cb1 cbl
  have BY3 := hidp (BX2.out.step hN)
  have V3 := hidp (btrans (V2.out.alloc V2.out.size _) hN)
  obtain ⟨cp0, cp1, cpl⟩ := BY3.out.get (b := w2.heap.size) (r := p) (by simp)
  obtain ⟨cc0, cc1, ccl⟩ := BY3.out.get (b := w.heap.size + 1 + 1) (r := c) (by simp)
  have BX3 := hidp (BY3.out.push p)
  clear hN BX2 BY3 V2
  go_wp2_with fail
  with_reducible refine (KX.out _).mono ?_
  rintro e w4 ⟨rfl, hN⟩
  clear cp0 cp1 cpl cc0 cc1 ccl
  have BY4 := hidp (BX3.out.step hN)
  have V4 := hidp (btrans (V3.out.alloc V3.out.size _) hN)
  obtain ⟨cb0, cb1, cbl⟩ := BY4.out.get (b := w.heap.size + 1) (r := b) (by simp)
  obtain ⟨cc0, cc1, ccl⟩ := BY4.out.get (b := w.heap.size + 1 + 1) (r := c) (by simp)
  have BX4 := hidp (BY4.out.push x)
  clear hN BX3 BY4 V3
  go_wp2_with fail
  with_reducible refine (KY.out _).mono ?_
  rintro e w5 ⟨rfl, hN⟩
  clear cb0 cb1 cbl cc0 cc1 ccl
  have BY5 := hidp (BX4.out.step hN)
  have V5 := hidp (btrans (V4.out.alloc V4.out.size _) hN)
  obtain ⟨ca0, ca1, cal⟩ := BY5.out.get (b := w.heap.size) (r := a) (by simp)
  have BX5 := hidp (BY5.out.push y)
  clear hN BX4 BY5 V4
  go_wp2_with fail
  with_reducible refine (KS.out _).mono ?_
  rintro e w6 ⟨rfl, hN⟩
  clear ca0 ca1 cal
  have BY6 := hidp (BX5.out.step hN)
  have V6 := hidp (btrans (V5.out.alloc V5.out.size _) hN)
  obtain ⟨cb0, cb1, cbl⟩ := BY6.out.get (b := w.heap.size + 1) (r := b) (by simp)
  have BX6 := hidp (BY6.out.push s)
  clear hN BX5 BY6 V5
  go_wp2_with fail
  with_reducible refine (KT.out _).mono ?_
  rintro e w7 ⟨rfl, hN⟩
  clear cb0 cb1 cbl
  have BY7 := hidp (BX6.out.step hN)
  have V7 := hidp (btrans (V6.out.alloc V6.out.size _) hN)
  obtain ⟨cp0, cp1, cpl⟩ := BY7.out.get (b := w2.heap.size) (r := p) (by simp)
  have BX7 := hidp (BY7.out.push t)
  clear hN BX6 BY7 V6
  go_wp2_with fail
  with_reducible refine (KU.out _).mono ?_
  rintro e w8 ⟨rfl, hN⟩
  clear cp0 cp1 cpl
  have BY8 := hidp (BX7.out.step hN)
  have V8 := hidp (btrans (V7.out.alloc V7.out.size _) hN)
  obtain ⟨cs0, cs1, csl⟩ := BY8.out.get (b := w6.heap.size) (r := s) (by simp)
  have BX8 := hidp (BY8.out.push u)
  clear hN BX7 BY8 V7
  go_wp2_with fail
  with_reducible refine (KW.out _).mono ?_
  rintro e w9 ⟨rfl, hN⟩
  clear cs0 cs1 csl
  have BY9 := hidp (BX8.out.step hN)
  have V9 := hidp (btrans (V8.out.alloc V8.out.size _) hN)
  obtain ⟨ca0, ca1, cal⟩ := BY9.out.get (b := w.heap.size) (r := a) (by simp)
  have BX9 := hidp (BY9.out.push v)
  clear hN BX8 BY9 V8
  go_wp2_with fail
  with_reducible refine (KR.out _).mono ?_
  rintro e w10 ⟨rfl, hN⟩
  clear ca0 ca1 cal
  have BY10 := hidp (BX9.out.step hN)
  have V10 := hidp (btrans (V9.out.alloc V9.out.size _) hN)
  have BX10 := hidp (BY10.out.push r)
  clear hN BX9 BY10 V9
  go_wp2_with fail
  with_reducible refine (KO.out _).mono ?_
  rintro e w11 ⟨rfl, hN⟩
  have BY11 := hidp (BX10.out.step hN)
  have V11 := hidp (btrans (V10.out.alloc V10.out.size _) hN)
  obtain ⟨cv0, cv1, cvl⟩ := BY11.out.get (b := w9.heap.size) (r := v) (by simp)
  have BX11 := hidp (BY11.out.push v)
  clear hN BX10 BY11 V10
  go_wp2
  go_ret
  exact ⟨rfl, V11.out.alloc V11.out.size _⟩

end Go.Proofs.Ytbldmenaaedffaa
