/-
  The walk of WideBack, case by case: where a text is no number's.
-/
import Derived.Test.YtbldmenaaedffaaBc
namespace Go.Proofs.Ytbldmenaaedffaa
open Go.RowKit

set_option maxRecDepth 100000 in
set_option maxHeartbeats 8000000 in
theorem back_21 (a b : Nat) (t u s : ByteArray) (e i : Int) (w : World) (h100 : s.size ≤ 100)
    (hTa : ∀ w, Calls Try.prog 29 #[wv a] w fun e w' => e = .returned (.string t) ∧ Below w.heap.size w w')
    (hTb : ∀ w, Calls Try.prog 29 #[wv b] w fun e w' => e = .returned (.string u) ∧ Below w.heap.size w w')
    (hRt : ∀ w, Calls Try.prog 27 #[.string t] w fun e w' => e = .returned (.tuple #[wv a, fv 0 0]) ∧ Below w.heap.size w w')
    (hRs : ∀ w, Calls Try.prog 27 #[.string s] w fun x w' => x = .returned (.tuple #[wz, fv e i]) ∧ Below w.heap.size w w')
    (hC : ∀ w, Calls Try.prog 20 #[wv a, wv b] w fun e w' => e = .returned (.int .i64 (-1)) ∧ Below w.heap.size w w')
    (hD : ∀ w, Calls Try.prog 20 #[wv b, wv a] w fun e w' => e = .returned (.int .i64 1) ∧ Below w.heap.size w w') (o1 : t.size < u.size) (g1 : (e == 0) = false) (g2 : 0 ≤ i) (g3 : i ≤ s.size) :
    Calls Try.prog 9 #[wv a, wv b, .string s] w fun e w' => e = .returned (.bool true) ∧ Below w.heap.size w w' := by
  have KTa := hidp hTa; have KTb := hidp hTb; have KRt := hidp hRt; have KRs := hidp hRs; have KC := hidp hC; have KD := hidp hD
  clear hTa hTb hRt hRs hC hD
  have hT : Hid (Sz w w a b ((w.alloc (.cells #[.int .u64 (hiw a), .int .u64 (low a)] 24)).alloc (.cells #[.int .u64 (hiw b), .int .u64 (low b)] 24))) := by
    have c1 := (Blk.new w [.int .u64 (hiw a), .int .u64 (low a)] 24).alloc (.cells #[.int .u64 (hiw b), .int .u64 (low b)] 24)
    have c2 := Blk.new' (w.alloc (.cells #[.int .u64 (hiw a), .int .u64 (low a)] 24)) [.int .u64 (hiw b), .int .u64 (low b)] 24 (w.heap.size + 1) (by simp)
    have hb := ((Below.refl w.heap.size w).alloc (Nat.le_refl _) (.cells #[.int .u64 (hiw a), .int .u64 (low a)] 24)).alloc (by simp) (.cells #[.int .u64 (hiw b), .int .u64 (low b)] 24)
    exact hidp ⟨hb, hb, c1.lt, c2.lt, c1.cell 0, c1.cell 1, c2.cell 0, c2.cell 1⟩
  go_enter Try.func9, Try.ntmps9
  go_wp2_with fail
  refine (known_any _).mono ?_
  rintro e wN ⟨rfl, hN⟩; have hT := stepZ (by first | with_reducible assumption | exact drewZ (by with_reducible assumption)) hN; clear hN
  go_wp2_with fail
  go_region_held3 (fun w' => Below w.heap.size w w' ∧ Below w.heap.size w w' ∧ w.heap.size < w'.heap.size ∧ w.heap.size + 1 < w'.heap.size ∧ w'.cell? ⟨w.heap.size, 0, none⟩ = some (.int .u64 (hiw a)) ∧ w'.cell? ⟨w.heap.size, 1, none⟩ = some (.int .u64 (low a)) ∧ w'.cell? ⟨w.heap.size + 1, 0, none⟩ = some (.int .u64 (hiw b)) ∧ w'.cell? ⟨w.heap.size + 1, 1, none⟩ = some (.int .u64 (low b)))
    (first | (with_reducible exact Hid.out (p := Sz w w a b _) (by with_reducible assumption)) | exact Hid.out (p := Sz w w a b _) (by with_reducible assumption) | exact Hid.out (p := Sz w w a b _) (drewZ (by with_reducible assumption)))
    (first
     | (go_at_call 29; with_reducible refine (KTa.out _).mono ?_; rintro e wN ⟨rfl, hN⟩; have hT := stepZ (by first | with_reducible assumption | exact drewZ (by with_reducible assumption)) hN; clear hN)
     | (go_at_call 29; with_reducible refine (KTb.out _).mono ?_; rintro e wN ⟨rfl, hN⟩; have hT := stepZ (by first | with_reducible assumption | exact drewZ (by with_reducible assumption)) hN; clear hN))
  all_goals
    go_wp2_with fail
    refine (KRt.out _).mono ?_
    rintro x w2 ⟨rfl, hN⟩
    have BW1 := hidp ((Bw.push (Bw.push (Bw.step (by first | exact bw_of hT | exact bw_of (drewZ hT)) hN) (.int .u64 (hiw a)) (.int .u64 (low a)) 24) (.int .i64 0) (.int .i64 0) 42))
    have V1 := hidp (btrans (by first | exact hT.out.1 | exact hT.out.1.drew) hN)
    have V1 := hidp ((V1.out.alloc V1.out.size (.cells #[.int .u64 (hiw a), .int .u64 (low a)] 24)).alloc (by have := V1.out.size; simp; omega) (.cells #[.int .i64 0, .int .i64 0] 42))
    clear hN hT
    go_wp2_with fail
    refine (KRs.out _).mono ?_
    rintro x w3 ⟨rfl, hN⟩
    have BY2 := hidp (BW1.out.step hN)
    have V2 := hidp (btrans V1.out hN)
    clear V1 hN
    obtain ⟨ca0, ca1, cal⟩ := BY2.out.get (b := w.heap.size) (x := .int .u64 (hiw a)) (y := .int .u64 (low a)) (by simp)
    obtain ⟨cx0, cx1, cxl⟩ := BY2.out.get (b := w2.heap.size) (x := .int .u64 (hiw a)) (y := .int .u64 (low a)) (by simp)
    obtain ⟨cf0, cf1, cfl⟩ := BY2.out.get (b := w2.heap.size + 1) (x := .int .i64 0) (y := .int .i64 0) (by simp)
    have BW2 := hidp (Bw.push (Bw.push BY2.out (.int .u64 0) (.int .u64 0) 24) (.int .i64 e) (.int .i64 i) 42)
    have V2 := hidp ((V2.out.alloc V2.out.size (.cells #[.int .u64 0, .int .u64 0] 24)).alloc (by have := V2.out.size; simp; omega) (.cells #[.int .i64 e, .int .i64 i] 42))
    obtain ⟨cb0, cb1, cbl⟩ := BY2.out.get (b := w.heap.size + 1) (x := .int .u64 (hiw b)) (y := .int .u64 (low b)) (by simp)
    clear BW1 BY2
    go_wp2_with fail
    with_reducible refine (KC.out _).mono ?_
    rintro x w5 ⟨rfl, hN⟩
    clear ca0 ca1 cal cb0 cb1 cbl cx0 cx1 cxl cf0 cf1 cfl
    have BW4 := hidp (BW2.out.step hN)
    have V4 := hidp (btrans V2.out hN)
    clear BW2 V2 hN
    obtain ⟨ca0, ca1, cal⟩ := BW4.out.get (b := w.heap.size) (x := .int .u64 (hiw a)) (y := .int .u64 (low a)) (by simp)
    obtain ⟨cb0, cb1, cbl⟩ := BW4.out.get (b := w.heap.size + 1) (x := .int .u64 (hiw b)) (y := .int .u64 (low b)) (by simp)
    go_wp2_with fail
    with_reducible refine (KD.out _).mono ?_
    rintro x w6 ⟨rfl, hN⟩
    have V5 := hidp (btrans V4.out hN)
    clear V4 hN
    go_wp2
    go_ret
    exact ⟨rfl, V5.out⟩

set_option maxRecDepth 100000 in
set_option maxHeartbeats 8000000 in
theorem back_22 (a b : Nat) (t u s : ByteArray) (e i : Int) (w : World) (h100 : s.size ≤ 100)
    (hTa : ∀ w, Calls Try.prog 29 #[wv a] w fun e w' => e = .returned (.string t) ∧ Below w.heap.size w w')
    (hTb : ∀ w, Calls Try.prog 29 #[wv b] w fun e w' => e = .returned (.string u) ∧ Below w.heap.size w w')
    (hRt : ∀ w, Calls Try.prog 27 #[.string t] w fun e w' => e = .returned (.tuple #[wv a, fv 0 0]) ∧ Below w.heap.size w w')
    (hRs : ∀ w, Calls Try.prog 27 #[.string s] w fun x w' => x = .returned (.tuple #[wz, fv e i]) ∧ Below w.heap.size w w')
    (hC : ∀ w, Calls Try.prog 20 #[wv a, wv b] w fun e w' => e = .returned (.int .i64 (-1)) ∧ Below w.heap.size w w')
    (hD : ∀ w, Calls Try.prog 20 #[wv b, wv a] w fun e w' => e = .returned (.int .i64 1) ∧ Below w.heap.size w w') (o1 : u.size ≤ t.size) (o2 : ((t.size : Int) == (u.size : Int)) = true) (o3 : Op.bytesLess t.toList u.toList = true) (g1 : (e == 0) = false) (g2 : 0 ≤ i) (g3 : i ≤ s.size) :
    Calls Try.prog 9 #[wv a, wv b, .string s] w fun e w' => e = .returned (.bool true) ∧ Below w.heap.size w w' := by
  have KTa := hidp hTa; have KTb := hidp hTb; have KRt := hidp hRt; have KRs := hidp hRs; have KC := hidp hC; have KD := hidp hD
  clear hTa hTb hRt hRs hC hD
  have hT : Hid (Sz w w a b ((w.alloc (.cells #[.int .u64 (hiw a), .int .u64 (low a)] 24)).alloc (.cells #[.int .u64 (hiw b), .int .u64 (low b)] 24))) := by
    have c1 := (Blk.new w [.int .u64 (hiw a), .int .u64 (low a)] 24).alloc (.cells #[.int .u64 (hiw b), .int .u64 (low b)] 24)
    have c2 := Blk.new' (w.alloc (.cells #[.int .u64 (hiw a), .int .u64 (low a)] 24)) [.int .u64 (hiw b), .int .u64 (low b)] 24 (w.heap.size + 1) (by simp)
    have hb := ((Below.refl w.heap.size w).alloc (Nat.le_refl _) (.cells #[.int .u64 (hiw a), .int .u64 (low a)] 24)).alloc (by simp) (.cells #[.int .u64 (hiw b), .int .u64 (low b)] 24)
    exact hidp ⟨hb, hb, c1.lt, c2.lt, c1.cell 0, c1.cell 1, c2.cell 0, c2.cell 1⟩
  go_enter Try.func9, Try.ntmps9
  go_wp2_with fail
  refine (known_any _).mono ?_
  rintro e wN ⟨rfl, hN⟩; have hT := stepZ (by first | with_reducible assumption | exact drewZ (by with_reducible assumption)) hN; clear hN
  go_wp2_with fail
  go_region_held3 (fun w' => Below w.heap.size w w' ∧ Below w.heap.size w w' ∧ w.heap.size < w'.heap.size ∧ w.heap.size + 1 < w'.heap.size ∧ w'.cell? ⟨w.heap.size, 0, none⟩ = some (.int .u64 (hiw a)) ∧ w'.cell? ⟨w.heap.size, 1, none⟩ = some (.int .u64 (low a)) ∧ w'.cell? ⟨w.heap.size + 1, 0, none⟩ = some (.int .u64 (hiw b)) ∧ w'.cell? ⟨w.heap.size + 1, 1, none⟩ = some (.int .u64 (low b)))
    (first | (with_reducible exact Hid.out (p := Sz w w a b _) (by with_reducible assumption)) | exact Hid.out (p := Sz w w a b _) (by with_reducible assumption) | exact Hid.out (p := Sz w w a b _) (drewZ (by with_reducible assumption)))
    (first
     | (go_at_call 29; with_reducible refine (KTa.out _).mono ?_; rintro e wN ⟨rfl, hN⟩; have hT := stepZ (by first | with_reducible assumption | exact drewZ (by with_reducible assumption)) hN; clear hN)
     | (go_at_call 29; with_reducible refine (KTb.out _).mono ?_; rintro e wN ⟨rfl, hN⟩; have hT := stepZ (by first | with_reducible assumption | exact drewZ (by with_reducible assumption)) hN; clear hN))
  all_goals
    go_wp2_with fail
    refine (KRt.out _).mono ?_
    rintro x w2 ⟨rfl, hN⟩
    have BW1 := hidp ((Bw.push (Bw.push (Bw.step (by first | exact bw_of hT | exact bw_of (drewZ hT)) hN) (.int .u64 (hiw a)) (.int .u64 (low a)) 24) (.int .i64 0) (.int .i64 0) 42))
    have V1 := hidp (btrans (by first | exact hT.out.1 | exact hT.out.1.drew) hN)
    have V1 := hidp ((V1.out.alloc V1.out.size (.cells #[.int .u64 (hiw a), .int .u64 (low a)] 24)).alloc (by have := V1.out.size; simp; omega) (.cells #[.int .i64 0, .int .i64 0] 42))
    clear hN hT
    go_wp2_with fail
    refine (KRs.out _).mono ?_
    rintro x w3 ⟨rfl, hN⟩
    have BY2 := hidp (BW1.out.step hN)
    have V2 := hidp (btrans V1.out hN)
    clear V1 hN
    obtain ⟨ca0, ca1, cal⟩ := BY2.out.get (b := w.heap.size) (x := .int .u64 (hiw a)) (y := .int .u64 (low a)) (by simp)
    obtain ⟨cx0, cx1, cxl⟩ := BY2.out.get (b := w2.heap.size) (x := .int .u64 (hiw a)) (y := .int .u64 (low a)) (by simp)
    obtain ⟨cf0, cf1, cfl⟩ := BY2.out.get (b := w2.heap.size + 1) (x := .int .i64 0) (y := .int .i64 0) (by simp)
    have BW2 := hidp (Bw.push (Bw.push BY2.out (.int .u64 0) (.int .u64 0) 24) (.int .i64 e) (.int .i64 i) 42)
    have V2 := hidp ((V2.out.alloc V2.out.size (.cells #[.int .u64 0, .int .u64 0] 24)).alloc (by have := V2.out.size; simp; omega) (.cells #[.int .i64 e, .int .i64 i] 42))
    obtain ⟨cb0, cb1, cbl⟩ := BY2.out.get (b := w.heap.size + 1) (x := .int .u64 (hiw b)) (y := .int .u64 (low b)) (by simp)
    clear BW1 BY2
    go_wp2_with fail
    with_reducible refine (KC.out _).mono ?_
    rintro x w5 ⟨rfl, hN⟩
    clear ca0 ca1 cal cb0 cb1 cbl cx0 cx1 cxl cf0 cf1 cfl
    have BW4 := hidp (BW2.out.step hN)
    have V4 := hidp (btrans V2.out hN)
    clear BW2 V2 hN
    obtain ⟨ca0, ca1, cal⟩ := BW4.out.get (b := w.heap.size) (x := .int .u64 (hiw a)) (y := .int .u64 (low a)) (by simp)
    obtain ⟨cb0, cb1, cbl⟩ := BW4.out.get (b := w.heap.size + 1) (x := .int .u64 (hiw b)) (y := .int .u64 (low b)) (by simp)
    go_wp2_with fail
    with_reducible refine (KD.out _).mono ?_
    rintro x w6 ⟨rfl, hN⟩
    have V5 := hidp (btrans V4.out hN)
    clear V4 hN
    go_wp2
    go_ret
    exact ⟨rfl, V5.out⟩

set_option maxRecDepth 100000 in
set_option maxHeartbeats 8000000 in
theorem back_23 (a b : Nat) (t u s : ByteArray) (e i : Int) (w : World) (h100 : s.size ≤ 100)
    (hTa : ∀ w, Calls Try.prog 29 #[wv a] w fun e w' => e = .returned (.string t) ∧ Below w.heap.size w w')
    (hTb : ∀ w, Calls Try.prog 29 #[wv b] w fun e w' => e = .returned (.string u) ∧ Below w.heap.size w w')
    (hRt : ∀ w, Calls Try.prog 27 #[.string t] w fun e w' => e = .returned (.tuple #[wv a, fv 0 0]) ∧ Below w.heap.size w w')
    (hRs : ∀ w, Calls Try.prog 27 #[.string s] w fun x w' => x = .returned (.tuple #[wz, fv e i]) ∧ Below w.heap.size w w')
    (hC : ∀ w, Calls Try.prog 20 #[wv a, wv b] w fun e w' => e = .returned (.int .i64 0) ∧ Below w.heap.size w w')
    (hD : ∀ w, Calls Try.prog 20 #[wv b, wv a] w fun e w' => e = .returned (.int .i64 0) ∧ Below w.heap.size w w') (o1 : u.size ≤ t.size) (o2 : ((t.size : Int) == (u.size : Int)) = true) (o3 : Op.bytesLess t.toList u.toList = false) (o4 : (t.toList == u.toList) = true) (g1 : (e == 0) = false) (g2 : 0 ≤ i) (g3 : i ≤ s.size) :
    Calls Try.prog 9 #[wv a, wv b, .string s] w fun e w' => e = .returned (.bool true) ∧ Below w.heap.size w w' := by
  have KTa := hidp hTa; have KTb := hidp hTb; have KRt := hidp hRt; have KRs := hidp hRs; have KC := hidp hC; have KD := hidp hD
  clear hTa hTb hRt hRs hC hD
  have hT : Hid (Sz w w a b ((w.alloc (.cells #[.int .u64 (hiw a), .int .u64 (low a)] 24)).alloc (.cells #[.int .u64 (hiw b), .int .u64 (low b)] 24))) := by
    have c1 := (Blk.new w [.int .u64 (hiw a), .int .u64 (low a)] 24).alloc (.cells #[.int .u64 (hiw b), .int .u64 (low b)] 24)
    have c2 := Blk.new' (w.alloc (.cells #[.int .u64 (hiw a), .int .u64 (low a)] 24)) [.int .u64 (hiw b), .int .u64 (low b)] 24 (w.heap.size + 1) (by simp)
    have hb := ((Below.refl w.heap.size w).alloc (Nat.le_refl _) (.cells #[.int .u64 (hiw a), .int .u64 (low a)] 24)).alloc (by simp) (.cells #[.int .u64 (hiw b), .int .u64 (low b)] 24)
    exact hidp ⟨hb, hb, c1.lt, c2.lt, c1.cell 0, c1.cell 1, c2.cell 0, c2.cell 1⟩
  go_enter Try.func9, Try.ntmps9
  go_wp2_with fail
  refine (known_any _).mono ?_
  rintro e wN ⟨rfl, hN⟩; have hT := stepZ (by first | with_reducible assumption | exact drewZ (by with_reducible assumption)) hN; clear hN
  go_wp2_with fail
  go_region_held3 (fun w' => Below w.heap.size w w' ∧ Below w.heap.size w w' ∧ w.heap.size < w'.heap.size ∧ w.heap.size + 1 < w'.heap.size ∧ w'.cell? ⟨w.heap.size, 0, none⟩ = some (.int .u64 (hiw a)) ∧ w'.cell? ⟨w.heap.size, 1, none⟩ = some (.int .u64 (low a)) ∧ w'.cell? ⟨w.heap.size + 1, 0, none⟩ = some (.int .u64 (hiw b)) ∧ w'.cell? ⟨w.heap.size + 1, 1, none⟩ = some (.int .u64 (low b)))
    (first | (with_reducible exact Hid.out (p := Sz w w a b _) (by with_reducible assumption)) | exact Hid.out (p := Sz w w a b _) (by with_reducible assumption) | exact Hid.out (p := Sz w w a b _) (drewZ (by with_reducible assumption)))
    (first
     | (go_at_call 29; with_reducible refine (KTa.out _).mono ?_; rintro e wN ⟨rfl, hN⟩; have hT := stepZ (by first | with_reducible assumption | exact drewZ (by with_reducible assumption)) hN; clear hN)
     | (go_at_call 29; with_reducible refine (KTb.out _).mono ?_; rintro e wN ⟨rfl, hN⟩; have hT := stepZ (by first | with_reducible assumption | exact drewZ (by with_reducible assumption)) hN; clear hN))
  all_goals
    go_wp2_with fail
    refine (KRt.out _).mono ?_
    rintro x w2 ⟨rfl, hN⟩
    have BW1 := hidp ((Bw.push (Bw.push (Bw.step (by first | exact bw_of hT | exact bw_of (drewZ hT)) hN) (.int .u64 (hiw a)) (.int .u64 (low a)) 24) (.int .i64 0) (.int .i64 0) 42))
    have V1 := hidp (btrans (by first | exact hT.out.1 | exact hT.out.1.drew) hN)
    have V1 := hidp ((V1.out.alloc V1.out.size (.cells #[.int .u64 (hiw a), .int .u64 (low a)] 24)).alloc (by have := V1.out.size; simp; omega) (.cells #[.int .i64 0, .int .i64 0] 42))
    clear hN hT
    go_wp2_with fail
    refine (KRs.out _).mono ?_
    rintro x w3 ⟨rfl, hN⟩
    have BY2 := hidp (BW1.out.step hN)
    have V2 := hidp (btrans V1.out hN)
    clear V1 hN
    obtain ⟨ca0, ca1, cal⟩ := BY2.out.get (b := w.heap.size) (x := .int .u64 (hiw a)) (y := .int .u64 (low a)) (by simp)
    obtain ⟨cx0, cx1, cxl⟩ := BY2.out.get (b := w2.heap.size) (x := .int .u64 (hiw a)) (y := .int .u64 (low a)) (by simp)
    obtain ⟨cf0, cf1, cfl⟩ := BY2.out.get (b := w2.heap.size + 1) (x := .int .i64 0) (y := .int .i64 0) (by simp)
    have BW2 := hidp (Bw.push (Bw.push BY2.out (.int .u64 0) (.int .u64 0) 24) (.int .i64 e) (.int .i64 i) 42)
    have V2 := hidp ((V2.out.alloc V2.out.size (.cells #[.int .u64 0, .int .u64 0] 24)).alloc (by have := V2.out.size; simp; omega) (.cells #[.int .i64 e, .int .i64 i] 42))
    obtain ⟨cb0, cb1, cbl⟩ := BY2.out.get (b := w.heap.size + 1) (x := .int .u64 (hiw b)) (y := .int .u64 (low b)) (by simp)
    clear BW1 BY2
    go_wp2_with fail
    with_reducible refine (KC.out _).mono ?_
    rintro x w5 ⟨rfl, hN⟩
    clear ca0 ca1 cal cb0 cb1 cbl cx0 cx1 cxl cf0 cf1 cfl
    have BW4 := hidp (BW2.out.step hN)
    have V4 := hidp (btrans V2.out hN)
    clear BW2 V2 hN
    obtain ⟨ca0, ca1, cal⟩ := BW4.out.get (b := w.heap.size) (x := .int .u64 (hiw a)) (y := .int .u64 (low a)) (by simp)
    obtain ⟨cb0, cb1, cbl⟩ := BW4.out.get (b := w.heap.size + 1) (x := .int .u64 (hiw b)) (y := .int .u64 (low b)) (by simp)
    go_wp2_with fail
    with_reducible refine (KD.out _).mono ?_
    rintro x w6 ⟨rfl, hN⟩
    have V5 := hidp (btrans V4.out hN)
    clear V4 hN
    go_wp2
    go_ret
    exact ⟨rfl, V5.out⟩

set_option maxRecDepth 100000 in
set_option maxHeartbeats 8000000 in
theorem back_24 (a b : Nat) (t u s : ByteArray) (e i : Int) (w : World) (h100 : s.size ≤ 100)
    (hTa : ∀ w, Calls Try.prog 29 #[wv a] w fun e w' => e = .returned (.string t) ∧ Below w.heap.size w w')
    (hTb : ∀ w, Calls Try.prog 29 #[wv b] w fun e w' => e = .returned (.string u) ∧ Below w.heap.size w w')
    (hRt : ∀ w, Calls Try.prog 27 #[.string t] w fun e w' => e = .returned (.tuple #[wv a, fv 0 0]) ∧ Below w.heap.size w w')
    (hRs : ∀ w, Calls Try.prog 27 #[.string s] w fun x w' => x = .returned (.tuple #[wz, fv e i]) ∧ Below w.heap.size w w')
    (hC : ∀ w, Calls Try.prog 20 #[wv a, wv b] w fun e w' => e = .returned (.int .i64 1) ∧ Below w.heap.size w w')
    (hD : ∀ w, Calls Try.prog 20 #[wv b, wv a] w fun e w' => e = .returned (.int .i64 (-1)) ∧ Below w.heap.size w w') (o1 : u.size < t.size) (o2 : ((t.size : Int) == (u.size : Int)) = false) (o4 : (t.toList == u.toList) = false) (g1 : (e == 0) = false) (g2 : 0 ≤ i) (g3 : i ≤ s.size) :
    Calls Try.prog 9 #[wv a, wv b, .string s] w fun e w' => e = .returned (.bool true) ∧ Below w.heap.size w w' := by
  have KTa := hidp hTa; have KTb := hidp hTb; have KRt := hidp hRt; have KRs := hidp hRs; have KC := hidp hC; have KD := hidp hD
  clear hTa hTb hRt hRs hC hD
  have hT : Hid (Sz w w a b ((w.alloc (.cells #[.int .u64 (hiw a), .int .u64 (low a)] 24)).alloc (.cells #[.int .u64 (hiw b), .int .u64 (low b)] 24))) := by
    have c1 := (Blk.new w [.int .u64 (hiw a), .int .u64 (low a)] 24).alloc (.cells #[.int .u64 (hiw b), .int .u64 (low b)] 24)
    have c2 := Blk.new' (w.alloc (.cells #[.int .u64 (hiw a), .int .u64 (low a)] 24)) [.int .u64 (hiw b), .int .u64 (low b)] 24 (w.heap.size + 1) (by simp)
    have hb := ((Below.refl w.heap.size w).alloc (Nat.le_refl _) (.cells #[.int .u64 (hiw a), .int .u64 (low a)] 24)).alloc (by simp) (.cells #[.int .u64 (hiw b), .int .u64 (low b)] 24)
    exact hidp ⟨hb, hb, c1.lt, c2.lt, c1.cell 0, c1.cell 1, c2.cell 0, c2.cell 1⟩
  go_enter Try.func9, Try.ntmps9
  go_wp2_with fail
  refine (known_any _).mono ?_
  rintro e wN ⟨rfl, hN⟩; have hT := stepZ (by first | with_reducible assumption | exact drewZ (by with_reducible assumption)) hN; clear hN
  go_wp2_with fail
  go_region_held3 (fun w' => Below w.heap.size w w' ∧ Below w.heap.size w w' ∧ w.heap.size < w'.heap.size ∧ w.heap.size + 1 < w'.heap.size ∧ w'.cell? ⟨w.heap.size, 0, none⟩ = some (.int .u64 (hiw a)) ∧ w'.cell? ⟨w.heap.size, 1, none⟩ = some (.int .u64 (low a)) ∧ w'.cell? ⟨w.heap.size + 1, 0, none⟩ = some (.int .u64 (hiw b)) ∧ w'.cell? ⟨w.heap.size + 1, 1, none⟩ = some (.int .u64 (low b)))
    (first | (with_reducible exact Hid.out (p := Sz w w a b _) (by with_reducible assumption)) | exact Hid.out (p := Sz w w a b _) (by with_reducible assumption) | exact Hid.out (p := Sz w w a b _) (drewZ (by with_reducible assumption)))
    (first
     | (go_at_call 29; with_reducible refine (KTa.out _).mono ?_; rintro e wN ⟨rfl, hN⟩; have hT := stepZ (by first | with_reducible assumption | exact drewZ (by with_reducible assumption)) hN; clear hN)
     | (go_at_call 29; with_reducible refine (KTb.out _).mono ?_; rintro e wN ⟨rfl, hN⟩; have hT := stepZ (by first | with_reducible assumption | exact drewZ (by with_reducible assumption)) hN; clear hN))
  all_goals
    go_wp2_with fail
    refine (KRt.out _).mono ?_
    rintro x w2 ⟨rfl, hN⟩
    have BW1 := hidp ((Bw.push (Bw.push (Bw.step (by first | exact bw_of hT | exact bw_of (drewZ hT)) hN) (.int .u64 (hiw a)) (.int .u64 (low a)) 24) (.int .i64 0) (.int .i64 0) 42))
    have V1 := hidp (btrans (by first | exact hT.out.1 | exact hT.out.1.drew) hN)
    have V1 := hidp ((V1.out.alloc V1.out.size (.cells #[.int .u64 (hiw a), .int .u64 (low a)] 24)).alloc (by have := V1.out.size; simp; omega) (.cells #[.int .i64 0, .int .i64 0] 42))
    clear hN hT
    go_wp2_with fail
    refine (KRs.out _).mono ?_
    rintro x w3 ⟨rfl, hN⟩
    have BY2 := hidp (BW1.out.step hN)
    have V2 := hidp (btrans V1.out hN)
    clear V1 hN
    obtain ⟨ca0, ca1, cal⟩ := BY2.out.get (b := w.heap.size) (x := .int .u64 (hiw a)) (y := .int .u64 (low a)) (by simp)
    obtain ⟨cx0, cx1, cxl⟩ := BY2.out.get (b := w2.heap.size) (x := .int .u64 (hiw a)) (y := .int .u64 (low a)) (by simp)
    obtain ⟨cf0, cf1, cfl⟩ := BY2.out.get (b := w2.heap.size + 1) (x := .int .i64 0) (y := .int .i64 0) (by simp)
    have BW2 := hidp (Bw.push (Bw.push BY2.out (.int .u64 0) (.int .u64 0) 24) (.int .i64 e) (.int .i64 i) 42)
    have V2 := hidp ((V2.out.alloc V2.out.size (.cells #[.int .u64 0, .int .u64 0] 24)).alloc (by have := V2.out.size; simp; omega) (.cells #[.int .i64 e, .int .i64 i] 42))
    obtain ⟨cb0, cb1, cbl⟩ := BY2.out.get (b := w.heap.size + 1) (x := .int .u64 (hiw b)) (y := .int .u64 (low b)) (by simp)
    clear BW1 BY2
    go_wp2_with fail
    with_reducible refine (KC.out _).mono ?_
    rintro x w5 ⟨rfl, hN⟩
    clear ca0 ca1 cal cb0 cb1 cbl cx0 cx1 cxl cf0 cf1 cfl
    have BW4 := hidp (BW2.out.step hN)
    have V4 := hidp (btrans V2.out hN)
    clear BW2 V2 hN
    obtain ⟨ca0, ca1, cal⟩ := BW4.out.get (b := w.heap.size) (x := .int .u64 (hiw a)) (y := .int .u64 (low a)) (by simp)
    obtain ⟨cb0, cb1, cbl⟩ := BW4.out.get (b := w.heap.size + 1) (x := .int .u64 (hiw b)) (y := .int .u64 (low b)) (by simp)
    go_wp2_with fail
    with_reducible refine (KD.out _).mono ?_
    rintro x w6 ⟨rfl, hN⟩
    have V5 := hidp (btrans V4.out hN)
    clear V4 hN
    go_wp2
    go_ret
    exact ⟨rfl, V5.out⟩

set_option maxRecDepth 100000 in
set_option maxHeartbeats 8000000 in
theorem back_25 (a b : Nat) (t u s : ByteArray) (e i : Int) (w : World) (h100 : s.size ≤ 100)
    (hTa : ∀ w, Calls Try.prog 29 #[wv a] w fun e w' => e = .returned (.string t) ∧ Below w.heap.size w w')
    (hTb : ∀ w, Calls Try.prog 29 #[wv b] w fun e w' => e = .returned (.string u) ∧ Below w.heap.size w w')
    (hRt : ∀ w, Calls Try.prog 27 #[.string t] w fun e w' => e = .returned (.tuple #[wv a, fv 0 0]) ∧ Below w.heap.size w w')
    (hRs : ∀ w, Calls Try.prog 27 #[.string s] w fun x w' => x = .returned (.tuple #[wz, fv e i]) ∧ Below w.heap.size w w')
    (hC : ∀ w, Calls Try.prog 20 #[wv a, wv b] w fun e w' => e = .returned (.int .i64 1) ∧ Below w.heap.size w w')
    (hD : ∀ w, Calls Try.prog 20 #[wv b, wv a] w fun e w' => e = .returned (.int .i64 (-1)) ∧ Below w.heap.size w w') (o1 : u.size ≤ t.size) (o2 : ((t.size : Int) == (u.size : Int)) = true) (o3 : Op.bytesLess t.toList u.toList = false) (o4 : (t.toList == u.toList) = false) (g1 : (e == 0) = false) (g2 : 0 ≤ i) (g3 : i ≤ s.size) :
    Calls Try.prog 9 #[wv a, wv b, .string s] w fun e w' => e = .returned (.bool true) ∧ Below w.heap.size w w' := by
  have KTa := hidp hTa; have KTb := hidp hTb; have KRt := hidp hRt; have KRs := hidp hRs; have KC := hidp hC; have KD := hidp hD
  clear hTa hTb hRt hRs hC hD
  have hT : Hid (Sz w w a b ((w.alloc (.cells #[.int .u64 (hiw a), .int .u64 (low a)] 24)).alloc (.cells #[.int .u64 (hiw b), .int .u64 (low b)] 24))) := by
    have c1 := (Blk.new w [.int .u64 (hiw a), .int .u64 (low a)] 24).alloc (.cells #[.int .u64 (hiw b), .int .u64 (low b)] 24)
    have c2 := Blk.new' (w.alloc (.cells #[.int .u64 (hiw a), .int .u64 (low a)] 24)) [.int .u64 (hiw b), .int .u64 (low b)] 24 (w.heap.size + 1) (by simp)
    have hb := ((Below.refl w.heap.size w).alloc (Nat.le_refl _) (.cells #[.int .u64 (hiw a), .int .u64 (low a)] 24)).alloc (by simp) (.cells #[.int .u64 (hiw b), .int .u64 (low b)] 24)
    exact hidp ⟨hb, hb, c1.lt, c2.lt, c1.cell 0, c1.cell 1, c2.cell 0, c2.cell 1⟩
  go_enter Try.func9, Try.ntmps9
  go_wp2_with fail
  refine (known_any _).mono ?_
  rintro e wN ⟨rfl, hN⟩; have hT := stepZ (by first | with_reducible assumption | exact drewZ (by with_reducible assumption)) hN; clear hN
  go_wp2_with fail
  go_region_held3 (fun w' => Below w.heap.size w w' ∧ Below w.heap.size w w' ∧ w.heap.size < w'.heap.size ∧ w.heap.size + 1 < w'.heap.size ∧ w'.cell? ⟨w.heap.size, 0, none⟩ = some (.int .u64 (hiw a)) ∧ w'.cell? ⟨w.heap.size, 1, none⟩ = some (.int .u64 (low a)) ∧ w'.cell? ⟨w.heap.size + 1, 0, none⟩ = some (.int .u64 (hiw b)) ∧ w'.cell? ⟨w.heap.size + 1, 1, none⟩ = some (.int .u64 (low b)))
    (first | (with_reducible exact Hid.out (p := Sz w w a b _) (by with_reducible assumption)) | exact Hid.out (p := Sz w w a b _) (by with_reducible assumption) | exact Hid.out (p := Sz w w a b _) (drewZ (by with_reducible assumption)))
    (first
     | (go_at_call 29; with_reducible refine (KTa.out _).mono ?_; rintro e wN ⟨rfl, hN⟩; have hT := stepZ (by first | with_reducible assumption | exact drewZ (by with_reducible assumption)) hN; clear hN)
     | (go_at_call 29; with_reducible refine (KTb.out _).mono ?_; rintro e wN ⟨rfl, hN⟩; have hT := stepZ (by first | with_reducible assumption | exact drewZ (by with_reducible assumption)) hN; clear hN))
  all_goals
    go_wp2_with fail
    refine (KRt.out _).mono ?_
    rintro x w2 ⟨rfl, hN⟩
    have BW1 := hidp ((Bw.push (Bw.push (Bw.step (by first | exact bw_of hT | exact bw_of (drewZ hT)) hN) (.int .u64 (hiw a)) (.int .u64 (low a)) 24) (.int .i64 0) (.int .i64 0) 42))
    have V1 := hidp (btrans (by first | exact hT.out.1 | exact hT.out.1.drew) hN)
    have V1 := hidp ((V1.out.alloc V1.out.size (.cells #[.int .u64 (hiw a), .int .u64 (low a)] 24)).alloc (by have := V1.out.size; simp; omega) (.cells #[.int .i64 0, .int .i64 0] 42))
    clear hN hT
    go_wp2_with fail
    refine (KRs.out _).mono ?_
    rintro x w3 ⟨rfl, hN⟩
    have BY2 := hidp (BW1.out.step hN)
    have V2 := hidp (btrans V1.out hN)
    clear V1 hN
    obtain ⟨ca0, ca1, cal⟩ := BY2.out.get (b := w.heap.size) (x := .int .u64 (hiw a)) (y := .int .u64 (low a)) (by simp)
    obtain ⟨cx0, cx1, cxl⟩ := BY2.out.get (b := w2.heap.size) (x := .int .u64 (hiw a)) (y := .int .u64 (low a)) (by simp)
    obtain ⟨cf0, cf1, cfl⟩ := BY2.out.get (b := w2.heap.size + 1) (x := .int .i64 0) (y := .int .i64 0) (by simp)
    have BW2 := hidp (Bw.push (Bw.push BY2.out (.int .u64 0) (.int .u64 0) 24) (.int .i64 e) (.int .i64 i) 42)
    have V2 := hidp ((V2.out.alloc V2.out.size (.cells #[.int .u64 0, .int .u64 0] 24)).alloc (by have := V2.out.size; simp; omega) (.cells #[.int .i64 e, .int .i64 i] 42))
    obtain ⟨cb0, cb1, cbl⟩ := BY2.out.get (b := w.heap.size + 1) (x := .int .u64 (hiw b)) (y := .int .u64 (low b)) (by simp)
    clear BW1 BY2
    go_wp2_with fail
    with_reducible refine (KC.out _).mono ?_
    rintro x w5 ⟨rfl, hN⟩
    clear ca0 ca1 cal cb0 cb1 cbl cx0 cx1 cxl cf0 cf1 cfl
    have BW4 := hidp (BW2.out.step hN)
    have V4 := hidp (btrans V2.out hN)
    clear BW2 V2 hN
    obtain ⟨ca0, ca1, cal⟩ := BW4.out.get (b := w.heap.size) (x := .int .u64 (hiw a)) (y := .int .u64 (low a)) (by simp)
    obtain ⟨cb0, cb1, cbl⟩ := BW4.out.get (b := w.heap.size + 1) (x := .int .u64 (hiw b)) (y := .int .u64 (low b)) (by simp)
    go_wp2_with fail
    with_reducible refine (KD.out _).mono ?_
    rintro x w6 ⟨rfl, hN⟩
    have V5 := hidp (btrans V4.out hN)
    clear V4 hN
    go_wp2
    go_ret
    exact ⟨rfl, V5.out⟩

end Go.Proofs.Ytbldmenaaedffaa
