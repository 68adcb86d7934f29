/-
  The walk of WideBack, case by case.
-/
import Derived.Test.YtbldmenaaedffaaBb
import Derived.Test.YtbldmenaaedffaaGc
import Derived.Test.YtbldmenaaedffaaKb
namespace Go.Proofs.Ytbldmenaaedffaa
open Go.RowKit

/-- Boxes of two cells each. -/
def Bw (w : World) (L : List (Nat × Value × Value)) : Prop := ∀ p ∈ L, p.1 < w.heap.size ∧ w.cell? ⟨p.1, 0, none⟩ = some p.2.1 ∧ w.cell? ⟨p.1, 1, none⟩ = some p.2.2
theorem Bw.step {w w' : World} {L : List (Nat × Value × Value)} (h : Bw w L) (hB : Below w.heap.size w w') : Bw w' L := by
  intro p hp
  obtain ⟨h1, h2, h3⟩ := h p hp
  exact ⟨Nat.lt_of_lt_of_le h1 hB.size, (hB.cell (p := ⟨p.1, 0, none⟩) h1).trans h2, (hB.cell (p := ⟨p.1, 1, none⟩) h1).trans h3⟩
theorem Bw.push {w : World} {L : List (Nat × Value × Value)} (h : Bw w L) (x y : Value) (T : TypeId) : Bw (w.alloc (.cells #[x, y] T)) ((w.heap.size, x, y) :: L) := by
  intro p hp
  rcases List.mem_cons.1 hp with rfl | hp
  · have hb := Blk.new w [x, y] T
    exact ⟨hb.lt, hb.cell 0, hb.cell 1⟩
  · exact (h.step ((Below.refl _ w).alloc (Nat.le_refl _) _)) p hp
theorem Bw.get {w : World} {L : List (Nat × Value × Value)} (h : Bw w L) {b : Nat} {x y : Value} (hm : (b, x, y) ∈ L) : w.cell? ⟨b, 0, none⟩ = some x ∧ w.cell? ⟨b, 1, none⟩ = some y ∧ b < w.heap.size := by
  obtain ⟨h1, h2, h3⟩ := h _ hm
  exact ⟨h2, h3, h1⟩
theorem bw_of {w w1 w' : World} {a b : Nat} (h : Hid (Sz w w1 a b w')) : Bw w' [(w.heap.size, .int .u64 (hiw a), .int .u64 (low a)), (w.heap.size + 1, .int .u64 (hiw b), .int .u64 (low b))] := by
  obtain ⟨h0, h1, h2, h3, h4, h5, h6, h7⟩ := h.out
  intro p hp
  simp only [List.mem_cons, List.not_mem_nil, or_false] at hp
  rcases hp with rfl | rfl
  · exact ⟨h2, h4, h5⟩
  · exact ⟨h3, h6, h7⟩

theorem back_long (a b : Nat) (s : ByteArray) (w : World) (h : 100 < s.size) :
    Calls Try.prog 9 #[wv a, wv b, .string s] w fun e w' => e = .returned (.bool true) ∧ Below w.heap.size w w' := by
  go_enter Try.func9, Try.ntmps9
  go_wp2_with (go_at_call 6; refine (known_any _).mono ?_; rintro e w1 ⟨rfl, hN⟩)
  go_ret
  exact ⟨rfl, by (repeat' (first | (with_reducible exact Below.refl _ _) | (with_reducible refine Below.alloc ?_ ?_ _) | (with_reducible refine Below.drew ?_) | (with_reducible refine Below.drewN ?_ _) | (with_reducible refine Below.setCell ?_ ?_ _) | (with_reducible refine Below.trans ?_ (Below.mono hN ?_)) | go_size | (have i0_ := hN.size; (try simp at i0_); (try simp); omega)))⟩

set_option maxRecDepth 100000 in
set_option maxHeartbeats 8000000 in
theorem back_11 (a b y : Nat) (t u s : ByteArray) (w : World) (h100 : s.size ≤ 100)
    (hTa : ∀ w, Calls Try.prog 29 #[wv a] w fun e w' => e = .returned (.string t) ∧ Below w.heap.size w w')
    (hTb : ∀ w, Calls Try.prog 29 #[wv b] w fun e w' => e = .returned (.string u) ∧ Below w.heap.size w w')
    (hRt : ∀ w, Calls Try.prog 27 #[.string t] w fun e w' => e = .returned (.tuple #[wv a, fv 0 0]) ∧ Below w.heap.size w w')
    (hRs : ∀ w, Calls Try.prog 27 #[.string s] w fun x w' => x = .returned (.tuple #[wv y, fv 0 0]) ∧ Below w.heap.size w w')
    (hY : ∀ w, Calls Try.prog 29 #[wv y] w fun e w' => e = .returned (.string s) ∧ Below w.heap.size w w')
    (hC : ∀ w, Calls Try.prog 20 #[wv a, wv b] w fun e w' => e = .returned (.int .i64 (-1)) ∧ Below w.heap.size w w')
    (hD : ∀ w, Calls Try.prog 20 #[wv b, wv a] w fun e w' => e = .returned (.int .i64 1) ∧ Below w.heap.size w w') (o1 : t.size < u.size) :
    Calls Try.prog 9 #[wv a, wv b, .string s] w fun e w' => e = .returned (.bool true) ∧ Below w.heap.size w w' := by
  have KTa := hidp hTa; have KTb := hidp hTb; have KRt := hidp hRt; have KRs := hidp hRs; have KC := hidp hC; have KD := hidp hD; have KY := hidp hY
  clear hTa hTb hRt hRs hC hD hY
  have hT : Hid (Sz w w a b ((w.alloc (.cells #[.int .u64 (hiw a), .int .u64 (low a)] 24)).alloc (.cells #[.int .u64 (hiw b), .int .u64 (low b)] 24))) := by
    have c1 := (Blk.new w [.int .u64 (hiw a), .int .u64 (low a)] 24).alloc (.cells #[.int .u64 (hiw b), .int .u64 (low b)] 24)
    have c2 := Blk.new' (w.alloc (.cells #[.int .u64 (hiw a), .int .u64 (low a)] 24)) [.int .u64 (hiw b), .int .u64 (low b)] 24 (w.heap.size + 1) (by simp)
    have hb := ((Below.refl w.heap.size w).alloc (Nat.le_refl _) (.cells #[.int .u64 (hiw a), .int .u64 (low a)] 24)).alloc (by simp) (.cells #[.int .u64 (hiw b), .int .u64 (low b)] 24)
    exact hidp ⟨hb, hb, c1.lt, c2.lt, c1.cell 0, c1.cell 1, c2.cell 0, c2.cell 1⟩
  go_enter Try.func9, Try.ntmps9
  go_wp2_with fail
  refine (known_any _).mono ?_
  rintro e wN ⟨rfl, hN⟩; have hT := stepZ (by first | with_reducible assumption | exact drewZ (by with_reducible assumption)) hN; clear hN
  go_wp2_with fail
  go_region_held3 (fun w' => Below w.heap.size w w' ∧ Below w.heap.size w w' ∧ w.heap.size < w'.heap.size ∧ w.heap.size + 1 < w'.heap.size ∧ w'.cell? ⟨w.heap.size, 0, none⟩ = some (.int .u64 (hiw a)) ∧ w'.cell? ⟨w.heap.size, 1, none⟩ = some (.int .u64 (low a)) ∧ w'.cell? ⟨w.heap.size + 1, 0, none⟩ = some (.int .u64 (hiw b)) ∧ w'.cell? ⟨w.heap.size + 1, 1, none⟩ = some (.int .u64 (low b)))
    (first | (with_reducible exact Hid.out (p := Sz w w a b _) (by with_reducible assumption)) | exact Hid.out (p := Sz w w a b _) (by with_reducible assumption) | exact Hid.out (p := Sz w w a b _) (drewZ (by with_reducible assumption)))
    (first
     | (go_at_call 29; with_reducible refine (KTa.out _).mono ?_; rintro e wN ⟨rfl, hN⟩; have hT := stepZ (by first | with_reducible assumption | exact drewZ (by with_reducible assumption)) hN; clear hN)
     | (go_at_call 29; with_reducible refine (KTb.out _).mono ?_; rintro e wN ⟨rfl, hN⟩; have hT := stepZ (by first | with_reducible assumption | exact drewZ (by with_reducible assumption)) hN; clear hN))
  all_goals
    go_wp2_with fail
    refine (KRt.out _).mono ?_
    rintro x w2 ⟨rfl, hN⟩
    have BW1 := hidp ((Bw.push (Bw.push (Bw.step (by first | exact bw_of hT | exact bw_of (drewZ hT)) hN) (.int .u64 (hiw a)) (.int .u64 (low a)) 24) (.int .i64 0) (.int .i64 0) 42))
    have V1 := hidp (btrans (by first | exact hT.out.1 | exact hT.out.1.drew) hN)
    have V1 := hidp ((V1.out.alloc V1.out.size (.cells #[.int .u64 (hiw a), .int .u64 (low a)] 24)).alloc (by have := V1.out.size; simp; omega) (.cells #[.int .i64 0, .int .i64 0] 42))
    clear hN hT
    go_wp2_with fail
    refine (KRs.out _).mono ?_
    rintro x w3 ⟨rfl, hN⟩
    have BY2 := hidp (BW1.out.step hN)
    have V2 := hidp (btrans V1.out hN)
    clear V1 hN
    obtain ⟨ca0, ca1, cal⟩ := BY2.out.get (b := w.heap.size) (x := .int .u64 (hiw a)) (y := .int .u64 (low a)) (by simp)
    obtain ⟨cx0, cx1, cxl⟩ := BY2.out.get (b := w2.heap.size) (x := .int .u64 (hiw a)) (y := .int .u64 (low a)) (by simp)
    obtain ⟨cf0, cf1, cfl⟩ := BY2.out.get (b := w2.heap.size + 1) (x := .int .i64 0) (y := .int .i64 0) (by simp)
    have BW2 := hidp (Bw.push (Bw.push BY2.out (.int .u64 (hiw y)) (.int .u64 (low y)) 24) (.int .i64 0) (.int .i64 0) 42)
    have V2 := hidp ((V2.out.alloc V2.out.size (.cells #[.int .u64 (hiw y), .int .u64 (low y)] 24)).alloc (by have := V2.out.size; simp; omega) (.cells #[.int .i64 0, .int .i64 0] 42))
    clear BW1 BY2
    go_wp2_with fail
    refine (KY.out _).mono ?_
    rintro x w4 ⟨rfl, hN⟩
    clear ca0 ca1 cal cx0 cx1 cxl cf0 cf1 cfl
    have BW3 := hidp (BW2.out.step hN)
    have V3 := hidp (btrans V2.out hN)
    obtain ⟨ca0, ca1, cal⟩ := BW3.out.get (b := w.heap.size) (x := .int .u64 (hiw a)) (y := .int .u64 (low a)) (by simp)
    obtain ⟨cb0, cb1, cbl⟩ := BW3.out.get (b := w.heap.size + 1) (x := .int .u64 (hiw b)) (y := .int .u64 (low b)) (by simp)
    obtain ⟨cg0, cg1, cgl⟩ := BW3.out.get (b := w3.heap.size + 1) (x := .int .i64 0) (y := .int .i64 0) (by simp)
    clear BW2 V2 hN
    go_wp2_with fail
    with_reducible refine (KC.out _).mono ?_
    rintro x w5 ⟨rfl, hN⟩
    clear ca0 ca1 cal cb0 cb1 cbl cg0 cg1 cgl
    have BW4 := hidp (BW3.out.step hN)
    have V4 := hidp (btrans V3.out hN)
    clear BW3 V3 hN
    obtain ⟨ca0, ca1, cal⟩ := BW4.out.get (b := w.heap.size) (x := .int .u64 (hiw a)) (y := .int .u64 (low a)) (by simp)
    obtain ⟨cb0, cb1, cbl⟩ := BW4.out.get (b := w.heap.size + 1) (x := .int .u64 (hiw b)) (y := .int .u64 (low b)) (by simp)
    go_wp2_with fail
    with_reducible refine (KD.out _).mono ?_
    rintro x w6 ⟨rfl, hN⟩
    have V5 := hidp (btrans V4.out hN)
    clear V4 hN
    go_wp2
    go_ret
    exact ⟨rfl, V5.out⟩

set_option maxRecDepth 100000 in
set_option maxHeartbeats 8000000 in
theorem back_12 (a b y : Nat) (t u s : ByteArray) (w : World) (h100 : s.size ≤ 100)
    (hTa : ∀ w, Calls Try.prog 29 #[wv a] w fun e w' => e = .returned (.string t) ∧ Below w.heap.size w w')
    (hTb : ∀ w, Calls Try.prog 29 #[wv b] w fun e w' => e = .returned (.string u) ∧ Below w.heap.size w w')
    (hRt : ∀ w, Calls Try.prog 27 #[.string t] w fun e w' => e = .returned (.tuple #[wv a, fv 0 0]) ∧ Below w.heap.size w w')
    (hRs : ∀ w, Calls Try.prog 27 #[.string s] w fun x w' => x = .returned (.tuple #[wv y, fv 0 0]) ∧ Below w.heap.size w w')
    (hY : ∀ w, Calls Try.prog 29 #[wv y] w fun e w' => e = .returned (.string s) ∧ Below w.heap.size w w')
    (hC : ∀ w, Calls Try.prog 20 #[wv a, wv b] w fun e w' => e = .returned (.int .i64 (-1)) ∧ Below w.heap.size w w')
    (hD : ∀ w, Calls Try.prog 20 #[wv b, wv a] w fun e w' => e = .returned (.int .i64 1) ∧ Below w.heap.size w w') (o1 : u.size ≤ t.size) (o2 : ((t.size : Int) == (u.size : Int)) = true) (o3 : Op.bytesLess t.toList u.toList = true) :
    Calls Try.prog 9 #[wv a, wv b, .string s] w fun e w' => e = .returned (.bool true) ∧ Below w.heap.size w w' := by
  have KTa := hidp hTa; have KTb := hidp hTb; have KRt := hidp hRt; have KRs := hidp hRs; have KC := hidp hC; have KD := hidp hD; have KY := hidp hY
  clear hTa hTb hRt hRs hC hD hY
  have hT : Hid (Sz w w a b ((w.alloc (.cells #[.int .u64 (hiw a), .int .u64 (low a)] 24)).alloc (.cells #[.int .u64 (hiw b), .int .u64 (low b)] 24))) := by
    have c1 := (Blk.new w [.int .u64 (hiw a), .int .u64 (low a)] 24).alloc (.cells #[.int .u64 (hiw b), .int .u64 (low b)] 24)
    have c2 := Blk.new' (w.alloc (.cells #[.int .u64 (hiw a), .int .u64 (low a)] 24)) [.int .u64 (hiw b), .int .u64 (low b)] 24 (w.heap.size + 1) (by simp)
    have hb := ((Below.refl w.heap.size w).alloc (Nat.le_refl _) (.cells #[.int .u64 (hiw a), .int .u64 (low a)] 24)).alloc (by simp) (.cells #[.int .u64 (hiw b), .int .u64 (low b)] 24)
    exact hidp ⟨hb, hb, c1.lt, c2.lt, c1.cell 0, c1.cell 1, c2.cell 0, c2.cell 1⟩
  go_enter Try.func9, Try.ntmps9
  go_wp2_with fail
  refine (known_any _).mono ?_
  rintro e wN ⟨rfl, hN⟩; have hT := stepZ (by first | with_reducible assumption | exact drewZ (by with_reducible assumption)) hN; clear hN
  go_wp2_with fail
  go_region_held3 (fun w' => Below w.heap.size w w' ∧ Below w.heap.size w w' ∧ w.heap.size < w'.heap.size ∧ w.heap.size + 1 < w'.heap.size ∧ w'.cell? ⟨w.heap.size, 0, none⟩ = some (.int .u64 (hiw a)) ∧ w'.cell? ⟨w.heap.size, 1, none⟩ = some (.int .u64 (low a)) ∧ w'.cell? ⟨w.heap.size + 1, 0, none⟩ = some (.int .u64 (hiw b)) ∧ w'.cell? ⟨w.heap.size + 1, 1, none⟩ = some (.int .u64 (low b)))
    (first | (with_reducible exact Hid.out (p := Sz w w a b _) (by with_reducible assumption)) | exact Hid.out (p := Sz w w a b _) (by with_reducible assumption) | exact Hid.out (p := Sz w w a b _) (drewZ (by with_reducible assumption)))
    (first
     | (go_at_call 29; with_reducible refine (KTa.out _).mono ?_; rintro e wN ⟨rfl, hN⟩; have hT := stepZ (by first | with_reducible assumption | exact drewZ (by with_reducible assumption)) hN; clear hN)
     | (go_at_call 29; with_reducible refine (KTb.out _).mono ?_; rintro e wN ⟨rfl, hN⟩; have hT := stepZ (by first | with_reducible assumption | exact drewZ (by with_reducible assumption)) hN; clear hN))
  all_goals
    go_wp2_with fail
    refine (KRt.out _).mono ?_
    rintro x w2 ⟨rfl, hN⟩
    have BW1 := hidp ((Bw.push (Bw.push (Bw.step (by first | exact bw_of hT | exact bw_of (drewZ hT)) hN) (.int .u64 (hiw a)) (.int .u64 (low a)) 24) (.int .i64 0) (.int .i64 0) 42))
    have V1 := hidp (btrans (by first | exact hT.out.1 | exact hT.out.1.drew) hN)
    have V1 := hidp ((V1.out.alloc V1.out.size (.cells #[.int .u64 (hiw a), .int .u64 (low a)] 24)).alloc (by have := V1.out.size; simp; omega) (.cells #[.int .i64 0, .int .i64 0] 42))
    clear hN hT
    go_wp2_with fail
    refine (KRs.out _).mono ?_
    rintro x w3 ⟨rfl, hN⟩
    have BY2 := hidp (BW1.out.step hN)
    have V2 := hidp (btrans V1.out hN)
    clear V1 hN
    obtain ⟨ca0, ca1, cal⟩ := BY2.out.get (b := w.heap.size) (x := .int .u64 (hiw a)) (y := .int .u64 (low a)) (by simp)
    obtain ⟨cx0, cx1, cxl⟩ := BY2.out.get (b := w2.heap.size) (x := .int .u64 (hiw a)) (y := .int .u64 (low a)) (by simp)
    obtain ⟨cf0, cf1, cfl⟩ := BY2.out.get (b := w2.heap.size + 1) (x := .int .i64 0) (y := .int .i64 0) (by simp)
    have BW2 := hidp (Bw.push (Bw.push BY2.out (.int .u64 (hiw y)) (.int .u64 (low y)) 24) (.int .i64 0) (.int .i64 0) 42)
    have V2 := hidp ((V2.out.alloc V2.out.size (.cells #[.int .u64 (hiw y), .int .u64 (low y)] 24)).alloc (by have := V2.out.size; simp; omega) (.cells #[.int .i64 0, .int .i64 0] 42))
    clear BW1 BY2
    go_wp2_with fail
    refine (KY.out _).mono ?_
    rintro x w4 ⟨rfl, hN⟩
    clear ca0 ca1 cal cx0 cx1 cxl cf0 cf1 cfl
    have BW3 := hidp (BW2.out.step hN)
    have V3 := hidp (btrans V2.out hN)
    obtain ⟨ca0, ca1, cal⟩ := BW3.out.get (b := w.heap.size) (x := .int .u64 (hiw a)) (y := .int .u64 (low a)) (by simp)
    obtain ⟨cb0, cb1, cbl⟩ := BW3.out.get (b := w.heap.size + 1) (x := .int .u64 (hiw b)) (y := .int .u64 (low b)) (by simp)
    obtain ⟨cg0, cg1, cgl⟩ := BW3.out.get (b := w3.heap.size + 1) (x := .int .i64 0) (y := .int .i64 0) (by simp)
    clear BW2 V2 hN
    go_wp2_with fail
    with_reducible refine (KC.out _).mono ?_
    rintro x w5 ⟨rfl, hN⟩
    clear ca0 ca1 cal cb0 cb1 cbl cg0 cg1 cgl
    have BW4 := hidp (BW3.out.step hN)
    have V4 := hidp (btrans V3.out hN)
    clear BW3 V3 hN
    obtain ⟨ca0, ca1, cal⟩ := BW4.out.get (b := w.heap.size) (x := .int .u64 (hiw a)) (y := .int .u64 (low a)) (by simp)
    obtain ⟨cb0, cb1, cbl⟩ := BW4.out.get (b := w.heap.size + 1) (x := .int .u64 (hiw b)) (y := .int .u64 (low b)) (by simp)
    go_wp2_with fail
    with_reducible refine (KD.out _).mono ?_
    rintro x w6 ⟨rfl, hN⟩
    have V5 := hidp (btrans V4.out hN)
    clear V4 hN
    go_wp2
    go_ret
    exact ⟨rfl, V5.out⟩

set_option maxRecDepth 100000 in
set_option maxHeartbeats 8000000 in
theorem back_13 (a b y : Nat) (t u s : ByteArray) (w : World) (h100 : s.size ≤ 100)
    (hTa : ∀ w, Calls Try.prog 29 #[wv a] w fun e w' => e = .returned (.string t) ∧ Below w.heap.size w w')
    (hTb : ∀ w, Calls Try.prog 29 #[wv b] w fun e w' => e = .returned (.string u) ∧ Below w.heap.size w w')
    (hRt : ∀ w, Calls Try.prog 27 #[.string t] w fun e w' => e = .returned (.tuple #[wv a, fv 0 0]) ∧ Below w.heap.size w w')
    (hRs : ∀ w, Calls Try.prog 27 #[.string s] w fun x w' => x = .returned (.tuple #[wv y, fv 0 0]) ∧ Below w.heap.size w w')
    (hY : ∀ w, Calls Try.prog 29 #[wv y] w fun e w' => e = .returned (.string s) ∧ Below w.heap.size w w')
    (hC : ∀ w, Calls Try.prog 20 #[wv a, wv b] w fun e w' => e = .returned (.int .i64 0) ∧ Below w.heap.size w w')
    (hD : ∀ w, Calls Try.prog 20 #[wv b, wv a] w fun e w' => e = .returned (.int .i64 0) ∧ Below w.heap.size w w') (o1 : u.size ≤ t.size) (o2 : ((t.size : Int) == (u.size : Int)) = true) (o3 : Op.bytesLess t.toList u.toList = false) (o4 : (t.toList == u.toList) = true) :
    Calls Try.prog 9 #[wv a, wv b, .string s] w fun e w' => e = .returned (.bool true) ∧ Below w.heap.size w w' := by
  have KTa := hidp hTa; have KTb := hidp hTb; have KRt := hidp hRt; have KRs := hidp hRs; have KC := hidp hC; have KD := hidp hD; have KY := hidp hY
  clear hTa hTb hRt hRs hC hD hY
  have hT : Hid (Sz w w a b ((w.alloc (.cells #[.int .u64 (hiw a), .int .u64 (low a)] 24)).alloc (.cells #[.int .u64 (hiw b), .int .u64 (low b)] 24))) := by
    have c1 := (Blk.new w [.int .u64 (hiw a), .int .u64 (low a)] 24).alloc (.cells #[.int .u64 (hiw b), .int .u64 (low b)] 24)
    have c2 := Blk.new' (w.alloc (.cells #[.int .u64 (hiw a), .int .u64 (low a)] 24)) [.int .u64 (hiw b), .int .u64 (low b)] 24 (w.heap.size + 1) (by simp)
    have hb := ((Below.refl w.heap.size w).alloc (Nat.le_refl _) (.cells #[.int .u64 (hiw a), .int .u64 (low a)] 24)).alloc (by simp) (.cells #[.int .u64 (hiw b), .int .u64 (low b)] 24)
    exact hidp ⟨hb, hb, c1.lt, c2.lt, c1.cell 0, c1.cell 1, c2.cell 0, c2.cell 1⟩
  go_enter Try.func9, Try.ntmps9
  go_wp2_with fail
  refine (known_any _).mono ?_
  rintro e wN ⟨rfl, hN⟩; have hT := stepZ (by first | with_reducible assumption | exact drewZ (by with_reducible assumption)) hN; clear hN
  go_wp2_with fail
  go_region_held3 (fun w' => Below w.heap.size w w' ∧ Below w.heap.size w w' ∧ w.heap.size < w'.heap.size ∧ w.heap.size + 1 < w'.heap.size ∧ w'.cell? ⟨w.heap.size, 0, none⟩ = some (.int .u64 (hiw a)) ∧ w'.cell? ⟨w.heap.size, 1, none⟩ = some (.int .u64 (low a)) ∧ w'.cell? ⟨w.heap.size + 1, 0, none⟩ = some (.int .u64 (hiw b)) ∧ w'.cell? ⟨w.heap.size + 1, 1, none⟩ = some (.int .u64 (low b)))
    (first | (with_reducible exact Hid.out (p := Sz w w a b _) (by with_reducible assumption)) | exact Hid.out (p := Sz w w a b _) (by with_reducible assumption) | exact Hid.out (p := Sz w w a b _) (drewZ (by with_reducible assumption)))
    (first
     | (go_at_call 29; with_reducible refine (KTa.out _).mono ?_; rintro e wN ⟨rfl, hN⟩; have hT := stepZ (by first | with_reducible assumption | exact drewZ (by with_reducible assumption)) hN; clear hN)
     | (go_at_call 29; with_reducible refine (KTb.out _).mono ?_; rintro e wN ⟨rfl, hN⟩; have hT := stepZ (by first | with_reducible assumption | exact drewZ (by with_reducible assumption)) hN; clear hN))
  all_goals
    go_wp2_with fail
    refine (KRt.out _).mono ?_
    rintro x w2 ⟨rfl, hN⟩
    have BW1 := hidp ((Bw.push (Bw.push (Bw.step (by first | exact bw_of hT | exact bw_of (drewZ hT)) hN) (.int .u64 (hiw a)) (.int .u64 (low a)) 24) (.int .i64 0) (.int .i64 0) 42))
    have V1 := hidp (btrans (by first | exact hT.out.1 | exact hT.out.1.drew) hN)
    have V1 := hidp ((V1.out.alloc V1.out.size (.cells #[.int .u64 (hiw a), .int .u64 (low a)] 24)).alloc (by have := V1.out.size; simp; omega) (.cells #[.int .i64 0, .int .i64 0] 42))
    clear hN hT
    go_wp2_with fail
    refine (KRs.out _).mono ?_
    rintro x w3 ⟨rfl, hN⟩
    have BY2 := hidp (BW1.out.step hN)
    have V2 := hidp (btrans V1.out hN)
    clear V1 hN
    obtain ⟨ca0, ca1, cal⟩ := BY2.out.get (b := w.heap.size) (x := .int .u64 (hiw a)) (y := .int .u64 (low a)) (by simp)
    obtain ⟨cx0, cx1, cxl⟩ := BY2.out.get (b := w2.heap.size) (x := .int .u64 (hiw a)) (y := .int .u64 (low a)) (by simp)
    obtain ⟨cf0, cf1, cfl⟩ := BY2.out.get (b := w2.heap.size + 1) (x := .int .i64 0) (y := .int .i64 0) (by simp)
    have BW2 := hidp (Bw.push (Bw.push BY2.out (.int .u64 (hiw y)) (.int .u64 (low y)) 24) (.int .i64 0) (.int .i64 0) 42)
    have V2 := hidp ((V2.out.alloc V2.out.size (.cells #[.int .u64 (hiw y), .int .u64 (low y)] 24)).alloc (by have := V2.out.size; simp; omega) (.cells #[.int .i64 0, .int .i64 0] 42))
    clear BW1 BY2
    go_wp2_with fail
    refine (KY.out _).mono ?_
    rintro x w4 ⟨rfl, hN⟩
    clear ca0 ca1 cal cx0 cx1 cxl cf0 cf1 cfl
    have BW3 := hidp (BW2.out.step hN)
    have V3 := hidp (btrans V2.out hN)
    obtain ⟨ca0, ca1, cal⟩ := BW3.out.get (b := w.heap.size) (x := .int .u64 (hiw a)) (y := .int .u64 (low a)) (by simp)
    obtain ⟨cb0, cb1, cbl⟩ := BW3.out.get (b := w.heap.size + 1) (x := .int .u64 (hiw b)) (y := .int .u64 (low b)) (by simp)
    obtain ⟨cg0, cg1, cgl⟩ := BW3.out.get (b := w3.heap.size + 1) (x := .int .i64 0) (y := .int .i64 0) (by simp)
    clear BW2 V2 hN
    go_wp2_with fail
    with_reducible refine (KC.out _).mono ?_
    rintro x w5 ⟨rfl, hN⟩
    clear ca0 ca1 cal cb0 cb1 cbl cg0 cg1 cgl
    have BW4 := hidp (BW3.out.step hN)
    have V4 := hidp (btrans V3.out hN)
    clear BW3 V3 hN
    obtain ⟨ca0, ca1, cal⟩ := BW4.out.get (b := w.heap.size) (x := .int .u64 (hiw a)) (y := .int .u64 (low a)) (by simp)
    obtain ⟨cb0, cb1, cbl⟩ := BW4.out.get (b := w.heap.size + 1) (x := .int .u64 (hiw b)) (y := .int .u64 (low b)) (by simp)
    go_wp2_with fail
    with_reducible refine (KD.out _).mono ?_
    rintro x w6 ⟨rfl, hN⟩
    have V5 := hidp (btrans V4.out hN)
    clear V4 hN
    go_wp2
    go_ret
    exact ⟨rfl, V5.out⟩

set_option maxRecDepth 100000 in
set_option maxHeartbeats 8000000 in
theorem back_14 (a b y : Nat) (t u s : ByteArray) (w : World) (h100 : s.size ≤ 100)
    (hTa : ∀ w, Calls Try.prog 29 #[wv a] w fun e w' => e = .returned (.string t) ∧ Below w.heap.size w w')
    (hTb : ∀ w, Calls Try.prog 29 #[wv b] w fun e w' => e = .returned (.string u) ∧ Below w.heap.size w w')
    (hRt : ∀ w, Calls Try.prog 27 #[.string t] w fun e w' => e = .returned (.tuple #[wv a, fv 0 0]) ∧ Below w.heap.size w w')
    (hRs : ∀ w, Calls Try.prog 27 #[.string s] w fun x w' => x = .returned (.tuple #[wv y, fv 0 0]) ∧ Below w.heap.size w w')
    (hY : ∀ w, Calls Try.prog 29 #[wv y] w fun e w' => e = .returned (.string s) ∧ Below w.heap.size w w')
    (hC : ∀ w, Calls Try.prog 20 #[wv a, wv b] w fun e w' => e = .returned (.int .i64 1) ∧ Below w.heap.size w w')
    (hD : ∀ w, Calls Try.prog 20 #[wv b, wv a] w fun e w' => e = .returned (.int .i64 (-1)) ∧ Below w.heap.size w w') (o1 : u.size < t.size) (o2 : ((t.size : Int) == (u.size : Int)) = false) (o4 : (t.toList == u.toList) = false) :
    Calls Try.prog 9 #[wv a, wv b, .string s] w fun e w' => e = .returned (.bool true) ∧ Below w.heap.size w w' := by
  have KTa := hidp hTa; have KTb := hidp hTb; have KRt := hidp hRt; have KRs := hidp hRs; have KC := hidp hC; have KD := hidp hD; have KY := hidp hY
  clear hTa hTb hRt hRs hC hD hY
  have hT : Hid (Sz w w a b ((w.alloc (.cells #[.int .u64 (hiw a), .int .u64 (low a)] 24)).alloc (.cells #[.int .u64 (hiw b), .int .u64 (low b)] 24))) := by
    have c1 := (Blk.new w [.int .u64 (hiw a), .int .u64 (low a)] 24).alloc (.cells #[.int .u64 (hiw b), .int .u64 (low b)] 24)
    have c2 := Blk.new' (w.alloc (.cells #[.int .u64 (hiw a), .int .u64 (low a)] 24)) [.int .u64 (hiw b), .int .u64 (low b)] 24 (w.heap.size + 1) (by simp)
    have hb := ((Below.refl w.heap.size w).alloc (Nat.le_refl _) (.cells #[.int .u64 (hiw a), .int .u64 (low a)] 24)).alloc (by simp) (.cells #[.int .u64 (hiw b), .int .u64 (low b)] 24)
    exact hidp ⟨hb, hb, c1.lt, c2.lt, c1.cell 0, c1.cell 1, c2.cell 0, c2.cell 1⟩
  go_enter Try.func9, Try.ntmps9
  go_wp2_with fail
  refine (known_any _).mono ?_
  rintro e wN ⟨rfl, hN⟩; have hT := stepZ (by first | with_reducible assumption | exact drewZ (by with_reducible assumption)) hN; clear hN
  go_wp2_with fail
  go_region_held3 (fun w' => Below w.heap.size w w' ∧ Below w.heap.size w w' ∧ w.heap.size < w'.heap.size ∧ w.heap.size + 1 < w'.heap.size ∧ w'.cell? ⟨w.heap.size, 0, none⟩ = some (.int .u64 (hiw a)) ∧ w'.cell? ⟨w.heap.size, 1, none⟩ = some (.int .u64 (low a)) ∧ w'.cell? ⟨w.heap.size + 1, 0, none⟩ = some (.int .u64 (hiw b)) ∧ w'.cell? ⟨w.heap.size + 1, 1, none⟩ = some (.int .u64 (low b)))
    (first | (with_reducible exact Hid.out (p := Sz w w a b _) (by with_reducible assumption)) | exact Hid.out (p := Sz w w a b _) (by with_reducible assumption) | exact Hid.out (p := Sz w w a b _) (drewZ (by with_reducible assumption)))
    (first
     | (go_at_call 29; with_reducible refine (KTa.out _).mono ?_; rintro e wN ⟨rfl, hN⟩; have hT := stepZ (by first | with_reducible assumption | exact drewZ (by with_reducible assumption)) hN; clear hN)
     | (go_at_call 29; with_reducible refine (KTb.out _).mono ?_; rintro e wN ⟨rfl, hN⟩; have hT := stepZ (by first | with_reducible assumption | exact drewZ (by with_reducible assumption)) hN; clear hN))
  all_goals
    go_wp2_with fail
    refine (KRt.out _).mono ?_
    rintro x w2 ⟨rfl, hN⟩
    have BW1 := hidp ((Bw.push (Bw.push (Bw.step (by first | exact bw_of hT | exact bw_of (drewZ hT)) hN) (.int .u64 (hiw a)) (.int .u64 (low a)) 24) (.int .i64 0) (.int .i64 0) 42))
    have V1 := hidp (btrans (by first | exact hT.out.1 | exact hT.out.1.drew) hN)
    have V1 := hidp ((V1.out.alloc V1.out.size (.cells #[.int .u64 (hiw a), .int .u64 (low a)] 24)).alloc (by have := V1.out.size; simp; omega) (.cells #[.int .i64 0, .int .i64 0] 42))
    clear hN hT
    go_wp2_with fail
    refine (KRs.out _).mono ?_
    rintro x w3 ⟨rfl, hN⟩
    have BY2 := hidp (BW1.out.step hN)
    have V2 := hidp (btrans V1.out hN)
    clear V1 hN
    obtain ⟨ca0, ca1, cal⟩ := BY2.out.get (b := w.heap.size) (x := .int .u64 (hiw a)) (y := .int .u64 (low a)) (by simp)
    obtain ⟨cx0, cx1, cxl⟩ := BY2.out.get (b := w2.heap.size) (x := .int .u64 (hiw a)) (y := .int .u64 (low a)) (by simp)
    obtain ⟨cf0, cf1, cfl⟩ := BY2.out.get (b := w2.heap.size + 1) (x := .int .i64 0) (y := .int .i64 0) (by simp)
    have BW2 := hidp (Bw.push (Bw.push BY2.out (.int .u64 (hiw y)) (.int .u64 (low y)) 24) (.int .i64 0) (.int .i64 0) 42)
    have V2 := hidp ((V2.out.alloc V2.out.size (.cells #[.int .u64 (hiw y), .int .u64 (low y)] 24)).alloc (by have := V2.out.size; simp; omega) (.cells #[.int .i64 0, .int .i64 0] 42))
    clear BW1 BY2
    go_wp2_with fail
    refine (KY.out _).mono ?_
    rintro x w4 ⟨rfl, hN⟩
    clear ca0 ca1 cal cx0 cx1 cxl cf0 cf1 cfl
    have BW3 := hidp (BW2.out.step hN)
    have V3 := hidp (btrans V2.out hN)
    obtain ⟨ca0, ca1, cal⟩ := BW3.out.get (b := w.heap.size) (x := .int .u64 (hiw a)) (y := .int .u64 (low a)) (by simp)
    obtain ⟨cb0, cb1, cbl⟩ := BW3.out.get (b := w.heap.size + 1) (x := .int .u64 (hiw b)) (y := .int .u64 (low b)) (by simp)
    obtain ⟨cg0, cg1, cgl⟩ := BW3.out.get (b := w3.heap.size + 1) (x := .int .i64 0) (y := .int .i64 0) (by simp)
    clear BW2 V2 hN
    go_wp2_with fail
    with_reducible refine (KC.out _).mono ?_
    rintro x w5 ⟨rfl, hN⟩
    clear ca0 ca1 cal cb0 cb1 cbl cg0 cg1 cgl
    have BW4 := hidp (BW3.out.step hN)
    have V4 := hidp (btrans V3.out hN)
    clear BW3 V3 hN
    obtain ⟨ca0, ca1, cal⟩ := BW4.out.get (b := w.heap.size) (x := .int .u64 (hiw a)) (y := .int .u64 (low a)) (by simp)
    obtain ⟨cb0, cb1, cbl⟩ := BW4.out.get (b := w.heap.size + 1) (x := .int .u64 (hiw b)) (y := .int .u64 (low b)) (by simp)
    go_wp2_with fail
    with_reducible refine (KD.out _).mono ?_
    rintro x w6 ⟨rfl, hN⟩
    have V5 := hidp (btrans V4.out hN)
    clear V4 hN
    go_wp2
    go_ret
    exact ⟨rfl, V5.out⟩

set_option maxRecDepth 100000 in
set_option maxHeartbeats 8000000 in
theorem back_15 (a b y : Nat) (t u s : ByteArray) (w : World) (h100 : s.size ≤ 100)
    (hTa : ∀ w, Calls Try.prog 29 #[wv a] w fun e w' => e = .returned (.string t) ∧ Below w.heap.size w w')
    (hTb : ∀ w, Calls Try.prog 29 #[wv b] w fun e w' => e = .returned (.string u) ∧ Below w.heap.size w w')
    (hRt : ∀ w, Calls Try.prog 27 #[.string t] w fun e w' => e = .returned (.tuple #[wv a, fv 0 0]) ∧ Below w.heap.size w w')
    (hRs : ∀ w, Calls Try.prog 27 #[.string s] w fun x w' => x = .returned (.tuple #[wv y, fv 0 0]) ∧ Below w.heap.size w w')
    (hY : ∀ w, Calls Try.prog 29 #[wv y] w fun e w' => e = .returned (.string s) ∧ Below w.heap.size w w')
    (hC : ∀ w, Calls Try.prog 20 #[wv a, wv b] w fun e w' => e = .returned (.int .i64 1) ∧ Below w.heap.size w w')
    (hD : ∀ w, Calls Try.prog 20 #[wv b, wv a] w fun e w' => e = .returned (.int .i64 (-1)) ∧ Below w.heap.size w w') (o1 : u.size ≤ t.size) (o2 : ((t.size : Int) == (u.size : Int)) = true) (o3 : Op.bytesLess t.toList u.toList = false) (o4 : (t.toList == u.toList) = false) :
    Calls Try.prog 9 #[wv a, wv b, .string s] w fun e w' => e = .returned (.bool true) ∧ Below w.heap.size w w' := by
  have KTa := hidp hTa; have KTb := hidp hTb; have KRt := hidp hRt; have KRs := hidp hRs; have KC := hidp hC; have KD := hidp hD; have KY := hidp hY
  clear hTa hTb hRt hRs hC hD hY
  have hT : Hid (Sz w w a b ((w.alloc (.cells #[.int .u64 (hiw a), .int .u64 (low a)] 24)).alloc (.cells #[.int .u64 (hiw b), .int .u64 (low b)] 24))) := by
    have c1 := (Blk.new w [.int .u64 (hiw a), .int .u64 (low a)] 24).alloc (.cells #[.int .u64 (hiw b), .int .u64 (low b)] 24)
    have c2 := Blk.new' (w.alloc (.cells #[.int .u64 (hiw a), .int .u64 (low a)] 24)) [.int .u64 (hiw b), .int .u64 (low b)] 24 (w.heap.size + 1) (by simp)
    have hb := ((Below.refl w.heap.size w).alloc (Nat.le_refl _) (.cells #[.int .u64 (hiw a), .int .u64 (low a)] 24)).alloc (by simp) (.cells #[.int .u64 (hiw b), .int .u64 (low b)] 24)
    exact hidp ⟨hb, hb, c1.lt, c2.lt, c1.cell 0, c1.cell 1, c2.cell 0, c2.cell 1⟩
  go_enter Try.func9, Try.ntmps9
  go_wp2_with fail
  refine (known_any _).mono ?_
  rintro e wN ⟨rfl, hN⟩; have hT := stepZ (by first | with_reducible assumption | exact drewZ (by with_reducible assumption)) hN; clear hN
  go_wp2_with fail
  go_region_held3 (fun w' => Below w.heap.size w w' ∧ Below w.heap.size w w' ∧ w.heap.size < w'.heap.size ∧ w.heap.size + 1 < w'.heap.size ∧ w'.cell? ⟨w.heap.size, 0, none⟩ = some (.int .u64 (hiw a)) ∧ w'.cell? ⟨w.heap.size, 1, none⟩ = some (.int .u64 (low a)) ∧ w'.cell? ⟨w.heap.size + 1, 0, none⟩ = some (.int .u64 (hiw b)) ∧ w'.cell? ⟨w.heap.size + 1, 1, none⟩ = some (.int .u64 (low b)))
    (first | (with_reducible exact Hid.out (p := Sz w w a b _) (by with_reducible assumption)) | exact Hid.out (p := Sz w w a b _) (by with_reducible assumption) | exact Hid.out (p := Sz w w a b _) (drewZ (by with_reducible assumption)))
    (first
     | (go_at_call 29; with_reducible refine (KTa.out _).mono ?_; rintro e wN ⟨rfl, hN⟩; have hT := stepZ (by first | with_reducible assumption | exact drewZ (by with_reducible assumption)) hN; clear hN)
     | (go_at_call 29; with_reducible refine (KTb.out _).mono ?_; rintro e wN ⟨rfl, hN⟩; have hT := stepZ (by first | with_reducible assumption | exact drewZ (by with_reducible assumption)) hN; clear hN))
  all_goals
    go_wp2_with fail
    refine (KRt.out _).mono ?_
    rintro x w2 ⟨rfl, hN⟩
    have BW1 := hidp ((Bw.push (Bw.push (Bw.step (by first | exact bw_of hT | exact bw_of (drewZ hT)) hN) (.int .u64 (hiw a)) (.int .u64 (low a)) 24) (.int .i64 0) (.int .i64 0) 42))
    have V1 := hidp (btrans (by first | exact hT.out.1 | exact hT.out.1.drew) hN)
    have V1 := hidp ((V1.out.alloc V1.out.size (.cells #[.int .u64 (hiw a), .int .u64 (low a)] 24)).alloc (by have := V1.out.size; simp; omega) (.cells #[.int .i64 0, .int .i64 0] 42))
    clear hN hT
    go_wp2_with fail
    refine (KRs.out _).mono ?_
    rintro x w3 ⟨rfl, hN⟩
    have BY2 := hidp (BW1.out.step hN)
    have V2 := hidp (btrans V1.out hN)
    clear V1 hN
    obtain ⟨ca0, ca1, cal⟩ := BY2.out.get (b := w.heap.size) (x := .int .u64 (hiw a)) (y := .int .u64 (low a)) (by simp)
    obtain ⟨cx0, cx1, cxl⟩ := BY2.out.get (b := w2.heap.size) (x := .int .u64 (hiw a)) (y := .int .u64 (low a)) (by simp)
    obtain ⟨cf0, cf1, cfl⟩ := BY2.out.get (b := w2.heap.size + 1) (x := .int .i64 0) (y := .int .i64 0) (by simp)
    have BW2 := hidp (Bw.push (Bw.push BY2.out (.int .u64 (hiw y)) (.int .u64 (low y)) 24) (.int .i64 0) (.int .i64 0) 42)
    have V2 := hidp ((V2.out.alloc V2.out.size (.cells #[.int .u64 (hiw y), .int .u64 (low y)] 24)).alloc (by have := V2.out.size; simp; omega) (.cells #[.int .i64 0, .int .i64 0] 42))
    clear BW1 BY2
    go_wp2_with fail
    refine (KY.out _).mono ?_
    rintro x w4 ⟨rfl, hN⟩
    clear ca0 ca1 cal cx0 cx1 cxl cf0 cf1 cfl
    have BW3 := hidp (BW2.out.step hN)
    have V3 := hidp (btrans V2.out hN)
    obtain ⟨ca0, ca1, cal⟩ := BW3.out.get (b := w.heap.size) (x := .int .u64 (hiw a)) (y := .int .u64 (low a)) (by simp)
    obtain ⟨cb0, cb1, cbl⟩ := BW3.out.get (b := w.heap.size + 1) (x := .int .u64 (hiw b)) (y := .int .u64 (low b)) (by simp)
    obtain ⟨cg0, cg1, cgl⟩ := BW3.out.get (b := w3.heap.size + 1) (x := .int .i64 0) (y := .int .i64 0) (by simp)
    clear BW2 V2 hN
    go_wp2_with fail
    with_reducible refine (KC.out _).mono ?_
    rintro x w5 ⟨rfl, hN⟩
    clear ca0 ca1 cal cb0 cb1 cbl cg0 cg1 cgl
    have BW4 := hidp (BW3.out.step hN)
    have V4 := hidp (btrans V3.out hN)
    clear BW3 V3 hN
    obtain ⟨ca0, ca1, cal⟩ := BW4.out.get (b := w.heap.size) (x := .int .u64 (hiw a)) (y := .int .u64 (low a)) (by simp)
    obtain ⟨cb0, cb1, cbl⟩ := BW4.out.get (b := w.heap.size + 1) (x := .int .u64 (hiw b)) (y := .int .u64 (low b)) (by simp)
    go_wp2_with fail
    with_reducible refine (KD.out _).mono ?_
    rintro x w6 ⟨rfl, hN⟩
    have V5 := hidp (btrans V4.out hN)
    clear V4 hN
    go_wp2
    go_ret
    exact ⟨rfl, V5.out⟩

end Go.Proofs.Ytbldmenaaedffaa
