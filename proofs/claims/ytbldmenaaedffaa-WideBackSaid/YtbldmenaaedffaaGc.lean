/-
  The walk of landfalllaw01's WideSums.
-/
import Derived.Test.YtbldmenaaedffaaGb
import Derived.Test.YtbldmenaaedffaaKa
import Derived.Test.YtbldmenaaedffaaPa
namespace Go.Proofs.Ytbldmenaaedffaa
open Go.RowKit

/-- Boxes that hold wides. -/
def Bx (w : World) (L : List (Nat × Nat)) : Prop := ∀ p ∈ L, Blk w p.1 [.int .u64 (hiw p.2), .int .u64 (low p.2)] 24
theorem Bx.nil (w : World) : Bx w [] := fun p hp => by cases hp
theorem Bx.step {w w' : World} {L : List (Nat × Nat)} (h : Bx w L) (hB : Below w.heap.size w w') : Bx w' L := fun p hp => (h p hp).below hB (h p hp).lt
theorem Bx.push {w : World} {L : List (Nat × Nat)} (h : Bx w L) (r : Nat) : Bx (w.alloc (.cells #[.int .u64 (hiw r), .int .u64 (low r)] 24)) ((w.heap.size, r) :: L) := by
  intro p hp
  rcases List.mem_cons.1 hp with rfl | hp
  · exact Blk.new w [.int .u64 (hiw r), .int .u64 (low r)] 24
  · exact (h p hp).alloc _
theorem Bx.get {w : World} {L : List (Nat × Nat)} (h : Bx w L) {b r : Nat} (hm : (b, r) ∈ L) : w.cell? ⟨b, 0, none⟩ = some (.int .u64 (hiw r)) ∧ w.cell? ⟨b, 1, none⟩ = some (.int .u64 (low r)) ∧ b < w.heap.size :=
  ⟨(h _ hm).cell 0, (h _ hm).cell 1, (h _ hm).lt⟩
theorem ints_of_row {w : World} {g : Nat} {ys : List Int} (h : RowAt w (some ⟨g, 0, none⟩) ys) : IntsAt w (some ⟨g, 0, none⟩) ys := by
  intro k hk
  obtain ⟨x, hx, hc⟩ := h k hk
  cases hx
  refine ⟨g, 0, rfl, ?_⟩
  rw [Addr.add_lit] at hc
  exact hc

/-- All below is as it was, twice, and both boxes hold their wides. -/
def Sz (w w1 : World) (a b : Nat) (w' : World) : Prop := Below w.heap.size w w' ∧ Below w1.heap.size w1 w' ∧ w.heap.size < w'.heap.size ∧ w.heap.size + 1 < w'.heap.size ∧ w'.cell? ⟨w.heap.size, 0, none⟩ = some (.int .u64 (hiw a)) ∧ w'.cell? ⟨w.heap.size, 1, none⟩ = some (.int .u64 (low a)) ∧ w'.cell? ⟨w.heap.size + 1, 0, none⟩ = some (.int .u64 (hiw b)) ∧ w'.cell? ⟨w.heap.size + 1, 1, none⟩ = some (.int .u64 (low b))
theorem stepZ {w w1 w2 w3 : World} {a b : Nat} (h : Hid (Sz w w1 a b w2)) (k : Below w2.heap.size w2 w3) : Hid (Sz w w1 a b w3) := by
  obtain ⟨h0, h1, h2, h3, h4, h5, h6, h7⟩ := h.out
  exact hidp ⟨btrans h0 k, btrans h1 k, Nat.lt_of_lt_of_le h2 k.size, Nat.lt_of_lt_of_le h3 k.size, (k.cell (p := ⟨w.heap.size, 0, none⟩) h2).trans h4, (k.cell (p := ⟨w.heap.size, 1, none⟩) h2).trans h5, (k.cell (p := ⟨w.heap.size + 1, 0, none⟩) h3).trans h6, (k.cell (p := ⟨w.heap.size + 1, 1, none⟩) h3).trans h7⟩
theorem drewZ {w w1 w2 : World} {a b : Nat} (h : Hid (Sz w w1 a b w2)) : Hid (Sz w w1 a b w2.drew) := by
  obtain ⟨h0, h1, h2, h3, h4, h5, h6, h7⟩ := h.out
  exact hidp ⟨h0.drew, h1.drew, h2, h3, h4, h5, h6, h7⟩
theorem Sum_val {ys : List Int} {V : Value} (h : sumV ys = V) (a : Option Addr) (cap : Nat) (w : World) (hl : ys.length ≤ 1000) (hm : ∀ z ∈ ys, z ≤ 9223372036854775807) (hc : IntsAt w a ys) :
    Calls Try.prog 18 #[.slice a ys.length cap] w fun e w' => e = .returned V ∧ Below w.heap.size w w' := by
  rw [← h]; exact Sum_any a _ cap ys w hl hm rfl hc
theorem refSum_val {ys : List Int} {V : Value} (h : sumV ys = V) (a : Option Addr) (cap : Nat) (w : World) (hl : ys.length ≤ 1000) (hm : ∀ z ∈ ys, z ≤ 9223372036854775807) (hc : RowAt w a ys) :
    Calls Try.prog 19 #[.slice a ys.length cap] w fun e w' => e = .returned V ∧ Below w.heap.size w w' := by
  rw [← h]; exact refSum_any a cap ys w hl hm hc
theorem lawSums_long (a b : Nat) (n : Int) (s : Option Addr) (len cap : Nat) (w : World) (h : 80 < len) :
    Calls Try.prog 3 #[wv a, wv b, .int .i64 n, .slice s len cap] w fun e w' => e = .returned (.bool true) ∧ Below w.heap.size w w' := by
  go_enter Try.func3, Try.ntmps3
  go_wp2_with (go_at_call 10; refine (awake_any _).mono ?_; rintro e w6 ⟨rfl, hN⟩)
  go_ret
  exact ⟨rfl, by (repeat' (first | (with_reducible exact Below.refl _ _) | (with_reducible refine Below.alloc ?_ ?_ _) | (with_reducible refine Below.drew ?_) | (with_reducible refine Below.drewN ?_ _) | (with_reducible refine Below.setCell ?_ ?_ _) | (with_reducible refine Below.trans ?_ (Below.mono hN ?_)) | go_size | (have i0_ := hN.size; (try simp at i0_); (try simp); omega)))⟩

set_option maxRecDepth 100000 in
set_option maxHeartbeats 4000000 in
theorem lawSums_walk (a b : Nat) (n : Int) (s : Option Addr) (cap : Nat) (ys : List Int) (w : World) (hl : ys.length ≤ 80) (hm : ∀ z ∈ ys, z ≤ 9223372036854775807) (hr : RowAt w s ys) (hs : s = none → ys = [] ∧ cap = 0)
    (rO rP rT rS : Nat) (xO xP xT xS : Int) (hS : sumV ys = .tuple #[wv rS, .int .i64 xS])
    (hO : ∀ w, Calls Try.prog 12 #[.int .i64 n] w fun e w' => e = .returned (.tuple #[wv rO, .int .i64 xO]) ∧ Below w.heap.size w w')
    (hO2 : ∀ w, Calls Try.prog 13 #[.int .i64 n] w fun e w' => e = .returned (.tuple #[wv rO, .int .i64 xO]) ∧ Below w.heap.size w w')
    (hP : ∀ w, Calls Try.prog 14 #[wv a, wv b] w fun e w' => e = .returned (.tuple #[wv rP, .int .i64 xP]) ∧ Below w.heap.size w w')
    (hP2 : ∀ w, Calls Try.prog 15 #[wv a, wv b] w fun e w' => e = .returned (.tuple #[wv rP, .int .i64 xP]) ∧ Below w.heap.size w w')
    (hT : ∀ w, Calls Try.prog 16 #[wv a, .int .i64 n] w fun e w' => e = .returned (.tuple #[wv rT, .int .i64 xT]) ∧ Below w.heap.size w w')
    (hT2 : ∀ w, Calls Try.prog 17 #[wv a, .int .i64 n] w fun e w' => e = .returned (.tuple #[wv rT, .int .i64 xT]) ∧ Below w.heap.size w w') :
    Calls Try.prog 3 #[wv a, wv b, .int .i64 n, .slice s ys.length cap] w fun e w' => e = .returned (.bool true) ∧ Below w.heap.size w w' := by
  have HM := hidp hm; have HR := hidp hr; have HSN := hidp hs; have HSV := hidp hS
  have HO := hidp hO; have HO2 := hidp hO2; have HP := hidp hP; have HP2 := hidp hP2; have HT := hidp hT; have HT2 := hidp hT2
  clear hm hr hs hS hO hO2 hP hP2 hT hT2
  have BX := hidp (((Bx.nil w).push a).push b)
  have hV0 := hidp (((Below.refl w.heap.size w).alloc (Nat.le_refl _) (.cells #[.int .u64 (hiw a), .int .u64 (low a)] 24)).alloc (by simp) (.cells #[.int .u64 (hiw b), .int .u64 (low b)] 24))
  go_enter Try.func3, Try.ntmps3
  go_wp2_with fail
  refine (CopyInts_any s cap ys _ (by omega) (HR.out.below hV0.out) HSN.out).mono ?_
  rintro e w1 ⟨g, cp, rfl, hg, hN⟩
  have BX1 := hidp (BX.out.step hN)
  have V1 := hidp (hV0.out.trans (hN.mono hV0.out.size))
  clear BX hV0 hN
  go_wp2_with fail
  refine (HO.out _).mono ?_
  rintro e w2 ⟨rfl, hN⟩
  have BX2 := hidp ((BX1.out.step hN).push rO)
  have V2 := hidp (btrans V1.out hN)
  have U2 := hidp hN
  clear BX1 hN
  go_wp2_with fail
  refine (HO2.out _).mono ?_
  rintro e w3 ⟨rfl, hN⟩
  have BX3 := hidp ((BX2.out.step hN).push rO)
  have V3 := hidp (btrans (V2.out.alloc V2.out.size _) hN)
  have U3 := hidp (btrans (U2.out.alloc U2.out.size _) hN)
  obtain ⟨ca0, ca1, cal⟩ := (BX2.out.step hN).get (b := w.heap.size) (r := a) (by simp)
  obtain ⟨cb0, cb1, cbl⟩ := (BX2.out.step hN).get (b := w.heap.size + 1) (r := b) (by simp)
  clear hN
  go_wp2_with fail
  refine (HP.out _).mono ?_
  rintro e w4 ⟨rfl, hN⟩
  clear ca0 ca1 cal
  clear cb0 cb1 cbl
  have BX4 := hidp ((BX3.out.step hN).push rP)
  have V4 := hidp (btrans (V3.out.alloc V3.out.size _) hN)
  have U4 := hidp (btrans (U3.out.alloc U3.out.size _) hN)
  obtain ⟨ca0, ca1, cal⟩ := (BX3.out.step hN).get (b := w.heap.size) (r := a) (by simp)
  obtain ⟨cb0, cb1, cbl⟩ := (BX3.out.step hN).get (b := w.heap.size + 1) (r := b) (by simp)
  clear hN
  go_wp2_with fail
  refine (HP2.out _).mono ?_
  rintro e w5 ⟨rfl, hN⟩
  clear ca0 ca1 cal
  clear cb0 cb1 cbl
  have BX5 := hidp ((BX4.out.step hN).push rP)
  have V5 := hidp (btrans (V4.out.alloc V4.out.size _) hN)
  have U5 := hidp (btrans (U4.out.alloc U4.out.size _) hN)
  obtain ⟨ca0, ca1, cal⟩ := (BX4.out.step hN).get (b := w.heap.size) (r := a) (by simp)
  clear hN
  go_wp2_with fail
  refine (HT.out _).mono ?_
  rintro e w6 ⟨rfl, hN⟩
  clear ca0 ca1 cal
  have BX6 := hidp ((BX5.out.step hN).push rT)
  have V6 := hidp (btrans (V5.out.alloc V5.out.size _) hN)
  have U6 := hidp (btrans (U5.out.alloc U5.out.size _) hN)
  obtain ⟨ca0, ca1, cal⟩ := (BX5.out.step hN).get (b := w.heap.size) (r := a) (by simp)
  clear hN
  go_wp2_with fail
  refine (HT2.out _).mono ?_
  rintro e w7 ⟨rfl, hN⟩
  clear ca0 ca1 cal
  have BX7 := hidp ((BX6.out.step hN).push rT)
  have V7 := hidp (btrans (V6.out.alloc V6.out.size _) hN)
  have U7 := hidp (btrans (U6.out.alloc U6.out.size _) hN)
  clear hN
  go_wp2_with fail
  refine (Sum_val HSV.out _ _ _ (by omega) HM.out (ints_of_row (hg.out.below (U7.out.alloc U7.out.size (.cells #[.int .u64 (hiw rT), .int .u64 (low rT)] 24))))).mono ?_
  rintro e w8 ⟨rfl, hN⟩
  have BX8 := hidp ((BX7.out.step hN).push rS)
  have V8 := hidp (btrans (V7.out.alloc V7.out.size _) hN)
  have U8 := hidp (btrans (U7.out.alloc U7.out.size _) hN)
  clear hN
  go_wp2_with fail
  refine (refSum_val HSV.out _ _ _ (by omega) HM.out (HR.out.below (V8.out.alloc V8.out.size (.cells #[.int .u64 (hiw rS), .int .u64 (low rS)] 24)))).mono ?_
  rintro e w9 ⟨rfl, hN⟩
  have BX9 := hidp ((BX8.out.step hN).push rS)
  have V9 := hidp (btrans (V8.out.alloc V8.out.size _) hN)
  have U9 := hidp (btrans (U8.out.alloc U8.out.size _) hN)
  obtain ⟨ca0, ca1, cal⟩ := (BX8.out.step hN).get (b := w.heap.size) (r := a) (by simp)
  obtain ⟨cb0, cb1, cbl⟩ := (BX8.out.step hN).get (b := w.heap.size + 1) (r := b) (by simp)
  obtain ⟨c20, c21, c2l⟩ := (BX8.out.step hN).get (b := w2.heap.size) (r := rO) (by simp)
  obtain ⟨c30, c31, c3l⟩ := (BX8.out.step hN).get (b := w3.heap.size) (r := rO) (by simp)
  obtain ⟨c40, c41, c4l⟩ := (BX8.out.step hN).get (b := w4.heap.size) (r := rP) (by simp)
  obtain ⟨c50, c51, c5l⟩ := (BX8.out.step hN).get (b := w5.heap.size) (r := rP) (by simp)
  obtain ⟨c60, c61, c6l⟩ := (BX8.out.step hN).get (b := w6.heap.size) (r := rT) (by simp)
  obtain ⟨c70, c71, c7l⟩ := (BX8.out.step hN).get (b := w7.heap.size) (r := rT) (by simp)
  obtain ⟨c80, c81, c8l⟩ := (BX8.out.step hN).get (b := w8.heap.size) (r := rS) (by simp)
  clear hN
  go_wp2_with fail
  have hT : Hid (Sz w w1 a b (w9.alloc (.cells #[.int .u64 (hiw rS), .int .u64 (low rS)] 24))) := by
    obtain ⟨p0, p1, p2⟩ := BX9.out.get (b := w.heap.size) (r := a) (by simp)
    obtain ⟨q0, q1, q2⟩ := BX9.out.get (b := w.heap.size + 1) (r := b) (by simp)
    exact hidp ⟨V9.out.alloc V9.out.size _, U9.out.alloc U9.out.size _, p2, q2, p0, p1, q0, q1⟩
  clear BX2 BX3 BX4 BX5 BX6 BX7 BX8 BX9 V1 V2 V3 V4 V5 V6 V7 V8 V9 U2 U3 U4 U5 U6 U7 U8 U9
  have e1 : (cmpI a b == cmpI a b) = true := by simp
  have e2 : (clampI a == clampI a) = true := by simp
  go_region_held3 (fun w' => Below w.heap.size w w' ∧ Below w1.heap.size w1 w' ∧ w.heap.size < w'.heap.size ∧ w.heap.size + 1 < w'.heap.size ∧ w'.cell? ⟨w.heap.size, 0, none⟩ = some (.int .u64 (hiw a)) ∧ w'.cell? ⟨w.heap.size, 1, none⟩ = some (.int .u64 (low a)) ∧ w'.cell? ⟨w.heap.size + 1, 0, none⟩ = some (.int .u64 (hiw b)) ∧ w'.cell? ⟨w.heap.size + 1, 1, none⟩ = some (.int .u64 (low b)))
    (first | (with_reducible exact Hid.out (p := Sz w w1 a b _) (by with_reducible assumption)) | exact Hid.out (p := Sz w w1 a b _) (by with_reducible assumption) | exact Hid.out (p := Sz w w1 a b _) (drewZ (by with_reducible assumption)))
    (first
     | (go_at_call 20; refine (Cmp_any a b _).mono ?_; rintro e wN ⟨rfl, hN⟩; have hT := stepZ (by first | with_reducible assumption | exact drewZ (by with_reducible assumption)) hN; clear hN)
     | (go_at_call 21; refine (refCmp_any a b _).mono ?_; rintro e wN ⟨rfl, hN⟩; have hT := stepZ (by first | with_reducible assumption | exact drewZ (by with_reducible assumption)) hN; clear hN)
     | (go_at_call 22; refine (Clamp_any a _).mono ?_; rintro e wN ⟨rfl, hN⟩; have hT := stepZ (by first | with_reducible assumption | exact drewZ (by with_reducible assumption)) hN; clear hN)
     | (go_at_call 23; refine (refClamp_any a _).mono ?_; rintro e wN ⟨rfl, hN⟩; have hT := stepZ (by first | with_reducible assumption | exact drewZ (by with_reducible assumption)) hN; clear hN)
     | (go_at_call 24; refine (SameInts_any _ _ _ _ ys _ (by omega) (hg.out.below (by first | exact hT.out.2.1 | exact hT.out.2.1.drew)) (HR.out.below (by first | exact hT.out.1 | exact hT.out.1.drew))).mono ?_; rintro e wN ⟨rfl, hN⟩; have hT := stepZ (by first | with_reducible assumption | exact drewZ (by with_reducible assumption)) hN; clear hN)
     | (go_at_call 10; refine (awake_any _).mono ?_; rintro e wN ⟨rfl, hN⟩; have hT := stepZ (by first | with_reducible assumption | exact drewZ (by with_reducible assumption)) hN; clear hN))
  all_goals go_wp2
  all_goals go_ret
  all_goals exact ⟨rfl, by first | exact hT.out.1 | exact hT.out.1.drew⟩
end Go.Proofs.Ytbldmenaaedffaa
