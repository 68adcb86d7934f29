/-
  Texts Jc, Jd, Je, Jf, one behind the other.
-/
import Derived.Test.YtcmkmnidnapabaaGreatQa
import Derived.Defers
import Derived.Recover

/-! Jc: Contracts: a cursor takes bytes. -/
namespace Go.Proofs.YtcmkmnidnapabaaGreat
open Go.RowKit Go.Lib Go.Maps

theorem run_part_l (a : Option Addr) (len cap n : Nat) (h : n ≤ len) (w : World) : (Instr.sliceAt 35 (.slice a len cap) (some (.int .i64 (n : Int))) none none).run Tryz.prog w = .ok (.slice (partA a cap n) (len - n) (cap - n)) w := by
  rw [run_sliceAt_slice (h := under_bytes), run_slice_l (ht := under_bytes) (l := (n : Int)) (h0 := by omega) (h1 := by omega), elem_bytes, run_size_byte]
  simp only [Result.andThen_ok, sliced, Nat.mul_one]
  rw [show (n : Int).toNat = n by omega]
  rfl
theorem getD_drop (L : List Nat) (n i : Nat) : (L.drop n).getD i 0 = L.getD (n + i) 0 := by
  rw [List.getD_eq_getElem?_getD, List.getD_eq_getElem?_getD, List.getElem?_drop]
theorem Bs.take {w : World} {p : Option Addr} {b o cap : Nat} {L : List Nat} (h : Bs w p b o L cap) (n : Nat) : Bs w p b o (L.take n) cap := by
  refine ⟨fun x hx => h.byte x (List.mem_of_mem_take hx), by have := h.le; rw [List.length_take]; omega, h.ptr, fun i hi => ?_⟩
  rw [List.length_take] at hi
  rw [h.here i (by omega), getD_take (by omega)]
theorem Bs.drop {w : World} {p : Option Addr} {b o cap : Nat} {L : List Nat} (h : Bs w p b o L cap) {n : Nat} (hn : n ≤ L.length) : Bs w (partA p cap n) b (o + n) (L.drop n) (cap - n) := by
  have hle := h.le
  refine ⟨fun x hx => h.byte x (List.mem_of_mem_drop hx), by rw [List.length_drop]; omega, fun h0 => ?_, fun i hi => ?_⟩
  · obtain ⟨h1, h2⟩ := h.ptr (by omega)
    refine ⟨?_, h2⟩
    unfold partA
    rw [if_neg (by omega), h1]
    simp [Addr.add_mid]
  · rw [List.length_drop] at hi
    rw [Nat.add_assoc, h.here (n + i) (by omega), getD_drop]

/-- A cursor lies in block c: a place, and the bytes from there on. -/
structure Cu (w : World) (c t : Nat) (p : Option Addr) (b o cap : Nat) (R : List Nat) : Prop where
  blk : Blk w c [.int .i64 (t : Nat), .slice p R.length cap] 213
  bs : Bs w p b o R cap
  ne : 0 < cap → c ≠ b
  lim : t + R.length ≤ 1000000000
theorem Bs.bex {g : Nat} {w w' : World} {p : Option Addr} {b o cap : Nat} {L : List Nat} (h : Bs w p b o L cap) (hb : Bex g w w') (hne : 0 < cap → g ≠ b) : Bs w' p b o L cap := by
  refine ⟨h.byte, h.le, fun h0 => ⟨(h.ptr h0).1, Nat.lt_of_lt_of_le (h.ptr h0).2 hb.size⟩, fun i hi => ?_⟩
  have h0 : 0 < cap := by have := h.le; omega
  exact (World.cell?_of_block (a := ⟨b, o + i, none⟩) (hb.block b (h.ptr h0).2 (fun e => hne h0 e.symm))).trans (h.here i hi)
/-- The next n bytes are passed. -/
theorem Cu.pass {w : World} {c t : Nat} {p : Option Addr} {b o cap : Nat} {R : List Nat} (H : Cu w c t p b o cap R) {n : Nat} (hn : n ≤ R.length) :
    Cu ((w.setCell ⟨c, 1, none⟩ (.slice (partA p cap n) (R.length - n) (cap - n))).setCell ⟨c, 0, none⟩ (.int .i64 (t + n : Nat))) c (t + n) (partA p cap n) b (o + n) (cap - n) (R.drop n) ∧
    Bs ((w.setCell ⟨c, 1, none⟩ (.slice (partA p cap n) (R.length - n) (cap - n))).setCell ⟨c, 0, none⟩ (.int .i64 (t + n : Nat))) p b o (R.take n) cap ∧
    Bex c w ((w.setCell ⟨c, 1, none⟩ (.slice (partA p cap n) (R.length - n) (cap - n))).setCell ⟨c, 0, none⟩ (.int .i64 (t + n : Nat))) := by
  have hx : Bex c w ((w.setCell ⟨c, 1, none⟩ (.slice (partA p cap n) (R.length - n) (cap - n))).setCell ⟨c, 0, none⟩ (.int .i64 (t + n : Nat))) := ((Bex.refl c w).setCell _ _).setCell _ _
  have hle := H.bs.le
  refine ⟨⟨?_, (H.bs.drop hn).bex hx (fun h0 => H.ne (by omega)), fun h0 => H.ne (by omega), by have := H.lim; rw [List.length_drop]; omega⟩, (H.bs.take n).bex hx H.ne, hx⟩
  rw [List.length_drop]
  exact (H.blk.set 1 _).set 0 _
theorem Cu.c0 {w : World} {c t : Nat} {p : Option Addr} {b o cap : Nat} {R : List Nat} (H : Cu w c t p b o cap R) : w.cell? ⟨c, 0, none⟩ = some (.int .i64 (t : Nat)) := H.blk.cell 0
theorem Cu.c1 {w : World} {c t : Nat} {p : Option Addr} {b o cap : Nat} {R : List Nat} (H : Cu w c t p b o cap R) : w.cell? ⟨c, 1, none⟩ = some (.slice p R.length cap) := H.blk.cell 1


theorem takeLead_short (c t : Nat) (p : Option Addr) (b o cap : Nat) (R : List Nat) (n : Nat) (w : World) (H : Cu w c t p b o cap R) (hn : R.length < n) :
    Calls Tryz.prog 218 #[.pointer (some ⟨c, 0, none⟩), .int .i64 (n : Nat), .func (.func 219) #[] #[]] w fun e w' => e = .panicked (brk 6) ∧ Below w.heap.size w w' := by
  have hc := H.c1
  have hgt : decide (R.length < n) = true := decide_eq_true hn
  clear H
  go_enter Tryz.func218, Tryz.ntmps218
  go_wp2
  exact ⟨rfl, rfl, by (repeat' (first | (with_reducible exact Below.refl _ _) | (with_reducible refine Below.alloc ?_ ?_ _) | (with_reducible refine Below.drew ?_) | (with_reducible refine Below.drewN ?_ _) | (with_reducible refine Below.setCell ?_ ?_ _) | go_size))⟩
theorem takeLead_ok (c t : Nat) (p : Option Addr) (b o cap : Nat) (R : List Nat) (n : Nat) (w : World) (H : Cu w c t p b o cap R) (hn : n ≤ R.length) (Q : Ending → World → Prop)
    (hof : ∀ w1, Cu w1 c (t + n) (partA p cap n) b (o + n) (cap - n) (R.drop n) → Bs w1 p b o (R.take n) cap → Bex c w w1 → Calls Tryz.prog 219 #[.slice p n cap] w1 fun e w' => (∃ v, e = .returned v ∧ Q (.returned v) w') ∨ (∃ ch, e = .panicked ch ∧ Q (.panicked ch) w')) :
    Calls Tryz.prog 218 #[.pointer (some ⟨c, 0, none⟩), .int .i64 (n : Nat), .func (.func 219) #[] #[]] w Q := by
  have hc := H.c1
  have hc0 := H.c0
  have hf0 := H.blk.free 0
  have hf1 := H.blk.free 1
  have hgt : decide (R.length < n) = false := decide_eq_false (by omega)
  have hle := H.bs.le
  have hs1 := fun w => run_part_h p R.length cap n (by omega) w
  have hs2 := fun w => run_part_l p R.length cap n hn w
  have hlim := H.lim
  have hadd : wrap64 ((t : Int) + (n : Int)) = ((t + n : Nat) : Int) := by rw [w64 _ (by omega)]; omega
  have hadd2 : IntKind.i64.wrap ((t : Int) + (n : Int)) = ((t + n : Nat) : Int) := by rw [IntKind.wrap_i64]; omega
  have hp := H.pass hn
  have hof := hidp (hof _ hp.1 hp.2.1 hp.2.2)
  obtain ⟨tn, htn⟩ : ∃ tn, tn = t + n := ⟨_, rfl⟩
  rw [← htn] at hadd hadd2 hof
  obtain ⟨pa, hpa⟩ : ∃ pa, pa = partA p cap n := ⟨_, rfl⟩
  rw [← hpa] at hs2 hof
  obtain ⟨l2, hl2⟩ : ∃ l2, l2 = R.length - n := ⟨_, rfl⟩
  rw [← hl2] at hs2 hof
  obtain ⟨c2, hc2⟩ : ∃ c2, c2 = cap - n := ⟨_, rfl⟩
  rw [← hc2] at hs2 hof
  clear H hp htn hpa hl2 hc2 hlim hle hn
  go_enter Tryz.func218, Tryz.ntmps218
  go_wp2_with fail
  refine hof.out.mono ?_
  rintro e w2 (⟨v, rfl, hQ⟩ | ⟨ch, rfl, hQ⟩)
  · have hQ := hidp hQ
    go_wp2
    exact hQ.out
  · exact ⟨rfl, hQ⟩

theorem takeNum_short (c t : Nat) (p : Option Addr) (b o cap : Nat) (R : List Nat) (n : Nat) (w : World) (H : Cu w c t p b o cap R) (hn : R.length < n) :
    Calls Tryz.prog 218 #[.pointer (some ⟨c, 0, none⟩), .int .i64 (n : Nat), .func (.func 220) #[] #[]] w fun e w' => e = .panicked (brk 6) ∧ Below w.heap.size w w' := by
  have hc := H.c1
  have hgt : decide (R.length < n) = true := decide_eq_true hn
  clear H
  go_enter Tryz.func218, Tryz.ntmps218
  go_wp2
  exact ⟨rfl, rfl, by (repeat' (first | (with_reducible exact Below.refl _ _) | (with_reducible refine Below.alloc ?_ ?_ _) | (with_reducible refine Below.drew ?_) | (with_reducible refine Below.drewN ?_ _) | (with_reducible refine Below.setCell ?_ ?_ _) | go_size))⟩
theorem takeNum_ok (c t : Nat) (p : Option Addr) (b o cap : Nat) (R : List Nat) (n : Nat) (w : World) (H : Cu w c t p b o cap R) (hn : n ≤ R.length) (Q : Ending → World → Prop)
    (hof : ∀ w1, Cu w1 c (t + n) (partA p cap n) b (o + n) (cap - n) (R.drop n) → Bs w1 p b o (R.take n) cap → Bex c w w1 → Calls Tryz.prog 220 #[.slice p n cap] w1 fun e w' => (∃ v, e = .returned v ∧ Q (.returned v) w') ∨ (∃ ch, e = .panicked ch ∧ Q (.panicked ch) w')) :
    Calls Tryz.prog 218 #[.pointer (some ⟨c, 0, none⟩), .int .i64 (n : Nat), .func (.func 220) #[] #[]] w Q := by
  have hc := H.c1
  have hc0 := H.c0
  have hf0 := H.blk.free 0
  have hf1 := H.blk.free 1
  have hgt : decide (R.length < n) = false := decide_eq_false (by omega)
  have hle := H.bs.le
  have hs1 := fun w => run_part_h p R.length cap n (by omega) w
  have hs2 := fun w => run_part_l p R.length cap n hn w
  have hlim := H.lim
  have hadd : wrap64 ((t : Int) + (n : Int)) = ((t + n : Nat) : Int) := by rw [w64 _ (by omega)]; omega
  have hadd2 : IntKind.i64.wrap ((t : Int) + (n : Int)) = ((t + n : Nat) : Int) := by rw [IntKind.wrap_i64]; omega
  have hp := H.pass hn
  have hof := hidp (hof _ hp.1 hp.2.1 hp.2.2)
  obtain ⟨tn, htn⟩ : ∃ tn, tn = t + n := ⟨_, rfl⟩
  rw [← htn] at hadd hadd2 hof
  obtain ⟨pa, hpa⟩ : ∃ pa, pa = partA p cap n := ⟨_, rfl⟩
  rw [← hpa] at hs2 hof
  obtain ⟨l2, hl2⟩ : ∃ l2, l2 = R.length - n := ⟨_, rfl⟩
  rw [← hl2] at hs2 hof
  obtain ⟨c2, hc2⟩ : ∃ c2, c2 = cap - n := ⟨_, rfl⟩
  rw [← hc2] at hs2 hof
  clear H hp htn hpa hl2 hc2 hlim hle hn
  go_enter Tryz.func218, Tryz.ntmps218
  go_wp2_with fail
  refine hof.out.mono ?_
  rintro e w2 (⟨v, rfl, hQ⟩ | ⟨ch, rfl, hQ⟩)
  · have hQ := hidp hQ
    go_wp2
    exact hQ.out
  · exact ⟨rfl, hQ⟩

theorem takeText_short (c t : Nat) (p : Option Addr) (b o cap : Nat) (R : List Nat) (n : Nat) (w : World) (H : Cu w c t p b o cap R) (hn : R.length < n) :
    Calls Tryz.prog 250 #[.pointer (some ⟨c, 0, none⟩), .int .i64 (n : Nat), .func (.func 251) #[] #[]] w fun e w' => e = .panicked (brk 6) ∧ Below w.heap.size w w' := by
  have hc := H.c1
  have hgt : decide (R.length < n) = true := decide_eq_true hn
  clear H
  go_enter Tryz.func250, Tryz.ntmps250
  go_wp2
  exact ⟨rfl, rfl, by (repeat' (first | (with_reducible exact Below.refl _ _) | (with_reducible refine Below.alloc ?_ ?_ _) | (with_reducible refine Below.drew ?_) | (with_reducible refine Below.drewN ?_ _) | (with_reducible refine Below.setCell ?_ ?_ _) | go_size))⟩
theorem takeText_ok (c t : Nat) (p : Option Addr) (b o cap : Nat) (R : List Nat) (n : Nat) (w : World) (H : Cu w c t p b o cap R) (hn : n ≤ R.length) (Q : Ending → World → Prop)
    (hof : ∀ w1, Cu w1 c (t + n) (partA p cap n) b (o + n) (cap - n) (R.drop n) → Bs w1 p b o (R.take n) cap → Bex c w w1 → Calls Tryz.prog 251 #[.slice p n cap] w1 fun e w' => (∃ v, e = .returned v ∧ Q (.returned v) w') ∨ (∃ ch, e = .panicked ch ∧ Q (.panicked ch) w')) :
    Calls Tryz.prog 250 #[.pointer (some ⟨c, 0, none⟩), .int .i64 (n : Nat), .func (.func 251) #[] #[]] w Q := by
  have hc := H.c1
  have hc0 := H.c0
  have hf0 := H.blk.free 0
  have hf1 := H.blk.free 1
  have hgt : decide (R.length < n) = false := decide_eq_false (by omega)
  have hle := H.bs.le
  have hs1 := fun w => run_part_h p R.length cap n (by omega) w
  have hs2 := fun w => run_part_l p R.length cap n hn w
  have hlim := H.lim
  have hadd : wrap64 ((t : Int) + (n : Int)) = ((t + n : Nat) : Int) := by rw [w64 _ (by omega)]; omega
  have hadd2 : IntKind.i64.wrap ((t : Int) + (n : Int)) = ((t + n : Nat) : Int) := by rw [IntKind.wrap_i64]; omega
  have hp := H.pass hn
  have hof := hidp (hof _ hp.1 hp.2.1 hp.2.2)
  obtain ⟨tn, htn⟩ : ∃ tn, tn = t + n := ⟨_, rfl⟩
  rw [← htn] at hadd hadd2 hof
  obtain ⟨pa, hpa⟩ : ∃ pa, pa = partA p cap n := ⟨_, rfl⟩
  rw [← hpa] at hs2 hof
  obtain ⟨l2, hl2⟩ : ∃ l2, l2 = R.length - n := ⟨_, rfl⟩
  rw [← hl2] at hs2 hof
  obtain ⟨c2, hc2⟩ : ∃ c2, c2 = cap - n := ⟨_, rfl⟩
  rw [← hc2] at hs2 hof
  clear H hp htn hpa hl2 hc2 hlim hle hn
  go_enter Tryz.func250, Tryz.ntmps250
  go_wp2_with fail
  refine hof.out.mono ?_
  rintro e w2 (⟨v, rfl, hQ⟩ | ⟨ch, rfl, hQ⟩)
  · have hQ := hidp hQ
    go_wp2
    exact hQ.out
  · exact ⟨rfl, hQ⟩

theorem takeBytes_short (c t : Nat) (p : Option Addr) (b o cap : Nat) (R : List Nat) (n : Nat) (w : World) (H : Cu w c t p b o cap R) (hn : R.length < n) :
    Calls Tryz.prog 246 #[.pointer (some ⟨c, 0, none⟩), .int .i64 (n : Nat), .func (.func 152) #[] #[]] w fun e w' => e = .panicked (brk 6) ∧ Below w.heap.size w w' := by
  have hc := H.c1
  have hgt : decide (R.length < n) = true := decide_eq_true hn
  clear H
  go_enter Tryz.func246, Tryz.ntmps246
  go_wp2
  exact ⟨rfl, rfl, by (repeat' (first | (with_reducible exact Below.refl _ _) | (with_reducible refine Below.alloc ?_ ?_ _) | (with_reducible refine Below.drew ?_) | (with_reducible refine Below.drewN ?_ _) | (with_reducible refine Below.setCell ?_ ?_ _) | go_size))⟩
theorem takeBytes_ok (c t : Nat) (p : Option Addr) (b o cap : Nat) (R : List Nat) (n : Nat) (w : World) (H : Cu w c t p b o cap R) (hn : n ≤ R.length) (Q : Ending → World → Prop)
    (hof : ∀ w1, Cu w1 c (t + n) (partA p cap n) b (o + n) (cap - n) (R.drop n) → Bs w1 p b o (R.take n) cap → Bex c w w1 → Calls Tryz.prog 152 #[.slice p n cap] w1 fun e w' => (∃ v, e = .returned v ∧ Q (.returned v) w') ∨ (∃ ch, e = .panicked ch ∧ Q (.panicked ch) w')) :
    Calls Tryz.prog 246 #[.pointer (some ⟨c, 0, none⟩), .int .i64 (n : Nat), .func (.func 152) #[] #[]] w Q := by
  have hc := H.c1
  have hc0 := H.c0
  have hf0 := H.blk.free 0
  have hf1 := H.blk.free 1
  have hgt : decide (R.length < n) = false := decide_eq_false (by omega)
  have hle := H.bs.le
  have hs1 := fun w => run_part_h p R.length cap n (by omega) w
  have hs2 := fun w => run_part_l p R.length cap n hn w
  have hlim := H.lim
  have hadd : wrap64 ((t : Int) + (n : Int)) = ((t + n : Nat) : Int) := by rw [w64 _ (by omega)]; omega
  have hadd2 : IntKind.i64.wrap ((t : Int) + (n : Int)) = ((t + n : Nat) : Int) := by rw [IntKind.wrap_i64]; omega
  have hp := H.pass hn
  have hof := hidp (hof _ hp.1 hp.2.1 hp.2.2)
  obtain ⟨tn, htn⟩ : ∃ tn, tn = t + n := ⟨_, rfl⟩
  rw [← htn] at hadd hadd2 hof
  obtain ⟨pa, hpa⟩ : ∃ pa, pa = partA p cap n := ⟨_, rfl⟩
  rw [← hpa] at hs2 hof
  obtain ⟨l2, hl2⟩ : ∃ l2, l2 = R.length - n := ⟨_, rfl⟩
  rw [← hl2] at hs2 hof
  obtain ⟨c2, hc2⟩ : ∃ c2, c2 = cap - n := ⟨_, rfl⟩
  rw [← hc2] at hs2 hof
  clear H hp htn hpa hl2 hc2 hlim hle hn
  go_enter Tryz.func246, Tryz.ntmps246
  go_wp2_with fail
  refine hof.out.mono ?_
  rintro e w2 (⟨v, rfl, hQ⟩ | ⟨ch, rfl, hQ⟩)
  · have hQ := hidp hQ
    go_wp2
    exact hQ.out
  · exact ⟨rfl, hQ⟩

theorem takeWord_short (c t : Nat) (p : Option Addr) (b o cap : Nat) (R : List Nat) (n : Nat) (w : World) (H : Cu w c t p b o cap R) (hn : R.length < n) :
    Calls Tryz.prog 227 #[.pointer (some ⟨c, 0, none⟩), .int .i64 (n : Nat), .func (.func 228) #[] #[]] w fun e w' => e = .panicked (brk 6) ∧ Below w.heap.size w w' := by
  have hc := H.c1
  have hgt : decide (R.length < n) = true := decide_eq_true hn
  clear H
  go_enter Tryz.func227, Tryz.ntmps227
  go_wp2
  exact ⟨rfl, rfl, by (repeat' (first | (with_reducible exact Below.refl _ _) | (with_reducible refine Below.alloc ?_ ?_ _) | (with_reducible refine Below.drew ?_) | (with_reducible refine Below.drewN ?_ _) | (with_reducible refine Below.setCell ?_ ?_ _) | go_size))⟩
theorem takeWord_ok (c t : Nat) (p : Option Addr) (b o cap : Nat) (R : List Nat) (n : Nat) (w : World) (H : Cu w c t p b o cap R) (hn : n ≤ R.length) (Q : Ending → World → Prop)
    (hof : ∀ w1, Cu w1 c (t + n) (partA p cap n) b (o + n) (cap - n) (R.drop n) → Bs w1 p b o (R.take n) cap → Bex c w w1 → Calls Tryz.prog 228 #[.slice p n cap] w1 fun e w' => (∃ v, e = .returned v ∧ Q (.returned v) w') ∨ (∃ ch, e = .panicked ch ∧ Q (.panicked ch) w')) :
    Calls Tryz.prog 227 #[.pointer (some ⟨c, 0, none⟩), .int .i64 (n : Nat), .func (.func 228) #[] #[]] w Q := by
  have hc := H.c1
  have hc0 := H.c0
  have hf0 := H.blk.free 0
  have hf1 := H.blk.free 1
  have hgt : decide (R.length < n) = false := decide_eq_false (by omega)
  have hle := H.bs.le
  have hs1 := fun w => run_part_h p R.length cap n (by omega) w
  have hs2 := fun w => run_part_l p R.length cap n hn w
  have hlim := H.lim
  have hadd : wrap64 ((t : Int) + (n : Int)) = ((t + n : Nat) : Int) := by rw [w64 _ (by omega)]; omega
  have hadd2 : IntKind.i64.wrap ((t : Int) + (n : Int)) = ((t + n : Nat) : Int) := by rw [IntKind.wrap_i64]; omega
  have hp := H.pass hn
  have hof := hidp (hof _ hp.1 hp.2.1 hp.2.2)
  obtain ⟨tn, htn⟩ : ∃ tn, tn = t + n := ⟨_, rfl⟩
  rw [← htn] at hadd hadd2 hof
  obtain ⟨pa, hpa⟩ : ∃ pa, pa = partA p cap n := ⟨_, rfl⟩
  rw [← hpa] at hs2 hof
  obtain ⟨l2, hl2⟩ : ∃ l2, l2 = R.length - n := ⟨_, rfl⟩
  rw [← hl2] at hs2 hof
  obtain ⟨c2, hc2⟩ : ∃ c2, c2 = cap - n := ⟨_, rfl⟩
  rw [← hc2] at hs2 hof
  clear H hp htn hpa hl2 hc2 hlim hle hn
  go_enter Tryz.func227, Tryz.ntmps227
  go_wp2_with fail
  refine hof.out.mono ?_
  rintro e w2 (⟨v, rfl, hQ⟩ | ⟨ch, rfl, hQ⟩)
  · have hQ := hidp hQ
    go_wp2
    exact hQ.out
  · exact ⟨rfl, hQ⟩

end Go.Proofs.YtcmkmnidnapabaaGreat

/-! Jd: Contracts: a cursor's number, length; Text, Word, Bool's way of reading. -/
namespace Go.Proofs.YtcmkmnidnapabaaGreat
open Go.RowKit Go.Lib Go.Maps

/-- What is read: a value and how many bytes it has, or an error. -/
inductive PR (α : Type) where
  | ok (v : α) (n : Nat)
  | er (x : Nat)
instance badN.dec (L : List Nat) : Decidable (badN L) := inferInstanceAs (Decidable (_ ∨ _))
def pNum : List Nat → PR Nat
  | [] => .er 6
  | k :: R => if 8 < k then .er 5 else if R.length < k then .er 6 else if badN (R.take k) then .er 5 else .ok (valL (R.take k)) (k + 1)
theorem pNum_cons (k : Nat) (R : List Nat) : pNum (k :: R) = if 8 < k then .er 5 else if R.length < k then .er 6 else if badN (R.take k) then .er 5 else .ok (valL (R.take k)) (k + 1) := rfl
/-- A cursor, wherever its bytes lie. -/
def CuX (w : World) (c t b : Nat) (R : List Nat) (c0 : Nat) : Prop := ∃ p o cap, cap ≤ c0 ∧ Cu w c t p b o cap R
theorem Bex.bex {g : Nat} {w w1 w2 : World} (h : Bex g w w1) (k : Bex g w1 w2) : Bex g w w2 := h.trans k

theorem number_ok (c t : Nat) (p : Option Addr) (b o cap : Nat) (R : List Nat) (v n : Nat) (w : World) (H : Cu w c t p b o cap R) (hp : pNum R = .ok v n) :
    Calls Tryz.prog 162 #[.pointer (some ⟨c, 0, none⟩)] w fun e w' => e = .returned (.int .i64 (v : Nat)) ∧ CuX w' c (t + n) b (R.drop n) cap ∧ Bex c w w' := by
  match R, hp, H with
  | k :: R', hp, H =>
    rw [pNum_cons] at hp
    by_cases h1 : 8 < k
    · rw [if_pos h1] at hp; cases hp
    rw [if_neg h1] at hp
    by_cases h2 : R'.length < k
    · rw [if_pos h2] at hp; cases hp
    rw [if_neg h2] at hp
    by_cases h3 : badN (R'.take k)
    · rw [if_pos h3] at hp; cases hp
    rw [if_neg h3] at hp
    cases hp
    have HH := hidp H
    have H1 := hidp h1
    have H2 := hidp h2
    have H3 := hidp h3
    clear H h1 h2 h3
    go_enter Tryz.func162, Tryz.ntmps162
    go_wp2_with fail
    refine takeLead_ok c t p b o cap (k :: R') 1 w HH.out (by simp) _ (fun w1 a1 a2 a3 => (leadOf_ok p b o cap k w1 a2 (by have := H1.out; omega)).mono ?_)
    rintro e w' ⟨rfl, rfl⟩
    refine .inl ⟨_, rfl, ?_⟩
    have A1 := hidp a1
    have A3 := hidp a3
    clear a1 a2 a3
    go_wp2_with fail
    refine takeNum_ok c (t + 1) _ b _ _ R' k w1 A1.out (by have := H2.out; omega) _ (fun w2 a1 a2 a3 => ?_)
    have hl : (R'.take k).length = k := by rw [List.length_take]; have := H2.out; omega
    have q := numOf_ok _ b _ _ (R'.take k) w2 a2 (by rw [hl]; have := H1.out; omega) H3.out
    rw [hl] at q
    refine q.mono ?_
    rintro e w' ⟨rfl, rfl⟩
    refine .inl ⟨_, rfl, ?_⟩
    have B1 := hidp a1
    have B3 := hidp (A3.out.bex a3)
    clear a1 a2 a3 q hl
    go_wp2
    go_ret
    have hcu : Cu w2 c (t + (k + 1)) _ b _ _ (R'.drop k) := (show t + 1 + k = t + (k + 1) by omega) ▸ B1.out
    exact ⟨rfl, ⟨_, _, _, Nat.le_trans (Nat.sub_le _ _) (Nat.sub_le _ _), hcu⟩, B3.out⟩

theorem number_er (c t : Nat) (p : Option Addr) (b o cap : Nat) (R : List Nat) (x : Nat) (w : World) (H : Cu w c t p b o cap R) (hp : pNum R = .er x) :
    Calls Tryz.prog 162 #[.pointer (some ⟨c, 0, none⟩)] w fun e w' => e = .panicked (brk x) ∧ Bex c w w' := by
  match R, hp, H with
  | [], hp, H =>
    cases hp
    have HH := hidp H
    clear H
    go_enter Tryz.func162, Tryz.ntmps162
    go_wp2_with fail
    refine (takeLead_short c t p b o cap [] 1 w HH.out (by simp)).mono ?_
    rintro e w' ⟨rfl, hB⟩
    exact ⟨rfl, rfl, Bex.of_below hB⟩
  | k :: R', hp, H =>
    rw [pNum_cons] at hp
    have HH := hidp H
    by_cases h1 : 8 < k
    · rw [if_pos h1] at hp; cases hp
      have H1 := hidp h1
      clear H h1
      go_enter Tryz.func162, Tryz.ntmps162
      go_wp2_with fail
      refine takeLead_ok c t p b o cap (k :: R') 1 w HH.out (by simp) _ (fun w1 a1 a2 a3 => (leadOf_bad p b o cap k w1 a2 H1.out).mono ?_)
      rintro e w' ⟨rfl, rfl⟩
      exact .inr ⟨_, rfl, rfl, rfl, a3⟩
    rw [if_neg h1] at hp
    have H1 := hidp h1
    by_cases h2 : R'.length < k
    · rw [if_pos h2] at hp; cases hp
      have H2 := hidp h2
      clear H h1 h2
      go_enter Tryz.func162, Tryz.ntmps162
      go_wp2_with fail
      refine takeLead_ok c t p b o cap (k :: R') 1 w HH.out (by simp) _ (fun w1 a1 a2 a3 => (leadOf_ok p b o cap k w1 a2 (by have := H1.out; omega)).mono ?_)
      rintro e w' ⟨rfl, rfl⟩
      refine .inl ⟨_, rfl, ?_⟩
      have A1 := hidp a1
      have A3 := hidp a3
      clear a1 a2 a3
      go_wp2_with fail
      refine (takeNum_short c (t + 1) _ b _ _ R' k w1 A1.out H2.out).mono ?_
      rintro e w' ⟨rfl, hB⟩
      exact ⟨rfl, rfl, A3.out.bex (Bex.of_below hB)⟩
    rw [if_neg h2] at hp
    have H2 := hidp h2
    by_cases h3 : badN (R'.take k)
    · rw [if_pos h3] at hp; cases hp
      have H3 := hidp h3
      clear H h1 h2 h3
      go_enter Tryz.func162, Tryz.ntmps162
      go_wp2_with fail
      refine takeLead_ok c t p b o cap (k :: R') 1 w HH.out (by simp) _ (fun w1 a1 a2 a3 => (leadOf_ok p b o cap k w1 a2 (by have := H1.out; omega)).mono ?_)
      rintro e w' ⟨rfl, rfl⟩
      refine .inl ⟨_, rfl, ?_⟩
      have A1 := hidp a1
      have A3 := hidp a3
      clear a1 a2 a3
      go_wp2_with fail
      refine takeNum_ok c (t + 1) _ b _ _ R' k w1 A1.out (by have := H2.out; omega) _ (fun w2 a1 a2 a3 => ?_)
      have hl : (R'.take k).length = k := by rw [List.length_take]; have := H2.out; omega
      have q := numOf_bad _ b _ _ (R'.take k) w2 a2 (by rw [hl]; have := H1.out; omega) H3.out
      rw [hl] at q
      refine q.mono ?_
      rintro e w' ⟨rfl, rfl⟩
      exact .inr ⟨_, rfl, rfl, rfl, A3.out.bex a3⟩
    · rw [if_neg h3] at hp; cases hp
end Go.Proofs.YtcmkmnidnapabaaGreat

/-! Je: Contracts: a reader's valid, settle; what ends an element. -/
namespace Go.Proofs.YtcmkmnidnapabaaGreat
open Go.RowKit Go.Lib Go.Maps

/-- A reader lies in block g: its place, what is left, its fault. -/
structure Rd (w : World) (g t : Nat) (p : Option Addr) (b o cap : Nat) (R : List Nat) (e f : Nat) : Prop where
  blk : Blk w g [.pointer (some ⟨g, 0, none⟩), .int .i64 (t : Nat), .slice p R.length cap, .int .i64 (e : Nat), .int .i64 (f : Nat)] 215
  bs : Bs w p b o R cap
  ne : 0 < cap → g ≠ b
  lim : t + R.length ≤ 1000000000
def RdX (w : World) (g t b : Nat) (R : List Nat) (e f : Nat) : Prop := ∃ p o cap, Rd w g t p b o cap R e f
theorem Rd.c0 {w : World} {g t : Nat} {p : Option Addr} {b o cap : Nat} {R : List Nat} {e f : Nat} (H : Rd w g t p b o cap R e f) : w.cell? ⟨g, 0, none⟩ = some (.pointer (some ⟨g, 0, none⟩)) := H.blk.cell 0
theorem Rd.c1 {w : World} {g t : Nat} {p : Option Addr} {b o cap : Nat} {R : List Nat} {e f : Nat} (H : Rd w g t p b o cap R e f) : w.cell? ⟨g, 1, none⟩ = some (.int .i64 (t : Nat)) := H.blk.cell 1
theorem Rd.c2 {w : World} {g t : Nat} {p : Option Addr} {b o cap : Nat} {R : List Nat} {e f : Nat} (H : Rd w g t p b o cap R e f) : w.cell? ⟨g, 2, none⟩ = some (.slice p R.length cap) := H.blk.cell 2
theorem Rd.c3 {w : World} {g t : Nat} {p : Option Addr} {b o cap : Nat} {R : List Nat} {e f : Nat} (H : Rd w g t p b o cap R e f) : w.cell? ⟨g, 3, none⟩ = some (.int .i64 (e : Nat)) := H.blk.cell 3
theorem Rd.c4 {w : World} {g t : Nat} {p : Option Addr} {b o cap : Nat} {R : List Nat} {e f : Nat} (H : Rd w g t p b o cap R e f) : w.cell? ⟨g, 4, none⟩ = some (.int .i64 (f : Nat)) := H.blk.cell 4
theorem Rd.below {w w' : World} {g t : Nat} {p : Option Addr} {b o cap : Nat} {R : List Nat} {e f : Nat} (H : Rd w g t p b o cap R e f) (hB : Below w.heap.size w w') : Rd w' g t p b o cap R e f :=
  ⟨H.blk.below hB H.blk.lt, H.bs.below hB, H.ne, H.lim⟩

theorem run_eq_same (g : Nat) (w : World) : (binOp .eql 128 (.pointer (some ⟨g, 0, none⟩)) (.pointer (some ⟨g, 0, none⟩))).run Tryz.prog w = .ok (.bool true) w := by
  obtain ⟨j, hj⟩ : ∃ j, Tryz.prog.info? 215 = some j := Option.isSome_iff_exists.1 (by kernel_rfl)
  exact run_eql_ptr_same w _ Tryz.underlying128 hj
theorem run_ne_nil (a : Addr) (w : World) : (binOp .neq 128 (.pointer (some a)) (.pointer none)).run Tryz.prog w = .ok (.bool true) w := by
  have h : ∀ d : Nat, (Op.equalIn (d + 1) 128 (.pointer (some a)) (.pointer none)).run Tryz.prog w = .ok false w := fun d => by
    simp [Op.equalIn, run_underlying Tryz.underlying128]
  simp only [binOp]
  simp [Op.equal, Op.maxDepth, h 9999]
set_option maxRecDepth 20000 in
theorem valid_yes {w : World} {g t : Nat} {p : Option Addr} {b o cap : Nat} {R : List Nat} {e f : Nat} (H : Rd w g t p b o cap R e f) :
    Calls Tryz.prog 163 #[.pointer (some ⟨g, 0, none⟩)] w fun e w' => e = .returned (.bool true) ∧ w = w' := by
  have h0 := H.c0
  have q1 := run_eq_same g w
  have q2 := run_ne_nil ⟨g, 0, none⟩ w
  clear H
  go_enter Tryz.func163, Tryz.ntmps163
  go_wp2
  go_ret
  exact ⟨rfl, rfl⟩
theorem run_ta_nil (w : World) : (Instr.typeAssert .nilIface 20 296 true).run Tryz.prog w = .ok (.tuple #[.int .i64 0, .bool false]) w := by kernel_rfl
theorem run_ta_brk (x : Int) (w : World) : (Instr.typeAssert (.iface 296 (.int .i64 x)) 20 296 true).run Tryz.prog w = .ok (.tuple #[.int .i64 x, .bool true]) w := by kernel_rfl
set_option maxRecDepth 20000 in
theorem settle_none (g : Nat) (w : World) :
    Calls Tryz.prog 217 #[.pointer (some ⟨g, 0, none⟩), .nilIface] w fun e w' => e = .returned (.tuple #[]) ∧ w = w' := by
  have q := run_ta_nil w
  go_enter Tryz.func217, Tryz.ntmps217
  go_wp2
  go_end0
  exact ⟨rfl, rfl⟩
set_option maxRecDepth 20000 in
theorem settle_brk {w : World} {g t : Nat} {p : Option Addr} {b o cap : Nat} {R : List Nat} {e f : Nat} (H : Rd w g t p b o cap R e f) (x : Nat) :
    Calls Tryz.prog 217 #[.pointer (some ⟨g, 0, none⟩), .iface 296 (.int .i64 (x : Nat))] w fun e w' => e = .returned (.tuple #[]) ∧ RdX w' g t b [] x t ∧ Bex g w w' := by
  have h1 := H.c1
  have h2 := H.c2
  have h3 := H.c3
  have h4 := H.c4
  have f2 := H.blk.free 2
  have f3 := H.blk.free 3
  have f4 := H.blk.free 4
  have HH := hidp H
  have q := run_ta_brk x w
  clear H
  go_enter Tryz.func217, Tryz.ntmps217
  go_wp2
  go_end0
  refine ⟨rfl, ⟨none, 0, 0, ?_, ⟨by simp, by simp, fun h => absurd h (by simp), fun i hi => absurd hi (by simp)⟩, fun h => absurd h (by simp), by have := HH.out.lim; simp; omega⟩, (((Bex.refl g w).setCell _ _).setCell _ _).setCell _ _⟩
  exact (((HH.out.blk.set 3 _).set 4 _).set 2 _)

/-! A deferred closure's region that draws its order. -/
theorem wpS_region_draw {P : Program} {Q : Exit → Act → List Frame → World → Prop} {a : Act} {cs : List Frame} {w : World} {id : Nat} {ops : Array Oper}
    (h : ∀ t, wpOpsS P ops Q (Region.schedule (P.follows .mixedOrders) ops t) a cs w.drew) : (Code.region id ops true).wpS P Q a cs w :=
  fun b k hb hr => let ⟨e, a', cs', w', q, r⟩ := wp_opsS _ a cs _ (h _) b k hb hr; ⟨e, a', cs', w', q, .of_steps (.one step_region_draw) r⟩
theorem go_one {ops : Array Oper} {rs : List Nat} (fuel t : Nat) (listed : Array Bool) (acc : List Nat) (h : Region.ready .any ops listed = rs) :
    Region.linearise.go .any ops (fuel + 1) t listed acc = match rs[t % rs.length]? with | some i => Region.linearise.go .any ops fuel (t / rs.length) (listed.setIfInBounds i true) (i :: acc) | none => acc.reverse := by subst h; rfl
theorem sched3 (ops : Array Oper) (hs : ops.size = 3) (h0 : Region.ready .any ops #[false, false, false] = [0, 1]) (h1 : Region.ready .any ops #[true, false, false] = [1]) (h2 : Region.ready .any ops #[false, true, false] = [0])
    (h3 : Region.ready .any ops #[true, true, false] = [2]) (t : Nat) : Region.schedule true ops t = [0, 1, 2] ∨ Region.schedule true ops t = [1, 0, 2] := by
  have e : Region.schedule true ops t = Region.linearise.go .any ops 3 t #[false, false, false] [] := by
    unfold Region.schedule Region.linearise
    rw [hs]; rfl
  have one : ∀ (x : Nat) (k : Nat), [x][k % [x].length]? = some x := fun x k => by
    show [x][k % 1]? = some x
    rw [Nat.mod_one]; rfl
  have end3 : ∀ (k : Nat) (acc : List Nat), Region.linearise.go .any ops 1 k #[true, true, false] acc = (2 :: acc).reverse := fun k acc => by
    rw [go_one 0 k _ acc h3, one]; rfl
  rw [e, go_one 2 t _ [] h0]
  rcases Nat.mod_two_eq_zero_or_one t with h | h
  · left
    have e2 : ([0, 1] : List Nat)[t % ([0, 1] : List Nat).length]? = some 0 := by show [0, 1][t % 2]? = some 0; rw [h]; rfl
    rw [e2]
    show Region.linearise.go .any ops 2 _ #[true, false, false] [0] = _
    rw [go_one 1 _ _ _ h1, one]
    exact end3 _ _
  · right
    have e2 : ([0, 1] : List Nat)[t % ([0, 1] : List Nat).length]? = some 1 := by show [0, 1][t % 2]? = some 1; rw [h]; rfl
    rw [e2]
    show Region.linearise.go .any ops 2 _ #[false, true, false] [1] = _
    rw [go_one 1 _ _ _ h2, one]
    exact end3 _ _

theorem wpS_draw3 {P : Program} {Q : Exit → Act → List Frame → World → Prop} {a : Act} {cs : List Frame} {w : World} {id : Nat} {ops : Array Oper} (hm : P.follows .mixedOrders = true) (hs : ops.size = 3) (h0 : Region.ready .any ops #[false, false, false] = [0, 1]) (h1 : Region.ready .any ops #[true, false, false] = [1]) (h2 : Region.ready .any ops #[false, true, false] = [0])
    (h3 : Region.ready .any ops #[true, true, false] = [2]) (ha : wpOpsS P ops Q [0, 1, 2] a cs w.drew) (hb : wpOpsS P ops Q [1, 0, 2] a cs w.drew) : (Code.region id ops true).wpS P Q a cs w := by
  refine wpS_region_draw fun t => ?_
  rw [hm]
  rcases sched3 ops hs h0 h1 h2 h3 t with h | h
  · rw [h]; exact ha
  · rw [h]; exact hb
end Go.Proofs.YtcmkmnidnapabaaGreat

/-! Jf: Contracts: what ends an element, for each type. -/
namespace Go.Proofs.YtcmkmnidnapabaaGreat
open Go.RowKit Go.Lib Go.Maps

/-- The mode of a frame whose panic was recovered. -/
def calm (x : Nat) : FrameMode := .panicking [{ v := .iface 296 (.int .i64 (x : Nat)), recovered := true }]
theorem Rd.drew {w : World} {g t : Nat} {p : Option Addr} {b o cap : Nat} {R : List Nat} {e f : Nat} (H : Rd w g t p b o cap R e f) : Rd w.drew g t p b o cap R e f := ⟨H.blk.drew, ⟨H.bs.byte, H.bs.le, H.bs.ptr, H.bs.here⟩, H.ne, H.lim⟩

theorem endNum_none (rb g : Nat) (w : World) (hc : w.cell? ⟨rb, 0, none⟩ = some (.pointer (some ⟨g, 0, none⟩))) :
    CallsD Tryz.prog 216 #[.pointer (some ⟨rb, 0, none⟩)] .returning w fun e u' w' => e = .returned (.tuple #[]) ∧ u' = .returning ∧ w' = w.drew := by
  have hcd : w.drew.cell? ⟨rb, 0, none⟩ = some (.pointer (some ⟨g, 0, none⟩)) := hc
  refine callsD_of_wpS Tryz.func216 rfl fun c₀ cs hu => ?_
  refine wpS_draw3 (by kernel_rfl) rfl (by kernel_rfl) (by kernel_rfl) (by kernel_rfl) (by kernel_rfl) ?_ ?_
  all_goals
    simp [wpOpsS, go_sem, recoverD, hu, hcd, Tryz.ntmps216]
    refine (settle_none g w.drew).mono ?_
    rintro e w' ⟨rfl, rfl⟩
    cases c₀
    simp_all [bodyPostS, results, Tryz.results216]
theorem endNum_brk (rb g t : Nat) (p : Option Addr) (b o cap : Nat) (R : List Nat) (e0 f0 x : Nat) (w : World) (H : Rd w g t p b o cap R e0 f0) (hc : w.cell? ⟨rb, 0, none⟩ = some (.pointer (some ⟨g, 0, none⟩))) :
    CallsD Tryz.prog 216 #[.pointer (some ⟨rb, 0, none⟩)] (.panicking (brk x)) w fun e u' w' => e = .returned (.tuple #[]) ∧ u' = calm x ∧ RdX w' g t b [] x t ∧ Bex g w w' := by
  have hcd : w.drew.cell? ⟨rb, 0, none⟩ = some (.pointer (some ⟨g, 0, none⟩)) := hc
  refine callsD_of_wpS Tryz.func216 rfl fun c₀ cs hu => ?_
  unfold brk at hu
  have HS := (settle_brk H.drew x).mono (R' := fun e w' => e = .returned (.tuple #[]) ∧ Hid (RdX w' g t b [] x t ∧ Bex g w w')) (fun e w' ⟨h1, h2, h3⟩ => ⟨h1, hidp ⟨h2, ((Bex.refl g w).drew).bex h3⟩⟩)
  refine wpS_draw3 (by kernel_rfl) rfl (by kernel_rfl) (by kernel_rfl) (by kernel_rfl) (by kernel_rfl) ?_ ?_
  all_goals
    simp [wpOpsS, go_sem, recoverD, hu, hcd, Tryz.ntmps216]
    refine HS.mono ?_
    rintro e w' ⟨rfl, hh⟩
    refine ⟨rfl, calm x, ?_, ?_⟩
    · cases c₀; simp [calm]
    · exact ⟨.tuple #[], by simp [results, Tryz.results216], rfl, rfl, hh.out.1, hh.out.2⟩

theorem endText_none (rb g : Nat) (w : World) (hc : w.cell? ⟨rb, 0, none⟩ = some (.pointer (some ⟨g, 0, none⟩))) :
    CallsD Tryz.prog 281 #[.pointer (some ⟨rb, 0, none⟩)] .returning w fun e u' w' => e = .returned (.tuple #[]) ∧ u' = .returning ∧ w' = w.drew := by
  have hcd : w.drew.cell? ⟨rb, 0, none⟩ = some (.pointer (some ⟨g, 0, none⟩)) := hc
  refine callsD_of_wpS Tryz.func281 rfl fun c₀ cs hu => ?_
  refine wpS_draw3 (by kernel_rfl) rfl (by kernel_rfl) (by kernel_rfl) (by kernel_rfl) (by kernel_rfl) ?_ ?_
  all_goals
    simp [wpOpsS, go_sem, recoverD, hu, hcd, Tryz.ntmps281]
    refine (settle_none g w.drew).mono ?_
    rintro e w' ⟨rfl, rfl⟩
    cases c₀
    simp_all [bodyPostS, results, Tryz.results281]
theorem endText_brk (rb g t : Nat) (p : Option Addr) (b o cap : Nat) (R : List Nat) (e0 f0 x : Nat) (w : World) (H : Rd w g t p b o cap R e0 f0) (hc : w.cell? ⟨rb, 0, none⟩ = some (.pointer (some ⟨g, 0, none⟩))) :
    CallsD Tryz.prog 281 #[.pointer (some ⟨rb, 0, none⟩)] (.panicking (brk x)) w fun e u' w' => e = .returned (.tuple #[]) ∧ u' = calm x ∧ RdX w' g t b [] x t ∧ Bex g w w' := by
  have hcd : w.drew.cell? ⟨rb, 0, none⟩ = some (.pointer (some ⟨g, 0, none⟩)) := hc
  refine callsD_of_wpS Tryz.func281 rfl fun c₀ cs hu => ?_
  unfold brk at hu
  have HS := (settle_brk H.drew x).mono (R' := fun e w' => e = .returned (.tuple #[]) ∧ Hid (RdX w' g t b [] x t ∧ Bex g w w')) (fun e w' ⟨h1, h2, h3⟩ => ⟨h1, hidp ⟨h2, ((Bex.refl g w).drew).bex h3⟩⟩)
  refine wpS_draw3 (by kernel_rfl) rfl (by kernel_rfl) (by kernel_rfl) (by kernel_rfl) (by kernel_rfl) ?_ ?_
  all_goals
    simp [wpOpsS, go_sem, recoverD, hu, hcd, Tryz.ntmps281]
    refine HS.mono ?_
    rintro e w' ⟨rfl, hh⟩
    refine ⟨rfl, calm x, ?_, ?_⟩
    · cases c₀; simp [calm]
    · exact ⟨.tuple #[], by simp [results, Tryz.results281], rfl, rfl, hh.out.1, hh.out.2⟩

theorem endBytes_none (rb g : Nat) (w : World) (hc : w.cell? ⟨rb, 0, none⟩ = some (.pointer (some ⟨g, 0, none⟩))) :
    CallsD Tryz.prog 280 #[.pointer (some ⟨rb, 0, none⟩)] .returning w fun e u' w' => e = .returned (.tuple #[]) ∧ u' = .returning ∧ w' = w.drew := by
  have hcd : w.drew.cell? ⟨rb, 0, none⟩ = some (.pointer (some ⟨g, 0, none⟩)) := hc
  refine callsD_of_wpS Tryz.func280 rfl fun c₀ cs hu => ?_
  refine wpS_draw3 (by kernel_rfl) rfl (by kernel_rfl) (by kernel_rfl) (by kernel_rfl) (by kernel_rfl) ?_ ?_
  all_goals
    simp [wpOpsS, go_sem, recoverD, hu, hcd, Tryz.ntmps280]
    refine (settle_none g w.drew).mono ?_
    rintro e w' ⟨rfl, rfl⟩
    cases c₀
    simp_all [bodyPostS, results, Tryz.results280]
theorem endBytes_brk (rb g t : Nat) (p : Option Addr) (b o cap : Nat) (R : List Nat) (e0 f0 x : Nat) (w : World) (H : Rd w g t p b o cap R e0 f0) (hc : w.cell? ⟨rb, 0, none⟩ = some (.pointer (some ⟨g, 0, none⟩))) :
    CallsD Tryz.prog 280 #[.pointer (some ⟨rb, 0, none⟩)] (.panicking (brk x)) w fun e u' w' => e = .returned (.tuple #[]) ∧ u' = calm x ∧ RdX w' g t b [] x t ∧ Bex g w w' := by
  have hcd : w.drew.cell? ⟨rb, 0, none⟩ = some (.pointer (some ⟨g, 0, none⟩)) := hc
  refine callsD_of_wpS Tryz.func280 rfl fun c₀ cs hu => ?_
  unfold brk at hu
  have HS := (settle_brk H.drew x).mono (R' := fun e w' => e = .returned (.tuple #[]) ∧ Hid (RdX w' g t b [] x t ∧ Bex g w w')) (fun e w' ⟨h1, h2, h3⟩ => ⟨h1, hidp ⟨h2, ((Bex.refl g w).drew).bex h3⟩⟩)
  refine wpS_draw3 (by kernel_rfl) rfl (by kernel_rfl) (by kernel_rfl) (by kernel_rfl) (by kernel_rfl) ?_ ?_
  all_goals
    simp [wpOpsS, go_sem, recoverD, hu, hcd, Tryz.ntmps280]
    refine HS.mono ?_
    rintro e w' ⟨rfl, hh⟩
    refine ⟨rfl, calm x, ?_, ?_⟩
    · cases c₀; simp [calm]
    · exact ⟨.tuple #[], by simp [results, Tryz.results280], rfl, rfl, hh.out.1, hh.out.2⟩

theorem endHash_none (rb g : Nat) (w : World) (hc : w.cell? ⟨rb, 0, none⟩ = some (.pointer (some ⟨g, 0, none⟩))) :
    CallsD Tryz.prog 264 #[.pointer (some ⟨rb, 0, none⟩)] .returning w fun e u' w' => e = .returned (.tuple #[]) ∧ u' = .returning ∧ w' = w.drew := by
  have hcd : w.drew.cell? ⟨rb, 0, none⟩ = some (.pointer (some ⟨g, 0, none⟩)) := hc
  refine callsD_of_wpS Tryz.func264 rfl fun c₀ cs hu => ?_
  refine wpS_draw3 (by kernel_rfl) rfl (by kernel_rfl) (by kernel_rfl) (by kernel_rfl) (by kernel_rfl) ?_ ?_
  all_goals
    simp [wpOpsS, go_sem, recoverD, hu, hcd, Tryz.ntmps264]
    refine (settle_none g w.drew).mono ?_
    rintro e w' ⟨rfl, rfl⟩
    cases c₀
    simp_all [bodyPostS, results, Tryz.results264]
theorem endHash_brk (rb g t : Nat) (p : Option Addr) (b o cap : Nat) (R : List Nat) (e0 f0 x : Nat) (w : World) (H : Rd w g t p b o cap R e0 f0) (hc : w.cell? ⟨rb, 0, none⟩ = some (.pointer (some ⟨g, 0, none⟩))) :
    CallsD Tryz.prog 264 #[.pointer (some ⟨rb, 0, none⟩)] (.panicking (brk x)) w fun e u' w' => e = .returned (.tuple #[]) ∧ u' = calm x ∧ RdX w' g t b [] x t ∧ Bex g w w' := by
  have hcd : w.drew.cell? ⟨rb, 0, none⟩ = some (.pointer (some ⟨g, 0, none⟩)) := hc
  refine callsD_of_wpS Tryz.func264 rfl fun c₀ cs hu => ?_
  unfold brk at hu
  have HS := (settle_brk H.drew x).mono (R' := fun e w' => e = .returned (.tuple #[]) ∧ Hid (RdX w' g t b [] x t ∧ Bex g w w')) (fun e w' ⟨h1, h2, h3⟩ => ⟨h1, hidp ⟨h2, ((Bex.refl g w).drew).bex h3⟩⟩)
  refine wpS_draw3 (by kernel_rfl) rfl (by kernel_rfl) (by kernel_rfl) (by kernel_rfl) (by kernel_rfl) ?_ ?_
  all_goals
    simp [wpOpsS, go_sem, recoverD, hu, hcd, Tryz.ntmps264]
    refine HS.mono ?_
    rintro e w' ⟨rfl, hh⟩
    refine ⟨rfl, calm x, ?_, ?_⟩
    · cases c₀; simp [calm]
    · exact ⟨.tuple #[], by simp [results, Tryz.results264], rfl, rfl, hh.out.1, hh.out.2⟩

theorem endKey_none (rb g : Nat) (w : World) (hc : w.cell? ⟨rb, 0, none⟩ = some (.pointer (some ⟨g, 0, none⟩))) :
    CallsD Tryz.prog 253 #[.pointer (some ⟨rb, 0, none⟩)] .returning w fun e u' w' => e = .returned (.tuple #[]) ∧ u' = .returning ∧ w' = w.drew := by
  have hcd : w.drew.cell? ⟨rb, 0, none⟩ = some (.pointer (some ⟨g, 0, none⟩)) := hc
  refine callsD_of_wpS Tryz.func253 rfl fun c₀ cs hu => ?_
  refine wpS_draw3 (by kernel_rfl) rfl (by kernel_rfl) (by kernel_rfl) (by kernel_rfl) (by kernel_rfl) ?_ ?_
  all_goals
    simp [wpOpsS, go_sem, recoverD, hu, hcd, Tryz.ntmps253]
    refine (settle_none g w.drew).mono ?_
    rintro e w' ⟨rfl, rfl⟩
    cases c₀
    simp_all [bodyPostS, results, Tryz.results253]
theorem endKey_brk (rb g t : Nat) (p : Option Addr) (b o cap : Nat) (R : List Nat) (e0 f0 x : Nat) (w : World) (H : Rd w g t p b o cap R e0 f0) (hc : w.cell? ⟨rb, 0, none⟩ = some (.pointer (some ⟨g, 0, none⟩))) :
    CallsD Tryz.prog 253 #[.pointer (some ⟨rb, 0, none⟩)] (.panicking (brk x)) w fun e u' w' => e = .returned (.tuple #[]) ∧ u' = calm x ∧ RdX w' g t b [] x t ∧ Bex g w w' := by
  have hcd : w.drew.cell? ⟨rb, 0, none⟩ = some (.pointer (some ⟨g, 0, none⟩)) := hc
  refine callsD_of_wpS Tryz.func253 rfl fun c₀ cs hu => ?_
  unfold brk at hu
  have HS := (settle_brk H.drew x).mono (R' := fun e w' => e = .returned (.tuple #[]) ∧ Hid (RdX w' g t b [] x t ∧ Bex g w w')) (fun e w' ⟨h1, h2, h3⟩ => ⟨h1, hidp ⟨h2, ((Bex.refl g w).drew).bex h3⟩⟩)
  refine wpS_draw3 (by kernel_rfl) rfl (by kernel_rfl) (by kernel_rfl) (by kernel_rfl) (by kernel_rfl) ?_ ?_
  all_goals
    simp [wpOpsS, go_sem, recoverD, hu, hcd, Tryz.ntmps253]
    refine HS.mono ?_
    rintro e w' ⟨rfl, hh⟩
    refine ⟨rfl, calm x, ?_, ?_⟩
    · cases c₀; simp [calm]
    · exact ⟨.tuple #[], by simp [results, Tryz.results253], rfl, rfl, hh.out.1, hh.out.2⟩

theorem endWord_none (rb g : Nat) (w : World) (hc : w.cell? ⟨rb, 0, none⟩ = some (.pointer (some ⟨g, 0, none⟩))) :
    CallsD Tryz.prog 265 #[.pointer (some ⟨rb, 0, none⟩)] .returning w fun e u' w' => e = .returned (.tuple #[]) ∧ u' = .returning ∧ w' = w.drew := by
  have hcd : w.drew.cell? ⟨rb, 0, none⟩ = some (.pointer (some ⟨g, 0, none⟩)) := hc
  refine callsD_of_wpS Tryz.func265 rfl fun c₀ cs hu => ?_
  refine wpS_draw3 (by kernel_rfl) rfl (by kernel_rfl) (by kernel_rfl) (by kernel_rfl) (by kernel_rfl) ?_ ?_
  all_goals
    simp [wpOpsS, go_sem, recoverD, hu, hcd, Tryz.ntmps265]
    refine (settle_none g w.drew).mono ?_
    rintro e w' ⟨rfl, rfl⟩
    cases c₀
    simp_all [bodyPostS, results, Tryz.results265]
theorem endWord_brk (rb g t : Nat) (p : Option Addr) (b o cap : Nat) (R : List Nat) (e0 f0 x : Nat) (w : World) (H : Rd w g t p b o cap R e0 f0) (hc : w.cell? ⟨rb, 0, none⟩ = some (.pointer (some ⟨g, 0, none⟩))) :
    CallsD Tryz.prog 265 #[.pointer (some ⟨rb, 0, none⟩)] (.panicking (brk x)) w fun e u' w' => e = .returned (.tuple #[]) ∧ u' = calm x ∧ RdX w' g t b [] x t ∧ Bex g w w' := by
  have hcd : w.drew.cell? ⟨rb, 0, none⟩ = some (.pointer (some ⟨g, 0, none⟩)) := hc
  refine callsD_of_wpS Tryz.func265 rfl fun c₀ cs hu => ?_
  unfold brk at hu
  have HS := (settle_brk H.drew x).mono (R' := fun e w' => e = .returned (.tuple #[]) ∧ Hid (RdX w' g t b [] x t ∧ Bex g w w')) (fun e w' ⟨h1, h2, h3⟩ => ⟨h1, hidp ⟨h2, ((Bex.refl g w).drew).bex h3⟩⟩)
  refine wpS_draw3 (by kernel_rfl) rfl (by kernel_rfl) (by kernel_rfl) (by kernel_rfl) (by kernel_rfl) ?_ ?_
  all_goals
    simp [wpOpsS, go_sem, recoverD, hu, hcd, Tryz.ntmps265]
    refine HS.mono ?_
    rintro e w' ⟨rfl, hh⟩
    refine ⟨rfl, calm x, ?_, ?_⟩
    · cases c₀; simp [calm]
    · exact ⟨.tuple #[], by simp [results, Tryz.results265], rfl, rfl, hh.out.1, hh.out.2⟩

end Go.Proofs.YtcmkmnidnapabaaGreat
