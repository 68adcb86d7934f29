/-
  Contracts: a cursor takes bytes.
-/
import Derived.Test.YtlfmmmlheloloaaJb
namespace Go.Proofs.Ytlfmmmlheloloaa
open Go.RowKit Go.Lib Go.Maps

theorem run_part_l (a : Option Addr) (len cap n : Nat) (h : n ≤ len) (w : World) : (Instr.sliceAt 32 (.slice a len cap) (some (.int .i64 (n : Int))) none none).run Try.prog w = .ok (.slice (partA a cap n) (len - n) (cap - n)) w := by
  rw [run_sliceAt_slice (h := under_bytes), run_slice_l (ht := under_bytes) (l := (n : Int)) (h0 := by omega) (h1 := by omega), elem_bytes, run_size_byte]
  simp only [Result.andThen_ok, sliced, Nat.mul_one]
  rw [show (n : Int).toNat = n by omega]
  rfl
theorem getD_drop (L : List Nat) (n i : Nat) : (L.drop n).getD i 0 = L.getD (n + i) 0 := by
  rw [List.getD_eq_getElem?_getD, List.getD_eq_getElem?_getD, List.getElem?_drop]
theorem Bs.take {w : World} {p : Option Addr} {b o cap : Nat} {L : List Nat} (h : Bs w p b o L cap) (n : Nat) : Bs w p b o (L.take n) cap := by
  refine ⟨fun x hx => h.byte x (List.mem_of_mem_take hx), by have := h.le; rw [List.length_take]; omega, h.ptr, fun i hi => ?_⟩
  rw [List.length_take] at hi
  rw [h.here i (by omega), getD_take (by omega)]
theorem Bs.drop {w : World} {p : Option Addr} {b o cap : Nat} {L : List Nat} (h : Bs w p b o L cap) {n : Nat} (hn : n ≤ L.length) : Bs w (partA p cap n) b (o + n) (L.drop n) (cap - n) := by
  have hle := h.le
  refine ⟨fun x hx => h.byte x (List.mem_of_mem_drop hx), by rw [List.length_drop]; omega, fun h0 => ?_, fun i hi => ?_⟩
  · obtain ⟨h1, h2⟩ := h.ptr (by omega)
    refine ⟨?_, h2⟩
    unfold partA
    rw [if_neg (by omega), h1]
    simp [Addr.add_mid]
  · rw [List.length_drop] at hi
    rw [Nat.add_assoc, h.here (n + i) (by omega), getD_drop]

/-- A cursor lies in block c: a place, and the bytes from there on. -/
structure Cu (w : World) (c t : Nat) (p : Option Addr) (b o cap : Nat) (R : List Nat) : Prop where
  blk : Blk w c [.int .i64 (t : Nat), .slice p R.length cap] 62
  bs : Bs w p b o R cap
  ne : 0 < cap → c ≠ b
  lim : t + R.length ≤ 1000000000
theorem Bs.bex {g : Nat} {w w' : World} {p : Option Addr} {b o cap : Nat} {L : List Nat} (h : Bs w p b o L cap) (hb : Bex g w w') (hne : 0 < cap → g ≠ b) : Bs w' p b o L cap := by
  refine ⟨h.byte, h.le, fun h0 => ⟨(h.ptr h0).1, Nat.lt_of_lt_of_le (h.ptr h0).2 hb.size⟩, fun i hi => ?_⟩
  have h0 : 0 < cap := by have := h.le; omega
  exact (World.cell?_of_block (a := ⟨b, o + i, none⟩) (hb.block b (h.ptr h0).2 (fun e => hne h0 e.symm))).trans (h.here i hi)
/-- The next n bytes are passed. -/
theorem Cu.pass {w : World} {c t : Nat} {p : Option Addr} {b o cap : Nat} {R : List Nat} (H : Cu w c t p b o cap R) {n : Nat} (hn : n ≤ R.length) :
    Cu ((w.setCell ⟨c, 1, none⟩ (.slice (partA p cap n) (R.length - n) (cap - n))).setCell ⟨c, 0, none⟩ (.int .i64 (t + n : Nat))) c (t + n) (partA p cap n) b (o + n) (cap - n) (R.drop n) ∧
    Bs ((w.setCell ⟨c, 1, none⟩ (.slice (partA p cap n) (R.length - n) (cap - n))).setCell ⟨c, 0, none⟩ (.int .i64 (t + n : Nat))) p b o (R.take n) cap ∧
    Bex c w ((w.setCell ⟨c, 1, none⟩ (.slice (partA p cap n) (R.length - n) (cap - n))).setCell ⟨c, 0, none⟩ (.int .i64 (t + n : Nat))) := by
  have hx : Bex c w ((w.setCell ⟨c, 1, none⟩ (.slice (partA p cap n) (R.length - n) (cap - n))).setCell ⟨c, 0, none⟩ (.int .i64 (t + n : Nat))) := ((Bex.refl c w).setCell _ _).setCell _ _
  have hle := H.bs.le
  refine ⟨⟨?_, (H.bs.drop hn).bex hx (fun h0 => H.ne (by omega)), fun h0 => H.ne (by omega), by have := H.lim; rw [List.length_drop]; omega⟩, (H.bs.take n).bex hx H.ne, hx⟩
  rw [List.length_drop]
  exact (H.blk.set 1 _).set 0 _
theorem Cu.c0 {w : World} {c t : Nat} {p : Option Addr} {b o cap : Nat} {R : List Nat} (H : Cu w c t p b o cap R) : w.cell? ⟨c, 0, none⟩ = some (.int .i64 (t : Nat)) := H.blk.cell 0
theorem Cu.c1 {w : World} {c t : Nat} {p : Option Addr} {b o cap : Nat} {R : List Nat} (H : Cu w c t p b o cap R) : w.cell? ⟨c, 1, none⟩ = some (.slice p R.length cap) := H.blk.cell 1


theorem takeLead_short (c t : Nat) (p : Option Addr) (b o cap : Nat) (R : List Nat) (n : Nat) (w : World) (H : Cu w c t p b o cap R) (hn : R.length < n) :
    Calls Try.prog 151 #[.pointer (some ⟨c, 0, none⟩), .int .i64 (n : Nat), .func (.func 152) #[] #[]] w fun e w' => e = .panicked (brk 6) ∧ Below w.heap.size w w' := by
  have hc := H.c1
  have hgt : decide (R.length < n) = true := decide_eq_true hn
  clear H
  go_enter Try.func151, Try.ntmps151
  go_wp2
  exact ⟨rfl, rfl, by (repeat' (first | (with_reducible exact Below.refl _ _) | (with_reducible refine Below.alloc ?_ ?_ _) | (with_reducible refine Below.drew ?_) | (with_reducible refine Below.drewN ?_ _) | (with_reducible refine Below.setCell ?_ ?_ _) | go_size))⟩
theorem takeLead_ok (c t : Nat) (p : Option Addr) (b o cap : Nat) (R : List Nat) (n : Nat) (w : World) (H : Cu w c t p b o cap R) (hn : n ≤ R.length) (Q : Ending → World → Prop)
    (hof : ∀ w1, Cu w1 c (t + n) (partA p cap n) b (o + n) (cap - n) (R.drop n) → Bs w1 p b o (R.take n) cap → Bex c w w1 → Calls Try.prog 152 #[.slice p n cap] w1 fun e w' => (∃ v, e = .returned v ∧ Q (.returned v) w') ∨ (∃ ch, e = .panicked ch ∧ Q (.panicked ch) w')) :
    Calls Try.prog 151 #[.pointer (some ⟨c, 0, none⟩), .int .i64 (n : Nat), .func (.func 152) #[] #[]] w Q := by
  have hc := H.c1
  have hc0 := H.c0
  have hf0 := H.blk.free 0
  have hf1 := H.blk.free 1
  have hgt : decide (R.length < n) = false := decide_eq_false (by omega)
  have hle := H.bs.le
  have hs1 := fun w => run_part_h p R.length cap n (by omega) w
  have hs2 := fun w => run_part_l p R.length cap n hn w
  have hlim := H.lim
  have hadd : wrap64 ((t : Int) + (n : Int)) = ((t + n : Nat) : Int) := by rw [w64 _ (by omega)]; omega
  have hadd2 : IntKind.i64.wrap ((t : Int) + (n : Int)) = ((t + n : Nat) : Int) := by rw [IntKind.wrap_i64]; omega
  have hp := H.pass hn
  have hof := hidp (hof _ hp.1 hp.2.1 hp.2.2)
  obtain ⟨tn, htn⟩ : ∃ tn, tn = t + n := ⟨_, rfl⟩
  rw [← htn] at hadd hadd2 hof
  obtain ⟨pa, hpa⟩ : ∃ pa, pa = partA p cap n := ⟨_, rfl⟩
  rw [← hpa] at hs2 hof
  obtain ⟨l2, hl2⟩ : ∃ l2, l2 = R.length - n := ⟨_, rfl⟩
  rw [← hl2] at hs2 hof
  obtain ⟨c2, hc2⟩ : ∃ c2, c2 = cap - n := ⟨_, rfl⟩
  rw [← hc2] at hs2 hof
  clear H hp htn hpa hl2 hc2 hlim hle hn
  go_enter Try.func151, Try.ntmps151
  go_wp2_with fail
  refine hof.out.mono ?_
  rintro e w2 (⟨v, rfl, hQ⟩ | ⟨ch, rfl, hQ⟩)
  · have hQ := hidp hQ
    go_wp2
    exact hQ.out
  · exact ⟨rfl, hQ⟩

theorem takeNum_short (c t : Nat) (p : Option Addr) (b o cap : Nat) (R : List Nat) (n : Nat) (w : World) (H : Cu w c t p b o cap R) (hn : R.length < n) :
    Calls Try.prog 151 #[.pointer (some ⟨c, 0, none⟩), .int .i64 (n : Nat), .func (.func 153) #[] #[]] w fun e w' => e = .panicked (brk 6) ∧ Below w.heap.size w w' := by
  have hc := H.c1
  have hgt : decide (R.length < n) = true := decide_eq_true hn
  clear H
  go_enter Try.func151, Try.ntmps151
  go_wp2
  exact ⟨rfl, rfl, by (repeat' (first | (with_reducible exact Below.refl _ _) | (with_reducible refine Below.alloc ?_ ?_ _) | (with_reducible refine Below.drew ?_) | (with_reducible refine Below.drewN ?_ _) | (with_reducible refine Below.setCell ?_ ?_ _) | go_size))⟩
theorem takeNum_ok (c t : Nat) (p : Option Addr) (b o cap : Nat) (R : List Nat) (n : Nat) (w : World) (H : Cu w c t p b o cap R) (hn : n ≤ R.length) (Q : Ending → World → Prop)
    (hof : ∀ w1, Cu w1 c (t + n) (partA p cap n) b (o + n) (cap - n) (R.drop n) → Bs w1 p b o (R.take n) cap → Bex c w w1 → Calls Try.prog 153 #[.slice p n cap] w1 fun e w' => (∃ v, e = .returned v ∧ Q (.returned v) w') ∨ (∃ ch, e = .panicked ch ∧ Q (.panicked ch) w')) :
    Calls Try.prog 151 #[.pointer (some ⟨c, 0, none⟩), .int .i64 (n : Nat), .func (.func 153) #[] #[]] w Q := by
  have hc := H.c1
  have hc0 := H.c0
  have hf0 := H.blk.free 0
  have hf1 := H.blk.free 1
  have hgt : decide (R.length < n) = false := decide_eq_false (by omega)
  have hle := H.bs.le
  have hs1 := fun w => run_part_h p R.length cap n (by omega) w
  have hs2 := fun w => run_part_l p R.length cap n hn w
  have hlim := H.lim
  have hadd : wrap64 ((t : Int) + (n : Int)) = ((t + n : Nat) : Int) := by rw [w64 _ (by omega)]; omega
  have hadd2 : IntKind.i64.wrap ((t : Int) + (n : Int)) = ((t + n : Nat) : Int) := by rw [IntKind.wrap_i64]; omega
  have hp := H.pass hn
  have hof := hidp (hof _ hp.1 hp.2.1 hp.2.2)
  obtain ⟨tn, htn⟩ : ∃ tn, tn = t + n := ⟨_, rfl⟩
  rw [← htn] at hadd hadd2 hof
  obtain ⟨pa, hpa⟩ : ∃ pa, pa = partA p cap n := ⟨_, rfl⟩
  rw [← hpa] at hs2 hof
  obtain ⟨l2, hl2⟩ : ∃ l2, l2 = R.length - n := ⟨_, rfl⟩
  rw [← hl2] at hs2 hof
  obtain ⟨c2, hc2⟩ : ∃ c2, c2 = cap - n := ⟨_, rfl⟩
  rw [← hc2] at hs2 hof
  clear H hp htn hpa hl2 hc2 hlim hle hn
  go_enter Try.func151, Try.ntmps151
  go_wp2_with fail
  refine hof.out.mono ?_
  rintro e w2 (⟨v, rfl, hQ⟩ | ⟨ch, rfl, hQ⟩)
  · have hQ := hidp hQ
    go_wp2
    exact hQ.out
  · exact ⟨rfl, hQ⟩

theorem takeText_short (c t : Nat) (p : Option Addr) (b o cap : Nat) (R : List Nat) (n : Nat) (w : World) (H : Cu w c t p b o cap R) (hn : R.length < n) :
    Calls Try.prog 99 #[.pointer (some ⟨c, 0, none⟩), .int .i64 (n : Nat), .func (.func 101) #[] #[]] w fun e w' => e = .panicked (brk 6) ∧ Below w.heap.size w w' := by
  have hc := H.c1
  have hgt : decide (R.length < n) = true := decide_eq_true hn
  clear H
  go_enter Try.func99, Try.ntmps99
  go_wp2
  exact ⟨rfl, rfl, by (repeat' (first | (with_reducible exact Below.refl _ _) | (with_reducible refine Below.alloc ?_ ?_ _) | (with_reducible refine Below.drew ?_) | (with_reducible refine Below.drewN ?_ _) | (with_reducible refine Below.setCell ?_ ?_ _) | go_size))⟩
theorem takeText_ok (c t : Nat) (p : Option Addr) (b o cap : Nat) (R : List Nat) (n : Nat) (w : World) (H : Cu w c t p b o cap R) (hn : n ≤ R.length) (Q : Ending → World → Prop)
    (hof : ∀ w1, Cu w1 c (t + n) (partA p cap n) b (o + n) (cap - n) (R.drop n) → Bs w1 p b o (R.take n) cap → Bex c w w1 → Calls Try.prog 101 #[.slice p n cap] w1 fun e w' => (∃ v, e = .returned v ∧ Q (.returned v) w') ∨ (∃ ch, e = .panicked ch ∧ Q (.panicked ch) w')) :
    Calls Try.prog 99 #[.pointer (some ⟨c, 0, none⟩), .int .i64 (n : Nat), .func (.func 101) #[] #[]] w Q := by
  have hc := H.c1
  have hc0 := H.c0
  have hf0 := H.blk.free 0
  have hf1 := H.blk.free 1
  have hgt : decide (R.length < n) = false := decide_eq_false (by omega)
  have hle := H.bs.le
  have hs1 := fun w => run_part_h p R.length cap n (by omega) w
  have hs2 := fun w => run_part_l p R.length cap n hn w
  have hlim := H.lim
  have hadd : wrap64 ((t : Int) + (n : Int)) = ((t + n : Nat) : Int) := by rw [w64 _ (by omega)]; omega
  have hadd2 : IntKind.i64.wrap ((t : Int) + (n : Int)) = ((t + n : Nat) : Int) := by rw [IntKind.wrap_i64]; omega
  have hp := H.pass hn
  have hof := hidp (hof _ hp.1 hp.2.1 hp.2.2)
  obtain ⟨tn, htn⟩ : ∃ tn, tn = t + n := ⟨_, rfl⟩
  rw [← htn] at hadd hadd2 hof
  obtain ⟨pa, hpa⟩ : ∃ pa, pa = partA p cap n := ⟨_, rfl⟩
  rw [← hpa] at hs2 hof
  obtain ⟨l2, hl2⟩ : ∃ l2, l2 = R.length - n := ⟨_, rfl⟩
  rw [← hl2] at hs2 hof
  obtain ⟨c2, hc2⟩ : ∃ c2, c2 = cap - n := ⟨_, rfl⟩
  rw [← hc2] at hs2 hof
  clear H hp htn hpa hl2 hc2 hlim hle hn
  go_enter Try.func99, Try.ntmps99
  go_wp2_with fail
  refine hof.out.mono ?_
  rintro e w2 (⟨v, rfl, hQ⟩ | ⟨ch, rfl, hQ⟩)
  · have hQ := hidp hQ
    go_wp2
    exact hQ.out
  · exact ⟨rfl, hQ⟩

theorem takeBytes_short (c t : Nat) (p : Option Addr) (b o cap : Nat) (R : List Nat) (n : Nat) (w : World) (H : Cu w c t p b o cap R) (hn : R.length < n) :
    Calls Try.prog 104 #[.pointer (some ⟨c, 0, none⟩), .int .i64 (n : Nat), .func (.func 84) #[] #[]] w fun e w' => e = .panicked (brk 6) ∧ Below w.heap.size w w' := by
  have hc := H.c1
  have hgt : decide (R.length < n) = true := decide_eq_true hn
  clear H
  go_enter Try.func104, Try.ntmps104
  go_wp2
  exact ⟨rfl, rfl, by (repeat' (first | (with_reducible exact Below.refl _ _) | (with_reducible refine Below.alloc ?_ ?_ _) | (with_reducible refine Below.drew ?_) | (with_reducible refine Below.drewN ?_ _) | (with_reducible refine Below.setCell ?_ ?_ _) | go_size))⟩
theorem takeBytes_ok (c t : Nat) (p : Option Addr) (b o cap : Nat) (R : List Nat) (n : Nat) (w : World) (H : Cu w c t p b o cap R) (hn : n ≤ R.length) (Q : Ending → World → Prop)
    (hof : ∀ w1, Cu w1 c (t + n) (partA p cap n) b (o + n) (cap - n) (R.drop n) → Bs w1 p b o (R.take n) cap → Bex c w w1 → Calls Try.prog 84 #[.slice p n cap] w1 fun e w' => (∃ v, e = .returned v ∧ Q (.returned v) w') ∨ (∃ ch, e = .panicked ch ∧ Q (.panicked ch) w')) :
    Calls Try.prog 104 #[.pointer (some ⟨c, 0, none⟩), .int .i64 (n : Nat), .func (.func 84) #[] #[]] w Q := by
  have hc := H.c1
  have hc0 := H.c0
  have hf0 := H.blk.free 0
  have hf1 := H.blk.free 1
  have hgt : decide (R.length < n) = false := decide_eq_false (by omega)
  have hle := H.bs.le
  have hs1 := fun w => run_part_h p R.length cap n (by omega) w
  have hs2 := fun w => run_part_l p R.length cap n hn w
  have hlim := H.lim
  have hadd : wrap64 ((t : Int) + (n : Int)) = ((t + n : Nat) : Int) := by rw [w64 _ (by omega)]; omega
  have hadd2 : IntKind.i64.wrap ((t : Int) + (n : Int)) = ((t + n : Nat) : Int) := by rw [IntKind.wrap_i64]; omega
  have hp := H.pass hn
  have hof := hidp (hof _ hp.1 hp.2.1 hp.2.2)
  obtain ⟨tn, htn⟩ : ∃ tn, tn = t + n := ⟨_, rfl⟩
  rw [← htn] at hadd hadd2 hof
  obtain ⟨pa, hpa⟩ : ∃ pa, pa = partA p cap n := ⟨_, rfl⟩
  rw [← hpa] at hs2 hof
  obtain ⟨l2, hl2⟩ : ∃ l2, l2 = R.length - n := ⟨_, rfl⟩
  rw [← hl2] at hs2 hof
  obtain ⟨c2, hc2⟩ : ∃ c2, c2 = cap - n := ⟨_, rfl⟩
  rw [← hc2] at hs2 hof
  clear H hp htn hpa hl2 hc2 hlim hle hn
  go_enter Try.func104, Try.ntmps104
  go_wp2_with fail
  refine hof.out.mono ?_
  rintro e w2 (⟨v, rfl, hQ⟩ | ⟨ch, rfl, hQ⟩)
  · have hQ := hidp hQ
    go_wp2
    exact hQ.out
  · exact ⟨rfl, hQ⟩

theorem takeWord_short (c t : Nat) (p : Option Addr) (b o cap : Nat) (R : List Nat) (n : Nat) (w : World) (H : Cu w c t p b o cap R) (hn : R.length < n) :
    Calls Try.prog 115 #[.pointer (some ⟨c, 0, none⟩), .int .i64 (n : Nat), .func (.func 116) #[] #[]] w fun e w' => e = .panicked (brk 6) ∧ Below w.heap.size w w' := by
  have hc := H.c1
  have hgt : decide (R.length < n) = true := decide_eq_true hn
  clear H
  go_enter Try.func115, Try.ntmps115
  go_wp2
  exact ⟨rfl, rfl, by (repeat' (first | (with_reducible exact Below.refl _ _) | (with_reducible refine Below.alloc ?_ ?_ _) | (with_reducible refine Below.drew ?_) | (with_reducible refine Below.drewN ?_ _) | (with_reducible refine Below.setCell ?_ ?_ _) | go_size))⟩
theorem takeWord_ok (c t : Nat) (p : Option Addr) (b o cap : Nat) (R : List Nat) (n : Nat) (w : World) (H : Cu w c t p b o cap R) (hn : n ≤ R.length) (Q : Ending → World → Prop)
    (hof : ∀ w1, Cu w1 c (t + n) (partA p cap n) b (o + n) (cap - n) (R.drop n) → Bs w1 p b o (R.take n) cap → Bex c w w1 → Calls Try.prog 116 #[.slice p n cap] w1 fun e w' => (∃ v, e = .returned v ∧ Q (.returned v) w') ∨ (∃ ch, e = .panicked ch ∧ Q (.panicked ch) w')) :
    Calls Try.prog 115 #[.pointer (some ⟨c, 0, none⟩), .int .i64 (n : Nat), .func (.func 116) #[] #[]] w Q := by
  have hc := H.c1
  have hc0 := H.c0
  have hf0 := H.blk.free 0
  have hf1 := H.blk.free 1
  have hgt : decide (R.length < n) = false := decide_eq_false (by omega)
  have hle := H.bs.le
  have hs1 := fun w => run_part_h p R.length cap n (by omega) w
  have hs2 := fun w => run_part_l p R.length cap n hn w
  have hlim := H.lim
  have hadd : wrap64 ((t : Int) + (n : Int)) = ((t + n : Nat) : Int) := by rw [w64 _ (by omega)]; omega
  have hadd2 : IntKind.i64.wrap ((t : Int) + (n : Int)) = ((t + n : Nat) : Int) := by rw [IntKind.wrap_i64]; omega
  have hp := H.pass hn
  have hof := hidp (hof _ hp.1 hp.2.1 hp.2.2)
  obtain ⟨tn, htn⟩ : ∃ tn, tn = t + n := ⟨_, rfl⟩
  rw [← htn] at hadd hadd2 hof
  obtain ⟨pa, hpa⟩ : ∃ pa, pa = partA p cap n := ⟨_, rfl⟩
  rw [← hpa] at hs2 hof
  obtain ⟨l2, hl2⟩ : ∃ l2, l2 = R.length - n := ⟨_, rfl⟩
  rw [← hl2] at hs2 hof
  obtain ⟨c2, hc2⟩ : ∃ c2, c2 = cap - n := ⟨_, rfl⟩
  rw [← hc2] at hs2 hof
  clear H hp htn hpa hl2 hc2 hlim hle hn
  go_enter Try.func115, Try.ntmps115
  go_wp2_with fail
  refine hof.out.mono ?_
  rintro e w2 (⟨v, rfl, hQ⟩ | ⟨ch, rfl, hQ⟩)
  · have hQ := hidp hQ
    go_wp2
    exact hQ.out
  · exact ⟨rfl, hQ⟩

theorem takePace_short (c t : Nat) (p : Option Addr) (b o cap : Nat) (R : List Nat) (n : Nat) (w : World) (H : Cu w c t p b o cap R) (hn : R.length < n) :
    Calls Try.prog 119 #[.pointer (some ⟨c, 0, none⟩), .int .i64 (n : Nat), .func (.func 120) #[] #[]] w fun e w' => e = .panicked (brk 6) ∧ Below w.heap.size w w' := by
  have hc := H.c1
  have hgt : decide (R.length < n) = true := decide_eq_true hn
  clear H
  go_enter Try.func119, Try.ntmps119
  go_wp2
  exact ⟨rfl, rfl, by (repeat' (first | (with_reducible exact Below.refl _ _) | (with_reducible refine Below.alloc ?_ ?_ _) | (with_reducible refine Below.drew ?_) | (with_reducible refine Below.drewN ?_ _) | (with_reducible refine Below.setCell ?_ ?_ _) | go_size))⟩
theorem takePace_ok (c t : Nat) (p : Option Addr) (b o cap : Nat) (R : List Nat) (n : Nat) (w : World) (H : Cu w c t p b o cap R) (hn : n ≤ R.length) (Q : Ending → World → Prop)
    (hof : ∀ w1, Cu w1 c (t + n) (partA p cap n) b (o + n) (cap - n) (R.drop n) → Bs w1 p b o (R.take n) cap → Bex c w w1 → Calls Try.prog 120 #[.slice p n cap] w1 fun e w' => (∃ v, e = .returned v ∧ Q (.returned v) w') ∨ (∃ ch, e = .panicked ch ∧ Q (.panicked ch) w')) :
    Calls Try.prog 119 #[.pointer (some ⟨c, 0, none⟩), .int .i64 (n : Nat), .func (.func 120) #[] #[]] w Q := by
  have hc := H.c1
  have hc0 := H.c0
  have hf0 := H.blk.free 0
  have hf1 := H.blk.free 1
  have hgt : decide (R.length < n) = false := decide_eq_false (by omega)
  have hle := H.bs.le
  have hs1 := fun w => run_part_h p R.length cap n (by omega) w
  have hs2 := fun w => run_part_l p R.length cap n hn w
  have hlim := H.lim
  have hadd : wrap64 ((t : Int) + (n : Int)) = ((t + n : Nat) : Int) := by rw [w64 _ (by omega)]; omega
  have hadd2 : IntKind.i64.wrap ((t : Int) + (n : Int)) = ((t + n : Nat) : Int) := by rw [IntKind.wrap_i64]; omega
  have hp := H.pass hn
  have hof := hidp (hof _ hp.1 hp.2.1 hp.2.2)
  obtain ⟨tn, htn⟩ : ∃ tn, tn = t + n := ⟨_, rfl⟩
  rw [← htn] at hadd hadd2 hof
  obtain ⟨pa, hpa⟩ : ∃ pa, pa = partA p cap n := ⟨_, rfl⟩
  rw [← hpa] at hs2 hof
  obtain ⟨l2, hl2⟩ : ∃ l2, l2 = R.length - n := ⟨_, rfl⟩
  rw [← hl2] at hs2 hof
  obtain ⟨c2, hc2⟩ : ∃ c2, c2 = cap - n := ⟨_, rfl⟩
  rw [← hc2] at hs2 hof
  clear H hp htn hpa hl2 hc2 hlim hle hn
  go_enter Try.func119, Try.ntmps119
  go_wp2_with fail
  refine hof.out.mono ?_
  rintro e w2 (⟨v, rfl, hQ⟩ | ⟨ch, rfl, hQ⟩)
  · have hQ := hidp hQ
    go_wp2
    exact hQ.out
  · exact ⟨rfl, hQ⟩

theorem takeBool_short (c t : Nat) (p : Option Addr) (b o cap : Nat) (R : List Nat) (n : Nat) (w : World) (H : Cu w c t p b o cap R) (hn : R.length < n) :
    Calls Try.prog 123 #[.pointer (some ⟨c, 0, none⟩), .int .i64 (n : Nat), .func (.func 124) #[] #[]] w fun e w' => e = .panicked (brk 6) ∧ Below w.heap.size w w' := by
  have hc := H.c1
  have hgt : decide (R.length < n) = true := decide_eq_true hn
  clear H
  go_enter Try.func123, Try.ntmps123
  go_wp2
  exact ⟨rfl, rfl, by (repeat' (first | (with_reducible exact Below.refl _ _) | (with_reducible refine Below.alloc ?_ ?_ _) | (with_reducible refine Below.drew ?_) | (with_reducible refine Below.drewN ?_ _) | (with_reducible refine Below.setCell ?_ ?_ _) | go_size))⟩
theorem takeBool_ok (c t : Nat) (p : Option Addr) (b o cap : Nat) (R : List Nat) (n : Nat) (w : World) (H : Cu w c t p b o cap R) (hn : n ≤ R.length) (Q : Ending → World → Prop)
    (hof : ∀ w1, Cu w1 c (t + n) (partA p cap n) b (o + n) (cap - n) (R.drop n) → Bs w1 p b o (R.take n) cap → Bex c w w1 → Calls Try.prog 124 #[.slice p n cap] w1 fun e w' => (∃ v, e = .returned v ∧ Q (.returned v) w') ∨ (∃ ch, e = .panicked ch ∧ Q (.panicked ch) w')) :
    Calls Try.prog 123 #[.pointer (some ⟨c, 0, none⟩), .int .i64 (n : Nat), .func (.func 124) #[] #[]] w Q := by
  have hc := H.c1
  have hc0 := H.c0
  have hf0 := H.blk.free 0
  have hf1 := H.blk.free 1
  have hgt : decide (R.length < n) = false := decide_eq_false (by omega)
  have hle := H.bs.le
  have hs1 := fun w => run_part_h p R.length cap n (by omega) w
  have hs2 := fun w => run_part_l p R.length cap n hn w
  have hlim := H.lim
  have hadd : wrap64 ((t : Int) + (n : Int)) = ((t + n : Nat) : Int) := by rw [w64 _ (by omega)]; omega
  have hadd2 : IntKind.i64.wrap ((t : Int) + (n : Int)) = ((t + n : Nat) : Int) := by rw [IntKind.wrap_i64]; omega
  have hp := H.pass hn
  have hof := hidp (hof _ hp.1 hp.2.1 hp.2.2)
  obtain ⟨tn, htn⟩ : ∃ tn, tn = t + n := ⟨_, rfl⟩
  rw [← htn] at hadd hadd2 hof
  obtain ⟨pa, hpa⟩ : ∃ pa, pa = partA p cap n := ⟨_, rfl⟩
  rw [← hpa] at hs2 hof
  obtain ⟨l2, hl2⟩ : ∃ l2, l2 = R.length - n := ⟨_, rfl⟩
  rw [← hl2] at hs2 hof
  obtain ⟨c2, hc2⟩ : ∃ c2, c2 = cap - n := ⟨_, rfl⟩
  rw [← hc2] at hs2 hof
  clear H hp htn hpa hl2 hc2 hlim hle hn
  go_enter Try.func123, Try.ntmps123
  go_wp2_with fail
  refine hof.out.mono ?_
  rintro e w2 (⟨v, rfl, hQ⟩ | ⟨ch, rfl, hQ⟩)
  · have hQ := hidp hQ
    go_wp2
    exact hQ.out
  · exact ⟨rfl, hQ⟩

end Go.Proofs.Ytlfmmmlheloloaa
