/-
  Texts Ta, Tb, Tc, Td, Te, Tf, Tg, Th, R4a, R4b, R4c, R4d, one behind the other.
-/
import Derived.Test.YtbhkjflpkpkdlaaQi
import Derived.Deep.QuietTactic
import Derived.Deep.RegionHeld3
import Derived.Deep.AppendLies
import Derived.Deep.RegionLaw
import Derived.Test.YtbhkjflpkpkdlaaJv
import Derived.Deep.WholeRow

/-! Ta: The reference of layer 4: its reader: Fails, take. -/
namespace Go.Proofs.Ytbhkjflpkpkdlaa
open Go.RowKit Go.Lib Go.Maps

/-- The answer's reader: its bytes, its place, its fault. -/
structure RQ (W : World) (g : Nat) (p : Option Addr) (b cap : Nat) (B : List Nat) (t e f : Nat) : Prop where
  blk : Blk W g [.slice p B.length cap, .int .i64 (t : Nat), .int .i64 (e : Nat), .int .i64 (f : Nat)] 130
  bs : Bs W p b 0 B cap
  ne : 0 < cap → g ≠ b
  le : t ≤ B.length
theorem Bs.bexN {g : Nat} {w w' : World} {p : Option Addr} {b o cap : Nat} {L : List Nat} (h : Bs w p b o L cap) (hB : Bex g w w') (hne : 0 < cap → g ≠ b) : Bs w' p b o L cap :=
  ⟨h.byte, h.le, fun h0 => ⟨(h.ptr h0).1, Nat.lt_of_lt_of_le (h.ptr h0).2 hB.size⟩, fun i hi => by
    have h0 : 0 < cap := by have := h.le; omega
    have q := h.here i hi
    rw [← q]
    unfold World.cell?
    simp only
    rw [hB.block b (h.ptr h0).2 (fun e => hne h0 e.symm)]⟩
theorem RQ.below {w w' : World} {g b cap t e f : Nat} {p : Option Addr} {B : List Nat} (h : RQ w g p b cap B t e f) (hB : Below w.heap.size w w') : RQ w' g p b cap B t e f := ⟨hB.blk' h.blk, h.bs.below hB, h.ne, h.le⟩
theorem RQ.drewN {w : World} {g b cap t e f : Nat} {p : Option Addr} {B : List Nat} (h : RQ w g p b cap B t e f) (n : Nat) : RQ (w.drewN n) g p b cap B t e f := h.below ((Below.refl _ _).drewN n)
set_option maxRecDepth 100000 in
set_option maxHeartbeats 4000000 in
theorem fails_ok (g : Nat) (p : Option Addr) (b cap : Nat) (B : List Nat) (t f x y : Nat) (w : World) (h : RQ w g p b cap B t 0 f) :
    Calls Try.prog 152 #[.pointer (some ⟨g, 0, none⟩), .int .i64 (x : Nat), .int .i64 (y : Nat)] w fun e w' => e = .returned (.tuple #[]) ∧ RQ w' g p b cap B t x y ∧ Bex g w w' := by
  have H := hidp h
  have hlt := h.blk.lt
  have c2 := h.blk.cell 2
  have c3 := h.blk.cell 3
  have f2 := h.blk.free 2
  have f3 := h.blk.free 3
  simp only [List.getElem?_cons_zero, List.getElem?_cons_succ] at c2 c3
  clear h
  go_enter Try.func152, Try.ntmps152
  go_wp2_with fail
  refine bodyPost_end (results_none rfl _ _ _) rfl ?_
  have hx := ((Bex.refl g w).setCell 2 (.int .i64 (x : Nat))).setCell 3 (.int .i64 (y : Nat))
  exact ⟨rfl, ⟨(H.out.blk.set 2 (.int .i64 (x : Nat))).set 3 (.int .i64 (y : Nat)), H.out.bs.bexN hx H.out.ne, H.out.ne, H.out.le⟩, hx⟩
set_option maxRecDepth 100000 in
set_option maxHeartbeats 4000000 in
theorem take_dead (g : Nat) (p : Option Addr) (b cap : Nat) (B : List Nat) (t e f n y : Nat) (w : World) (h : RQ w g p b cap B t e f) (he : e ≠ 0) :
    Calls Try.prog 151 #[.pointer (some ⟨g, 0, none⟩), .int .i64 (n : Nat), .int .i64 (y : Nat)] w fun e w' => e = .returned (.slice none 0 0) ∧ w = w' := by
  have hz : (((e : Nat) : Int) != 0) = true := by rw [bne_iff_ne]; omega
  have hlt := h.blk.lt
  have c2 := h.blk.cell 2
  simp only [List.getElem?_cons_zero, List.getElem?_cons_succ] at c2
  clear h he
  go_enter Try.func151, Try.ntmps151
  go_wp2_with fail
  go_ret
  exact ⟨rfl, rfl⟩
set_option maxRecDepth 100000 in
set_option maxHeartbeats 4000000 in
theorem take_short (g : Nat) (p : Option Addr) (b cap : Nat) (B : List Nat) (t f n y : Nat) (w : World) (h : RQ w g p b cap B t 0 f) (hn : B.length < t + n) (hB : B.length ≤ 4000000) :
    Calls Try.prog 151 #[.pointer (some ⟨g, 0, none⟩), .int .i64 (n : Nat), .int .i64 (y : Nat)] w fun e w' => e = .returned (.slice none 0 0) ∧ RQ w' g p b cap B t 6 y ∧ Bex g w w' := by
  have H := hidp h
  have hlt := h.blk.lt
  have c0 := h.blk.cell 0
  have c1 := h.blk.cell 1
  have c2 := h.blk.cell 2
  simp only [List.getElem?_cons_zero, List.getElem?_cons_succ] at c0 c1 c2
  have hw1 : IntKind.i64.wrap ((B.length : Int) - (t : Int)) = (B.length : Int) - (t : Int) := by rw [IntKind.wrap_i64]; have := h.le; omega
  have hw2 : wrap64 ((B.length : Int) - (t : Int)) = (B.length : Int) - (t : Int) := by have := h.le; rw [w64 _ (by omega)]
  have hd : decide ((B.length : Int) - (t : Int) < (n : Int)) = true := decide_eq_true (by omega)
  clear h hn
  go_enter Try.func151, Try.ntmps151
  go_wp2_with fail
  go_quiet (fail)
  have H1 := hidp (H.out.drewN nq)
  have hb := hidp ((Bex.refl g w).drewN nq)
  clear c0 c1 c2 hlt hw1 hw2
  generalize w.drewN nq = w1 at H1 hb ⊢
  go_wp2_with fail
  refine (fails_ok g p b cap B t f 6 y w1 H1.out).mono ?_
  rintro e w2 ⟨rfl, hr, hx⟩
  have HR := hidp hr
  have HX := hidp (hb.out.trans hx)
  clear hr hx
  go_wp2_with fail
  go_ret
  exact ⟨rfl, HR.out, HX.out⟩
end Go.Proofs.Ytbhkjflpkpkdlaa

/-! Tb: The reference of layer 4: its reader: NewReader, End. -/
namespace Go.Proofs.Ytbhkjflpkpkdlaa
open Go.RowKit Go.Lib Go.Maps

set_option maxRecDepth 100000 in
set_option maxHeartbeats 4000000 in
theorem refNewReader_any (p : Option Addr) (cap : Nat) (L : List Nat) (w : World) (h : ByS w p cap L) (hn : L.length ≤ 3000000) :
    Calls Try.prog 23 #[.slice p L.length cap] w fun e w' => ∃ g q b c, e = .returned (.pointer (some ⟨g, 0, none⟩)) ∧ w.heap.size ≤ g ∧ w.heap.size ≤ b ∧ RQ w' g q b c L 0 0 0 ∧ Below w.heap.size w w' := by
  have hB : Hid (Below w.heap.size w (w.alloc (.cells #[] 5))) := hidp ((Below.refl _ w).alloc (Nat.le_refl _) _)
  have HS := hidp (h.below hB.out)
  have hown := hidp (own_nothing w)
  have HN := hidp hn
  have hby := hidp h.byte
  clear h hn
  go_enter Try.func23, Try.ntmps23
  go_wp2_with (at_builtin; refine wpList_append_byS rfl _ _ rfl w.heap.size 0 [] _ rfl hown.out p cap L rfl HS.out (by have := HN.out; omega) (by simp) ?_; intro v' w1 hown' hgrow; have hB1 := hidp (hB.out.grown hgrow (by simp) (fun j hj => (hown.out.lt j hj).1)); rw [Nat.zero_add, List.nil_append] at hown'; obtain ⟨q, b, c, rfl, hqb, hq0, hs⟩ := Bs.of_own hown' hby.out; have hS := hidp (And.intro hqb hs); clear hown' hgrow hqb hq0 hs)
  obtain ⟨hqb, hs⟩ := hS.out
  go_ret
  have ha := (Below.refl w1.heap.size w1).alloc (Nat.le_refl _) (.cells #[.slice q L.length c, .int .i64 0, .int .i64 0, .int .i64 0] 130)
  exact ⟨w1.heap.size, q, b, c, rfl, hB1.out.size, hqb, ⟨Blk.new w1 [.slice q L.length c, .int .i64 0, .int .i64 0, .int .i64 0] _, hs.below ha, fun h0 e => by have := (hs.ptr h0).2; omega, Nat.zero_le _⟩, hB1.out.trans (ha.mono hB1.out.size)⟩
set_option maxRecDepth 100000 in
set_option maxHeartbeats 4000000 in
theorem refEnd_dead (g : Nat) (p : Option Addr) (b cap : Nat) (B : List Nat) (t e f : Nat) (w : World) (h : RQ w g p b cap B t e f) (he : e ≠ 0 ∨ B.length ≤ t) :
    Calls Try.prog 28 #[.pointer (some ⟨g, 0, none⟩)] w fun x w' => x = .returned (.agg #[.int .i64 (e : Nat), .int .i64 (f : Nat)]) ∧ Below w.heap.size w w' := by
  have H := hidp h
  have hlt := h.blk.lt
  have c0 := h.blk.cell 0
  have c1 := h.blk.cell 1
  have c2 := h.blk.cell 2
  have c3 := h.blk.cell 3
  simp only [List.getElem?_cons_zero, List.getElem?_cons_succ] at c0 c1 c2 c3
  have HA := hidp (fun o : Obj => (Below.refl w.heap.size w).alloc (Nat.le_refl _) o)
  clear h
  by_cases h0 : e = 0
  · subst h0
    have hd : decide ((t : Nat) < B.length) = false := decide_eq_false (by omega)
    clear he
    go_enter Try.func28, Try.ntmps28
    go_wp2_with fail
    go_quiet (fail)
    go_wp2_with fail
    have hb0 : Blk ((w.alloc (.cells #[.int .i64 0, .int .i64 0] 55)).drewN nq) w.heap.size [.int .i64 0, .int .i64 0] 55 := Blk.new w [.int .i64 0, .int .i64 0] _
    have hb := (hb0.set 0 (.int .i64 0)).set 1 (.int .i64 (f : Nat))
    have hB := ((((HA.out (.cells #[.int .i64 0, .int .i64 0] 55)).drewN nq).setCell (p := ⟨w.heap.size, 0, none⟩) (Nat.le_refl _) (.int .i64 0)).setCell (p := ⟨w.heap.size, 1, none⟩) (Nat.le_refl _) (.int .i64 (f : Nat)))
    obtain ⟨W, hW⟩ : ∃ W, W = (((w.alloc (.cells #[.int .i64 0, .int .i64 0] 55)).drewN nq).setCell ⟨w.heap.size, 0, none⟩ (.int .i64 0)).setCell ⟨w.heap.size, 1, none⟩ (.int .i64 (f : Nat)) := ⟨_, rfl⟩
    have d0 := hb.cell 0
    have d1 := hb.cell 1
    simp only [List.set, List.getElem?_cons_zero, List.getElem?_cons_succ] at d0 d1
    rw [← hW] at hB d0 d1
    rw [← hW]
    exact bodyPost_ret (v := .agg #[.int .i64 0, .int .i64 (f : Nat)]) (by simp [results, Try.results28, go_sem, d0, d1]) rfl ⟨rfl, hB⟩
  · have hz : (((e : Nat) : Int) == 0) = false := by rw [beq_eq_false_iff_ne]; omega
    clear he h0
    go_enter Try.func28, Try.ntmps28
    go_wp2_with fail
    go_quiet (fail)
    go_wp2_with fail
    have hb0 : Blk ((w.alloc (.cells #[.int .i64 0, .int .i64 0] 55)).drewN nq) w.heap.size [.int .i64 0, .int .i64 0] 55 := Blk.new w [.int .i64 0, .int .i64 0] _
    have hb := (hb0.set 0 (.int .i64 (e : Nat))).set 1 (.int .i64 (f : Nat))
    have hB := ((((HA.out (.cells #[.int .i64 0, .int .i64 0] 55)).drewN nq).setCell (p := ⟨w.heap.size, 0, none⟩) (Nat.le_refl _) (.int .i64 (e : Nat))).setCell (p := ⟨w.heap.size, 1, none⟩) (Nat.le_refl _) (.int .i64 (f : Nat)))
    obtain ⟨W, hW⟩ : ∃ W, W = (((w.alloc (.cells #[.int .i64 0, .int .i64 0] 55)).drewN nq).setCell ⟨w.heap.size, 0, none⟩ (.int .i64 (e : Nat))).setCell ⟨w.heap.size, 1, none⟩ (.int .i64 (f : Nat)) := ⟨_, rfl⟩
    have d0 := hb.cell 0
    have d1 := hb.cell 1
    simp only [List.set, List.getElem?_cons_zero, List.getElem?_cons_succ] at d0 d1
    rw [← hW] at hB d0 d1
    rw [← hW]
    exact bodyPost_ret (v := .agg #[.int .i64 (e : Nat), .int .i64 (f : Nat)]) (by simp [results, Try.results28, go_sem, d0, d1]) rfl ⟨rfl, hB⟩
end Go.Proofs.Ytbhkjflpkpkdlaa

/-! Tc: The reference of layer 4: its reader: End with bytes left; take of what is there. -/
namespace Go.Proofs.Ytbhkjflpkpkdlaa
open Go.RowKit Go.Lib Go.Maps

set_option maxRecDepth 100000 in
set_option maxHeartbeats 4000000 in
theorem refEnd_long (g : Nat) (p : Option Addr) (b cap : Nat) (B : List Nat) (t f : Nat) (w : World) (h : RQ w g p b cap B t 0 f) (ht : t < B.length) :
    Calls Try.prog 28 #[.pointer (some ⟨g, 0, none⟩)] w fun x w' => x = .returned (.agg #[.int .i64 4, .int .i64 (t : Nat)]) ∧ Below w.heap.size w w' := by
  have H := hidp h
  have hlt := h.blk.lt
  have c0 := h.blk.cell 0
  have c1 := h.blk.cell 1
  have c2 := h.blk.cell 2
  have c3 := h.blk.cell 3
  simp only [List.getElem?_cons_zero, List.getElem?_cons_succ] at c0 c1 c2 c3
  have HA := hidp (fun o : Obj => (Below.refl w.heap.size w).alloc (Nat.le_refl _) o)
  have hd : decide ((t : Nat) < B.length) = true := decide_eq_true ht
  clear h ht
  go_enter Try.func28, Try.ntmps28
  go_wp2_with fail
  go_quiet (fail)
  go_wp2_with fail
  have hb0 : Blk ((w.alloc (.cells #[.int .i64 0, .int .i64 0] 55)).drewN nq) w.heap.size [.int .i64 0, .int .i64 0] 55 := Blk.new w [.int .i64 0, .int .i64 0] _
  have hb := (hb0.set 0 (.int .i64 4)).set 1 (.int .i64 (t : Nat))
  have hB := ((((HA.out (.cells #[.int .i64 0, .int .i64 0] 55)).drewN nq).setCell (p := ⟨w.heap.size, 0, none⟩) (Nat.le_refl _) (.int .i64 4)).setCell (p := ⟨w.heap.size, 1, none⟩) (Nat.le_refl _) (.int .i64 (t : Nat)))
  obtain ⟨W, hW⟩ : ∃ W, W = (((w.alloc (.cells #[.int .i64 0, .int .i64 0] 55)).drewN nq).setCell ⟨w.heap.size, 0, none⟩ (.int .i64 4)).setCell ⟨w.heap.size, 1, none⟩ (.int .i64 (t : Nat)) := ⟨_, rfl⟩
  have d0 := hb.cell 0
  have d1 := hb.cell 1
  simp only [List.set, List.getElem?_cons_zero, List.getElem?_cons_succ] at d0 d1
  rw [← hW] at hB d0 d1
  rw [← hW]
  exact bodyPost_ret (v := .agg #[.int .i64 4, .int .i64 (t : Nat)]) (by simp [results, Try.results28, go_sem, d0, d1]) rfl ⟨rfl, hB⟩
/-- The answer's reader: the cells that are loaded. -/
def RC (g : Nat) (p : Option Addr) (n cap t : Nat) (W : World) : Prop := W.cell? ⟨g, 0, none⟩ = some (.slice p n cap) ∧ W.cell? ⟨g, 1, none⟩ = some (.int .i64 (t : Nat))
theorem RC.drew {g n cap t : Nat} {p : Option Addr} {W : World} (h : Hid (RC g p n cap t W)) : Hid (RC g p n cap t W.drew) := hidp h.out
theorem RC.below {g n cap t : Nat} {p : Option Addr} {W W' : World} (h : Hid (RC g p n cap t W)) (hB : Below W.heap.size W W') : Hid (RC g p n cap t W') :=
  hidp ⟨(hB.cell (cell_lt h.out.1)).trans h.out.1, (hB.cell (cell_lt h.out.2)).trans h.out.2⟩
theorem RC.alloc {g n cap t : Nat} {p : Option Addr} {W : World} (h : Hid (RC g p n cap t W)) (o : Obj) : Hid (RC g p n cap t (W.alloc o)) := RC.below h ((Below.refl _ W).alloc (Nat.le_refl _) o)
end Go.Proofs.Ytbhkjflpkpkdlaa

/-! Td: The reference of layer 4: its reader: take of what is there. -/
namespace Go.Proofs.Ytbhkjflpkpkdlaa
open Go.RowKit Go.Lib Go.Maps

set_option maxRecDepth 100000 in
set_option maxHeartbeats 4000000 in
theorem take_ok (g : Nat) (b cap : Nat) (B : List Nat) (t f n y : Nat) (w : World) (h : RQ w g (some ⟨b, 0, none⟩) b cap B t 0 f) (h0 : 0 < n) (hn : t + n ≤ B.length) (hB : B.length ≤ 4000000) :
    Calls Try.prog 151 #[.pointer (some ⟨g, 0, none⟩), .int .i64 (n : Nat), .int .i64 (y : Nat)] w fun e w' => (∃ q qb c, e = .returned (.slice q n c) ∧ w.heap.size ≤ qb ∧ Bs w' q qb 0 ((B.drop t).take n) c) ∧ RQ w' g (some ⟨b, 0, none⟩) b cap B (t + n) 0 f ∧ Bex g w w' := by
  obtain ⟨i0, hi, hz0, hz1, hz2⟩ := info_parts info_byte
  have H := hidp h
  have hlt := h.blk.lt
  have c0 := h.blk.cell 0
  have c1 := h.blk.cell 1
  have c2 := h.blk.cell 2
  simp only [List.getElem?_cons_zero, List.getElem?_cons_succ] at c0 c1 c2
  have hw1 : IntKind.i64.wrap ((B.length : Int) - (t : Int)) = (B.length : Int) - (t : Int) := by rw [IntKind.wrap_i64]; have := h.le; omega
  have hw3 : IntKind.i64.wrap ((t : Int) + (n : Int)) = (t : Int) + (n : Int) := by rw [IntKind.wrap_i64]; omega
  have hw4 : wrap64 ((t : Int) + (n : Int)) = (t : Int) + (n : Int) := by rw [w64 _ (by omega)]
  have hd : decide ((B.length : Int) - (t : Int) < (n : Int)) = false := decide_eq_false (by omega)
  obtain ⟨t', ht'⟩ : ∃ t', partA (some ⟨b, 0, none⟩) cap t = some ⟨b, t', none⟩ ∧ t' = t := by
    refine ⟨t, ?_, rfl⟩
    unfold partA
    rw [if_neg (by have := h.bs.le; omega)]
    simp [Addr.add]
    exact fun h => h.symm
  obtain ⟨ht', rfl⟩ := ht'
  have kp : ∀ w, (Instr.sliceAt 32 (.slice (some ⟨b, 0, none⟩) B.length cap) (some (.int .i64 (t' : Int))) (some (.int .i64 ((t' : Int) + (n : Int)))) none).run Try.prog w = .ok (.slice (some ⟨b, t', none⟩) n (cap - t')) w := fun w => by
    have q := run_part_lh (some ⟨b, 0, none⟩) B.length cap t' n (t' + n) rfl (by have := h.bs.le; omega) w
    rw [ht'] at q
    exact q
  have hE := hidp (show RC g (some ⟨b, 0, none⟩) B.length cap t' w from ⟨c0, c1⟩)
  have HN := hidp (show 0 < n ∧ t' + n ≤ B.length ∧ B.length ≤ 4000000 from ⟨h0, hn, hB⟩)
  have hb0 := hidp (Below.refl w.heap.size w)
  clear h h0 hn ht' hB
  go_enter Try.func151, Try.ntmps151
  go_wp2_with fail
  go_quiet (fail)
  have H1 := hidp (H.out.drewN nq)
  have hE1 := hidp (show RC g (some ⟨b, 0, none⟩) B.length cap t' (w.drewN nq) from hE.out)
  have hb1 := hidp (hb0.out.drewN nq)
  have hx1 := hidp ((Bex.refl g w).drewN nq)
  clear c0 c1 c2 hlt hw1 hd hE hb0
  generalize w.drewN nq = w1 at H1 hE1 hb1 hx1 ⊢
  have hlt1 := H1.out.blk.lt
  obtain ⟨X, hX⟩ : ∃ X, X = (B.drop t').take n := ⟨_, rfl⟩
  have hXl : X.length = n := by rw [hX, List.length_take, List.length_drop]; have := HN.out; omega
  have hXb : ∀ x ∈ X, x < 256 := fun x hx => by rw [hX] at hx; exact H1.out.bs.byte x (List.mem_of_mem_drop (List.mem_of_mem_take hx))
  have hSrc := hidp (fun (W : World) (hW : Below w1.heap.size w1 W) (j : Nat) (u : Value) (hj : (bvs X)[j]? = some u) => (show W.cell? ((⟨b, t', none⟩ : Addr).add j) = some u from by
    have hj1 : j < X.length := by
      rcases Nat.lt_or_ge j X.length with h1 | h1
      · exact h1
      · rw [List.getElem?_eq_none (by rw [bvs_len]; exact h1)] at hj; cases hj
    rw [Addr.add_mid, ← hj, bvs_get hj1]
    have q := (H1.out.bs.below hW).here (t' + j) (by have := HN.out; omega)
    rw [Nat.zero_add] at q
    have e : B.getD (t' + j) 0 = X.getD j 0 := by
      rw [hX, List.getD_eq_getElem?_getD, List.getD_eq_getElem?_getD, List.getElem?_take, if_pos (by omega), List.getElem?_drop]
    rw [q, e]))
  have HXX := hidp (And.intro hX (And.intro hXl hXb))
  clear hX hXl hXb
  go_wp2_with fail
  go_region_held3 (fun W => W.cell? ⟨g, 0, none⟩ = some (.slice (some ⟨b, 0, none⟩) B.length cap) ∧ W.cell? ⟨g, 1, none⟩ = some (.int .i64 (t' : Nat)))
    (first | (with_reducible exact Hid.out (p := RC g (some ⟨b, 0, none⟩) B.length cap t' _) (by with_reducible assumption)) | exact Hid.out (p := RC g (some ⟨b, 0, none⟩) B.length cap t' _) (by with_reducible assumption) | exact Hid.out (p := RC g (some ⟨b, 0, none⟩) B.length cap t' _) (RC.drew (by with_reducible assumption)) | exact Hid.out (p := RC g (some ⟨b, 0, none⟩) B.length cap t' _) (RC.alloc (by with_reducible assumption) _) | exact Hid.out (p := RC g (some ⟨b, 0, none⟩) B.length cap t' _) (RC.drew (RC.alloc (by with_reducible assumption) _)) | exact Hid.out (p := RC g (some ⟨b, 0, none⟩) B.length cap t' _) (RC.alloc (RC.drew (by with_reducible assumption)) _))
    (first | (refine step_append_lies _ (by rfl) _ _ 32 (by rfl) w1.heap.size 5 i0 _ 1 1 Try.underlying32 hi hz0 hz1 hz2 (by rfl) (by decide) _ 0 [] (by rfl) (by first | exact own_nothing w1 | exact own_nothing w1.drew) ⟨b, t', none⟩ n (cap - t') (bvs X) (by rfl) (by rw [bvs_len, HXX.out.2.1, Nat.mul_one]) (hSrc.out _ (by (repeat' (first | (with_reducible exact Below.refl _ _) | (with_reducible refine Below.alloc ?_ ?_ _) | (with_reducible refine Below.drew ?_) | (with_reducible refine Below.drewN ?_ _) | (with_reducible refine Below.setCell ?_ ?_ _) | go_size)))) (bvs_oneL _) HN.out.1 (by have := HN.out; unfold maxLen; omega) (by have := HN.out; omega) (by simp) _ (by rfl) ?_; intro gv cv w7 ho7 hg7 _ _; have H7 := hidp (show w7.ownsRow w1.heap.size 5 1 (.slice (some ⟨gv, 0, none⟩) (0 + n) cv) (0 + n) ([] ++ bvs X) ∧ Below w1.heap.size w1 w7 from ⟨ho7, (show Below w1.heap.size w1 _ from by (repeat' (first | (with_reducible exact Below.refl _ _) | (with_reducible refine Below.alloc ?_ ?_ _) | (with_reducible refine Below.drew ?_) | (with_reducible refine Below.drewN ?_ _) | (with_reducible refine Below.setCell ?_ ?_ _) | go_size))).grown hg7 (by simp) (fun j e => by cases e; exact Nat.le_refl _)⟩); have hT7 := RC.below hE1 H7.out.2; clear ho7 hg7))
  have R7 := hidp (H1.out.below H7.out.2)
  have c1 := R7.out.blk.cell 1
  have f1 := R7.out.blk.free 1
  simp only [List.getElem?_cons_zero, List.getElem?_cons_succ] at c1
  have hlt7 := R7.out.blk.lt
  go_wp2_with fail
  go_ret
  have ho := H7.out.1
  rw [Nat.zero_add, List.nil_append] at ho
  have hl : n = X.length := HXX.out.2.1.symm
  rw [hl] at ho
  obtain ⟨q, qb, c, hv, hqb, _, hs⟩ := Bs.of_own ho HXX.out.2.2
  have hbx : Bex g w7 (w7.setCell ⟨g, 1, none⟩ (.int .i64 ((t' + n : Nat) : Int))) := (Bex.refl g w7).setCell 1 _
  have hgq : 0 < c → g ≠ qb := fun _ e => by omega
  refine ⟨⟨q, qb, c, ?_, Nat.le_trans hb1.out.size hqb, ?_⟩, ⟨R7.out.blk.set 1 (.int .i64 ((t' + n : Nat) : Int)), R7.out.bs.bexN hbx R7.out.ne, R7.out.ne, HN.out.2.1⟩, (hx1.out.trans (Bex.of_below H7.out.2)).trans hbx⟩
  · rw [← hl] at hv
    exact congrArg Ending.returned hv
  · rw [← HXX.out.1]; exact hs.bexN hbx hgq
end Go.Proofs.Ytbhkjflpkpkdlaa

/-! Te: The reference of layer 4: its reader: take of nothing. -/
namespace Go.Proofs.Ytbhkjflpkpkdlaa
open Go.RowKit Go.Lib Go.Maps

set_option maxRecDepth 100000 in
set_option maxHeartbeats 4000000 in
theorem take_zero (g : Nat) (b cap : Nat) (B : List Nat) (t f y : Nat) (w : World) (h : RQ w g (some ⟨b, 0, none⟩) b cap B t 0 f) (hn : t ≤ B.length) (hB : B.length ≤ 4000000) :
    Calls Try.prog 151 #[.pointer (some ⟨g, 0, none⟩), .int .i64 0, .int .i64 (y : Nat)] w fun e w' => (∃ q c, e = .returned (.slice q 0 c)) ∧ RQ w' g (some ⟨b, 0, none⟩) b cap B t 0 f ∧ Bex g w w' := by
  obtain ⟨i0, hi, hz0, hz1, hz2⟩ := info_parts info_byte
  have H := hidp h
  have hlt := h.blk.lt
  have c0 := h.blk.cell 0
  have c1 := h.blk.cell 1
  have c2 := h.blk.cell 2
  simp only [List.getElem?_cons_zero, List.getElem?_cons_succ] at c0 c1 c2
  have hw1 : IntKind.i64.wrap ((B.length : Int) - (t : Int)) = (B.length : Int) - (t : Int) := by rw [IntKind.wrap_i64]; have := h.le; omega
  have hw3 : IntKind.i64.wrap (t : Int) = (t : Int) := by rw [IntKind.wrap_i64]; omega
  have hw4 : wrap64 (t : Int) = (t : Int) := by rw [w64 _ (by omega)]
  have hd : decide ((B.length : Int) - (t : Int) < 0) = false := decide_eq_false (by omega)
  obtain ⟨y', hy'⟩ : ∃ y' : Addr, partA (some ⟨b, 0, none⟩) cap t = some y' := by
    unfold partA
    split
    · exact ⟨_, rfl⟩
    · exact ⟨_, rfl⟩
  have kp : ∀ w, (Instr.sliceAt 32 (.slice (some ⟨b, 0, none⟩) B.length cap) (some (.int .i64 (t : Int))) (some (.int .i64 (t : Int))) none).run Try.prog w = .ok (.slice (some y') 0 (cap - t)) w := fun w => by
    have q := run_part_lh (some ⟨b, 0, none⟩) B.length cap t 0 t rfl (by have := h.bs.le; omega) w
    rw [hy'] at q
    exact q
  have hE := hidp (show RC g (some ⟨b, 0, none⟩) B.length cap t w from ⟨c0, c1⟩)
  have HN := hidp (And.intro hn hB)
  have hb0 := hidp (Below.refl w.heap.size w)
  clear h hn hy' hB
  go_enter Try.func151, Try.ntmps151
  go_wp2_with fail
  go_quiet (fail)
  have H1 := hidp (H.out.drewN nq)
  have hE1 := hidp (show RC g (some ⟨b, 0, none⟩) B.length cap t (w.drewN nq) from hE.out)
  have hb1 := hidp (hb0.out.drewN nq)
  have hx1 := hidp ((Bex.refl g w).drewN nq)
  clear c0 c1 c2 hlt hw1 hd hE hb0
  generalize w.drewN nq = w1 at H1 hE1 hb1 hx1 ⊢
  have hlt1 := H1.out.blk.lt
  go_wp2_with fail
  go_region_held3 (fun W => W.cell? ⟨g, 0, none⟩ = some (.slice (some ⟨b, 0, none⟩) B.length cap) ∧ W.cell? ⟨g, 1, none⟩ = some (.int .i64 (t : Nat)))
    (first | (with_reducible exact Hid.out (p := RC g (some ⟨b, 0, none⟩) B.length cap t _) (by with_reducible assumption)) | exact Hid.out (p := RC g (some ⟨b, 0, none⟩) B.length cap t _) (by with_reducible assumption) | exact Hid.out (p := RC g (some ⟨b, 0, none⟩) B.length cap t _) (RC.drew (by with_reducible assumption)) | exact Hid.out (p := RC g (some ⟨b, 0, none⟩) B.length cap t _) (RC.alloc (by with_reducible assumption) _) | exact Hid.out (p := RC g (some ⟨b, 0, none⟩) B.length cap t _) (RC.drew (RC.alloc (by with_reducible assumption) _)) | exact Hid.out (p := RC g (some ⟨b, 0, none⟩) B.length cap t _) (RC.alloc (RC.drew (by with_reducible assumption)) _))
    (first | (refine step_append_room (by rfl) _ _ 32 (by rfl) 5 i0 1 Try.underlying32 hi hz1 w1.heap.size 0 0 0 (by rfl) y' 0 (cap - t) [] (by rfl) (by rfl) (fun j u hj => by simp at hj) (fun u hu => by simp at hu) (by decide) (fun j hj => by simp at hj) ?_))
  have hb7 : Below w1.heap.size w1 ((w1.alloc (.cells #[] 5)).drew.setCells w1.heap.size (0 + 0 * 1) []) := by
    show Below w1.heap.size w1 (w1.alloc (.cells #[] 5)).drew
    exact ((Below.refl _ w1).alloc (Nat.le_refl _) _).drew
  generalize (w1.alloc (.cells #[] 5)).drew.setCells w1.heap.size (0 + 0 * 1) [] = w7 at hb7 ⊢
  have H7 := hidp hb7
  clear hb7
  have R7 := hidp (H1.out.below H7.out)
  have c1 := R7.out.blk.cell 1
  have f1 := R7.out.blk.free 1
  simp only [List.getElem?_cons_zero, List.getElem?_cons_succ] at c1
  have hlt7 := R7.out.blk.lt
  go_wp2_with fail
  go_ret
  have hbx : Bex g w7 (w7.setCell ⟨g, 1, none⟩ (.int .i64 (t : Nat))) := (Bex.refl g w7).setCell 1 _
  exact ⟨⟨_, _, rfl⟩, ⟨R7.out.blk.set 1 (.int .i64 (t : Nat)), R7.out.bs.bexN hbx R7.out.ne, R7.out.ne, HN.out.1⟩, (hx1.out.trans (Bex.of_below H7.out)).trans hbx⟩
end Go.Proofs.Ytbhkjflpkpkdlaa

/-! Tf: The reference of layer 4: its reader: Key where there is none. -/
namespace Go.Proofs.Ytbhkjflpkpkdlaa
open Go.RowKit Go.Lib Go.Maps

set_option maxRecDepth 100000 in
set_option maxHeartbeats 4000000 in
theorem refKey_dead (g : Nat) (p : Option Addr) (b cap : Nat) (B : List Nat) (t e f : Nat) (w : World) (h : RQ w g p b cap B t e f) (he : e ≠ 0) :
    Calls Try.prog 93 #[.pointer (some ⟨g, 0, none⟩)] w fun x w' => x = .returned (.agg #[.int .u8 0, .int .u8 0, .int .u8 0, .int .u8 0]) ∧ Below w.heap.size w w' := by
  have H := hidp h
  have hlt := h.blk.lt
  have c1 := h.blk.cell 1
  simp only [List.getElem?_cons_zero, List.getElem?_cons_succ] at c1
  have HA := hidp (fun o o' : Obj => ((Below.refl w.heap.size w).alloc (Nat.le_refl _) o).alloc (by simp) o')
  have HD := hidp (fun o o' : Obj => take_dead g p b cap B t e f 4 t _ (h.below (HA.out o o')) he)
  clear h he
  go_enter Try.func93, Try.ntmps93
  go_wp2_with fail
  refine (HD.out _ _).mono ?_
  rintro x wx ⟨rfl, hwx⟩
  have hK : Hid (Blk wx (w.heap.size + 1) [.int .u8 0, .int .u8 0, .int .u8 0, .int .u8 0] 36 ∧ Blk wx w.heap.size [.int .u8 0, .int .u8 0, .int .u8 0, .int .u8 0] 36 ∧ Below w.heap.size w wx) := by
    rw [← hwx]
    exact hidp ⟨Blk.new' (w.alloc _) [.int .u8 0, .int .u8 0, .int .u8 0, .int .u8 0] _ _ (by simp), (Blk.new w [.int .u8 0, .int .u8 0, .int .u8 0, .int .u8 0] _).alloc _, HA.out _ _⟩
  clear hwx HD HA c1 hlt H
  go_wp2_with fail
  go_loopw [5] (fun x wr => x = .int .i64 0 ∧ wr = wx) (fun _ _ => 0)
  case atStart => exact ⟨rfl, rfl⟩
  case round =>
    obtain ⟨rfl, rfl⟩ := hrel
    have k0 := hK.out.1.cell 0
    have k1 := hK.out.1.cell 1
    have k2 := hK.out.1.cell 2
    have k3 := hK.out.1.cell 3
    have r0 := hK.out.2.1.cell 0
    have r1 := hK.out.2.1.cell 1
    have r2 := hK.out.2.1.cell 2
    have r3 := hK.out.2.1.cell 3
    have f0 := hK.out.2.1.free 0
    have f1 := hK.out.2.1.free 1
    have f2 := hK.out.2.1.free 2
    have f3 := hK.out.2.1.free 3
    simp only [List.getElem?_cons_zero, List.getElem?_cons_succ] at k0 k1 k2 k3 r0 r1 r2 r3
    go_wp2_with fail
    have hb := (((hK.out.2.1.set 0 (.int .u8 0)).set 1 (.int .u8 0)).set 2 (.int .u8 0)).set 3 (.int .u8 0)
    have hB := (((hK.out.2.2.setCell (p := ⟨w.heap.size, 0, none⟩) (Nat.le_refl _) (.int .u8 0)).setCell (p := ⟨w.heap.size, 1, none⟩) (Nat.le_refl _) (.int .u8 0)).setCell (p := ⟨w.heap.size, 2, none⟩) (Nat.le_refl _) (.int .u8 0)).setCell (p := ⟨w.heap.size, 3, none⟩) (Nat.le_refl _) (.int .u8 0)
    obtain ⟨W, hW⟩ : ∃ W, W = ((((wr.setCell ⟨w.heap.size, 0, none⟩ (.int .u8 0)).setCell ⟨w.heap.size, 1, none⟩ (.int .u8 0)).setCell ⟨w.heap.size, 2, none⟩ (.int .u8 0)).setCell ⟨w.heap.size, 3, none⟩ (.int .u8 0)) := ⟨_, rfl⟩
    have d0 := hb.cell 0
    have d1 := hb.cell 1
    have d2 := hb.cell 2
    have d3 := hb.cell 3
    simp only [List.set, List.getElem?_cons_zero, List.getElem?_cons_succ] at d0 d1 d2 d3
    rw [← hW] at hB d0 d1 d2 d3
    rw [← hW]
    exact bodyPost_ret (v := .agg #[.int .u8 0, .int .u8 0, .int .u8 0, .int .u8 0]) (by simp [results, Try.results93, go_sem, d0, d1, d2, d3]) rfl ⟨rfl, hB⟩
end Go.Proofs.Ytbhkjflpkpkdlaa

/-! Tg: The reference of layer 4: its reader: Key. -/
namespace Go.Proofs.Ytbhkjflpkpkdlaa
open Go.RowKit Go.Lib Go.Maps

/-- Stores into blocks from base on leave a reader ahead of it as it was. -/
theorem RQ.lower {w w' : World} {B0 g b cap t e f : Nat} {p : Option Addr} {B : List Nat} (h : RQ w g p b cap B t e f) (hB : Below B0 w w') (hg : g < B0) (hb : 0 < cap → b < B0) : RQ w' g p b cap B t e f :=
  ⟨h.blk.below hB hg, ⟨h.bs.byte, h.bs.le, fun h0 => ⟨(h.bs.ptr h0).1, Nat.lt_of_lt_of_le (h.bs.ptr h0).2 hB.size⟩, fun i hi => (hB.cell (p := ⟨b, 0 + i, none⟩) (hb (by have := h.bs.le; omega))).trans (h.bs.here i hi)⟩, h.ne, h.le⟩
theorem Bex.low {w w1 w2 : World} {g : Nat} (h : Bex g w w1) (k : Below w.heap.size w1 w2) : Bex g w w2 :=
  ⟨k.os.trans h.os, k.tape.trans h.tape, k.output.trans h.output, Nat.le_trans h.size k.size, fun j hj hne => (k.block j hj).trans (h.block j hj hne)⟩
set_option maxRecDepth 100000 in
set_option maxHeartbeats 4000000 in
theorem refKey_short (g : Nat) (p : Option Addr) (b cap : Nat) (B : List Nat) (t f : Nat) (w : World) (h : RQ w g p b cap B t 0 f) (hn : B.length < t + 4) (hB : B.length ≤ 4000000) :
    Calls Try.prog 93 #[.pointer (some ⟨g, 0, none⟩)] w fun x w' => x = .returned (.agg #[.int .u8 0, .int .u8 0, .int .u8 0, .int .u8 0]) ∧ RQ w' g p b cap B t 6 t ∧ Bex g w w' := by
  have H := hidp h
  have hlt := h.blk.lt
  have hbl := fun h0 => (h.bs.ptr h0).2
  have HL := hidp (And.intro hlt hbl)
  have c1 := h.blk.cell 1
  simp only [List.getElem?_cons_zero, List.getElem?_cons_succ] at c1
  have HA := hidp (fun o o' : Obj => ((Below.refl w.heap.size w).alloc (Nat.le_refl _) o).alloc (by simp) o')
  have HD := hidp (fun o o' : Obj => take_short g p b cap B t f 4 t _ (h.below (HA.out o o')) hn hB)
  clear h hn hB hbl
  go_enter Try.func93, Try.ntmps93
  go_wp2_with fail
  refine (HD.out _ _).mono ?_
  rintro x wx ⟨rfl, hr, hx⟩
  have hK : Hid (Blk wx (w.heap.size + 1) [.int .u8 0, .int .u8 0, .int .u8 0, .int .u8 0] 36 ∧ Blk wx w.heap.size [.int .u8 0, .int .u8 0, .int .u8 0, .int .u8 0] 36 ∧ Bex g w wx ∧ RQ wx g p b cap B t 6 t) := by
    have h1 := HL.out.1
    exact hidp ⟨hx.blk (Blk.new' (w.alloc _) [.int .u8 0, .int .u8 0, .int .u8 0, .int .u8 0] _ _ (by simp)) (by omega), hx.blk ((Blk.new w [.int .u8 0, .int .u8 0, .int .u8 0, .int .u8 0] _).alloc _) (by omega), (Bex.of_below (HA.out _ _)).trans hx, hr⟩
  clear hr hx HD HA c1 H
  go_wp2_with fail
  go_loopw [5] (fun x wr => x = .int .i64 0 ∧ wr = wx) (fun _ _ => 0)
  case atStart => exact ⟨rfl, rfl⟩
  case round =>
    obtain ⟨rfl, rfl⟩ := hrel
    have k0 := hK.out.1.cell 0
    have k1 := hK.out.1.cell 1
    have k2 := hK.out.1.cell 2
    have k3 := hK.out.1.cell 3
    have r0 := hK.out.2.1.cell 0
    have r1 := hK.out.2.1.cell 1
    have r2 := hK.out.2.1.cell 2
    have r3 := hK.out.2.1.cell 3
    have f0 := hK.out.2.1.free 0
    have f1 := hK.out.2.1.free 1
    have f2 := hK.out.2.1.free 2
    have f3 := hK.out.2.1.free 3
    simp only [List.getElem?_cons_zero, List.getElem?_cons_succ] at k0 k1 k2 k3 r0 r1 r2 r3
    go_wp2_with fail
    have hb := (((hK.out.2.1.set 0 (.int .u8 0)).set 1 (.int .u8 0)).set 2 (.int .u8 0)).set 3 (.int .u8 0)
    have hS : Below w.heap.size wr ((((wr.setCell ⟨w.heap.size, 0, none⟩ (.int .u8 0)).setCell ⟨w.heap.size, 1, none⟩ (.int .u8 0)).setCell ⟨w.heap.size, 2, none⟩ (.int .u8 0)).setCell ⟨w.heap.size, 3, none⟩ (.int .u8 0)) := ((((Below.refl w.heap.size wr).setCell (p := ⟨w.heap.size, 0, none⟩) (Nat.le_refl _) (.int .u8 0)).setCell (p := ⟨w.heap.size, 1, none⟩) (Nat.le_refl _) (.int .u8 0)).setCell (p := ⟨w.heap.size, 2, none⟩) (Nat.le_refl _) (.int .u8 0)).setCell (p := ⟨w.heap.size, 3, none⟩) (Nat.le_refl _) (.int .u8 0)
    obtain ⟨W, hW⟩ : ∃ W, W = ((((wr.setCell ⟨w.heap.size, 0, none⟩ (.int .u8 0)).setCell ⟨w.heap.size, 1, none⟩ (.int .u8 0)).setCell ⟨w.heap.size, 2, none⟩ (.int .u8 0)).setCell ⟨w.heap.size, 3, none⟩ (.int .u8 0)) := ⟨_, rfl⟩
    have d0 := hb.cell 0
    have d1 := hb.cell 1
    have d2 := hb.cell 2
    have d3 := hb.cell 3
    simp only [List.set, List.getElem?_cons_zero, List.getElem?_cons_succ] at d0 d1 d2 d3
    rw [← hW] at hS d0 d1 d2 d3
    rw [← hW]
    exact bodyPost_ret (v := .agg #[.int .u8 0, .int .u8 0, .int .u8 0, .int .u8 0]) (by simp [results, Try.results93, go_sem, d0, d1, d2, d3]) rfl ⟨rfl, hK.out.2.2.2.lower hS HL.out.1 HL.out.2, hK.out.2.2.1.low hS⟩
end Go.Proofs.Ytbhkjflpkpkdlaa

/-! Th: The reference of layer 4: its reader: Key of what is there. -/
namespace Go.Proofs.Ytbhkjflpkpkdlaa
open Go.RowKit Go.Lib Go.Maps

def kst (x0 x1 x2 x3 : Nat) : Nat → List Value
  | 0 => [.int .u8 0, .int .u8 0, .int .u8 0, .int .u8 0]
  | 1 => [.int .u8 (x0 : Nat), .int .u8 0, .int .u8 0, .int .u8 0]
  | 2 => [.int .u8 (x0 : Nat), .int .u8 (x1 : Nat), .int .u8 0, .int .u8 0]
  | 3 => [.int .u8 (x0 : Nat), .int .u8 (x1 : Nat), .int .u8 (x2 : Nat), .int .u8 0]
  | _ => [.int .u8 (x0 : Nat), .int .u8 (x1 : Nat), .int .u8 (x2 : Nat), .int .u8 (x3 : Nat)]
structure KyI (w wx wr : World) (x0 x1 x2 x3 i : Nat) : Prop where
  k : Blk wr (w.heap.size + 1) (kst x0 x1 x2 x3 i) 36
  r : Blk wr w.heap.size [.int .u8 0, .int .u8 0, .int .u8 0, .int .u8 0] 36
  x : Bex (w.heap.size + 1) wx wr
set_option maxRecDepth 100000 in
set_option maxHeartbeats 4000000 in
theorem refKey_ok (g b cap : Nat) (B : List Nat) (t f x0 x1 x2 x3 : Nat) (w : World) (h : RQ w g (some ⟨b, 0, none⟩) b cap B t 0 f) (hn : t + 4 ≤ B.length) (hB : B.length ≤ 4000000) (hX : (B.drop t).take 4 = [x0, x1, x2, x3]) :
    Calls Try.prog 93 #[.pointer (some ⟨g, 0, none⟩)] w fun x w' => x = .returned (.agg #[.int .u8 (x0 : Nat), .int .u8 (x1 : Nat), .int .u8 (x2 : Nat), .int .u8 (x3 : Nat)]) ∧ RQ w' g (some ⟨b, 0, none⟩) b cap B (t + 4) 0 f ∧ Bex g w w' := by
  have H := hidp h
  have hlt := h.blk.lt
  have hbl := fun h0 => (h.bs.ptr h0).2
  have HL := hidp (And.intro hlt hbl)
  have c1 := h.blk.cell 1
  simp only [List.getElem?_cons_zero, List.getElem?_cons_succ] at c1
  have HA := hidp (fun o o' : Obj => ((Below.refl w.heap.size w).alloc (Nat.le_refl _) o).alloc (by simp) o')
  have HD := hidp (fun o o' : Obj => take_ok g b cap B t f 4 t _ (h.below (HA.out o o')) (by decide) hn hB)
  clear h hn hB hbl
  go_enter Try.func93, Try.ntmps93
  go_wp2_with fail
  refine (HD.out _ _).mono ?_
  rintro x wx ⟨⟨q, qb, c, rfl, hq, hs⟩, hr, hx⟩
  rw [hX] at hs
  obtain ⟨rfl, hqlt⟩ := hs.ptr (by have := hs.le; simp at this; omega)
  have hq2 : w.heap.size + 2 ≤ qb := by simpa using hq
  have hK : Hid (Blk wx (w.heap.size + 1) [.int .u8 0, .int .u8 0, .int .u8 0, .int .u8 0] 36 ∧ Blk wx w.heap.size [.int .u8 0, .int .u8 0, .int .u8 0, .int .u8 0] 36 ∧ Bex g w wx ∧ RQ wx g (some ⟨b, 0, none⟩) b cap B (t + 4) 0 f) := by
    have h1 := HL.out.1
    exact hidp ⟨hx.blk (Blk.new' (w.alloc _) [.int .u8 0, .int .u8 0, .int .u8 0, .int .u8 0] _ _ (by simp)) (by omega), hx.blk ((Blk.new w [.int .u8 0, .int .u8 0, .int .u8 0, .int .u8 0] _).alloc _) (by omega), (Bex.of_below (HA.out _ _)).trans hx, hr⟩
  have HS := hidp (And.intro hs hq2)
  have H0 : Hid (KyI w wx wx x0 x1 x2 x3 0) := hidp ⟨hK.out.1, hK.out.2.1, Bex.refl _ _⟩
  clear hr hx HD HA c1 H hs hq hX
  go_wp2_with fail
  go_loopw [5] (fun x wr => ∃ i : Nat, i ≤ 4 ∧ x = .int .i64 ((i : Nat) : Int) ∧ Hid (KyI w wx wr x0 x1 x2 x3 i)) (fun x _ => 4 - (Go.RowKit.intOf x).toNat)
  case atStart => exact ⟨0, by omega, rfl, H0⟩
  case round =>
    obtain ⟨i, hi, rfl, hv⟩ := hrel
    clear H0
    have hb := hv.out.x
    have S := hidp (HS.out.1.bexN hb (fun _ e => by have := HS.out.2; omega))
    have hq4 := hqlt
    have hqr : qb < wr.heap.size := Nat.lt_of_lt_of_le hqlt hb.size
    have hkl := hv.out.k.lt
    clear hb
    obtain rfl | rfl | rfl | rfl | rfl : i = 0 ∨ i = 1 ∨ i = 2 ∨ i = 3 ∨ i = 4 := by omega
    · have s := S.out.here 0 (by simp)
      have k := hv.out.k.cell 0
      have fk := hv.out.k.free 0
      simp only [kst, List.getElem?_cons_zero, Nat.zero_add, List.getD_cons_zero] at s k
      go_wp2_with fail
      have H1 : Hid (KyI w wx (wr.setCell ⟨w.heap.size + 1, 0, none⟩ (.int .u8 (x0 : Nat))) x0 x1 x2 x3 1) := hidp ⟨hv.out.k.set 0 _, ((Bex.refl (w.heap.size + 1) wr).setCell 0 _).blk hv.out.r (by omega), hv.out.x.setCell 0 _⟩
      exact ⟨⟨1, by omega, rfl, H1⟩, by decide⟩
    · have s := S.out.here 1 (by simp)
      have k := hv.out.k.cell 1
      have fk := hv.out.k.free 1
      simp only [kst, List.getElem?_cons_zero, Nat.zero_add, List.getD_cons_zero, List.getElem?_cons_succ, List.getD_cons_succ] at s k
      go_wp2_with fail
      have H1 : Hid (KyI w wx (wr.setCell ⟨w.heap.size + 1, 1, none⟩ (.int .u8 (x1 : Nat))) x0 x1 x2 x3 2) := hidp ⟨hv.out.k.set 1 _, ((Bex.refl (w.heap.size + 1) wr).setCell 1 _).blk hv.out.r (by omega), hv.out.x.setCell 1 _⟩
      exact ⟨⟨2, by omega, rfl, H1⟩, by decide⟩
    · have s := S.out.here 2 (by simp)
      have k := hv.out.k.cell 2
      have fk := hv.out.k.free 2
      simp only [kst, List.getElem?_cons_zero, Nat.zero_add, List.getD_cons_zero, List.getElem?_cons_succ, List.getD_cons_succ] at s k
      go_wp2_with fail
      have H1 : Hid (KyI w wx (wr.setCell ⟨w.heap.size + 1, 2, none⟩ (.int .u8 (x2 : Nat))) x0 x1 x2 x3 3) := hidp ⟨hv.out.k.set 2 _, ((Bex.refl (w.heap.size + 1) wr).setCell 2 _).blk hv.out.r (by omega), hv.out.x.setCell 2 _⟩
      exact ⟨⟨3, by omega, rfl, H1⟩, by decide⟩
    · have s := S.out.here 3 (by simp)
      have k := hv.out.k.cell 3
      have fk := hv.out.k.free 3
      simp only [kst, List.getElem?_cons_zero, Nat.zero_add, List.getD_cons_zero, List.getElem?_cons_succ, List.getD_cons_succ] at s k
      go_wp2_with fail
      have H1 : Hid (KyI w wx (wr.setCell ⟨w.heap.size + 1, 3, none⟩ (.int .u8 (x3 : Nat))) x0 x1 x2 x3 4) := hidp ⟨hv.out.k.set 3 _, ((Bex.refl (w.heap.size + 1) wr).setCell 3 _).blk hv.out.r (by omega), hv.out.x.setCell 3 _⟩
      exact ⟨⟨4, by omega, rfl, H1⟩, by decide⟩
    · have hx5 := hidp (hv.out.x.below (Nat.le_succ w.heap.size) hK.out.2.2.1.size)
      have k0 := hv.out.k.cell 0
      have k1 := hv.out.k.cell 1
      have k2 := hv.out.k.cell 2
      have k3 := hv.out.k.cell 3
      have r0 := hv.out.r.cell 0
      have r1 := hv.out.r.cell 1
      have r2 := hv.out.r.cell 2
      have r3 := hv.out.r.cell 3
      have f0 := hv.out.r.free 0
      have f1 := hv.out.r.free 1
      have f2 := hv.out.r.free 2
      have f3 := hv.out.r.free 3
      simp only [kst, List.getElem?_cons_zero, List.getElem?_cons_succ] at k0 k1 k2 k3 r0 r1 r2 r3
      go_wp2_with fail
      have hb := (((hv.out.r.set 0 (.int .u8 (x0 : Nat))).set 1 (.int .u8 (x1 : Nat))).set 2 (.int .u8 (x2 : Nat))).set 3 (.int .u8 (x3 : Nat))
      have hS : Below w.heap.size wr ((((wr.setCell ⟨w.heap.size, 0, none⟩ (.int .u8 (x0 : Nat))).setCell ⟨w.heap.size, 1, none⟩ (.int .u8 (x1 : Nat))).setCell ⟨w.heap.size, 2, none⟩ (.int .u8 (x2 : Nat))).setCell ⟨w.heap.size, 3, none⟩ (.int .u8 (x3 : Nat))) := ((((Below.refl w.heap.size wr).setCell (p := ⟨w.heap.size, 0, none⟩) (Nat.le_refl _) (.int .u8 (x0 : Nat))).setCell (p := ⟨w.heap.size, 1, none⟩) (Nat.le_refl _) (.int .u8 (x1 : Nat))).setCell (p := ⟨w.heap.size, 2, none⟩) (Nat.le_refl _) (.int .u8 (x2 : Nat))).setCell (p := ⟨w.heap.size, 3, none⟩) (Nat.le_refl _) (.int .u8 (x3 : Nat))
      obtain ⟨W, hW⟩ : ∃ W, W = ((((wr.setCell ⟨w.heap.size, 0, none⟩ (.int .u8 (x0 : Nat))).setCell ⟨w.heap.size, 1, none⟩ (.int .u8 (x1 : Nat))).setCell ⟨w.heap.size, 2, none⟩ (.int .u8 (x2 : Nat))).setCell ⟨w.heap.size, 3, none⟩ (.int .u8 (x3 : Nat))) := ⟨_, rfl⟩
      have d0 := hb.cell 0
      have d1 := hb.cell 1
      have d2 := hb.cell 2
      have d3 := hb.cell 3
      simp only [List.set, List.getElem?_cons_zero, List.getElem?_cons_succ] at d0 d1 d2 d3
      rw [← hW] at hS d0 d1 d2 d3
      rw [← hW]
      exact bodyPost_ret (v := .agg #[.int .u8 (x0 : Nat), .int .u8 (x1 : Nat), .int .u8 (x2 : Nat), .int .u8 (x3 : Nat)]) (by simp [results, Try.results93, go_sem, d0, d1, d2, d3]) rfl ⟨rfl, hK.out.2.2.2.lower (hx5.out.trans hS) HL.out.1 HL.out.2, hK.out.2.2.1.low (hx5.out.trans hS)⟩
end Go.Proofs.Ytbhkjflpkpkdlaa

/-! R4a: The reference of layer 4: its reader over a plain state: take, Fails, Num. -/
namespace Go.Proofs.Ytbhkjflpkpkdlaa
set_option linter.unusedSimpArgs false
open Go.RowKit Go.Lib Go.Maps

/-- The answer's reader stands in a plain state. -/
structure RdQ (W : World) (g b : Nat) (s : RS) : Prop where
  q : ∃ p cap B t, RQ W g p b cap B t s.e s.f ∧ B.length ≤ 4000000 ∧ (s.e = 0 → s.f = 0 ∧ B.drop t = s.R ∧ t = s.t)
theorem RdQ.below {w w' : World} {g b : Nat} {s : RS} (H : RdQ w g b s) (h : Below w.heap.size w w') : RdQ w' g b s := by
  obtain ⟨p, cap, B, t, h1, h2, h3⟩ := H.q
  exact ⟨p, cap, B, t, h1.below h, h2, h3⟩
theorem RdQ.lower {w w' : World} {B0 g b : Nat} {s : RS} (H : RdQ w g b s) (h : Below B0 w w') (hg : g < B0) (hb : b < B0) : RdQ w' g b s := by
  obtain ⟨p, cap, B, t, h1, h2, h3⟩ := H.q
  exact ⟨p, cap, B, t, h1.lower h hg (fun _ => hb), h2, h3⟩
theorem RdQ.glt {w : World} {g b : Nat} {s : RS} (H : RdQ w g b s) : g < w.heap.size := by obtain ⟨p, cap, B, t, h1, _⟩ := H.q; exact h1.blk.lt
theorem RdQ.byte {w : World} {g b : Nat} {s : RS} (H : RdQ w g b s) (h0 : s.e = 0) : ∀ x ∈ s.R, x < 256 := by
  obtain ⟨p, cap, B, t, h1, _, h3⟩ := H.q
  rw [← (h3 h0).2.1]
  exact fun x hx => h1.bs.byte x (List.mem_of_mem_drop hx)
theorem RdQ.cells {w : World} {g b : Nat} {s : RS} (H : RdQ w g b s) : ∃ t : Nat, w.cell? ⟨g, 1, none⟩ = some (.int .i64 (t : Nat)) ∧ w.cell? ⟨g, 2, none⟩ = some (.int .i64 (s.e : Nat)) ∧ (s.e = 0 → t = s.t) := by
  obtain ⟨p, cap, B, t, h1, _, h3⟩ := H.q
  exact ⟨t, h1.blk.cell 1, h1.blk.cell 2, fun h0 => (h3 h0).2.2⟩
theorem RdQ.len {w : World} {g b : Nat} {s : RS} (H : RdQ w g b s) (h0 : s.e = 0) : s.R.length ≤ 4000000 := by
  obtain ⟨p, cap, B, t, h1, h2, h3⟩ := H.q
  rw [← (h3 h0).2.1, List.length_drop]; omega
theorem tk_dead {w : World} {g b : Nat} {s : RS} (H : RdQ w g b s) (he : s.e ≠ 0) (n y : Nat) :
    Calls Try.prog 151 #[.pointer (some ⟨g, 0, none⟩), .int .i64 (n : Nat), .int .i64 (y : Nat)] w fun e w' => e = .returned (.slice none 0 0) ∧ w = w' := by
  obtain ⟨p, cap, B, t, h1, _⟩ := H.q
  exact take_dead g p b cap B t s.e s.f n y w h1 he
theorem tk_short {w : World} {g b : Nat} {s : RS} (H : RdQ w g b s) (he : s.e = 0) (n y : Nat) (hn : s.R.length < n) (t' : Nat) (R' : List Nat) :
    Calls Try.prog 151 #[.pointer (some ⟨g, 0, none⟩), .int .i64 (n : Nat), .int .i64 (y : Nat)] w fun e w' => e = .returned (.slice none 0 0) ∧ RdQ w' g b ⟨t', R', 6, y⟩ ∧ Bex g w w' := by
  obtain ⟨p, cap, B, t, h1, h2, h3⟩ := H.q
  obtain ⟨hf, hR, ht⟩ := h3 he
  rw [he] at h1
  have hl := h1.le
  refine (take_short g p b cap B t s.f n y w h1 (by rw [← hR, List.length_drop] at hn; omega) h2).mono ?_
  rintro e w' ⟨h4, h5, h6⟩
  exact ⟨h4, ⟨p, cap, B, t, h5, h2, fun h => by cases h⟩, h6⟩
theorem tk_ok {w : World} {g b : Nat} {s : RS} (H : RdQ w g b s) (he : s.e = 0) (n y : Nat) (h0 : 0 < n) (hn : n ≤ s.R.length) :
    Calls Try.prog 151 #[.pointer (some ⟨g, 0, none⟩), .int .i64 (n : Nat), .int .i64 (y : Nat)] w fun e w' => (∃ q qb c, e = .returned (.slice q n c) ∧ w.heap.size ≤ qb ∧ Bs w' q qb 0 (s.R.take n) c) ∧ RdQ w' g b ⟨s.t + n, s.R.drop n, 0, 0⟩ ∧ Bex g w w' := by
  obtain ⟨p, cap, B, t, h1, h2, h3⟩ := H.q
  obtain ⟨hf, hR, ht⟩ := h3 he
  rw [he] at h1
  have hl := h1.le
  have hlen : t + n ≤ B.length := by rw [← hR, List.length_drop] at hn; omega
  obtain ⟨rfl, _⟩ := h1.bs.ptr (by have := h1.bs.le; omega)
  rw [hf] at h1
  refine (take_ok g b cap B t 0 n y w h1 h0 hlen h2).mono ?_
  rintro e w' ⟨⟨q, qb, c, h4, h5, h6⟩, h7, h8⟩
  rw [hR] at h6
  exact ⟨⟨q, qb, c, h4, h5, h6⟩, ⟨_, cap, B, t + n, h7, h2, fun _ => ⟨rfl, by rw [← List.drop_drop, hR], by rw [ht]⟩⟩, h8⟩
theorem tk_zero {w : World} {g b : Nat} {s : RS} (H : RdQ w g b s) (he : s.e = 0) (y : Nat) (h0 : 0 < s.t) :
    Calls Try.prog 151 #[.pointer (some ⟨g, 0, none⟩), .int .i64 0, .int .i64 (y : Nat)] w fun e w' => (∃ q c, e = .returned (.slice q 0 c)) ∧ RdQ w' g b s ∧ Bex g w w' := by
  obtain ⟨p, cap, B, t, h1, h2, h3⟩ := H.q
  obtain ⟨hf, hR, ht⟩ := h3 he
  rw [he] at h1
  have hl := h1.le
  obtain ⟨rfl, _⟩ := h1.bs.ptr (by have := h1.bs.le; omega)
  rw [hf] at h1
  refine (take_zero g b cap B t 0 y w h1 hl h2).mono ?_
  rintro e w' ⟨⟨q, c, h4⟩, h7, h8⟩
  exact ⟨⟨q, c, h4⟩, ⟨_, cap, B, t, by rw [he, hf]; exact h7, h2, fun _ => ⟨hf, hR, ht⟩⟩, h8⟩
theorem fl_ok {w : World} {g b : Nat} {s : RS} (H : RdQ w g b s) (he : s.e = 0) (x y : Nat) (hx : x ≠ 0) (t' : Nat) (R' : List Nat) :
    Calls Try.prog 152 #[.pointer (some ⟨g, 0, none⟩), .int .i64 (x : Nat), .int .i64 (y : Nat)] w fun e w' => e = .returned (.tuple #[]) ∧ RdQ w' g b ⟨t', R', x, y⟩ ∧ Bex g w w' := by
  obtain ⟨p, cap, B, t, h1, h2, h3⟩ := H.q
  rw [he] at h1
  refine (fails_ok g p b cap B t s.f x y w h1).mono ?_
  rintro e w' ⟨h4, h5, h6⟩
  exact ⟨h4, ⟨p, cap, B, t, h5, h2, fun h => absurd h hx⟩, h6⟩
theorem Bsl_nil (w : World) (q : Option Addr) (qb c : Nat) : Bsl w q qb 0 [] c := ⟨by simp, by simp, fun h => absurd h (by simp), fun i hi => absurd hi (by simp)⟩
/-- At most eight bytes behind the first one: those that are there, or none. -/
def NumL (k : Nat) (s : RS) : List Nat := if s.R.length < k then [] else s.R.take k
def NumS (k y : Nat) (s : RS) : RS := if s.R.length < k then ⟨y, [], 6, y⟩ else ⟨s.t + k, s.R.drop k, 0, 0⟩
theorem tk_num {w : World} {g b : Nat} {s : RS} (H : RdQ w g b s) (he : s.e = 0) (hf : s.f = 0) (h0 : 0 < s.t) (k y : Nat) :
    Calls Try.prog 151 #[.pointer (some ⟨g, 0, none⟩), .int .i64 (k : Nat), .int .i64 (y : Nat)] w fun e w' => (∃ q qb c, e = .returned (.slice q (NumL k s).length c) ∧ w.heap.size ≤ qb ∧ Bsl w' q qb 0 (NumL k s) c) ∧ RdQ w' g b (NumS k y s) ∧ Bex g w w' := by
  unfold NumL NumS
  by_cases hs : s.R.length < k
  · rw [if_pos hs, if_pos hs]
    refine (tk_short H he k y hs y []).mono ?_
    rintro e w' ⟨h1, h2, h3⟩
    exact ⟨⟨none, w.heap.size, 0, h1, Nat.le_refl _, Bsl_nil _ _ _ _⟩, h2, h3⟩
  · rw [if_neg hs, if_neg hs]
    by_cases hk : k = 0
    · subst hk
      refine (tk_zero H he y h0).mono ?_
      rintro e w' ⟨⟨q, c, h1⟩, h4, h5⟩
      obtain ⟨t, R, e0, f0⟩ := s
      simp only at he hf
      subst he hf
      exact ⟨⟨q, w.heap.size, c, by simpa using h1, Nat.le_refl _, Bsl_nil _ _ _ _⟩, by simpa using h4, h5⟩
    · refine (tk_ok H he k y (by omega) (by omega)).mono ?_
      rintro e w' ⟨⟨q, qb, c, h1, h2, h3⟩, h4, h5⟩
      have hl : (s.R.take k).length = k := by rw [List.length_take]; omega
      exact ⟨⟨q, qb, c, by rw [hl]; exact h1, h2, ⟨h3.byte, h3.le, fun h => h3.ptr (by have := h3.le; omega), fun i hi => h3.here i hi⟩⟩, h4, h5⟩
end Go.Proofs.Ytbhkjflpkpkdlaa

/-! R4b: The reference of layer 4: its reader's Num. -/
namespace Go.Proofs.Ytbhkjflpkpkdlaa
set_option linter.unusedSimpArgs false
open Go.RowKit Go.Lib Go.Maps

theorem RdQ.f0 {w : World} {g b : Nat} {s : RS} (H : RdQ w g b s) (he : s.e = 0) : s.f = 0 := by obtain ⟨p, cap, B, t, h1, _, h3⟩ := H.q; exact (h3 he).1
def NumP (w : World) (g b : Nat) (s : RS) (e : Ending) (w' : World) : Prop := e = .returned (.int .i64 (rdV pNum 0 s : Nat)) ∧ RdQ w' g b (rdN pNum s) ∧ Bex g w w'
set_option maxRecDepth 100000 in
theorem refNum_dead {w : World} {g b : Nat} {s : RS} (H : RdQ w g b s) (he : s.e ≠ 0) : Calls Try.prog 86 #[.pointer (some ⟨g, 0, none⟩)] w (NumP w g b s) := by
  obtain ⟨t, c1, c2, _⟩ := H.cells
  have HT := hidp (tk_dead H he 1 t)
  have HH := hidp H
  have hz : (((s.e : Nat) : Int) != 0) = true := by rw [bne_iff_ne]; omega
  have hlt := H.glt
  have hr : rdV pNum 0 s = 0 := by unfold rdV; rw [if_pos he]
  have hn : rdN pNum s = s := by unfold rdN; rw [if_pos he]
  unfold NumP
  rw [hr, hn]
  clear H he hr hn
  go_enter Try.func86, Try.ntmps86
  go_wp2_with fail
  refine HT.out.mono ?_
  rintro e w1 ⟨rfl, rfl⟩
  go_wp2
  go_ret
  exact ⟨rfl, HH.out, Bex.refl _ _⟩
set_option maxRecDepth 100000 in
theorem refNum_none {w : World} {g b : Nat} {s : RS} (H : RdQ w g b s) (he : s.e = 0) (hR : s.R = []) : Calls Try.prog 86 #[.pointer (some ⟨g, 0, none⟩)] w (NumP w g b s) := by
  obtain ⟨t, c1, c2, ht⟩ := H.cells
  obtain rfl := ht he
  have HT := hidp (tk_short H he 1 s.t (by rw [hR]; decide) s.t [])
  have hr : rdV pNum 0 s = 0 := by unfold rdV; rw [if_neg (by omega), hR]; rfl
  have hn : rdN pNum s = ⟨s.t, [], 6, s.t⟩ := by unfold rdN; rw [if_neg (by omega), hR]; rfl
  have hlt := H.glt
  unfold NumP
  rw [hr, hn]
  clear H he hr hn hR c2
  generalize s.t = t at *
  go_enter Try.func86, Try.ntmps86
  go_wp2_with fail
  refine HT.out.mono ?_
  rintro e w1 ⟨rfl, h1, h2⟩
  have HR := hidp h1
  have HX := hidp h2
  obtain ⟨_, _, d2, _⟩ := h1.cells
  have hlt1 := h1.glt
  clear h1 h2
  go_wp2
  go_ret
  exact ⟨rfl, HR.out, HX.out⟩
set_option maxRecDepth 100000 in
theorem refNum_lead {w : World} {g b : Nat} {s : RS} (H : RdQ w g b s) (he : s.e = 0) (k : Nat) (R' : List Nat) (hR : s.R = k :: R') (hk : 8 < k) : Calls Try.prog 86 #[.pointer (some ⟨g, 0, none⟩)] w (NumP w g b s) := by
  obtain ⟨t, c1, c2, ht⟩ := H.cells
  obtain rfl := ht he
  have HT := tk_ok H he 1 s.t (by decide) (by rw [hR]; simp)
  rw [hR] at HT
  replace HT := hidp HT
  have hr : rdV pNum 0 s = 0 := by unfold rdV; rw [if_neg (by omega), hR, pNum_cons, if_pos hk]
  have hn : rdN pNum s = ⟨s.t, [], 5, s.t⟩ := by unfold rdN; rw [if_neg (by omega), hR, pNum_cons, if_pos hk]
  have hlt := H.glt
  have hd : decide ((8 : Int) < (k : Int)) = true := decide_eq_true (by omega)
  have hkk : (8 : Int) < (k : Int) := by omega
  unfold NumP
  rw [hr, hn]
  clear H he hr hn hR c2 hk
  generalize s.t = t at *
  go_enter Try.func86, Try.ntmps86
  go_wp2_with fail
  refine HT.out.mono ?_
  rintro e w1 ⟨⟨q, qb, c, rfl, hq, hs⟩, h1, h2⟩
  obtain ⟨rfl, hqlt⟩ := hs.ptr (by have := hs.le; simp at this; omega)
  have k0 := hs.here 0 (by simp)
  simp only [Nat.zero_add, List.take_succ_cons, List.getD_cons_zero] at k0
  have HR := hidp h1
  have HX := hidp h2
  clear h1 h2 hs HT
  go_wp2_with fail
  refine (fl_ok HR.out rfl 5 t (by decide) t []).mono ?_
  rintro e w2 ⟨rfl, h1, h2⟩
  have HR2 := hidp h1
  have HX2 := hidp (HX.out.trans h2)
  obtain ⟨_, _, d2, _⟩ := h1.cells
  have hlt2 := h1.glt
  clear h1 h2 k0 hqlt HR HX
  go_wp2
  go_ret
  exact ⟨rfl, HR2.out, HX2.out⟩
/-- The state behind the first byte, and behind the number's bytes. -/
def numMid (s : RS) : RS := ⟨s.t + 1, s.R.drop 1, 0, 0⟩
set_option maxRecDepth 100000 in
set_option maxHeartbeats 4000000 in
theorem refNum_body {w : World} {g b : Nat} {s : RS} (H : RdQ w g b s) (he : s.e = 0) (k : Nat) (R' : List Nat) (hR : s.R = k :: R') (hk : ¬ 8 < k) : Calls Try.prog 86 #[.pointer (some ⟨g, 0, none⟩)] w (NumP w g b s) := by
  obtain ⟨t, c1, c2, ht⟩ := H.cells
  obtain rfl := ht he
  have HT := tk_ok H he 1 s.t (by decide) (by rw [hR]; simp)
  have hgb := H.byte he
  rw [hR] at HT hgb
  have hdr : (k :: R').drop 1 = R' := rfl
  rw [hdr] at HT
  replace HT := hidp HT
  obtain ⟨L, hL⟩ : ∃ L, L = NumL k ⟨s.t + 1, R', 0, 0⟩ := ⟨_, rfl⟩
  obtain ⟨S, hS⟩ : ∃ S, S = NumS k s.t ⟨s.t + 1, R', 0, 0⟩ := ⟨_, rfl⟩
  have HT2 := hidp (fun w1 (H1 : RdQ w1 g b ⟨s.t + 1, R', 0, 0⟩) => by have q := tk_num H1 rfl rfl (by show 0 < s.t + 1; omega) k s.t; rw [← hL, ← hS] at q; exact q)
  have hLb : ∀ x ∈ L, x < 256 := by
    rw [hL]; unfold NumL
    split
    · intro x hx; cases hx
    · intro x hx; exact hgb x (List.mem_cons_of_mem _ (List.mem_of_mem_take hx))
  have hL8 : L.length ≤ 8 := by
    rw [hL]; unfold NumL
    split
    · simp
    · rw [List.length_take]; omega
  have hlt := H.glt
  have hd : decide ((8 : Int) < (k : Int)) = false := decide_eq_false (by omega)
  have hkk : ¬ (8 : Int) < (k : Int) := by omega
  have hcv : wrap64 (k : Int) = (k : Int) := by rw [w64 _ (by omega)]
  -- what it comes to
  have hfin : (S.e ≠ 0 ∧ L = [] ∧ rdV pNum 0 s = 0 ∧ rdN pNum s = S) ∨ (S.e = 0 ∧ badN L ∧ rdV pNum 0 s = 0 ∧ rdN pNum s = ⟨s.t, [], 5, s.t⟩) ∨ (S.e = 0 ∧ ¬ badN L ∧ rdV pNum 0 s = valL L ∧ rdN pNum s = S) := by
    by_cases hs : R'.length < k
    · left
      have e : pNum s.R = .er 6 := by rw [hR, pNum_cons, if_neg hk, if_pos hs]
      rw [hS, hL]
      unfold NumS NumL
      rw [if_pos hs, if_pos hs]
      exact ⟨(by decide : (6 : Nat) ≠ 0), rfl, by unfold rdV; rw [if_neg (by omega), e], by unfold rdN; rw [if_neg (by omega), e]⟩
    · have e1 : L = R'.take k := by rw [hL]; unfold NumL; rw [if_neg hs]
      have e2 : S = ⟨s.t + 1 + k, R'.drop k, 0, 0⟩ := by rw [hS]; unfold NumS; rw [if_neg hs]
      by_cases hb : badN L
      · right; left
        have e : pNum s.R = .er 5 := by rw [hR, pNum_cons, if_neg hk, if_neg hs, ← e1, if_pos hb]
        exact ⟨by rw [e2], hb, by unfold rdV; rw [if_neg (by omega), e], by unfold rdN; rw [if_neg (by omega), e]⟩
      · right; right
        have e : pNum s.R = .ok (valL L) (k + 1) := by rw [hR, pNum_cons, if_neg hk, if_neg hs, ← e1, if_neg hb]
        refine ⟨by rw [e2], hb, by unfold rdV; rw [if_neg (by omega), e], ?_⟩
        unfold rdN
        rw [if_neg (by omega), e, e2, hR]
        show (⟨s.t + (k + 1), (k :: R').drop (k + 1), 0, 0⟩ : RS) = _
        rw [List.drop_succ_cons]
        congr 1
        omega
  have HF := hidp hfin
  have HLb := hidp hLb
  have HL8 := hidp hL8
  unfold NumP
  generalize rdV pNum 0 s = V at *
  generalize rdN pNum s = N at *
  clear H he hR c2 hk hfin hLb hL8 hL hS hgb hdr
  generalize s.t = t at *
  go_enter Try.func86, Try.ntmps86
  go_wp2_with fail
  refine HT.out.mono ?_
  rintro e w1 ⟨⟨q, qb, c, rfl, hq, hs⟩, h1, h2⟩
  obtain ⟨rfl, hqlt⟩ := hs.ptr (by have := hs.le; simp at this; omega)
  have k0 := hs.here 0 (by simp)
  simp only [Nat.zero_add, List.take_succ_cons, List.getD_cons_zero] at k0
  have HR := hidp h1
  have HX := hidp h2
  obtain ⟨_, _, d2, _⟩ := h1.cells
  have hlt1 := h1.glt
  clear h1 h2 hs HT
  go_wp2_with fail
  refine (HT2.out w1 HR.out).mono ?_
  rintro e w2 ⟨⟨q2, qb2, c2, rfl, hq2, hs⟩, h1, h2⟩
  have HS := hidp hs
  have HR2 := hidp h1
  have HX2 := hidp (HX.out.trans h2)
  clear h1 h2 hs HT2 HR HX k0 hqlt d2 hlt1 c1 hlt
  go_wp2
  go_loopw [6, 7] (fun x i wr => ∃ j : Nat, j ≤ L.length ∧ i = .int .i64 j ∧ x = .int .u64 (valL (L.take j) : Nat) ∧ w2 = wr) (fun _ i _ => L.length - (Go.RowKit.intOf i).toNat)
  case atStart => exact ⟨0, by omega, rfl, rfl, rfl⟩
  case round =>
    obtain ⟨j, hj, rfl, rfl, rfl⟩ := hrel
    by_cases hlj : j < L.length
    · obtain ⟨rfl, hq2lt⟩ := HS.out.ptr (by omega)
      have hc := HS.out.here j hlj
      rw [Nat.zero_add] at hc
      have hdd : L.getD j 0 < 256 := by rw [List.getD_eq_getElem?_getD, List.getElem?_eq_getElem hlj]; exact HLb.out _ (List.getElem_mem hlj)
      have hv := valL_take_lt HLb.out hlj HL8.out
      have hss := hidp (valL_step hlj)
      have hor := bits_or_u64_nat (valL (L.take j) * 256) (L.getD j 0) (by omega) (by omega)
      have h256 := or_add (a := valL (L.take j)) (b := L.getD j 0) (k := 8) hdd
      rw [show (2 : Nat) ^ 8 = 256 from rfl] at h256
      generalize L.getD j 0 = d at hc hdd hss hor h256
      generalize valL (L.take j) = v at hv hss hor h256
      have hnew : Hid (bits .or .u64 ((v : Int) * 256) (d : Int) = ((valL (L.take (j + 1)) : Nat) : Int)) := hidp (by
        rw [show (v : Int) * 256 = ((v * 256 : Nat) : Int) by omega, hor, h256, hss.out])
      have hsh : IntKind.u64.wrap ((v : Int) * 256) = (v : Int) * 256 := by rw [IntKind.wrap_u64]; omega
      have hsh2 : (v : Int) * 256 % 18446744073709551616 = (v : Int) * 256 := by omega
      have hl8 := HL8.out
      clear hor h256 hss hv
      go_wp2
      exact ⟨⟨j + 1, by omega, by go_num, by rw [hnew.out], trivial⟩, by simp [Go.RowKit.intOf]; omega⟩
    · obtain rfl : j = L.length := by omega
      rw [List.take_length]
      have hvw := valL_word HLb.out HL8.out
      obtain ⟨_, _, d2, _⟩ := HR2.out.cells
      have hlt2 := HR2.out.glt
      have HF2' := HF.out
      clear HF
      rcases HF2' with ⟨h1, h2, h3, h4⟩ | ⟨h1, h2, h3, h4⟩ | ⟨h1, h2, h3, h4⟩ <;> subst h3 <;> subst h4
      · subst h2
        have hz : (((N.e : Nat) : Int) != 0) = true := by rw [bne_iff_ne]; omega
        have hvv : valL [] = 0 := rfl
        rw [hvv]
        clear h1
        go_wp2
        go_ret
        exact ⟨rfl, HR2.out, HX2.out⟩
      · have hpos : 0 < L.length := by
          rcases h2 with h | h
          · exact h.1
          · rcases Nat.eq_zero_or_pos L.length with h0 | h0
            · rw [List.eq_nil_of_length_eq_zero h0] at h
              exact absurd h (by decide)
            · exact h0
        obtain ⟨rfl, hq2lt⟩ := HS.out.ptr hpos
        have hc := HS.out.here 0 hpos
        rw [Nat.zero_add] at hc
        have hl : (0 : Int) < (L.length : Int) := by omega
        have HF2 := hidp (fl_ok HR2.out h1 5 t (by decide) t [])
        rw [h1] at d2
        by_cases hz : L.getD 0 0 = 0
        · have hd : (((L.getD 0 0 : Nat) : Int) == 0) = true := by rw [beq_iff_eq]; omega
          generalize L.getD 0 0 = d at *
          clear h2 hz
          go_wp2_with fail
          refine HF2.out.mono ?_
          rintro e w3 ⟨rfl, k1, k2⟩
          have HR3 := hidp k1
          have HX3 := hidp (HX2.out.trans k2)
          obtain ⟨_, _, d3, _⟩ := k1.cells
          have hlt3 := k1.glt
          clear k1 k2 d2 hlt2 hc
          go_wp2
          go_ret
          exact ⟨rfl, HR3.out, HX3.out⟩
        · have hd : (((L.getD 0 0 : Nat) : Int) == 0) = false := by rw [beq_eq_false_iff_ne]; omega
          have hv2 : 9223372036854775807 < valL L := by
            rcases h2 with h | h
            · exact absurd h.2 hz
            · exact h
          generalize L.getD 0 0 = d at *
          generalize valL L = v at *
          clear h2 hz
          go_wp2_with fail
          refine HF2.out.mono ?_
          rintro e w3 ⟨rfl, k1, k2⟩
          have HR3 := hidp k1
          have HX3 := hidp (HX2.out.trans k2)
          obtain ⟨_, _, d3, _⟩ := k1.cells
          have hlt3 := k1.glt
          clear k1 k2 d2 hlt2 hc
          go_wp2
          go_ret
          exact ⟨rfl, HR3.out, HX3.out⟩
      · rw [h1] at d2
        have hv2 : valL L ≤ 9223372036854775807 := Nat.le_of_not_lt fun h => h2 (.inr h)
        by_cases hpos : 0 < L.length
        · obtain ⟨rfl, hq2lt⟩ := HS.out.ptr hpos
          have hc := HS.out.here 0 hpos
          rw [Nat.zero_add] at hc
          have hl : (0 : Int) < (L.length : Int) := by omega
          have hz : L.getD 0 0 ≠ 0 := fun h => h2 (.inl ⟨hpos, h⟩)
          have hd : (((L.getD 0 0 : Nat) : Int) == 0) = false := by rw [beq_eq_false_iff_ne]; omega
          generalize L.getD 0 0 = d at *
          generalize hvv : valL L = v at *
          have HV := hidp hvv
          clear h2 hz hvv
          go_wp2_with fail
          go_ret
          exact ⟨by rw [HV.out]; rfl, HR2.out, HX2.out⟩
        · obtain rfl : L = [] := List.eq_nil_of_length_eq_zero (by omega)
          have hvv : valL [] = 0 := rfl
          rw [hvv] at *
          clear h2 hpos
          go_wp2_with fail
          go_ret
          exact ⟨rfl, HR2.out, HX2.out⟩
theorem refNum_any {w : World} {g b : Nat} {s : RS} (H : RdQ w g b s) : Calls Try.prog 86 #[.pointer (some ⟨g, 0, none⟩)] w fun e w' => e = .returned (.int .i64 (rdV pNum 0 s : Nat)) ∧ RdQ w' g b (rdN pNum s) ∧ Bex g w w' := by
  by_cases he : s.e = 0
  · cases hR : s.R with
    | nil => exact refNum_none H he hR
    | cons k R' =>
      by_cases hk : 8 < k
      · exact refNum_lead H he k R' hR hk
      · exact refNum_body H he k R' hR hk
  · exact refNum_dead H he
end Go.Proofs.Ytbhkjflpkpkdlaa

/-! R4c: The reference of layer 4: its reader's Bytes, Text, Hash, End over a plain state. -/
namespace Go.Proofs.Ytbhkjflpkpkdlaa
set_option linter.unusedSimpArgs false
open Go.RowKit Go.Lib Go.Maps

theorem rdV_ok {α : Type} {pr : List Nat → PR α} {z v : α} {n : Nat} {s : RS} (he : s.e = 0) (h : pr s.R = .ok v n) : rdV pr z s = v := by unfold rdV; simp [he, h]
theorem rdV_er {α : Type} {pr : List Nat → PR α} {z : α} {x : Nat} {s : RS} (he : s.e = 0) (h : pr s.R = .er x) : rdV pr z s = z := by unfold rdV; simp [he, h]
theorem rdN_ok {α : Type} {pr : List Nat → PR α} {v : α} {n : Nat} {s : RS} (he : s.e = 0) (h : pr s.R = .ok v n) : rdN pr s = ⟨s.t + n, s.R.drop n, 0, 0⟩ := by unfold rdN; simp [he, h]
theorem rdN_er {α : Type} {pr : List Nat → PR α} {x : Nat} {s : RS} (he : s.e = 0) (h : pr s.R = .er x) : rdN pr s = ⟨s.t, [], x, s.t⟩ := by unfold rdN; simp [he, h]
theorem pText_v {R : List Nat} {most : Int} {v k : Nat} (hp : pNum R = .ok v k) (hm : ¬ max most 0 < (v : Int)) : pText R most = if R.length - k < v then .er 6 else .ok ((R.drop k).take v) (k + v) := by
  unfold pText pLen
  rw [hp]
  simp only
  rw [if_neg hm]
def BytesP (w : World) (g b : Nat) (s : RS) (most : Int) (e : Ending) (w' : World) : Prop :=
  (∃ q qb c, e = .returned (.slice q (rdV (fun R => pText R most) [] s).length c) ∧ w.heap.size ≤ qb ∧ Bsl w' q qb 0 (rdV (fun R => pText R most) [] s) c) ∧ RdQ w' g b (rdN (fun R => pText R most) s) ∧ Bex g w w'
set_option maxRecDepth 100000 in
theorem refBytes_er {w : World} {g b : Nat} {s : RS} (H : RdQ w g b s) (most : Int) (h0 : rdV pNum 0 s = 0) (h1 : (rdN pNum s).e ≠ 0) (h2 : rdV (fun R => pText R most) [] s = []) (h3 : rdN (fun R => pText R most) s = rdN pNum s) :
    Calls Try.prog 89 #[.pointer (some ⟨g, 0, none⟩), .int .i64 most] w (BytesP w g b s most) := by
  obtain ⟨t, c1, _, _⟩ := H.cells
  have hlt := H.glt
  have HN := refNum_any H
  rw [h0] at HN
  replace HN := hidp HN
  have hm : decide (max most 0 < (0 : Int)) = false := decide_eq_false (by omega)
  have hm2 : ¬ max most 0 < (0 : Int) := by omega
  unfold BytesP
  rw [h2, h3]
  generalize rdN pNum s = S at *
  clear H h2 h3 h0
  go_enter Try.func89, Try.ntmps89
  go_wp2_with fail
  refine HN.out.mono ?_
  rintro e w1 ⟨rfl, k1, k2⟩
  have HR := hidp k1
  have HX := hidp k2
  clear k1 k2 c1 hlt
  go_wp2_with fail
  refine (tk_dead HR.out h1 0 t).mono ?_
  rintro e w2 ⟨rfl, rfl⟩
  go_wp2
  go_ret
  exact ⟨⟨none, w.heap.size, 0, rfl, Nat.le_refl _, Bsl_nil _ _ _ _⟩, HR.out, HX.out⟩
set_option maxRecDepth 100000 in
theorem refBytes_long {w : World} {g b : Nat} {s : RS} (H : RdQ w g b s) (most : Int) (v k : Nat) (he : s.e = 0) (hp : pNum s.R = .ok v k) (hm : max most 0 < (v : Int)) :
    Calls Try.prog 89 #[.pointer (some ⟨g, 0, none⟩), .int .i64 most] w (BytesP w g b s most) := by
  obtain ⟨t, c1, _, ht⟩ := H.cells
  obtain rfl := ht he
  have hlt := H.glt
  have HN := refNum_any H
  have h0 : rdV pNum 0 s = v := by unfold rdV; rw [if_neg (by omega), hp]
  have h1 : rdN pNum s = ⟨s.t + k, s.R.drop k, 0, 0⟩ := by unfold rdN; rw [if_neg (by omega), hp]
  have hpt : pText s.R most = .er 4 := by unfold pText pLen; rw [hp]; simp only; rw [if_pos hm]
  have h2 : rdV (fun R => pText R most) [] s = [] := rdV_er (pr := fun R => pText R most) he hpt
  have h3 : rdN (fun R => pText R most) s = ⟨s.t, [], 4, s.t⟩ := rdN_er (pr := fun R => pText R most) he hpt
  rw [h0, h1] at HN
  replace HN := hidp HN
  have hm2 : decide (max most 0 < (v : Int)) = true := decide_eq_true hm
  unfold BytesP
  rw [h2, h3]
  generalize s.t = t at *
  generalize s.R.drop k = R at *
  clear H h2 h3 h0 h1 hp hpt he
  go_enter Try.func89, Try.ntmps89
  go_wp2_with fail
  refine HN.out.mono ?_
  rintro e w1 ⟨rfl, k1, k2⟩
  have HR := hidp k1
  have HX := hidp k2
  clear k1 k2 c1 hlt
  go_wp2_with fail
  refine (fl_ok HR.out rfl 4 t (by decide) t []).mono ?_
  rintro e w2 ⟨rfl, k1, k2⟩
  have HR2 := hidp k1
  have HX2 := hidp (HX.out.trans k2)
  clear k1 k2
  go_wp2_with fail
  refine (tk_dead HR2.out (by show (4 : Nat) ≠ 0; decide) v t).mono ?_
  rintro e w3 ⟨rfl, rfl⟩
  go_wp2
  go_ret
  exact ⟨⟨none, w.heap.size, 0, rfl, Nat.le_refl _, Bsl_nil _ _ _ _⟩, HR2.out, HX2.out⟩
set_option maxRecDepth 100000 in
theorem refBytes_in {w : World} {g b : Nat} {s : RS} (H : RdQ w g b s) (most : Int) (v k : Nat) (he : s.e = 0) (hp : pNum s.R = .ok v k) (hm : ¬ max most 0 < (v : Int)) :
    Calls Try.prog 89 #[.pointer (some ⟨g, 0, none⟩), .int .i64 most] w (BytesP w g b s most) := by
  obtain ⟨t, c1, _, ht⟩ := H.cells
  obtain rfl := ht he
  have hlt := H.glt
  have HN := refNum_any H
  have h0 : rdV pNum 0 s = v := by unfold rdV; rw [if_neg (by omega), hp]
  have h1 : rdN pNum s = ⟨s.t + k, s.R.drop k, 0, 0⟩ := by unfold rdN; rw [if_neg (by omega), hp]
  have hk : 0 < k := by obtain ⟨dk, _, _, h, _⟩ := pNum_form (H.byte he) hp; omega
  have hpt := pText_v hp hm
  have hl : (s.R.drop k).length = s.R.length - k := List.length_drop ..
  have h2 : rdV (fun R => pText R most) [] s = NumL v ⟨s.t + k, s.R.drop k, 0, 0⟩ := by
    unfold NumL
    by_cases hs : s.R.length - k < v
    · rw [if_pos (by rw [hl]; exact hs)]
      rw [if_pos hs] at hpt
      exact rdV_er (pr := fun R => pText R most) he hpt
    · rw [if_neg (by rw [hl]; exact hs)]
      rw [if_neg hs] at hpt
      exact rdV_ok (pr := fun R => pText R most) he hpt
  have h3 : rdN (fun R => pText R most) s = NumS v s.t ⟨s.t + k, s.R.drop k, 0, 0⟩ := by
    unfold NumS
    by_cases hs : s.R.length - k < v
    · rw [if_pos (by rw [hl]; exact hs)]
      rw [if_pos hs] at hpt
      exact rdN_er (pr := fun R => pText R most) he hpt
    · rw [if_neg (by rw [hl]; exact hs)]
      rw [if_neg hs] at hpt
      rw [rdN_ok (pr := fun R => pText R most) he hpt, List.drop_drop]
      congr 1
      show s.t + (k + v) = s.t + k + v
      omega
  clear hpt hl
  rw [h0, h1] at HN
  replace HN := hidp HN
  have hm2 : decide (max most 0 < (v : Int)) = false := decide_eq_false hm
  unfold BytesP
  rw [h2, h3]
  have HT := hidp (fun W (h : RdQ W g b ⟨s.t + k, s.R.drop k, 0, 0⟩) => tk_num h rfl rfl (by show 0 < s.t + k; omega) v s.t)
  generalize NumL v ⟨s.t + k, s.R.drop k, 0, 0⟩ = L at *
  generalize NumS v s.t ⟨s.t + k, s.R.drop k, 0, 0⟩ = S at *
  generalize s.t = t at *
  generalize s.R.drop k = R at *
  clear H h2 h3 h0 h1 hp he hk
  go_enter Try.func89, Try.ntmps89
  go_wp2_with fail
  refine HN.out.mono ?_
  rintro e w1 ⟨rfl, k1, k2⟩
  have HR := hidp k1
  have HX := hidp k2
  clear k1 k2 c1 hlt
  go_wp2_with fail
  refine (HT.out _ HR.out).mono ?_
  rintro e w2 ⟨⟨q, qb, c, rfl, hq, hs⟩, k1, k2⟩
  have HQ := hidp (And.intro hq hs)
  have HR2 := hidp k1
  have HX2 := hidp (HX.out.trans k2)
  have hsz := hidp (HX.out.size)
  clear k1 k2 hq hs
  go_wp2
  go_ret
  exact ⟨⟨q, qb, c, rfl, Nat.le_trans hsz.out HQ.out.1, HQ.out.2⟩, HR2.out, HX2.out⟩
theorem refBytes_any {w : World} {g b : Nat} {s : RS} (H : RdQ w g b s) (most : Int) :
    Calls Try.prog 89 #[.pointer (some ⟨g, 0, none⟩), .int .i64 most] w (BytesP w g b s most) := by
  by_cases he : s.e = 0
  · cases hp : pNum s.R with
    | er x =>
      have hx := pNum_ne hp
      have e1 : rdN pNum s = ⟨s.t, [], x, s.t⟩ := by unfold rdN; rw [if_neg (by omega), hp]
      have hpt : pText s.R most = .er x := by unfold pText pLen; rw [hp]
      exact refBytes_er H most (by unfold rdV; rw [if_neg (by omega), hp]) (by rw [e1]; exact hx) (rdV_er (pr := fun R => pText R most) he hpt) (by rw [e1]; exact rdN_er (pr := fun R => pText R most) he hpt)
    | ok v k =>
      by_cases hm : max most 0 < (v : Int)
      · exact refBytes_long H most v k he hp hm
      · exact refBytes_in H most v k he hp hm
  · have e1 : rdN pNum s = s := by unfold rdN; rw [if_pos he]
    exact refBytes_er H most (by unfold rdV; rw [if_pos he]) (by rw [e1]; exact he) (by unfold rdV; rw [if_pos he]) (by rw [e1]; unfold rdN; rw [if_pos he])
theorem conv_bsl {w : World} {q : Option Addr} {qb : Nat} {L : List Nat} {c : Nat} (h : Bsl w q qb 0 L c) : (convert 32 9 (.slice q L.length c)).run Try.prog w = .ok (.string (strB L)) w := by
  by_cases h0 : 0 < L.length
  · obtain ⟨rfl, hlt⟩ := h.ptr h0
    exact conv_at w _ c L h.byte (fun j hj => by rw [Addr.add_mid]; exact h.here j hj)
  · have hL : L = [] := List.eq_nil_of_length_eq_zero (by omega)
    subst hL
    cases q with
    | some y => exact conv_at w _ c [] (by simp) (fun j hj => absurd hj (by simp))
    | none =>
      rw [run_convert_bytes_string w 32 9 5 none _ c Try.underlying32 Try.underlying5 Try.underlying9]
      simp [Conv.bytesToString]
      rfl
set_option maxRecDepth 100000 in
theorem refText_any {w : World} {g b : Nat} {s : RS} (H : RdQ w g b s) (most : Int) :
    Calls Try.prog 87 #[.pointer (some ⟨g, 0, none⟩), .int .i64 most] w fun e w' => e = .returned (.string (strB (rdV (fun R => pText R most) [] s))) ∧ RdQ w' g b (rdN (fun R => pText R most) s) ∧ Bex g w w' := by
  have HB := refBytes_any H most
  unfold BytesP at HB
  replace HB := hidp HB
  generalize rdV (fun R => pText R most) [] s = X at *
  generalize rdN (fun R => pText R most) s = S at *
  clear H
  go_enter Try.func87, Try.ntmps87
  go_wp2_with fail
  refine HB.out.mono ?_
  rintro e w1 ⟨⟨q, qb, c, rfl, hq, hs⟩, k1, k2⟩
  have hcv := conv_bsl hs
  have HR := hidp (And.intro k1 k2)
  clear hq hs k1 k2 HB
  go_wp2
  go_ret
  exact ⟨rfl, HR.out.1, HR.out.2⟩
theorem refEnd_any {w : World} {g b : Nat} {s : RS} (H : RdQ w g b s) :
    Calls Try.prog 28 #[.pointer (some ⟨g, 0, none⟩)] w fun e w' => e = .returned (.agg #[.int .i64 ((endS s).1 : Nat), .int .i64 ((endS s).2 : Nat)]) ∧ Below w.heap.size w w' := by
  obtain ⟨p, cap, B, t, h1, h2, h3⟩ := H.q
  unfold endS endE
  by_cases he : s.e = 0
  · obtain ⟨hf, hR, ht⟩ := h3 he
    rw [he, hf] at h1
    rw [if_neg (by omega)]
    by_cases hl : 0 < s.R.length
    · rw [if_pos hl]
      have hlt : t < B.length := by rw [← hR, List.length_drop] at hl; omega
      rw [← ht]
      exact refEnd_long g p b cap B t 0 w h1 hlt
    · rw [if_neg hl]
      have hle : B.length ≤ t := by rw [← hR, List.length_drop] at hl; omega
      exact refEnd_dead g p b cap B t 0 0 w h1 (.inr hle)
  · rw [if_pos he]
    exact refEnd_dead g p b cap B t s.e s.f w h1 (.inl he)
theorem refNew_any (p : Option Addr) (cap : Nat) (L : List Nat) (w : World) (h : ByS w p cap L) (hn : L.length ≤ 3000000) :
    Calls Try.prog 23 #[.slice p L.length cap] w fun e w' => ∃ g b, e = .returned (.pointer (some ⟨g, 0, none⟩)) ∧ w.heap.size ≤ g ∧ w.heap.size ≤ b ∧ RdQ w' g b ⟨0, L, 0, 0⟩ ∧ Below w.heap.size w w' := by
  refine (refNewReader_any p cap L w h hn).mono ?_
  rintro e w' ⟨g, q, b, c, h1, h2, h3, h4, h5⟩
  exact ⟨g, b, h1, h2, h3, ⟨q, c, L, 0, h4, by omega, fun _ => ⟨rfl, rfl, rfl⟩⟩, h5⟩
end Go.Proofs.Ytbhkjflpkpkdlaa

/-! R4d: The reference of layer 4: its reader's Hash over a plain state. -/
namespace Go.Proofs.Ytbhkjflpkpkdlaa
set_option linter.unusedSimpArgs false
open Go.RowKit Go.Lib Go.Maps

def hz32 : List Nat := List.replicate 32 0
theorem zero_hash' : (Try.prog.info? 34).map (fun i => (i.zero, i.size)) = some (some (.agg (bvs hz32).toArray), 32) := by kernel_rfl
/-- The first bytes of a list, and noughts behind them: 32 in all. -/
def hst (X : List Nat) (i : Nat) : List Nat := X.take i ++ List.replicate (32 - i) 0
theorem hst_len {X : List Nat} {i : Nat} (hi : i ≤ X.length) (h : i ≤ 32) : (hst X i).length = 32 := by unfold hst; rw [List.length_append, List.length_take, List.length_replicate]; omega
theorem hst_zero (X : List Nat) : hst X 0 = hz32 := rfl
theorem hst_all {X : List Nat} (h : X.length = 32) : hst X 32 = X := by unfold hst; rw [List.take_of_length_le (by omega)]; simp
theorem hst_set {X : List Nat} {i : Nat} (hi : i < X.length) (h : i < 32) : (hst X i).set i (X.getD i 0) = hst X (i + 1) := by
  unfold hst
  have hl : (X.take i).length = i := by rw [List.length_take]; omega
  rw [List.set_append_right _ _ (by omega), hl, Nat.sub_self, show 32 - i = (32 - (i + 1)) + 1 by omega, List.replicate_succ, List.set_cons_zero, take_succ_get hi, List.append_assoc]
  rfl
theorem hst_get {X : List Nat} {i : Nat} (hi : i < X.length) (h : i < 32) : (bvs (hst X i))[i]? = some (.int .u8 ((0 : Nat) : Int)) := by
  have hl : (X.take i).length = i := by rw [List.length_take]; omega
  have e : (hst X i).getD i 0 = 0 := by
    unfold hst
    rw [List.getD_eq_getElem?_getD, List.getElem?_append_right (by omega), hl, Nat.sub_self, show 32 - i = (32 - (i + 1)) + 1 by omega, List.replicate_succ, List.getElem?_cons_zero]
    rfl
  rw [bvs_get (by rw [hst_len (by omega) (by omega)]; exact h), e]
structure HsI (w wx wr : World) (X : List Nat) (i : Nat) : Prop where
  k : Blk wr (w.heap.size + 1) (bvs (hst X i)) 34
  r : Blk wr w.heap.size (bvs hz32) 34
  x : Bex (w.heap.size + 1) wx wr
/-- What take tells of 32 bytes: they, or none. -/
theorem tk_hash {w : World} {g b : Nat} {s : RS} (H : RdQ w g b s) (t : Nat) (ht : s.e = 0 → t = s.t) :
    Calls Try.prog 151 #[.pointer (some ⟨g, 0, none⟩), .int .i64 32, .int .i64 (t : Nat)] w fun e w' => (∃ q qb c X, e = .returned (.slice q X.length c) ∧ w.heap.size ≤ qb ∧ Bsl w' q qb 0 X c ∧ hst X X.length = rdV (pRaw 32) hz32 s ∧ X.length ≤ 32) ∧ RdQ w' g b (rdN (pRaw 32) s) ∧ Bex g w w' := by
  have hz : hst [] 0 = hz32 := rfl
  by_cases he : s.e = 0
  · obtain rfl := ht he
    by_cases hs : s.R.length < 32
    · have hp : pRaw 32 s.R = .er 6 := by unfold pRaw; rw [if_pos hs]
      refine (tk_short H he 32 s.t hs s.t []).mono ?_
      rintro e w' ⟨h1, h2, h3⟩
      rw [rdV_er he hp, rdN_er he hp]
      exact ⟨⟨none, w.heap.size, 0, [], h1, Nat.le_refl _, Bsl_nil _ _ _ _, hz, by simp⟩, h2, h3⟩
    · have hp : pRaw 32 s.R = .ok (s.R.take 32) 32 := by unfold pRaw; rw [if_neg hs]
      have hl : (s.R.take 32).length = 32 := by rw [List.length_take]; omega
      refine (tk_ok H he 32 s.t (by decide) (by omega)).mono ?_
      rintro e w' ⟨⟨q, qb, c, h1, h2, h3⟩, h4, h5⟩
      rw [rdV_ok he hp, rdN_ok he hp]
      exact ⟨⟨q, qb, c, s.R.take 32, by rw [hl]; exact h1, h2, ⟨h3.byte, h3.le, fun h => h3.ptr (by have := h3.le; omega), fun i hi => h3.here i hi⟩, by rw [hl]; exact hst_all hl, by omega⟩, h4, h5⟩
  · refine (tk_dead H he 32 t).mono ?_
    rintro e w' ⟨h1, rfl⟩
    have e1 : rdV (pRaw 32) hz32 s = hz32 := by unfold rdV; rw [if_pos he]
    have e2 : rdN (pRaw 32) s = s := by unfold rdN; rw [if_pos he]
    rw [e1, e2]
    exact ⟨⟨none, w.heap.size, 0, [], h1, Nat.le_refl _, Bsl_nil _ _ _ _, hz, by simp⟩, H, Bex.refl _ _⟩
set_option maxRecDepth 100000 in
set_option maxHeartbeats 4000000 in
theorem refHash_any {w : World} {g b : Nat} {s : RS} (H : RdQ w g b s) (hbw : b < w.heap.size) :
    Calls Try.prog 91 #[.pointer (some ⟨g, 0, none⟩)] w fun e w' => e = .returned (.agg (bvs (rdV (pRaw 32) hz32 s)).toArray) ∧ RdQ w' g b (rdN (pRaw 32) s) ∧ Bex g w w' := by
  have hz : ∀ w, (zeroValue 34).run Try.prog w = .ok (.agg (bvs hz32).toArray) w := (zero_of_info (P := Try.prog) zero_hash').1
  obtain ⟨t, c1, _, ht⟩ := H.cells
  have hlt := H.glt
  have HG := hidp hlt
  have HA := hidp (fun o o' : Obj => ((Below.refl w.heap.size w).alloc (Nat.le_refl _) o).alloc (by simp) o')
  have HD := hidp (fun o o' : Obj => tk_hash (H.below (HA.out o o')) t ht)
  have hBW := hidp hbw
  generalize hVV : rdV (pRaw 32) hz32 s = V at *
  generalize rdN (pRaw 32) s = S at *
  clear H ht hVV hbw
  go_enter Try.func91, Try.ntmps91
  go_wp2_with fail
  refine (HD.out _ _).mono ?_
  rintro e wx ⟨⟨q, qb, c, X, rfl, hq, hs, hX, hX32⟩, hr, hx⟩
  have hq2 : w.heap.size + 2 ≤ qb := by simpa using hq
  have hK : Hid (Blk wx (w.heap.size + 1) (bvs hz32) 34 ∧ Blk wx w.heap.size (bvs hz32) 34 ∧ Bex g w wx ∧ RdQ wx g b S) :=
    hidp ⟨hx.blk (Blk.new' (w.alloc _) (bvs hz32) _ _ (by simp)) (by have := HG.out; omega), hx.blk ((Blk.new w (bvs hz32) _).alloc _) (by have := HG.out; omega), (Bex.of_below (HA.out _ _)).trans hx, hr⟩
  have HS := hidp (And.intro hs hq2)
  have HXX := hidp (And.intro hX hX32)
  have H0 : Hid (HsI w wx wx X 0) := hidp ⟨by rw [hst_zero]; exact hK.out.1, hK.out.2.1, Bex.refl _ _⟩
  clear hr hx HD HA c1 hlt hs hq hq2 hX hX32
  go_wp2_with fail
  go_loopw [5] (fun x wr => ∃ i : Nat, i ≤ X.length ∧ x = .int .i64 ((i : Nat) : Int) ∧ Hid (HsI w wx wr X i)) (fun x _ => X.length - (Go.RowKit.intOf x).toNat)
  case atStart => exact ⟨0, by omega, rfl, H0⟩
  case round =>
    obtain ⟨i, hi, rfl, hv⟩ := hrel
    clear H0
    by_cases hlt : i < X.length
    · obtain ⟨rfl, hqlt⟩ := HS.out.1.ptr (by omega)
      have h32 := HXX.out.2
      have hb := hv.out.x
      have hqr : qb < wr.heap.size := Nat.lt_of_lt_of_le hqlt hb.size
      have sc : wr.cell? ⟨qb, i, none⟩ = some (.int .u8 (X.getD i 0 : Nat)) := by
        have e := HS.out.1.here i hlt
        rw [Nat.zero_add] at e
        rw [← e]
        simp only [World.cell?]
        rw [hb.block qb hqlt (by have := HS.out.2; omega)]
      have k := hv.out.k.cell i
      rw [hst_get hlt (by omega)] at k
      have fk := hv.out.k.free i
      have hkl := hv.out.k.lt
      have hset := hidp (hst_set hlt (by omega))
      have hadd : wrap64 ((i : Int) + 1) = (i : Int) + 1 := by rw [w64 _ (by omega)]
      have HLT := hidp (And.intro hlt h32)
      have hi32 : ((i : Nat) : Int) < 32 := by omega
      have hi0 : (0 : Int) ≤ ((i : Nat) : Int) := by omega
      generalize X.getD i 0 = d at *
      clear hb
      go_wp2_with fail
      have H1 : Hid (HsI w wx (wr.setCell ⟨w.heap.size + 1, i, none⟩ (.int .u8 (d : Nat))) X (i + 1)) := hidp ⟨by have q := hv.out.k.set i (.int .u8 (d : Nat)); rw [bvs_set, hset.out] at q; exact q, ((Bex.refl (w.heap.size + 1) wr).setCell i _).blk hv.out.r (by omega), hv.out.x.setCell i _⟩
      exact ⟨⟨i + 1, by have := HLT.out; omega, by go_num, H1⟩, by have := HLT.out.1; simp [Go.RowKit.intOf]; omega⟩
    · obtain rfl : i = X.length := by omega
      have hx5 := hidp (hv.out.x.below (Nat.le_succ w.heap.size) hK.out.2.2.1.size)
      have hk := hv.out.k
      rw [HXX.out.1] at hk
      have HKK := hidp hk
      have HRR := hidp hv.out.r
      have hVl := hidp (show V.length = 32 by rw [← HXX.out.1]; exact hst_len (Nat.le_refl _) HXX.out.2)
      clear hk hlt hv
      go_wp2_with first
        | (with_reducible refine (?_ : wpList _ _ _ _ _ _); refine wpList_load_blk rfl 34 _ rfl (w.heap.size + 1) (bvs V) 34 rfl HKK.out _ Try.underlying34 rfl (by rw [bvs_len, hVl.out]; kernel_rfl) ?_)
        | (with_reducible refine (?_ : wpList _ _ _ _ _ _); refine wpList_store_blk rfl 34 _ _ rfl w.heap.size (bvs V) (bvs hz32) 34 rfl rfl HRR.out (by rw [bvs_len, hVl.out]; kernel_rfl) (by simp [bvs_len, hVl.out, hz32]) (bvs_one _) ?_; intro w6 hw6)
      have b2 : Blk w6 w.heap.size (bvs V) 34 := by rw [hw6.out]; exact HRR.out.row
      have hS : Below w.heap.size wr w6 := by rw [hw6.out]; exact ((But.refl w.heap.size wr).setRow (bvs V).toArray).below (Nat.le_refl _)
      refine bodyPost_ret (v := .agg (bvs V).toArray) ?_ rfl ⟨rfl, hK.out.2.2.2.lower (hx5.out.trans hS) HG.out hBW.out, hK.out.2.2.1.low (hx5.out.trans hS)⟩
      exact results_cell_row Try.results91 _ _ w.heap.size 34 _ (0, 0) _ rfl b2 Try.underlying34 rfl (by rw [List.size_toArray, bvs_len, hVl.out]; kernel_rfl)
end Go.Proofs.Ytbhkjflpkpkdlaa
