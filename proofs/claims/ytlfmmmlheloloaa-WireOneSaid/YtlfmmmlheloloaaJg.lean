/-
  Contracts: element.
-/
import Derived.Test.YtlfmmmlheloloaaJf
namespace Go.Proofs.Ytlfmmmlheloloaa
open Go.RowKit Go.Lib Go.Maps

theorem Rd.bex {c : Nat} {w w' : World} {g t : Nat} {p : Option Addr} {b o cap : Nat} {R : List Nat} {e f : Nat} (H : Rd w g t p b o cap R e f) (hb : Bex c w w') (hg : g ≠ c) (hbc : 0 < cap → c ≠ b) : Rd w' g t p b o cap R e f :=
  ⟨hb.blk H.blk hg, H.bs.bex hb hbc, H.ne, H.lim⟩
theorem Rd.put {w : World} {g t : Nat} {p : Option Addr} {b o cap : Nat} {R : List Nat} (H : Rd w g t p b o cap R 0 0) {t' : Nat} {p' : Option Addr} {o' cap' : Nat} {R' : List Nat} (hs : Bs w p' b o' R' cap') (hne : 0 < cap' → g ≠ b) (hlim : t' + R'.length ≤ 1000000000) :
    Rd ((w.setCell ⟨g, 1, none⟩ (.int .i64 (t' : Nat))).setCell ⟨g, 2, none⟩ (.slice p' R'.length cap')) g t' p' b o' cap' R' 0 0 := by
  have hx : Bex g w ((w.setCell ⟨g, 1, none⟩ (.int .i64 (t' : Nat))).setCell ⟨g, 2, none⟩ (.slice p' R'.length cap')) := ((Bex.refl g w).setCell _ _).setCell _ _
  exact ⟨(H.blk.set 1 _).set 2 _, hs.bex hx hne, hne, hlim⟩
/-- What an element's read begins with: the reader's box, the cursor. -/
def elW (w : World) (g t : Nat) (p : Option Addr) (n cap : Nat) : World := (w.alloc (.cells #[.pointer (some ⟨g, 0, none⟩)] 48)).alloc (.cells #[.int .i64 (t : Nat), .slice p n cap] 62)
theorem elW_cu {w : World} {g t : Nat} {p : Option Addr} {b o cap : Nat} {R : List Nat} (H : Rd w g t p b o cap R 0 0) : Cu (elW w g t p R.length cap) (w.heap.size + 1) t p b o cap R ∧ Below w.heap.size w (elW w g t p R.length cap) ∧ Blk (elW w g t p R.length cap) w.heap.size [.pointer (some ⟨g, 0, none⟩)] 48 ∧ Rd (elW w g t p R.length cap) g t p b o cap R 0 0 := by
  have hB : Below w.heap.size w (elW w g t p R.length cap) := ((Below.refl _ w).alloc (Nat.le_refl _) _).alloc (by simp) _
  refine ⟨⟨Blk.new' _ _ _ _ (by simp), H.bs.below hB, fun h0 => by have := (H.bs.ptr h0).2; omega, H.lim⟩, hB, (Blk.new w _ _).alloc _, H.below hB⟩

/-- Behind the read: what is known ahead of the cursor's being laid into the reader. -/
structure ElB (w w1 : World) (g t b n : Nat) (R : List Nat) (p' : Option Addr) (o' cap' : Nat) : Prop where
  rd : ∃ p o cap, Rd w1 g t p b o cap R 0 0
  cu : Cu w1 (w.heap.size + 1) (t + n) p' b o' cap' (R.drop n)
  box : w1.cell? ⟨w.heap.size, 0, none⟩ = some (.pointer (some ⟨g, 0, none⟩))
  bex : Bex g w w1
  ne : 0 < cap' → g ≠ b
  hg : g < w.heap.size
theorem ElB.of {w w1 : World} {g t : Nat} {p : Option Addr} {b o cap : Nat} {R : List Nat} {n : Nat} (H : Rd w g t p b o cap R 0 0) (hx : CuX w1 (w.heap.size + 1) (t + n) b (R.drop n) cap) (hb : Bex (w.heap.size + 1) (elW w g t p R.length cap) w1) : ∃ p' o' cap', ElB w w1 g t b n R p' o' cap' := by
  obtain ⟨h1, h2, h3, h4⟩ := elW_cu H
  obtain ⟨p', o', cap', hcc, hc⟩ := hx
  have hg := H.blk.lt
  refine ⟨p', o', cap', ⟨p, o, cap, h4.bex hb (by omega) (fun h0 => by have := (H.bs.ptr h0).2; omega)⟩, hc, (hb.blk h3 (by omega)).cell 0, ?_, fun h0 => H.ne (by omega), hg⟩
  have hs : (elW w g t p R.length cap).heap.size = w.heap.size + 2 := by unfold elW; simp
  exact ⟨hb.os.trans h2.os, hb.tape.trans h2.tape, hb.output.trans h2.output, Nat.le_trans h2.size hb.size, fun k hk _ => (hb.block k (by omega) (by omega)).trans (h2.block k hk)⟩






set_option maxRecDepth 20000 in
theorem elemNum_ok (g t : Nat) (p : Option Addr) (b o cap : Nat) (R : List Nat) (v : Value) (n : Nat) (w : World) (H : Rd w g t p b o cap R 0 0)
    (hread : ∀ w1 c, Below w.heap.size w w1 → w.heap.size ≤ c → Cu w1 c t p b o cap R → Calls Try.prog 96 #[.pointer (some ⟨c, 0, none⟩)] w1 fun e w' => e = .returned v ∧ CuX w' c (t + n) b (R.drop n) cap ∧ Bex c w1 w') :
    Calls Try.prog 95 #[.pointer (some ⟨g, 0, none⟩), .func (.func 96) #[] #[]] w fun e w' => e = .returned v ∧ RdX w' g (t + n) b (R.drop n) 0 0 ∧ Bex g w w' := by
  have hmf : ∀ (fn : Fn) (first cap : Array Value) (w : World), (Instr.makeFunc fn first cap).run Try.prog w = .ok (.func fn first cap) w := fun _ _ _ _ => rfl
  have h1 := H.c1
  have h2 := H.c2
  have h3 := H.c3
  have HV := hidp (fun (w' : World) (hB : Below w.heap.size w w') => valid_yes (H.below hB))
  have HH := hidp H
  have hlt := H.blk.lt
  have hread := hidp hread
  clear H
  go_enter_defers Try.func95, Try.ntmps95
  go_wp2_with (go_at_call 94; refine (HV.out _ (by (repeat' (first | (with_reducible exact Below.refl _ _) | (with_reducible refine Below.alloc ?_ ?_ _) | (with_reducible refine Below.drew ?_) | (with_reducible refine Below.drewN ?_ _) | (with_reducible refine Below.setCell ?_ ?_ _) | go_size)))).mono ?_; rintro e wx ⟨rfl, rfl⟩)
  refine (hread.out _ _ (elW_cu HH.out).2.1 (by omega) (elW_cu HH.out).1).mono ?_
  rintro e w1 ⟨rfl, hx, hbx⟩
  obtain ⟨p', o', cap', hE⟩ := ElB.of HH.out hx hbx
  have HE := hidp hE
  obtain ⟨pq, oq, capq, hrd⟩ := hE.rd
  have d0 := hE.cu.c0
  have d1 := hE.cu.c1
  have hbox := hE.box
  have g1 := hrd.c1
  have g2 := hrd.c2
  have f1 := hrd.blk.free 1
  have f2 := hrd.blk.free 2
  have HR := hidp hrd

  clear hE hx hbx hrd HV HH hread h1 h2 h3
  go_wp2
  have e1 : (t : Int) + (n : Int) = ((t + n : Nat) : Int) := by omega
  have e2 : R.length - n = (R.drop n).length := by rw [List.length_drop]
  rw [e1, e2]
  have hput := HR.out.put HE.out.cu.bs HE.out.ne HE.out.cu.lim
  have hbe : Bex g w1 ((w1.setCell ⟨g, 1, none⟩ (.int .i64 (t + n : Nat))).setCell ⟨g, 2, none⟩ (.slice p' (R.drop n).length cap')) := ((Bex.refl g w1).setCell _ _).setCell _ _
  refine leaves_cons (f := 149) (args := #[.pointer (some ⟨w.heap.size, 0, none⟩)]) (by simp) (by simp [go_sem]) ?_
  refine (endNum_none w.heap.size g _ ?_).mono ?_
  · have hlt : w.heap.size < w1.heap.size := by have := cell_lt HE.out.box; exact this
    exact (World.cell?_of_block (a := ⟨w.heap.size, 0, none⟩) (hbe.block w.heap.size hlt (by have := HE.out.hg; omega))).trans HE.out.box
  rintro e u' w'' ⟨rfl, rfl, rfl⟩
  exact ⟨_, results_tmp rfl _ _ _, rfl, ⟨_, _, _, hput.drew⟩, (HE.out.bex.bex hbe).drew⟩
set_option maxRecDepth 20000 in
theorem elemNum_er (g t : Nat) (p : Option Addr) (b o cap : Nat) (R : List Nat) (x : Nat) (w : World) (H : Rd w g t p b o cap R 0 0)
    (hread : ∀ w1 c, Below w.heap.size w w1 → w.heap.size ≤ c → Cu w1 c t p b o cap R → Calls Try.prog 96 #[.pointer (some ⟨c, 0, none⟩)] w1 fun e w' => e = .panicked (brk x) ∧ Bex c w1 w') :
    Calls Try.prog 95 #[.pointer (some ⟨g, 0, none⟩), .func (.func 96) #[] #[]] w fun e w' => e = .returned (.int .i64 0) ∧ RdX w' g t b [] x t ∧ Bex g w w' := by
  have hmf : ∀ (fn : Fn) (first cap : Array Value) (w : World), (Instr.makeFunc fn first cap).run Try.prog w = .ok (.func fn first cap) w := fun _ _ _ _ => rfl
  have h1 := H.c1
  have h2 := H.c2
  have h3 := H.c3
  have HV := hidp (fun (w' : World) (hB : Below w.heap.size w w') => valid_yes (H.below hB))
  have HH := hidp H
  have hlt := H.blk.lt
  have hread := hidp hread
  clear H
  go_enter_defers Try.func95, Try.ntmps95
  go_wp2_with (go_at_call 94; refine (HV.out _ (by (repeat' (first | (with_reducible exact Below.refl _ _) | (with_reducible refine Below.alloc ?_ ?_ _) | (with_reducible refine Below.drew ?_) | (with_reducible refine Below.drewN ?_ _) | (with_reducible refine Below.setCell ?_ ?_ _) | go_size)))).mono ?_; rintro e wx ⟨rfl, rfl⟩)
  refine (hread.out _ _ (elW_cu HH.out).2.1 (by omega) (elW_cu HH.out).1).mono ?_
  rintro e w1 ⟨rfl, hbx⟩
  obtain ⟨a1, a2, a3, a4⟩ := elW_cu HH.out
  have hs : (elW w g t p R.length cap).heap.size = w.heap.size + 2 := by unfold elW; simp
  have hrd : Rd w1 g t p b o cap R 0 0 := a4.bex hbx (by omega) (fun h0 => by have := (HH.out.bs.ptr h0).2; omega)
  have hbox : w1.cell? ⟨w.heap.size, 0, none⟩ = some (.pointer (some ⟨g, 0, none⟩)) := (hbx.blk a3 (by omega)).cell 0
  have hb2 : Bex g w w1 := ⟨hbx.os.trans a2.os, hbx.tape.trans a2.tape, hbx.output.trans a2.output, Nat.le_trans a2.size hbx.size, fun k hk _ => (hbx.block k (by omega) (by omega)).trans (a2.block k hk)⟩
  refine leaves_cons (f := 149) (args := #[.pointer (some ⟨w.heap.size, 0, none⟩)]) (by simp) (by simp [go_sem]) ?_
  refine (endNum_brk w.heap.size g t p b o cap R 0 0 x _ hrd hbox).mono ?_
  rintro e u' w'' ⟨rfl, rfl, h5, h6⟩
  exact ⟨_, results_tmp rfl _ _ _, rfl, h5, hb2.bex h6⟩
set_option maxRecDepth 20000 in
theorem elemNum_dead (g t : Nat) (p : Option Addr) (b o cap : Nat) (R : List Nat) (x f : Nat) (w : World) (H : Rd w g t p b o cap R x f) (hx : x ≠ 0) :
    Calls Try.prog 95 #[.pointer (some ⟨g, 0, none⟩), .func (.func 96) #[] #[]] w fun e w' => e = .returned (.int .i64 0) ∧ Below w.heap.size w w' := by
  have hmf : ∀ (fn : Fn) (first cap : Array Value) (w : World), (Instr.makeFunc fn first cap).run Try.prog w = .ok (.func fn first cap) w := fun _ _ _ _ => rfl
  have h3 := H.c3
  have HV := hidp (fun (w' : World) (hB : Below w.heap.size w w') => valid_yes (H.below hB))
  have hlt := H.blk.lt
  have hz : ((x : Int) == 0) = false := by rw [beq_eq_false_iff_ne]; omega
  have hz2 : ((x : Int) != 0) = true := by rw [bne_iff_ne]; omega
  clear H hx
  go_enter_defers Try.func95, Try.ntmps95
  go_wp2_with (go_at_call 94; refine (HV.out _ (by (repeat' (first | (with_reducible exact Below.refl _ _) | (with_reducible refine Below.alloc ?_ ?_ _) | (with_reducible refine Below.drew ?_) | (with_reducible refine Below.drewN ?_ _) | (with_reducible refine Below.setCell ?_ ?_ _) | go_size)))).mono ?_; rintro e wx ⟨rfl, rfl⟩)
  exact ⟨_, results_tmp rfl _ _ _, rfl, by (repeat' (first | (with_reducible exact Below.refl _ _) | (with_reducible refine Below.alloc ?_ ?_ _) | (with_reducible refine Below.drew ?_) | (with_reducible refine Below.drewN ?_ _) | (with_reducible refine Below.setCell ?_ ?_ _) | go_size))⟩

set_option maxRecDepth 20000 in
theorem elemText_ok (mb : Nat) (g t : Nat) (p : Option Addr) (b o cap : Nat) (R : List Nat) (v : Value) (n : Nat) (w : World) (H : Rd w g t p b o cap R 0 0)
    (hread : ∀ w1 c, Below w.heap.size w w1 → w.heap.size ≤ c → Cu w1 c t p b o cap R → Calls Try.prog 98 #[.pointer (some ⟨c, 0, none⟩), .pointer (some ⟨mb, 0, none⟩)] w1 fun e w' => e = .returned v ∧ CuX w' c (t + n) b (R.drop n) cap ∧ Bex c w1 w') :
    Calls Try.prog 97 #[.pointer (some ⟨g, 0, none⟩), .func (.func 98) #[] #[.pointer (some ⟨mb, 0, none⟩)]] w fun e w' => e = .returned v ∧ RdX w' g (t + n) b (R.drop n) 0 0 ∧ Bex g w w' := by
  have hmf : ∀ (fn : Fn) (first cap : Array Value) (w : World), (Instr.makeFunc fn first cap).run Try.prog w = .ok (.func fn first cap) w := fun _ _ _ _ => rfl
  have h1 := H.c1
  have h2 := H.c2
  have h3 := H.c3
  have HV := hidp (fun (w' : World) (hB : Below w.heap.size w w') => valid_yes (H.below hB))
  have HH := hidp H
  have hlt := H.blk.lt
  have hread := hidp hread
  clear H
  go_enter_defers Try.func97, Try.ntmps97
  go_wp2_with (go_at_call 94; refine (HV.out _ (by (repeat' (first | (with_reducible exact Below.refl _ _) | (with_reducible refine Below.alloc ?_ ?_ _) | (with_reducible refine Below.drew ?_) | (with_reducible refine Below.drewN ?_ _) | (with_reducible refine Below.setCell ?_ ?_ _) | go_size)))).mono ?_; rintro e wx ⟨rfl, rfl⟩)
  refine (hread.out _ _ (elW_cu HH.out).2.1 (by omega) (elW_cu HH.out).1).mono ?_
  rintro e w1 ⟨rfl, hx, hbx⟩
  obtain ⟨p', o', cap', hE⟩ := ElB.of HH.out hx hbx
  have HE := hidp hE
  obtain ⟨pq, oq, capq, hrd⟩ := hE.rd
  have d0 := hE.cu.c0
  have d1 := hE.cu.c1
  have hbox := hE.box
  have g1 := hrd.c1
  have g2 := hrd.c2
  have f1 := hrd.blk.free 1
  have f2 := hrd.blk.free 2
  have HR := hidp hrd

  clear hE hx hbx hrd HV HH hread h1 h2 h3
  go_wp2
  have e1 : (t : Int) + (n : Int) = ((t + n : Nat) : Int) := by omega
  have e2 : R.length - n = (R.drop n).length := by rw [List.length_drop]
  rw [e1, e2]
  have hput := HR.out.put HE.out.cu.bs HE.out.ne HE.out.cu.lim
  have hbe : Bex g w1 ((w1.setCell ⟨g, 1, none⟩ (.int .i64 (t + n : Nat))).setCell ⟨g, 2, none⟩ (.slice p' (R.drop n).length cap')) := ((Bex.refl g w1).setCell _ _).setCell _ _
  refine leaves_cons (f := 154) (args := #[.pointer (some ⟨w.heap.size, 0, none⟩)]) (by simp) (by simp [go_sem]) ?_
  refine (endText_none w.heap.size g _ ?_).mono ?_
  · have hlt : w.heap.size < w1.heap.size := by have := cell_lt HE.out.box; exact this
    exact (World.cell?_of_block (a := ⟨w.heap.size, 0, none⟩) (hbe.block w.heap.size hlt (by have := HE.out.hg; omega))).trans HE.out.box
  rintro e u' w'' ⟨rfl, rfl, rfl⟩
  exact ⟨_, results_tmp rfl _ _ _, rfl, ⟨_, _, _, hput.drew⟩, (HE.out.bex.bex hbe).drew⟩
set_option maxRecDepth 20000 in
theorem elemText_er (mb : Nat) (g t : Nat) (p : Option Addr) (b o cap : Nat) (R : List Nat) (x : Nat) (w : World) (H : Rd w g t p b o cap R 0 0)
    (hread : ∀ w1 c, Below w.heap.size w w1 → w.heap.size ≤ c → Cu w1 c t p b o cap R → Calls Try.prog 98 #[.pointer (some ⟨c, 0, none⟩), .pointer (some ⟨mb, 0, none⟩)] w1 fun e w' => e = .panicked (brk x) ∧ Bex c w1 w') :
    Calls Try.prog 97 #[.pointer (some ⟨g, 0, none⟩), .func (.func 98) #[] #[.pointer (some ⟨mb, 0, none⟩)]] w fun e w' => e = .returned (.string ⟨#[]⟩) ∧ RdX w' g t b [] x t ∧ Bex g w w' := by
  have hmf : ∀ (fn : Fn) (first cap : Array Value) (w : World), (Instr.makeFunc fn first cap).run Try.prog w = .ok (.func fn first cap) w := fun _ _ _ _ => rfl
  have h1 := H.c1
  have h2 := H.c2
  have h3 := H.c3
  have HV := hidp (fun (w' : World) (hB : Below w.heap.size w w') => valid_yes (H.below hB))
  have HH := hidp H
  have hlt := H.blk.lt
  have hread := hidp hread
  clear H
  go_enter_defers Try.func97, Try.ntmps97
  go_wp2_with (go_at_call 94; refine (HV.out _ (by (repeat' (first | (with_reducible exact Below.refl _ _) | (with_reducible refine Below.alloc ?_ ?_ _) | (with_reducible refine Below.drew ?_) | (with_reducible refine Below.drewN ?_ _) | (with_reducible refine Below.setCell ?_ ?_ _) | go_size)))).mono ?_; rintro e wx ⟨rfl, rfl⟩)
  refine (hread.out _ _ (elW_cu HH.out).2.1 (by omega) (elW_cu HH.out).1).mono ?_
  rintro e w1 ⟨rfl, hbx⟩
  obtain ⟨a1, a2, a3, a4⟩ := elW_cu HH.out
  have hs : (elW w g t p R.length cap).heap.size = w.heap.size + 2 := by unfold elW; simp
  have hrd : Rd w1 g t p b o cap R 0 0 := a4.bex hbx (by omega) (fun h0 => by have := (HH.out.bs.ptr h0).2; omega)
  have hbox : w1.cell? ⟨w.heap.size, 0, none⟩ = some (.pointer (some ⟨g, 0, none⟩)) := (hbx.blk a3 (by omega)).cell 0
  have hb2 : Bex g w w1 := ⟨hbx.os.trans a2.os, hbx.tape.trans a2.tape, hbx.output.trans a2.output, Nat.le_trans a2.size hbx.size, fun k hk _ => (hbx.block k (by omega) (by omega)).trans (a2.block k hk)⟩
  refine leaves_cons (f := 154) (args := #[.pointer (some ⟨w.heap.size, 0, none⟩)]) (by simp) (by simp [go_sem]) ?_
  refine (endText_brk w.heap.size g t p b o cap R 0 0 x _ hrd hbox).mono ?_
  rintro e u' w'' ⟨rfl, rfl, h5, h6⟩
  exact ⟨_, results_tmp rfl _ _ _, rfl, h5, hb2.bex h6⟩
set_option maxRecDepth 20000 in
theorem elemText_dead (mb : Nat) (g t : Nat) (p : Option Addr) (b o cap : Nat) (R : List Nat) (x f : Nat) (w : World) (H : Rd w g t p b o cap R x f) (hx : x ≠ 0) :
    Calls Try.prog 97 #[.pointer (some ⟨g, 0, none⟩), .func (.func 98) #[] #[.pointer (some ⟨mb, 0, none⟩)]] w fun e w' => e = .returned (.string ⟨#[]⟩) ∧ Below w.heap.size w w' := by
  have hmf : ∀ (fn : Fn) (first cap : Array Value) (w : World), (Instr.makeFunc fn first cap).run Try.prog w = .ok (.func fn first cap) w := fun _ _ _ _ => rfl
  have h3 := H.c3
  have HV := hidp (fun (w' : World) (hB : Below w.heap.size w w') => valid_yes (H.below hB))
  have hlt := H.blk.lt
  have hz : ((x : Int) == 0) = false := by rw [beq_eq_false_iff_ne]; omega
  have hz2 : ((x : Int) != 0) = true := by rw [bne_iff_ne]; omega
  clear H hx
  go_enter_defers Try.func97, Try.ntmps97
  go_wp2_with (go_at_call 94; refine (HV.out _ (by (repeat' (first | (with_reducible exact Below.refl _ _) | (with_reducible refine Below.alloc ?_ ?_ _) | (with_reducible refine Below.drew ?_) | (with_reducible refine Below.drewN ?_ _) | (with_reducible refine Below.setCell ?_ ?_ _) | go_size)))).mono ?_; rintro e wx ⟨rfl, rfl⟩)
  exact ⟨_, results_tmp rfl _ _ _, rfl, by (repeat' (first | (with_reducible exact Below.refl _ _) | (with_reducible refine Below.alloc ?_ ?_ _) | (with_reducible refine Below.drew ?_) | (with_reducible refine Below.drewN ?_ _) | (with_reducible refine Below.setCell ?_ ?_ _) | go_size))⟩

set_option maxRecDepth 20000 in
theorem elemWord_ok (g t : Nat) (p : Option Addr) (b o cap : Nat) (R : List Nat) (v : Value) (n : Nat) (w : World) (H : Rd w g t p b o cap R 0 0)
    (hread : ∀ w1 c, Below w.heap.size w w1 → w.heap.size ≤ c → Cu w1 c t p b o cap R → Calls Try.prog 114 #[.pointer (some ⟨c, 0, none⟩)] w1 fun e w' => e = .returned v ∧ CuX w' c (t + n) b (R.drop n) cap ∧ Bex c w1 w') :
    Calls Try.prog 113 #[.pointer (some ⟨g, 0, none⟩), .func (.func 114) #[] #[]] w fun e w' => e = .returned v ∧ RdX w' g (t + n) b (R.drop n) 0 0 ∧ Bex g w w' := by
  have hmf : ∀ (fn : Fn) (first cap : Array Value) (w : World), (Instr.makeFunc fn first cap).run Try.prog w = .ok (.func fn first cap) w := fun _ _ _ _ => rfl
  have h1 := H.c1
  have h2 := H.c2
  have h3 := H.c3
  have HV := hidp (fun (w' : World) (hB : Below w.heap.size w w') => valid_yes (H.below hB))
  have HH := hidp H
  have hlt := H.blk.lt
  have hread := hidp hread
  clear H
  go_enter_defers Try.func113, Try.ntmps113
  go_wp2_with (go_at_call 94; refine (HV.out _ (by (repeat' (first | (with_reducible exact Below.refl _ _) | (with_reducible refine Below.alloc ?_ ?_ _) | (with_reducible refine Below.drew ?_) | (with_reducible refine Below.drewN ?_ _) | (with_reducible refine Below.setCell ?_ ?_ _) | go_size)))).mono ?_; rintro e wx ⟨rfl, rfl⟩)
  refine (hread.out _ _ (elW_cu HH.out).2.1 (by omega) (elW_cu HH.out).1).mono ?_
  rintro e w1 ⟨rfl, hx, hbx⟩
  obtain ⟨p', o', cap', hE⟩ := ElB.of HH.out hx hbx
  have HE := hidp hE
  obtain ⟨pq, oq, capq, hrd⟩ := hE.rd
  have d0 := hE.cu.c0
  have d1 := hE.cu.c1
  have hbox := hE.box
  have g1 := hrd.c1
  have g2 := hrd.c2
  have f1 := hrd.blk.free 1
  have f2 := hrd.blk.free 2
  have HR := hidp hrd

  clear hE hx hbx hrd HV HH hread h1 h2 h3
  go_wp2
  have e1 : (t : Int) + (n : Int) = ((t + n : Nat) : Int) := by omega
  have e2 : R.length - n = (R.drop n).length := by rw [List.length_drop]
  rw [e1, e2]
  have hput := HR.out.put HE.out.cu.bs HE.out.ne HE.out.cu.lim
  have hbe : Bex g w1 ((w1.setCell ⟨g, 1, none⟩ (.int .i64 (t + n : Nat))).setCell ⟨g, 2, none⟩ (.slice p' (R.drop n).length cap')) := ((Bex.refl g w1).setCell _ _).setCell _ _
  refine leaves_cons (f := 158) (args := #[.pointer (some ⟨w.heap.size, 0, none⟩)]) (by simp) (by simp [go_sem]) ?_
  refine (endWord_none w.heap.size g _ ?_).mono ?_
  · have hlt : w.heap.size < w1.heap.size := by have := cell_lt HE.out.box; exact this
    exact (World.cell?_of_block (a := ⟨w.heap.size, 0, none⟩) (hbe.block w.heap.size hlt (by have := HE.out.hg; omega))).trans HE.out.box
  rintro e u' w'' ⟨rfl, rfl, rfl⟩
  exact ⟨_, results_tmp rfl _ _ _, rfl, ⟨_, _, _, hput.drew⟩, (HE.out.bex.bex hbe).drew⟩
set_option maxRecDepth 20000 in
theorem elemWord_er (g t : Nat) (p : Option Addr) (b o cap : Nat) (R : List Nat) (x : Nat) (w : World) (H : Rd w g t p b o cap R 0 0)
    (hread : ∀ w1 c, Below w.heap.size w w1 → w.heap.size ≤ c → Cu w1 c t p b o cap R → Calls Try.prog 114 #[.pointer (some ⟨c, 0, none⟩)] w1 fun e w' => e = .panicked (brk x) ∧ Bex c w1 w') :
    Calls Try.prog 113 #[.pointer (some ⟨g, 0, none⟩), .func (.func 114) #[] #[]] w fun e w' => e = .returned (.int .u64 0) ∧ RdX w' g t b [] x t ∧ Bex g w w' := by
  have hmf : ∀ (fn : Fn) (first cap : Array Value) (w : World), (Instr.makeFunc fn first cap).run Try.prog w = .ok (.func fn first cap) w := fun _ _ _ _ => rfl
  have h1 := H.c1
  have h2 := H.c2
  have h3 := H.c3
  have HV := hidp (fun (w' : World) (hB : Below w.heap.size w w') => valid_yes (H.below hB))
  have HH := hidp H
  have hlt := H.blk.lt
  have hread := hidp hread
  clear H
  go_enter_defers Try.func113, Try.ntmps113
  go_wp2_with (go_at_call 94; refine (HV.out _ (by (repeat' (first | (with_reducible exact Below.refl _ _) | (with_reducible refine Below.alloc ?_ ?_ _) | (with_reducible refine Below.drew ?_) | (with_reducible refine Below.drewN ?_ _) | (with_reducible refine Below.setCell ?_ ?_ _) | go_size)))).mono ?_; rintro e wx ⟨rfl, rfl⟩)
  refine (hread.out _ _ (elW_cu HH.out).2.1 (by omega) (elW_cu HH.out).1).mono ?_
  rintro e w1 ⟨rfl, hbx⟩
  obtain ⟨a1, a2, a3, a4⟩ := elW_cu HH.out
  have hs : (elW w g t p R.length cap).heap.size = w.heap.size + 2 := by unfold elW; simp
  have hrd : Rd w1 g t p b o cap R 0 0 := a4.bex hbx (by omega) (fun h0 => by have := (HH.out.bs.ptr h0).2; omega)
  have hbox : w1.cell? ⟨w.heap.size, 0, none⟩ = some (.pointer (some ⟨g, 0, none⟩)) := (hbx.blk a3 (by omega)).cell 0
  have hb2 : Bex g w w1 := ⟨hbx.os.trans a2.os, hbx.tape.trans a2.tape, hbx.output.trans a2.output, Nat.le_trans a2.size hbx.size, fun k hk _ => (hbx.block k (by omega) (by omega)).trans (a2.block k hk)⟩
  refine leaves_cons (f := 158) (args := #[.pointer (some ⟨w.heap.size, 0, none⟩)]) (by simp) (by simp [go_sem]) ?_
  refine (endWord_brk w.heap.size g t p b o cap R 0 0 x _ hrd hbox).mono ?_
  rintro e u' w'' ⟨rfl, rfl, h5, h6⟩
  exact ⟨_, results_tmp rfl _ _ _, rfl, h5, hb2.bex h6⟩
set_option maxRecDepth 20000 in
theorem elemWord_dead (g t : Nat) (p : Option Addr) (b o cap : Nat) (R : List Nat) (x f : Nat) (w : World) (H : Rd w g t p b o cap R x f) (hx : x ≠ 0) :
    Calls Try.prog 113 #[.pointer (some ⟨g, 0, none⟩), .func (.func 114) #[] #[]] w fun e w' => e = .returned (.int .u64 0) ∧ Below w.heap.size w w' := by
  have hmf : ∀ (fn : Fn) (first cap : Array Value) (w : World), (Instr.makeFunc fn first cap).run Try.prog w = .ok (.func fn first cap) w := fun _ _ _ _ => rfl
  have h3 := H.c3
  have HV := hidp (fun (w' : World) (hB : Below w.heap.size w w') => valid_yes (H.below hB))
  have hlt := H.blk.lt
  have hz : ((x : Int) == 0) = false := by rw [beq_eq_false_iff_ne]; omega
  have hz2 : ((x : Int) != 0) = true := by rw [bne_iff_ne]; omega
  clear H hx
  go_enter_defers Try.func113, Try.ntmps113
  go_wp2_with (go_at_call 94; refine (HV.out _ (by (repeat' (first | (with_reducible exact Below.refl _ _) | (with_reducible refine Below.alloc ?_ ?_ _) | (with_reducible refine Below.drew ?_) | (with_reducible refine Below.drewN ?_ _) | (with_reducible refine Below.setCell ?_ ?_ _) | go_size)))).mono ?_; rintro e wx ⟨rfl, rfl⟩)
  exact ⟨_, results_tmp rfl _ _ _, rfl, by (repeat' (first | (with_reducible exact Below.refl _ _) | (with_reducible refine Below.alloc ?_ ?_ _) | (with_reducible refine Below.drew ?_) | (with_reducible refine Below.drewN ?_ _) | (with_reducible refine Below.setCell ?_ ?_ _) | go_size))⟩

set_option maxRecDepth 20000 in
theorem elemPace_ok (g t : Nat) (p : Option Addr) (b o cap : Nat) (R : List Nat) (v : Value) (n : Nat) (w : World) (H : Rd w g t p b o cap R 0 0)
    (hread : ∀ w1 c, Below w.heap.size w w1 → w.heap.size ≤ c → Cu w1 c t p b o cap R → Calls Try.prog 118 #[.pointer (some ⟨c, 0, none⟩)] w1 fun e w' => e = .returned v ∧ CuX w' c (t + n) b (R.drop n) cap ∧ Bex c w1 w') :
    Calls Try.prog 117 #[.pointer (some ⟨g, 0, none⟩), .func (.func 118) #[] #[]] w fun e w' => e = .returned v ∧ RdX w' g (t + n) b (R.drop n) 0 0 ∧ Bex g w w' := by
  have hmf : ∀ (fn : Fn) (first cap : Array Value) (w : World), (Instr.makeFunc fn first cap).run Try.prog w = .ok (.func fn first cap) w := fun _ _ _ _ => rfl
  have h1 := H.c1
  have h2 := H.c2
  have h3 := H.c3
  have HV := hidp (fun (w' : World) (hB : Below w.heap.size w w') => valid_yes (H.below hB))
  have HH := hidp H
  have hlt := H.blk.lt
  have hread := hidp hread
  clear H
  go_enter_defers Try.func117, Try.ntmps117
  go_wp2_with (go_at_call 94; refine (HV.out _ (by (repeat' (first | (with_reducible exact Below.refl _ _) | (with_reducible refine Below.alloc ?_ ?_ _) | (with_reducible refine Below.drew ?_) | (with_reducible refine Below.drewN ?_ _) | (with_reducible refine Below.setCell ?_ ?_ _) | go_size)))).mono ?_; rintro e wx ⟨rfl, rfl⟩)
  refine (hread.out _ _ (elW_cu HH.out).2.1 (by omega) (elW_cu HH.out).1).mono ?_
  rintro e w1 ⟨rfl, hx, hbx⟩
  obtain ⟨p', o', cap', hE⟩ := ElB.of HH.out hx hbx
  have HE := hidp hE
  obtain ⟨pq, oq, capq, hrd⟩ := hE.rd
  have d0 := hE.cu.c0
  have d1 := hE.cu.c1
  have hbox := hE.box
  have g1 := hrd.c1
  have g2 := hrd.c2
  have f1 := hrd.blk.free 1
  have f2 := hrd.blk.free 2
  have HR := hidp hrd

  clear hE hx hbx hrd HV HH hread h1 h2 h3
  go_wp2
  have e1 : (t : Int) + (n : Int) = ((t + n : Nat) : Int) := by omega
  have e2 : R.length - n = (R.drop n).length := by rw [List.length_drop]
  rw [e1, e2]
  have hput := HR.out.put HE.out.cu.bs HE.out.ne HE.out.cu.lim
  have hbe : Bex g w1 ((w1.setCell ⟨g, 1, none⟩ (.int .i64 (t + n : Nat))).setCell ⟨g, 2, none⟩ (.slice p' (R.drop n).length cap')) := ((Bex.refl g w1).setCell _ _).setCell _ _
  refine leaves_cons (f := 159) (args := #[.pointer (some ⟨w.heap.size, 0, none⟩)]) (by simp) (by simp [go_sem]) ?_
  refine (endPace_none w.heap.size g _ ?_).mono ?_
  · have hlt : w.heap.size < w1.heap.size := by have := cell_lt HE.out.box; exact this
    exact (World.cell?_of_block (a := ⟨w.heap.size, 0, none⟩) (hbe.block w.heap.size hlt (by have := HE.out.hg; omega))).trans HE.out.box
  rintro e u' w'' ⟨rfl, rfl, rfl⟩
  exact ⟨_, results_tmp rfl _ _ _, rfl, ⟨_, _, _, hput.drew⟩, (HE.out.bex.bex hbe).drew⟩
set_option maxRecDepth 20000 in
theorem elemPace_er (g t : Nat) (p : Option Addr) (b o cap : Nat) (R : List Nat) (x : Nat) (w : World) (H : Rd w g t p b o cap R 0 0)
    (hread : ∀ w1 c, Below w.heap.size w w1 → w.heap.size ≤ c → Cu w1 c t p b o cap R → Calls Try.prog 118 #[.pointer (some ⟨c, 0, none⟩)] w1 fun e w' => e = .panicked (brk x) ∧ Bex c w1 w') :
    Calls Try.prog 117 #[.pointer (some ⟨g, 0, none⟩), .func (.func 118) #[] #[]] w fun e w' => e = .returned (.float .f64 0) ∧ RdX w' g t b [] x t ∧ Bex g w w' := by
  have hmf : ∀ (fn : Fn) (first cap : Array Value) (w : World), (Instr.makeFunc fn first cap).run Try.prog w = .ok (.func fn first cap) w := fun _ _ _ _ => rfl
  have h1 := H.c1
  have h2 := H.c2
  have h3 := H.c3
  have HV := hidp (fun (w' : World) (hB : Below w.heap.size w w') => valid_yes (H.below hB))
  have HH := hidp H
  have hlt := H.blk.lt
  have hread := hidp hread
  clear H
  go_enter_defers Try.func117, Try.ntmps117
  go_wp2_with (go_at_call 94; refine (HV.out _ (by (repeat' (first | (with_reducible exact Below.refl _ _) | (with_reducible refine Below.alloc ?_ ?_ _) | (with_reducible refine Below.drew ?_) | (with_reducible refine Below.drewN ?_ _) | (with_reducible refine Below.setCell ?_ ?_ _) | go_size)))).mono ?_; rintro e wx ⟨rfl, rfl⟩)
  refine (hread.out _ _ (elW_cu HH.out).2.1 (by omega) (elW_cu HH.out).1).mono ?_
  rintro e w1 ⟨rfl, hbx⟩
  obtain ⟨a1, a2, a3, a4⟩ := elW_cu HH.out
  have hs : (elW w g t p R.length cap).heap.size = w.heap.size + 2 := by unfold elW; simp
  have hrd : Rd w1 g t p b o cap R 0 0 := a4.bex hbx (by omega) (fun h0 => by have := (HH.out.bs.ptr h0).2; omega)
  have hbox : w1.cell? ⟨w.heap.size, 0, none⟩ = some (.pointer (some ⟨g, 0, none⟩)) := (hbx.blk a3 (by omega)).cell 0
  have hb2 : Bex g w w1 := ⟨hbx.os.trans a2.os, hbx.tape.trans a2.tape, hbx.output.trans a2.output, Nat.le_trans a2.size hbx.size, fun k hk _ => (hbx.block k (by omega) (by omega)).trans (a2.block k hk)⟩
  refine leaves_cons (f := 159) (args := #[.pointer (some ⟨w.heap.size, 0, none⟩)]) (by simp) (by simp [go_sem]) ?_
  refine (endPace_brk w.heap.size g t p b o cap R 0 0 x _ hrd hbox).mono ?_
  rintro e u' w'' ⟨rfl, rfl, h5, h6⟩
  exact ⟨_, results_tmp rfl _ _ _, rfl, h5, hb2.bex h6⟩
set_option maxRecDepth 20000 in
theorem elemPace_dead (g t : Nat) (p : Option Addr) (b o cap : Nat) (R : List Nat) (x f : Nat) (w : World) (H : Rd w g t p b o cap R x f) (hx : x ≠ 0) :
    Calls Try.prog 117 #[.pointer (some ⟨g, 0, none⟩), .func (.func 118) #[] #[]] w fun e w' => e = .returned (.float .f64 0) ∧ Below w.heap.size w w' := by
  have hmf : ∀ (fn : Fn) (first cap : Array Value) (w : World), (Instr.makeFunc fn first cap).run Try.prog w = .ok (.func fn first cap) w := fun _ _ _ _ => rfl
  have h3 := H.c3
  have HV := hidp (fun (w' : World) (hB : Below w.heap.size w w') => valid_yes (H.below hB))
  have hlt := H.blk.lt
  have hz : ((x : Int) == 0) = false := by rw [beq_eq_false_iff_ne]; omega
  have hz2 : ((x : Int) != 0) = true := by rw [bne_iff_ne]; omega
  clear H hx
  go_enter_defers Try.func117, Try.ntmps117
  go_wp2_with (go_at_call 94; refine (HV.out _ (by (repeat' (first | (with_reducible exact Below.refl _ _) | (with_reducible refine Below.alloc ?_ ?_ _) | (with_reducible refine Below.drew ?_) | (with_reducible refine Below.drewN ?_ _) | (with_reducible refine Below.setCell ?_ ?_ _) | go_size)))).mono ?_; rintro e wx ⟨rfl, rfl⟩)
  exact ⟨_, results_tmp rfl _ _ _, rfl, by (repeat' (first | (with_reducible exact Below.refl _ _) | (with_reducible refine Below.alloc ?_ ?_ _) | (with_reducible refine Below.drew ?_) | (with_reducible refine Below.drewN ?_ _) | (with_reducible refine Below.setCell ?_ ?_ _) | go_size))⟩

set_option maxRecDepth 20000 in
theorem elemBool_ok (g t : Nat) (p : Option Addr) (b o cap : Nat) (R : List Nat) (v : Value) (n : Nat) (w : World) (H : Rd w g t p b o cap R 0 0)
    (hread : ∀ w1 c, Below w.heap.size w w1 → w.heap.size ≤ c → Cu w1 c t p b o cap R → Calls Try.prog 122 #[.pointer (some ⟨c, 0, none⟩)] w1 fun e w' => e = .returned v ∧ CuX w' c (t + n) b (R.drop n) cap ∧ Bex c w1 w') :
    Calls Try.prog 121 #[.pointer (some ⟨g, 0, none⟩), .func (.func 122) #[] #[]] w fun e w' => e = .returned v ∧ RdX w' g (t + n) b (R.drop n) 0 0 ∧ Bex g w w' := by
  have hmf : ∀ (fn : Fn) (first cap : Array Value) (w : World), (Instr.makeFunc fn first cap).run Try.prog w = .ok (.func fn first cap) w := fun _ _ _ _ => rfl
  have h1 := H.c1
  have h2 := H.c2
  have h3 := H.c3
  have HV := hidp (fun (w' : World) (hB : Below w.heap.size w w') => valid_yes (H.below hB))
  have HH := hidp H
  have hlt := H.blk.lt
  have hread := hidp hread
  clear H
  go_enter_defers Try.func121, Try.ntmps121
  go_wp2_with (go_at_call 94; refine (HV.out _ (by (repeat' (first | (with_reducible exact Below.refl _ _) | (with_reducible refine Below.alloc ?_ ?_ _) | (with_reducible refine Below.drew ?_) | (with_reducible refine Below.drewN ?_ _) | (with_reducible refine Below.setCell ?_ ?_ _) | go_size)))).mono ?_; rintro e wx ⟨rfl, rfl⟩)
  refine (hread.out _ _ (elW_cu HH.out).2.1 (by omega) (elW_cu HH.out).1).mono ?_
  rintro e w1 ⟨rfl, hx, hbx⟩
  obtain ⟨p', o', cap', hE⟩ := ElB.of HH.out hx hbx
  have HE := hidp hE
  obtain ⟨pq, oq, capq, hrd⟩ := hE.rd
  have d0 := hE.cu.c0
  have d1 := hE.cu.c1
  have hbox := hE.box
  have g1 := hrd.c1
  have g2 := hrd.c2
  have f1 := hrd.blk.free 1
  have f2 := hrd.blk.free 2
  have HR := hidp hrd

  clear hE hx hbx hrd HV HH hread h1 h2 h3
  go_wp2
  have e1 : (t : Int) + (n : Int) = ((t + n : Nat) : Int) := by omega
  have e2 : R.length - n = (R.drop n).length := by rw [List.length_drop]
  rw [e1, e2]
  have hput := HR.out.put HE.out.cu.bs HE.out.ne HE.out.cu.lim
  have hbe : Bex g w1 ((w1.setCell ⟨g, 1, none⟩ (.int .i64 (t + n : Nat))).setCell ⟨g, 2, none⟩ (.slice p' (R.drop n).length cap')) := ((Bex.refl g w1).setCell _ _).setCell _ _
  refine leaves_cons (f := 161) (args := #[.pointer (some ⟨w.heap.size, 0, none⟩)]) (by simp) (by simp [go_sem]) ?_
  refine (endBool_none w.heap.size g _ ?_).mono ?_
  · have hlt : w.heap.size < w1.heap.size := by have := cell_lt HE.out.box; exact this
    exact (World.cell?_of_block (a := ⟨w.heap.size, 0, none⟩) (hbe.block w.heap.size hlt (by have := HE.out.hg; omega))).trans HE.out.box
  rintro e u' w'' ⟨rfl, rfl, rfl⟩
  exact ⟨_, results_tmp rfl _ _ _, rfl, ⟨_, _, _, hput.drew⟩, (HE.out.bex.bex hbe).drew⟩
set_option maxRecDepth 20000 in
theorem elemBool_er (g t : Nat) (p : Option Addr) (b o cap : Nat) (R : List Nat) (x : Nat) (w : World) (H : Rd w g t p b o cap R 0 0)
    (hread : ∀ w1 c, Below w.heap.size w w1 → w.heap.size ≤ c → Cu w1 c t p b o cap R → Calls Try.prog 122 #[.pointer (some ⟨c, 0, none⟩)] w1 fun e w' => e = .panicked (brk x) ∧ Bex c w1 w') :
    Calls Try.prog 121 #[.pointer (some ⟨g, 0, none⟩), .func (.func 122) #[] #[]] w fun e w' => e = .returned (.bool false) ∧ RdX w' g t b [] x t ∧ Bex g w w' := by
  have hmf : ∀ (fn : Fn) (first cap : Array Value) (w : World), (Instr.makeFunc fn first cap).run Try.prog w = .ok (.func fn first cap) w := fun _ _ _ _ => rfl
  have h1 := H.c1
  have h2 := H.c2
  have h3 := H.c3
  have HV := hidp (fun (w' : World) (hB : Below w.heap.size w w') => valid_yes (H.below hB))
  have HH := hidp H
  have hlt := H.blk.lt
  have hread := hidp hread
  clear H
  go_enter_defers Try.func121, Try.ntmps121
  go_wp2_with (go_at_call 94; refine (HV.out _ (by (repeat' (first | (with_reducible exact Below.refl _ _) | (with_reducible refine Below.alloc ?_ ?_ _) | (with_reducible refine Below.drew ?_) | (with_reducible refine Below.drewN ?_ _) | (with_reducible refine Below.setCell ?_ ?_ _) | go_size)))).mono ?_; rintro e wx ⟨rfl, rfl⟩)
  refine (hread.out _ _ (elW_cu HH.out).2.1 (by omega) (elW_cu HH.out).1).mono ?_
  rintro e w1 ⟨rfl, hbx⟩
  obtain ⟨a1, a2, a3, a4⟩ := elW_cu HH.out
  have hs : (elW w g t p R.length cap).heap.size = w.heap.size + 2 := by unfold elW; simp
  have hrd : Rd w1 g t p b o cap R 0 0 := a4.bex hbx (by omega) (fun h0 => by have := (HH.out.bs.ptr h0).2; omega)
  have hbox : w1.cell? ⟨w.heap.size, 0, none⟩ = some (.pointer (some ⟨g, 0, none⟩)) := (hbx.blk a3 (by omega)).cell 0
  have hb2 : Bex g w w1 := ⟨hbx.os.trans a2.os, hbx.tape.trans a2.tape, hbx.output.trans a2.output, Nat.le_trans a2.size hbx.size, fun k hk _ => (hbx.block k (by omega) (by omega)).trans (a2.block k hk)⟩
  refine leaves_cons (f := 161) (args := #[.pointer (some ⟨w.heap.size, 0, none⟩)]) (by simp) (by simp [go_sem]) ?_
  refine (endBool_brk w.heap.size g t p b o cap R 0 0 x _ hrd hbox).mono ?_
  rintro e u' w'' ⟨rfl, rfl, h5, h6⟩
  exact ⟨_, results_tmp rfl _ _ _, rfl, h5, hb2.bex h6⟩
set_option maxRecDepth 20000 in
theorem elemBool_dead (g t : Nat) (p : Option Addr) (b o cap : Nat) (R : List Nat) (x f : Nat) (w : World) (H : Rd w g t p b o cap R x f) (hx : x ≠ 0) :
    Calls Try.prog 121 #[.pointer (some ⟨g, 0, none⟩), .func (.func 122) #[] #[]] w fun e w' => e = .returned (.bool false) ∧ Below w.heap.size w w' := by
  have hmf : ∀ (fn : Fn) (first cap : Array Value) (w : World), (Instr.makeFunc fn first cap).run Try.prog w = .ok (.func fn first cap) w := fun _ _ _ _ => rfl
  have h3 := H.c3
  have HV := hidp (fun (w' : World) (hB : Below w.heap.size w w') => valid_yes (H.below hB))
  have hlt := H.blk.lt
  have hz : ((x : Int) == 0) = false := by rw [beq_eq_false_iff_ne]; omega
  have hz2 : ((x : Int) != 0) = true := by rw [bne_iff_ne]; omega
  clear H hx
  go_enter_defers Try.func121, Try.ntmps121
  go_wp2_with (go_at_call 94; refine (HV.out _ (by (repeat' (first | (with_reducible exact Below.refl _ _) | (with_reducible refine Below.alloc ?_ ?_ _) | (with_reducible refine Below.drew ?_) | (with_reducible refine Below.drewN ?_ _) | (with_reducible refine Below.setCell ?_ ?_ _) | go_size)))).mono ?_; rintro e wx ⟨rfl, rfl⟩)
  exact ⟨_, results_tmp rfl _ _ _, rfl, by (repeat' (first | (with_reducible exact Below.refl _ _) | (with_reducible refine Below.alloc ?_ ?_ _) | (with_reducible refine Below.drew ?_) | (with_reducible refine Below.drewN ?_ _) | (with_reducible refine Below.setCell ?_ ?_ _) | go_size))⟩

end Go.Proofs.Ytlfmmmlheloloaa
