/-
  Texts Jg, Jh, Ji, one behind the other.
-/
import Derived.Test.YtcmkmnidnapabaaGreatQb
import Derived.Test.YtcmkmnidnapabaaGreatQa
import Derived.Test.YtcmkmnidnapabaaGreatEa
import Derived.Laws.IdiomStrings

/-! Jg: Contracts: element. -/
namespace Go.Proofs.YtcmkmnidnapabaaGreat
open Go.RowKit Go.Lib Go.Maps

theorem Rd.bex {c : Nat} {w w' : World} {g t : Nat} {p : Option Addr} {b o cap : Nat} {R : List Nat} {e f : Nat} (H : Rd w g t p b o cap R e f) (hb : Bex c w w') (hg : g ≠ c) (hbc : 0 < cap → c ≠ b) : Rd w' g t p b o cap R e f :=
  ⟨hb.blk H.blk hg, H.bs.bex hb hbc, H.ne, H.lim⟩
theorem Rd.put {w : World} {g t : Nat} {p : Option Addr} {b o cap : Nat} {R : List Nat} (H : Rd w g t p b o cap R 0 0) {t' : Nat} {p' : Option Addr} {o' cap' : Nat} {R' : List Nat} (hs : Bs w p' b o' R' cap') (hne : 0 < cap' → g ≠ b) (hlim : t' + R'.length ≤ 1000000000) :
    Rd ((w.setCell ⟨g, 1, none⟩ (.int .i64 (t' : Nat))).setCell ⟨g, 2, none⟩ (.slice p' R'.length cap')) g t' p' b o' cap' R' 0 0 := by
  have hx : Bex g w ((w.setCell ⟨g, 1, none⟩ (.int .i64 (t' : Nat))).setCell ⟨g, 2, none⟩ (.slice p' R'.length cap')) := ((Bex.refl g w).setCell _ _).setCell _ _
  exact ⟨(H.blk.set 1 _).set 2 _, hs.bex hx hne, hne, hlim⟩
/-- What an element's read begins with: the reader's box, the cursor. -/
def elW (w : World) (g t : Nat) (p : Option Addr) (n cap : Nat) : World := (w.alloc (.cells #[.pointer (some ⟨g, 0, none⟩)] 128)).alloc (.cells #[.int .i64 (t : Nat), .slice p n cap] 213)
theorem elW_cu {w : World} {g t : Nat} {p : Option Addr} {b o cap : Nat} {R : List Nat} (H : Rd w g t p b o cap R 0 0) : Cu (elW w g t p R.length cap) (w.heap.size + 1) t p b o cap R ∧ Below w.heap.size w (elW w g t p R.length cap) ∧ Blk (elW w g t p R.length cap) w.heap.size [.pointer (some ⟨g, 0, none⟩)] 128 ∧ Rd (elW w g t p R.length cap) g t p b o cap R 0 0 := by
  have hB : Below w.heap.size w (elW w g t p R.length cap) := ((Below.refl _ w).alloc (Nat.le_refl _) _).alloc (by simp) _
  refine ⟨⟨Blk.new' _ _ _ _ (by simp), H.bs.below hB, fun h0 => by have := (H.bs.ptr h0).2; omega, H.lim⟩, hB, (Blk.new w _ _).alloc _, H.below hB⟩

/-- Behind the read: what is known ahead of the cursor's being laid into the reader. -/
structure ElB (w w1 : World) (g t b n : Nat) (R : List Nat) (p' : Option Addr) (o' cap' : Nat) : Prop where
  rd : ∃ p o cap, Rd w1 g t p b o cap R 0 0
  cu : Cu w1 (w.heap.size + 1) (t + n) p' b o' cap' (R.drop n)
  box : w1.cell? ⟨w.heap.size, 0, none⟩ = some (.pointer (some ⟨g, 0, none⟩))
  bex : Bex g w w1
  ne : 0 < cap' → g ≠ b
  hg : g < w.heap.size
theorem ElB.of {w w1 : World} {g t : Nat} {p : Option Addr} {b o cap : Nat} {R : List Nat} {n : Nat} (H : Rd w g t p b o cap R 0 0) (hx : CuX w1 (w.heap.size + 1) (t + n) b (R.drop n) cap) (hb : Bex (w.heap.size + 1) (elW w g t p R.length cap) w1) : ∃ p' o' cap', ElB w w1 g t b n R p' o' cap' := by
  obtain ⟨h1, h2, h3, h4⟩ := elW_cu H
  obtain ⟨p', o', cap', hcc, hc⟩ := hx
  have hg := H.blk.lt
  refine ⟨p', o', cap', ⟨p, o, cap, h4.bex hb (by omega) (fun h0 => by have := (H.bs.ptr h0).2; omega)⟩, hc, (hb.blk h3 (by omega)).cell 0, ?_, fun h0 => H.ne (by omega), hg⟩
  have hs : (elW w g t p R.length cap).heap.size = w.heap.size + 2 := by unfold elW; simp
  exact ⟨hb.os.trans h2.os, hb.tape.trans h2.tape, hb.output.trans h2.output, Nat.le_trans h2.size hb.size, fun k hk _ => (hb.block k (by omega) (by omega)).trans (h2.block k hk)⟩






set_option maxRecDepth 20000 in
theorem elemNum_ok (g t : Nat) (p : Option Addr) (b o cap : Nat) (R : List Nat) (v : Value) (n : Nat) (w : World) (H : Rd w g t p b o cap R 0 0)
    (hread : ∀ w1 c, Below w.heap.size w w1 → w.heap.size ≤ c → Cu w1 c t p b o cap R → Calls Tryz.prog 162 #[.pointer (some ⟨c, 0, none⟩)] w1 fun e w' => e = .returned v ∧ CuX w' c (t + n) b (R.drop n) cap ∧ Bex c w1 w') :
    Calls Tryz.prog 161 #[.pointer (some ⟨g, 0, none⟩), .func (.func 162) #[] #[]] w fun e w' => e = .returned v ∧ RdX w' g (t + n) b (R.drop n) 0 0 ∧ Bex g w w' := by
  have hmf : ∀ (fn : Fn) (first cap : Array Value) (w : World), (Instr.makeFunc fn first cap).run Tryz.prog w = .ok (.func fn first cap) w := fun _ _ _ _ => rfl
  have h1 := H.c1
  have h2 := H.c2
  have h3 := H.c3
  have HV := hidp (fun (w' : World) (hB : Below w.heap.size w w') => valid_yes (H.below hB))
  have HH := hidp H
  have hlt := H.blk.lt
  have hread := hidp hread
  clear H
  go_enter_defers Tryz.func161, Tryz.ntmps161
  go_wp2_with (go_at_call 163; refine (HV.out _ (by (repeat' (first | (with_reducible exact Below.refl _ _) | (with_reducible refine Below.alloc ?_ ?_ _) | (with_reducible refine Below.drew ?_) | (with_reducible refine Below.drewN ?_ _) | (with_reducible refine Below.setCell ?_ ?_ _) | go_size)))).mono ?_; rintro e wx ⟨rfl, rfl⟩)
  refine (hread.out _ _ (elW_cu HH.out).2.1 (by omega) (elW_cu HH.out).1).mono ?_
  rintro e w1 ⟨rfl, hx, hbx⟩
  obtain ⟨p', o', cap', hE⟩ := ElB.of HH.out hx hbx
  have HE := hidp hE
  obtain ⟨pq, oq, capq, hrd⟩ := hE.rd
  have d0 := hE.cu.c0
  have d1 := hE.cu.c1
  have hbox := hE.box
  have g1 := hrd.c1
  have g2 := hrd.c2
  have f1 := hrd.blk.free 1
  have f2 := hrd.blk.free 2
  have HR := hidp hrd

  clear hE hx hbx hrd HV HH hread h1 h2 h3
  go_wp2
  have e1 : (t : Int) + (n : Int) = ((t + n : Nat) : Int) := by omega
  have e2 : R.length - n = (R.drop n).length := by rw [List.length_drop]
  rw [e1, e2]
  have hput := HR.out.put HE.out.cu.bs HE.out.ne HE.out.cu.lim
  have hbe : Bex g w1 ((w1.setCell ⟨g, 1, none⟩ (.int .i64 (t + n : Nat))).setCell ⟨g, 2, none⟩ (.slice p' (R.drop n).length cap')) := ((Bex.refl g w1).setCell _ _).setCell _ _
  refine leaves_cons (f := 216) (args := #[.pointer (some ⟨w.heap.size, 0, none⟩)]) (by simp) (by simp [go_sem]) ?_
  refine (endNum_none w.heap.size g _ ?_).mono ?_
  · have hlt : w.heap.size < w1.heap.size := by have := cell_lt HE.out.box; exact this
    exact (World.cell?_of_block (a := ⟨w.heap.size, 0, none⟩) (hbe.block w.heap.size hlt (by have := HE.out.hg; omega))).trans HE.out.box
  rintro e u' w'' ⟨rfl, rfl, rfl⟩
  exact ⟨_, results_tmp rfl _ _ _, rfl, ⟨_, _, _, hput.drew⟩, (HE.out.bex.bex hbe).drew⟩
set_option maxRecDepth 20000 in
theorem elemNum_er (g t : Nat) (p : Option Addr) (b o cap : Nat) (R : List Nat) (x : Nat) (w : World) (H : Rd w g t p b o cap R 0 0)
    (hread : ∀ w1 c, Below w.heap.size w w1 → w.heap.size ≤ c → Cu w1 c t p b o cap R → Calls Tryz.prog 162 #[.pointer (some ⟨c, 0, none⟩)] w1 fun e w' => e = .panicked (brk x) ∧ Bex c w1 w') :
    Calls Tryz.prog 161 #[.pointer (some ⟨g, 0, none⟩), .func (.func 162) #[] #[]] w fun e w' => e = .returned (.int .i64 0) ∧ RdX w' g t b [] x t ∧ Bex g w w' := by
  have hmf : ∀ (fn : Fn) (first cap : Array Value) (w : World), (Instr.makeFunc fn first cap).run Tryz.prog w = .ok (.func fn first cap) w := fun _ _ _ _ => rfl
  have h1 := H.c1
  have h2 := H.c2
  have h3 := H.c3
  have HV := hidp (fun (w' : World) (hB : Below w.heap.size w w') => valid_yes (H.below hB))
  have HH := hidp H
  have hlt := H.blk.lt
  have hread := hidp hread
  clear H
  go_enter_defers Tryz.func161, Tryz.ntmps161
  go_wp2_with (go_at_call 163; refine (HV.out _ (by (repeat' (first | (with_reducible exact Below.refl _ _) | (with_reducible refine Below.alloc ?_ ?_ _) | (with_reducible refine Below.drew ?_) | (with_reducible refine Below.drewN ?_ _) | (with_reducible refine Below.setCell ?_ ?_ _) | go_size)))).mono ?_; rintro e wx ⟨rfl, rfl⟩)
  refine (hread.out _ _ (elW_cu HH.out).2.1 (by omega) (elW_cu HH.out).1).mono ?_
  rintro e w1 ⟨rfl, hbx⟩
  obtain ⟨a1, a2, a3, a4⟩ := elW_cu HH.out
  have hs : (elW w g t p R.length cap).heap.size = w.heap.size + 2 := by unfold elW; simp
  have hrd : Rd w1 g t p b o cap R 0 0 := a4.bex hbx (by omega) (fun h0 => by have := (HH.out.bs.ptr h0).2; omega)
  have hbox : w1.cell? ⟨w.heap.size, 0, none⟩ = some (.pointer (some ⟨g, 0, none⟩)) := (hbx.blk a3 (by omega)).cell 0
  have hb2 : Bex g w w1 := ⟨hbx.os.trans a2.os, hbx.tape.trans a2.tape, hbx.output.trans a2.output, Nat.le_trans a2.size hbx.size, fun k hk _ => (hbx.block k (by omega) (by omega)).trans (a2.block k hk)⟩
  refine leaves_cons (f := 216) (args := #[.pointer (some ⟨w.heap.size, 0, none⟩)]) (by simp) (by simp [go_sem]) ?_
  refine (endNum_brk w.heap.size g t p b o cap R 0 0 x _ hrd hbox).mono ?_
  rintro e u' w'' ⟨rfl, rfl, h5, h6⟩
  exact ⟨_, results_tmp rfl _ _ _, rfl, h5, hb2.bex h6⟩
set_option maxRecDepth 20000 in
theorem elemNum_dead (g t : Nat) (p : Option Addr) (b o cap : Nat) (R : List Nat) (x f : Nat) (w : World) (H : Rd w g t p b o cap R x f) (hx : x ≠ 0) :
    Calls Tryz.prog 161 #[.pointer (some ⟨g, 0, none⟩), .func (.func 162) #[] #[]] w fun e w' => e = .returned (.int .i64 0) ∧ Below w.heap.size w w' := by
  have hmf : ∀ (fn : Fn) (first cap : Array Value) (w : World), (Instr.makeFunc fn first cap).run Tryz.prog w = .ok (.func fn first cap) w := fun _ _ _ _ => rfl
  have h3 := H.c3
  have HV := hidp (fun (w' : World) (hB : Below w.heap.size w w') => valid_yes (H.below hB))
  have hlt := H.blk.lt
  have hz : ((x : Int) == 0) = false := by rw [beq_eq_false_iff_ne]; omega
  have hz2 : ((x : Int) != 0) = true := by rw [bne_iff_ne]; omega
  clear H hx
  go_enter_defers Tryz.func161, Tryz.ntmps161
  go_wp2_with (go_at_call 163; refine (HV.out _ (by (repeat' (first | (with_reducible exact Below.refl _ _) | (with_reducible refine Below.alloc ?_ ?_ _) | (with_reducible refine Below.drew ?_) | (with_reducible refine Below.drewN ?_ _) | (with_reducible refine Below.setCell ?_ ?_ _) | go_size)))).mono ?_; rintro e wx ⟨rfl, rfl⟩)
  exact ⟨_, results_tmp rfl _ _ _, rfl, by (repeat' (first | (with_reducible exact Below.refl _ _) | (with_reducible refine Below.alloc ?_ ?_ _) | (with_reducible refine Below.drew ?_) | (with_reducible refine Below.drewN ?_ _) | (with_reducible refine Below.setCell ?_ ?_ _) | go_size))⟩

set_option maxRecDepth 20000 in
theorem elemText_ok (mb : Nat) (g t : Nat) (p : Option Addr) (b o cap : Nat) (R : List Nat) (v : Value) (n : Nat) (w : World) (H : Rd w g t p b o cap R 0 0)
    (hread : ∀ w1 c, Below w.heap.size w w1 → w.heap.size ≤ c → Cu w1 c t p b o cap R → Calls Tryz.prog 249 #[.pointer (some ⟨c, 0, none⟩), .pointer (some ⟨mb, 0, none⟩)] w1 fun e w' => e = .returned v ∧ CuX w' c (t + n) b (R.drop n) cap ∧ Bex c w1 w') :
    Calls Tryz.prog 248 #[.pointer (some ⟨g, 0, none⟩), .func (.func 249) #[] #[.pointer (some ⟨mb, 0, none⟩)]] w fun e w' => e = .returned v ∧ RdX w' g (t + n) b (R.drop n) 0 0 ∧ Bex g w w' := by
  have hmf : ∀ (fn : Fn) (first cap : Array Value) (w : World), (Instr.makeFunc fn first cap).run Tryz.prog w = .ok (.func fn first cap) w := fun _ _ _ _ => rfl
  have h1 := H.c1
  have h2 := H.c2
  have h3 := H.c3
  have HV := hidp (fun (w' : World) (hB : Below w.heap.size w w') => valid_yes (H.below hB))
  have HH := hidp H
  have hlt := H.blk.lt
  have hread := hidp hread
  clear H
  go_enter_defers Tryz.func248, Tryz.ntmps248
  go_wp2_with (go_at_call 163; refine (HV.out _ (by (repeat' (first | (with_reducible exact Below.refl _ _) | (with_reducible refine Below.alloc ?_ ?_ _) | (with_reducible refine Below.drew ?_) | (with_reducible refine Below.drewN ?_ _) | (with_reducible refine Below.setCell ?_ ?_ _) | go_size)))).mono ?_; rintro e wx ⟨rfl, rfl⟩)
  refine (hread.out _ _ (elW_cu HH.out).2.1 (by omega) (elW_cu HH.out).1).mono ?_
  rintro e w1 ⟨rfl, hx, hbx⟩
  obtain ⟨p', o', cap', hE⟩ := ElB.of HH.out hx hbx
  have HE := hidp hE
  obtain ⟨pq, oq, capq, hrd⟩ := hE.rd
  have d0 := hE.cu.c0
  have d1 := hE.cu.c1
  have hbox := hE.box
  have g1 := hrd.c1
  have g2 := hrd.c2
  have f1 := hrd.blk.free 1
  have f2 := hrd.blk.free 2
  have HR := hidp hrd

  clear hE hx hbx hrd HV HH hread h1 h2 h3
  go_wp2
  have e1 : (t : Int) + (n : Int) = ((t + n : Nat) : Int) := by omega
  have e2 : R.length - n = (R.drop n).length := by rw [List.length_drop]
  rw [e1, e2]
  have hput := HR.out.put HE.out.cu.bs HE.out.ne HE.out.cu.lim
  have hbe : Bex g w1 ((w1.setCell ⟨g, 1, none⟩ (.int .i64 (t + n : Nat))).setCell ⟨g, 2, none⟩ (.slice p' (R.drop n).length cap')) := ((Bex.refl g w1).setCell _ _).setCell _ _
  refine leaves_cons (f := 281) (args := #[.pointer (some ⟨w.heap.size, 0, none⟩)]) (by simp) (by simp [go_sem]) ?_
  refine (endText_none w.heap.size g _ ?_).mono ?_
  · have hlt : w.heap.size < w1.heap.size := by have := cell_lt HE.out.box; exact this
    exact (World.cell?_of_block (a := ⟨w.heap.size, 0, none⟩) (hbe.block w.heap.size hlt (by have := HE.out.hg; omega))).trans HE.out.box
  rintro e u' w'' ⟨rfl, rfl, rfl⟩
  exact ⟨_, results_tmp rfl _ _ _, rfl, ⟨_, _, _, hput.drew⟩, (HE.out.bex.bex hbe).drew⟩
set_option maxRecDepth 20000 in
theorem elemText_er (mb : Nat) (g t : Nat) (p : Option Addr) (b o cap : Nat) (R : List Nat) (x : Nat) (w : World) (H : Rd w g t p b o cap R 0 0)
    (hread : ∀ w1 c, Below w.heap.size w w1 → w.heap.size ≤ c → Cu w1 c t p b o cap R → Calls Tryz.prog 249 #[.pointer (some ⟨c, 0, none⟩), .pointer (some ⟨mb, 0, none⟩)] w1 fun e w' => e = .panicked (brk x) ∧ Bex c w1 w') :
    Calls Tryz.prog 248 #[.pointer (some ⟨g, 0, none⟩), .func (.func 249) #[] #[.pointer (some ⟨mb, 0, none⟩)]] w fun e w' => e = .returned (.string ⟨#[]⟩) ∧ RdX w' g t b [] x t ∧ Bex g w w' := by
  have hmf : ∀ (fn : Fn) (first cap : Array Value) (w : World), (Instr.makeFunc fn first cap).run Tryz.prog w = .ok (.func fn first cap) w := fun _ _ _ _ => rfl
  have h1 := H.c1
  have h2 := H.c2
  have h3 := H.c3
  have HV := hidp (fun (w' : World) (hB : Below w.heap.size w w') => valid_yes (H.below hB))
  have HH := hidp H
  have hlt := H.blk.lt
  have hread := hidp hread
  clear H
  go_enter_defers Tryz.func248, Tryz.ntmps248
  go_wp2_with (go_at_call 163; refine (HV.out _ (by (repeat' (first | (with_reducible exact Below.refl _ _) | (with_reducible refine Below.alloc ?_ ?_ _) | (with_reducible refine Below.drew ?_) | (with_reducible refine Below.drewN ?_ _) | (with_reducible refine Below.setCell ?_ ?_ _) | go_size)))).mono ?_; rintro e wx ⟨rfl, rfl⟩)
  refine (hread.out _ _ (elW_cu HH.out).2.1 (by omega) (elW_cu HH.out).1).mono ?_
  rintro e w1 ⟨rfl, hbx⟩
  obtain ⟨a1, a2, a3, a4⟩ := elW_cu HH.out
  have hs : (elW w g t p R.length cap).heap.size = w.heap.size + 2 := by unfold elW; simp
  have hrd : Rd w1 g t p b o cap R 0 0 := a4.bex hbx (by omega) (fun h0 => by have := (HH.out.bs.ptr h0).2; omega)
  have hbox : w1.cell? ⟨w.heap.size, 0, none⟩ = some (.pointer (some ⟨g, 0, none⟩)) := (hbx.blk a3 (by omega)).cell 0
  have hb2 : Bex g w w1 := ⟨hbx.os.trans a2.os, hbx.tape.trans a2.tape, hbx.output.trans a2.output, Nat.le_trans a2.size hbx.size, fun k hk _ => (hbx.block k (by omega) (by omega)).trans (a2.block k hk)⟩
  refine leaves_cons (f := 281) (args := #[.pointer (some ⟨w.heap.size, 0, none⟩)]) (by simp) (by simp [go_sem]) ?_
  refine (endText_brk w.heap.size g t p b o cap R 0 0 x _ hrd hbox).mono ?_
  rintro e u' w'' ⟨rfl, rfl, h5, h6⟩
  exact ⟨_, results_tmp rfl _ _ _, rfl, h5, hb2.bex h6⟩
set_option maxRecDepth 20000 in
theorem elemText_dead (mb : Nat) (g t : Nat) (p : Option Addr) (b o cap : Nat) (R : List Nat) (x f : Nat) (w : World) (H : Rd w g t p b o cap R x f) (hx : x ≠ 0) :
    Calls Tryz.prog 248 #[.pointer (some ⟨g, 0, none⟩), .func (.func 249) #[] #[.pointer (some ⟨mb, 0, none⟩)]] w fun e w' => e = .returned (.string ⟨#[]⟩) ∧ Below w.heap.size w w' := by
  have hmf : ∀ (fn : Fn) (first cap : Array Value) (w : World), (Instr.makeFunc fn first cap).run Tryz.prog w = .ok (.func fn first cap) w := fun _ _ _ _ => rfl
  have h3 := H.c3
  have HV := hidp (fun (w' : World) (hB : Below w.heap.size w w') => valid_yes (H.below hB))
  have hlt := H.blk.lt
  have hz : ((x : Int) == 0) = false := by rw [beq_eq_false_iff_ne]; omega
  have hz2 : ((x : Int) != 0) = true := by rw [bne_iff_ne]; omega
  clear H hx
  go_enter_defers Tryz.func248, Tryz.ntmps248
  go_wp2_with (go_at_call 163; refine (HV.out _ (by (repeat' (first | (with_reducible exact Below.refl _ _) | (with_reducible refine Below.alloc ?_ ?_ _) | (with_reducible refine Below.drew ?_) | (with_reducible refine Below.drewN ?_ _) | (with_reducible refine Below.setCell ?_ ?_ _) | go_size)))).mono ?_; rintro e wx ⟨rfl, rfl⟩)
  exact ⟨_, results_tmp rfl _ _ _, rfl, by (repeat' (first | (with_reducible exact Below.refl _ _) | (with_reducible refine Below.alloc ?_ ?_ _) | (with_reducible refine Below.drew ?_) | (with_reducible refine Below.drewN ?_ _) | (with_reducible refine Below.setCell ?_ ?_ _) | go_size))⟩

set_option maxRecDepth 20000 in
theorem elemWord_ok (g t : Nat) (p : Option Addr) (b o cap : Nat) (R : List Nat) (v : Value) (n : Nat) (w : World) (H : Rd w g t p b o cap R 0 0)
    (hread : ∀ w1 c, Below w.heap.size w w1 → w.heap.size ≤ c → Cu w1 c t p b o cap R → Calls Tryz.prog 226 #[.pointer (some ⟨c, 0, none⟩)] w1 fun e w' => e = .returned v ∧ CuX w' c (t + n) b (R.drop n) cap ∧ Bex c w1 w') :
    Calls Tryz.prog 225 #[.pointer (some ⟨g, 0, none⟩), .func (.func 226) #[] #[]] w fun e w' => e = .returned v ∧ RdX w' g (t + n) b (R.drop n) 0 0 ∧ Bex g w w' := by
  have hmf : ∀ (fn : Fn) (first cap : Array Value) (w : World), (Instr.makeFunc fn first cap).run Tryz.prog w = .ok (.func fn first cap) w := fun _ _ _ _ => rfl
  have h1 := H.c1
  have h2 := H.c2
  have h3 := H.c3
  have HV := hidp (fun (w' : World) (hB : Below w.heap.size w w') => valid_yes (H.below hB))
  have HH := hidp H
  have hlt := H.blk.lt
  have hread := hidp hread
  clear H
  go_enter_defers Tryz.func225, Tryz.ntmps225
  go_wp2_with (go_at_call 163; refine (HV.out _ (by (repeat' (first | (with_reducible exact Below.refl _ _) | (with_reducible refine Below.alloc ?_ ?_ _) | (with_reducible refine Below.drew ?_) | (with_reducible refine Below.drewN ?_ _) | (with_reducible refine Below.setCell ?_ ?_ _) | go_size)))).mono ?_; rintro e wx ⟨rfl, rfl⟩)
  refine (hread.out _ _ (elW_cu HH.out).2.1 (by omega) (elW_cu HH.out).1).mono ?_
  rintro e w1 ⟨rfl, hx, hbx⟩
  obtain ⟨p', o', cap', hE⟩ := ElB.of HH.out hx hbx
  have HE := hidp hE
  obtain ⟨pq, oq, capq, hrd⟩ := hE.rd
  have d0 := hE.cu.c0
  have d1 := hE.cu.c1
  have hbox := hE.box
  have g1 := hrd.c1
  have g2 := hrd.c2
  have f1 := hrd.blk.free 1
  have f2 := hrd.blk.free 2
  have HR := hidp hrd

  clear hE hx hbx hrd HV HH hread h1 h2 h3
  go_wp2
  have e1 : (t : Int) + (n : Int) = ((t + n : Nat) : Int) := by omega
  have e2 : R.length - n = (R.drop n).length := by rw [List.length_drop]
  rw [e1, e2]
  have hput := HR.out.put HE.out.cu.bs HE.out.ne HE.out.cu.lim
  have hbe : Bex g w1 ((w1.setCell ⟨g, 1, none⟩ (.int .i64 (t + n : Nat))).setCell ⟨g, 2, none⟩ (.slice p' (R.drop n).length cap')) := ((Bex.refl g w1).setCell _ _).setCell _ _
  refine leaves_cons (f := 265) (args := #[.pointer (some ⟨w.heap.size, 0, none⟩)]) (by simp) (by simp [go_sem]) ?_
  refine (endWord_none w.heap.size g _ ?_).mono ?_
  · have hlt : w.heap.size < w1.heap.size := by have := cell_lt HE.out.box; exact this
    exact (World.cell?_of_block (a := ⟨w.heap.size, 0, none⟩) (hbe.block w.heap.size hlt (by have := HE.out.hg; omega))).trans HE.out.box
  rintro e u' w'' ⟨rfl, rfl, rfl⟩
  exact ⟨_, results_tmp rfl _ _ _, rfl, ⟨_, _, _, hput.drew⟩, (HE.out.bex.bex hbe).drew⟩
set_option maxRecDepth 20000 in
theorem elemWord_er (g t : Nat) (p : Option Addr) (b o cap : Nat) (R : List Nat) (x : Nat) (w : World) (H : Rd w g t p b o cap R 0 0)
    (hread : ∀ w1 c, Below w.heap.size w w1 → w.heap.size ≤ c → Cu w1 c t p b o cap R → Calls Tryz.prog 226 #[.pointer (some ⟨c, 0, none⟩)] w1 fun e w' => e = .panicked (brk x) ∧ Bex c w1 w') :
    Calls Tryz.prog 225 #[.pointer (some ⟨g, 0, none⟩), .func (.func 226) #[] #[]] w fun e w' => e = .returned (.int .u64 0) ∧ RdX w' g t b [] x t ∧ Bex g w w' := by
  have hmf : ∀ (fn : Fn) (first cap : Array Value) (w : World), (Instr.makeFunc fn first cap).run Tryz.prog w = .ok (.func fn first cap) w := fun _ _ _ _ => rfl
  have h1 := H.c1
  have h2 := H.c2
  have h3 := H.c3
  have HV := hidp (fun (w' : World) (hB : Below w.heap.size w w') => valid_yes (H.below hB))
  have HH := hidp H
  have hlt := H.blk.lt
  have hread := hidp hread
  clear H
  go_enter_defers Tryz.func225, Tryz.ntmps225
  go_wp2_with (go_at_call 163; refine (HV.out _ (by (repeat' (first | (with_reducible exact Below.refl _ _) | (with_reducible refine Below.alloc ?_ ?_ _) | (with_reducible refine Below.drew ?_) | (with_reducible refine Below.drewN ?_ _) | (with_reducible refine Below.setCell ?_ ?_ _) | go_size)))).mono ?_; rintro e wx ⟨rfl, rfl⟩)
  refine (hread.out _ _ (elW_cu HH.out).2.1 (by omega) (elW_cu HH.out).1).mono ?_
  rintro e w1 ⟨rfl, hbx⟩
  obtain ⟨a1, a2, a3, a4⟩ := elW_cu HH.out
  have hs : (elW w g t p R.length cap).heap.size = w.heap.size + 2 := by unfold elW; simp
  have hrd : Rd w1 g t p b o cap R 0 0 := a4.bex hbx (by omega) (fun h0 => by have := (HH.out.bs.ptr h0).2; omega)
  have hbox : w1.cell? ⟨w.heap.size, 0, none⟩ = some (.pointer (some ⟨g, 0, none⟩)) := (hbx.blk a3 (by omega)).cell 0
  have hb2 : Bex g w w1 := ⟨hbx.os.trans a2.os, hbx.tape.trans a2.tape, hbx.output.trans a2.output, Nat.le_trans a2.size hbx.size, fun k hk _ => (hbx.block k (by omega) (by omega)).trans (a2.block k hk)⟩
  refine leaves_cons (f := 265) (args := #[.pointer (some ⟨w.heap.size, 0, none⟩)]) (by simp) (by simp [go_sem]) ?_
  refine (endWord_brk w.heap.size g t p b o cap R 0 0 x _ hrd hbox).mono ?_
  rintro e u' w'' ⟨rfl, rfl, h5, h6⟩
  exact ⟨_, results_tmp rfl _ _ _, rfl, h5, hb2.bex h6⟩
set_option maxRecDepth 20000 in
theorem elemWord_dead (g t : Nat) (p : Option Addr) (b o cap : Nat) (R : List Nat) (x f : Nat) (w : World) (H : Rd w g t p b o cap R x f) (hx : x ≠ 0) :
    Calls Tryz.prog 225 #[.pointer (some ⟨g, 0, none⟩), .func (.func 226) #[] #[]] w fun e w' => e = .returned (.int .u64 0) ∧ Below w.heap.size w w' := by
  have hmf : ∀ (fn : Fn) (first cap : Array Value) (w : World), (Instr.makeFunc fn first cap).run Tryz.prog w = .ok (.func fn first cap) w := fun _ _ _ _ => rfl
  have h3 := H.c3
  have HV := hidp (fun (w' : World) (hB : Below w.heap.size w w') => valid_yes (H.below hB))
  have hlt := H.blk.lt
  have hz : ((x : Int) == 0) = false := by rw [beq_eq_false_iff_ne]; omega
  have hz2 : ((x : Int) != 0) = true := by rw [bne_iff_ne]; omega
  clear H hx
  go_enter_defers Tryz.func225, Tryz.ntmps225
  go_wp2_with (go_at_call 163; refine (HV.out _ (by (repeat' (first | (with_reducible exact Below.refl _ _) | (with_reducible refine Below.alloc ?_ ?_ _) | (with_reducible refine Below.drew ?_) | (with_reducible refine Below.drewN ?_ _) | (with_reducible refine Below.setCell ?_ ?_ _) | go_size)))).mono ?_; rintro e wx ⟨rfl, rfl⟩)
  exact ⟨_, results_tmp rfl _ _ _, rfl, by (repeat' (first | (with_reducible exact Below.refl _ _) | (with_reducible refine Below.alloc ?_ ?_ _) | (with_reducible refine Below.drew ?_) | (with_reducible refine Below.drewN ?_ _) | (with_reducible refine Below.setCell ?_ ?_ _) | go_size))⟩

end Go.Proofs.YtcmkmnidnapabaaGreat

/-! Jh: Contracts of package pace, as in layer 2: Bits, Of. -/
namespace Go.Proofs.YtcmkmnidnapabaaGreat
open Go.RowKit
/-- Whether a word is a form; what Of tells. -/
def ofE (n : Nat) : Int := if formN n = n then 0 else 5
def ofV (n : Nat) : Nat := if formN n = n then n else 0
end Go.Proofs.YtcmkmnidnapabaaGreat

/-! Ji: Contracts: what an element's read takes off a cursor. -/
namespace Go.Proofs.YtcmkmnidnapabaaGreat
open Go.RowKit Go.Lib Go.Maps

def strB (L : List Nat) : ByteArray := ⟨(L.map UInt8.ofNat).toArray⟩
theorem conv_at (w : World) (y : Addr) (c : Nat) (L : List Nat) (hb : ∀ x ∈ L, x < 256) (hc : ∀ j, j < L.length → w.cell? (y.add j) = some (.int .u8 (L.getD j 0 : Nat))) :
    (convert 35 9 (.slice (some y) L.length c)).run Tryz.prog w = .ok (.string (strB L)) w := by
  have q := run_convert_bytes_back (P := Tryz.prog) w 35 9 5 y c (L.map UInt8.ofNat) Tryz.underlying35 Tryz.underlying5 Tryz.underlying9 (fun j hj => by
    rw [List.length_map] at hj
    rw [hc j hj]
    have e : L.getD j 0 = L[j] := by rw [List.getD_eq_getElem?_getD, List.getElem?_eq_getElem hj]; rfl
    have hx := hb _ (List.getElem_mem hj)
    rw [e, List.getElem_map]
    congr 2
    rw [UInt8.toNat_ofNat', Nat.mod_eq_of_lt hx])
  rw [List.length_map] at q
  exact q
theorem conv_bs {w : World} {p : Option Addr} {b o cap : Nat} {L : List Nat} (h : Bs w p b o L cap) (c : Nat) :
    (convert 35 9 (.slice p L.length c)).run Tryz.prog w = .ok (.string (strB L)) w := by
  cases hp : p with
  | some y =>
    refine conv_at w y c L h.byte (fun j hj => ?_)
    obtain ⟨h1, _⟩ := h.ptr (by have := h.le; omega)
    rw [hp] at h1
    cases h1
    rw [Addr.add_mid]
    exact h.here j hj
  | none =>
    have hL : L = [] := by
      rcases Nat.eq_zero_or_pos cap with h0 | h0
      · exact List.eq_nil_of_length_eq_zero (by have := h.le; omega)
      · rw [hp] at h; exact absurd (h.ptr h0).1 (by simp)
    subst hL
    rw [run_convert_bytes_string w 35 9 5 none _ c Tryz.underlying35 Tryz.underlying5 Tryz.underlying9]
    simp [Conv.bytesToString]
    rfl
theorem textOf_any (p : Option Addr) (b o cap : Nat) (L : List Nat) (w : World) (h : Bs w p b o L cap) :
    Calls Tryz.prog 251 #[.slice p L.length cap] w fun e w' => e = .returned (.string (strB L)) ∧ w = w' := by
  have hc := conv_bs h cap
  clear h
  go_enter Tryz.func251, Tryz.ntmps251
  go_wp2
  go_ret
  exact ⟨rfl, rfl⟩
/-! Length. -/
def pLen (R : List Nat) (most : Int) : PR Nat := match pNum R with
  | .er x => .er x
  | .ok v n => if max most 0 < (v : Int) then .er 4 else .ok v n
theorem length_ok (c t : Nat) (p : Option Addr) (b o cap : Nat) (R : List Nat) (most : Int) (v n : Nat) (w : World) (H : Cu w c t p b o cap R) (hp : pLen R most = .ok v n) :
    Calls Tryz.prog 247 #[.pointer (some ⟨c, 0, none⟩), .int .i64 most] w fun e w' => e = .returned (.int .i64 (v : Nat)) ∧ CuX w' c (t + n) b (R.drop n) cap ∧ Bex c w w' := by
  unfold pLen at hp
  cases hn : pNum R with
  | er x => rw [hn] at hp; cases hp
  | ok v' n' =>
    rw [hn] at hp
    by_cases hm : max most 0 < (v' : Int)
    · simp only [hm, if_true] at hp; cases hp
    · simp only [hm, if_false] at hp
      cases hp
      have HN := hidp (number_ok c t p b o cap R v n w H hn)
      clear H hn
      by_cases hneg : most < 0
      · have hd : decide (0 < v) = false := decide_eq_false (by omega)
        clear hm
        go_enter Tryz.func247, Tryz.ntmps247
        go_wp2_with fail
        refine HN.out.mono ?_
        rintro e w1 ⟨rfl, hx, hb⟩
        have HX := hidp (And.intro hx hb)
        clear hx hb
        go_wp2
        go_ret
        exact ⟨rfl, HX.out⟩
      · have hd : decide (most < (v : Int)) = false := decide_eq_false (by omega)
        clear hm
        go_enter Tryz.func247, Tryz.ntmps247
        go_wp2_with fail
        refine HN.out.mono ?_
        rintro e w1 ⟨rfl, hx, hb⟩
        have HX := hidp (And.intro hx hb)
        clear hx hb
        go_wp2
        go_ret
        exact ⟨rfl, HX.out⟩
theorem length_er (c t : Nat) (p : Option Addr) (b o cap : Nat) (R : List Nat) (most : Int) (x : Nat) (w : World) (H : Cu w c t p b o cap R) (hp : pLen R most = .er x) :
    Calls Tryz.prog 247 #[.pointer (some ⟨c, 0, none⟩), .int .i64 most] w fun e w' => e = .panicked (brk x) ∧ Bex c w w' := by
  unfold pLen at hp
  cases hn : pNum R with
  | er x' =>
    rw [hn] at hp; cases hp
    have HN := hidp (number_er c t p b o cap R x w H hn)
    clear H hn
    go_enter Tryz.func247, Tryz.ntmps247
    go_wp2_with fail
    refine HN.out.mono ?_
    rintro e w1 ⟨rfl, hb⟩
    exact ⟨rfl, rfl, hb⟩
  | ok v' n' =>
    rw [hn] at hp
    by_cases hm : max most 0 < (v' : Int)
    · simp only [hm, if_true] at hp
      cases hp
      have HN := hidp (number_ok c t p b o cap R v' n' w H hn)
      clear H hn
      by_cases hneg : most < 0
      · have hd : decide (0 < v') = true := decide_eq_true (by omega)
        clear hm
        go_enter Tryz.func247, Tryz.ntmps247
        go_wp2_with fail
        refine HN.out.mono ?_
        rintro e w1 ⟨rfl, hx, hb⟩
        have HX := hidp (And.intro hx hb)
        clear hx hb
        go_wp2
        exact ⟨rfl, rfl, HX.out.2⟩
      · have hd : decide (most < (v' : Int)) = true := decide_eq_true (by omega)
        clear hm
        go_enter Tryz.func247, Tryz.ntmps247
        go_wp2_with fail
        refine HN.out.mono ?_
        rintro e w1 ⟨rfl, hx, hb⟩
        have HX := hidp (And.intro hx hb)
        clear hx hb
        go_wp2
        exact ⟨rfl, rfl, HX.out.2⟩
    · simp only [hm, if_false] at hp; cases hp

/-! A text. -/
def pText (R : List Nat) (most : Int) : PR (List Nat) := match pLen R most with
  | .er x => .er x
  | .ok v n => if R.length - n < v then .er 6 else .ok ((R.drop n).take v) (n + v)
theorem readText_ok (mb c t : Nat) (p : Option Addr) (b o cap : Nat) (R : List Nat) (most : Int) (T : List Nat) (n : Nat) (w : World) (H : Cu w c t p b o cap R) (hm : w.cell? ⟨mb, 0, none⟩ = some (.int .i64 most)) (hp : pText R most = .ok T n) :
    Calls Tryz.prog 249 #[.pointer (some ⟨c, 0, none⟩), .pointer (some ⟨mb, 0, none⟩)] w fun e w' => e = .returned (.string (strB T)) ∧ CuX w' c (t + n) b (R.drop n) cap ∧ Bex c w w' := by
  unfold pText at hp
  cases hn : pLen R most with
  | er x => rw [hn] at hp; cases hp
  | ok v n' =>
    rw [hn] at hp
    by_cases hl : R.length - n' < v
    · simp only [hl, if_true] at hp; cases hp
    · simp only [hl, if_false] at hp
      cases hp
      have HN := hidp (length_ok c t p b o cap R most v n' w H hn)
      have HL := hidp hl
      clear H hn hl
      go_enter Tryz.func249, Tryz.ntmps249
      go_wp2_with fail
      refine HN.out.mono ?_
      rintro e w1 ⟨rfl, ⟨p1, o1, cap1, hc1, hx⟩, hb⟩
      have HX := hidp hx
      have HB := hidp (And.intro hb hc1)
      clear hx hb hc1
      go_wp2_with fail
      refine takeText_ok c (t + n') p1 b o1 cap1 (R.drop n') v w1 HX.out (by have := HL.out; rw [List.length_drop]; omega) _ (fun w2 a1 a2 a3 => ?_)
      have hlen : ((R.drop n').take v).length = v := by have := HL.out; rw [List.length_take, List.length_drop]; omega
      have q := textOf_any p1 b o1 cap1 _ w2 a2
      rw [hlen] at q
      refine q.mono ?_
      rintro e w3 ⟨rfl, rfl⟩
      refine .inl ⟨_, rfl, ?_⟩
      have B1 := hidp a1
      have B3 := hidp (HB.out.1.trans a3)
      clear a1 a2 a3 q hlen
      go_wp2
      go_ret
      have hcu : Cu w2 c (t + (n' + v)) (partA p1 cap1 v) b (o1 + v) (cap1 - v) (R.drop (n' + v)) := by
        have := B1.out
        rw [List.drop_drop, Nat.add_assoc] at this
        exact this
      exact ⟨rfl, ⟨_, _, _, Nat.le_trans (Nat.sub_le _ _) HB.out.2, hcu⟩, B3.out⟩
theorem readText_er (mb c t : Nat) (p : Option Addr) (b o cap : Nat) (R : List Nat) (most : Int) (x : Nat) (w : World) (H : Cu w c t p b o cap R) (hm : w.cell? ⟨mb, 0, none⟩ = some (.int .i64 most)) (hp : pText R most = .er x) :
    Calls Tryz.prog 249 #[.pointer (some ⟨c, 0, none⟩), .pointer (some ⟨mb, 0, none⟩)] w fun e w' => e = .panicked (brk x) ∧ Bex c w w' := by
  unfold pText at hp
  cases hn : pLen R most with
  | er x' =>
    rw [hn] at hp; cases hp
    have HN := hidp (length_er c t p b o cap R most x w H hn)
    clear H hn
    go_enter Tryz.func249, Tryz.ntmps249
    go_wp2_with fail
    refine HN.out.mono ?_
    rintro e w1 ⟨rfl, hb⟩
    exact ⟨rfl, rfl, hb⟩
  | ok v n' =>
    rw [hn] at hp
    by_cases hl : R.length - n' < v
    · simp only [hl, if_true] at hp
      cases hp
      have HN := hidp (length_ok c t p b o cap R most v n' w H hn)
      have HL := hidp hl
      clear H hn hl
      go_enter Tryz.func249, Tryz.ntmps249
      go_wp2_with fail
      refine HN.out.mono ?_
      rintro e w1 ⟨rfl, ⟨p1, o1, cap1, hc1, hx⟩, hb⟩
      have HX := hidp hx
      have HB := hidp hb
      clear hx hb hc1
      go_wp2_with fail
      refine (takeText_short c (t + n') p1 b o1 cap1 (R.drop n') v w1 HX.out (by have := HL.out; rw [List.length_drop]; omega)).mono ?_
      rintro e w2 ⟨rfl, hB⟩
      exact ⟨rfl, rfl, HB.out.trans (Bex.of_below hB)⟩
    · simp only [hl, if_false] at hp; cases hp

/-! A word, a pace. -/
def pWord (R : List Nat) : PR Nat := if R.length < 8 then .er 6 else .ok (valL (R.take 8)) 8
theorem take8_len {R : List Nat} (h : ¬ R.length < 8) : (R.take 8).length = 8 := by rw [List.length_take]; omega
theorem readWord_ok (c t : Nat) (p : Option Addr) (b o cap : Nat) (R : List Nat) (v n : Nat) (w : World) (H : Cu w c t p b o cap R) (hp : pWord R = .ok v n) :
    Calls Tryz.prog 226 #[.pointer (some ⟨c, 0, none⟩)] w fun e w' => e = .returned (.int .u64 (v : Nat)) ∧ CuX w' c (t + n) b (R.drop n) cap ∧ Bex c w w' := by
  unfold pWord at hp
  by_cases hl : R.length < 8
  · rw [if_pos hl] at hp; cases hp
  rw [if_neg hl] at hp
  cases hp
  have HH := hidp H
  have HL := hidp hl
  clear H hl
  go_enter Tryz.func226, Tryz.ntmps226
  go_wp2_with fail
  refine takeWord_ok c t p b o cap R 8 w HH.out (by have := HL.out; omega) _ (fun w2 a1 a2 a3 => ?_)
  have q := wordOf_any p b o cap _ w2 a2 (by rw [take8_len HL.out]; omega)
  rw [take8_len HL.out] at q
  refine q.mono ?_
  rintro e w3 ⟨rfl, rfl⟩
  refine .inl ⟨_, rfl, ?_⟩
  have B1 := hidp a1
  have B3 := hidp a3
  clear a1 a2 a3 q
  go_wp2
  go_ret
  exact ⟨rfl, ⟨_, _, _, Nat.sub_le _ _, B1.out⟩, B3.out⟩
theorem readWord_er (c t : Nat) (p : Option Addr) (b o cap : Nat) (R : List Nat) (x : Nat) (w : World) (H : Cu w c t p b o cap R) (hp : pWord R = .er x) :
    Calls Tryz.prog 226 #[.pointer (some ⟨c, 0, none⟩)] w fun e w' => e = .panicked (brk x) ∧ Bex c w w' := by
  unfold pWord at hp
  by_cases hl : R.length < 8
  · rw [if_pos hl] at hp; cases hp
    have HH := hidp H
    clear H
    go_enter Tryz.func226, Tryz.ntmps226
    go_wp2_with fail
    refine (takeWord_short c t p b o cap R 8 w HH.out hl).mono ?_
    rintro e w2 ⟨rfl, hB⟩
    exact ⟨rfl, rfl, Bex.of_below hB⟩
  · rw [if_neg hl] at hp; cases hp
def pPace (R : List Nat) : PR Nat := if R.length < 8 then .er 6 else if formN (valL (R.take 8)) = valL (R.take 8) then .ok (valL (R.take 8)) 8 else .er 5
/-! A bool. -/
def pBool : List Nat → PR Bool
  | [] => .er 6
  | x :: _ => if 1 < x then .er 5 else .ok (decide (x = 1)) 1
end Go.Proofs.YtcmkmnidnapabaaGreat
