/-
  Texts Na, Nb, one behind the other.
-/
import Derived.Test.YtcmkmnidnapabaaGreatQh
import Derived.Test.YtcmkmnidnapabaaGreatQa
import Derived.Test.YtcmkmnidnapabaaGreatQf

/-! Na: A reader that has a fault tells nothing; a reader's methods as laws over a plain state. -/
namespace Go.Proofs.YtcmkmnidnapabaaGreat
open Go.RowKit Go.Lib Go.Maps

set_option maxRecDepth 20000 in
theorem elemBytes_dead (mb : Nat) (g t : Nat) (p : Option Addr) (b o cap : Nat) (R : List Nat) (x f : Nat) (w : World) (H : Rd w g t p b o cap R x f) (hx : x ≠ 0) :
    Calls Tryz.prog 244 #[.pointer (some ⟨g, 0, none⟩), .func (.func 245) #[] #[.pointer (some ⟨mb, 0, none⟩)]] w fun e w' => e = .returned (.slice none 0 0) ∧ Below w.heap.size w w' := by
  have hmf : ∀ (fn : Fn) (first cap : Array Value) (w : World), (Instr.makeFunc fn first cap).run Tryz.prog w = .ok (.func fn first cap) w := fun _ _ _ _ => rfl
  have h3 := H.c3
  have HV := hidp (fun (w' : World) (hB : Below w.heap.size w w') => valid_yes (H.below hB))
  have hlt := H.blk.lt
  have hz : ((x : Int) == 0) = false := by rw [beq_eq_false_iff_ne]; omega
  have hz2 : ((x : Int) != 0) = true := by rw [bne_iff_ne]; omega
  clear H hx
  go_enter_defers Tryz.func244, Tryz.ntmps244
  go_wp2_with (go_at_call 163; refine (HV.out _ (by (repeat' (first | (with_reducible exact Below.refl _ _) | (with_reducible refine Below.alloc ?_ ?_ _) | (with_reducible refine Below.drew ?_) | (with_reducible refine Below.drewN ?_ _) | (with_reducible refine Below.setCell ?_ ?_ _) | go_size)))).mono ?_; rintro e wx ⟨rfl, rfl⟩)
  exact ⟨_, results_tmp rfl _ _ _, rfl, by (repeat' (first | (with_reducible exact Below.refl _ _) | (with_reducible refine Below.alloc ?_ ?_ _) | (with_reducible refine Below.drew ?_) | (with_reducible refine Below.drewN ?_ _) | (with_reducible refine Below.setCell ?_ ?_ _) | go_size))⟩
theorem mBytes_dead (g t : Nat) (p : Option Addr) (b o cap : Nat) (R : List Nat) (most : Int) (x f : Nat) (w : World) (H : Rd w g t p b o cap R x f) (hx : x ≠ 0) :
    Calls Tryz.prog 195 #[.pointer (some ⟨g, 0, none⟩), .int .i64 most] w fun e w' => e = .returned (.slice none 0 0) ∧ Below w.heap.size w w' := by
  have hmf : ∀ (fn : Fn) (first cap : Array Value) (w : World), (Instr.makeFunc fn first cap).run Tryz.prog w = .ok (.func fn first cap) w := fun _ _ _ _ => rfl
  have HB : Hid (Below w.heap.size w (w.alloc (.cells #[.int .i64 most] 3))) := hidp ((Below.refl _ w).alloc (Nat.le_refl _) _)
  have HE := hidp (elemBytes_dead w.heap.size g t p b o cap R x f _ (H.below HB.out) hx)
  clear H hx
  go_enter Tryz.func195, Tryz.ntmps195
  go_wp2_with fail
  refine HE.out.mono ?_
  rintro e w1 ⟨rfl, h1⟩
  have HX := hidp (HB.out.trans (h1.mono HB.out.size))
  clear h1 HE HB
  go_wp2
  go_ret
  exact ⟨rfl, HX.out⟩

set_option maxRecDepth 20000 in
theorem elemHash_dead (g t : Nat) (p : Option Addr) (b o cap : Nat) (R : List Nat) (x f : Nat) (w : World) (H : Rd w g t p b o cap R x f) (hx : x ≠ 0) :
    Calls Tryz.prog 221 #[.pointer (some ⟨g, 0, none⟩), .func (.func 222) #[] #[]] w fun e w' => e = .returned (.agg (bvs (List.replicate 32 0)).toArray) ∧ Below w.heap.size w w' := by
  have hmf : ∀ (fn : Fn) (first cap : Array Value) (w : World), (Instr.makeFunc fn first cap).run Tryz.prog w = .ok (.func fn first cap) w := fun _ _ _ _ => rfl
  have hlt := H.blk.lt
  have HF := hidp (fun (o3 : Obj) (A B : Array Value) (W : World) (h : ((w.alloc (.cells #[.pointer (some ⟨g, 0, none⟩)] 128)).alloc (.cells A 39)).alloc (.cells B 39) = W) =>
    (show Blk W (w.heap.size + 1) A.toList 39 ∧ Blk W (w.heap.size + 1 + 1) B.toList 39 ∧ Below w.heap.size w W ∧ W.cell? ⟨g, 3, none⟩ = some (.int .i64 (x : Nat)) ∧ W.cell? ⟨w.heap.size, 0, none⟩ = some (.pointer (some ⟨g, 0, none⟩)) from by
      have b : Below w.heap.size w W := by rw [← h]; exact (((Below.refl w.heap.size w).alloc (Nat.le_refl _) _).alloc (by simp) _).alloc (by simp; omega) _
      refine ⟨?_, ?_, b, (H.below b).c3, ?_⟩
      · rw [← h]; exact (Blk.new' _ A.toList _ _ (by simp)).alloc _
      · rw [← h]; exact Blk.new' _ B.toList _ _ (by simp)
      · rw [← h]; exact (((Blk.new w [.pointer (some ⟨g, 0, none⟩)] 128).alloc _).alloc _).cell 0))
  have HV := hidp (fun (w' : World) (hB : Below w.heap.size w w') => valid_yes (H.below hB))
  have hz : ((x : Int) == 0) = false := by rw [beq_eq_false_iff_ne]; omega
  have hz2 : ((x : Int) != 0) = true := by rw [bne_iff_ne]; omega
  clear H hx
  have hi := hidp (show (Tryz.prog.info? 39).map (·.size) = some 32 by kernel_rfl)
  go_enter_defers Tryz.func221, Tryz.ntmps221
  go_wp2_with first
    | (with_reducible refine (?_ : wpList _ _ _ _ _ _); refine wpList_load_blk rfl 39 _ rfl (w.heap.size + 1 + 1) _ 39 rfl k2.out _ Tryz.underlying39 rfl (hi.out.trans rfl) ?_)
    | (with_reducible refine (?_ : wpList _ _ _ _ _ _); refine wpList_store_blk rfl 39 _ _ rfl (w.heap.size + 1) _ _ 39 rfl rfl k1.out (hi.out.trans rfl) rfl (by kernel_rfl) ?_; intro w6 hw6)
    | (go_at_call 163; refine (HV.out _ (by (repeat' (first | (with_reducible exact Below.refl _ _) | (with_reducible refine Below.alloc ?_ ?_ _) | (with_reducible refine Below.drew ?_) | (with_reducible refine Below.drewN ?_ _) | (with_reducible refine Below.setCell ?_ ?_ _) | go_size)))).mono ?_; rintro e wx ⟨rfl, hwx⟩; obtain ⟨k1, k2, k3, k4, k5⟩ := HF.out (.cells #[] 0) _ _ _ hwx; replace k1 := hidp k1; replace k2 := hidp k2; replace k3 := hidp k3; clear hwx)
  have b2 : Blk w6 (w.heap.size + 1) (bvs (List.replicate 32 0)) 39 := by rw [hw6.out]; exact k1.out.row
  have b3 : Below w.heap.size w w6 := k3.out.trans ((Bex.ofRow hw6.out).below (by omega) k3.out.size)
  exact ⟨_, results_cell_row Tryz.results221 _ _ (w.heap.size + 1) 39 _ (0, 0) _ rfl b2 Tryz.underlying39 rfl (by kernel_rfl), rfl, b3⟩
set_option maxRecDepth 20000 in
theorem mHash_dead (g t : Nat) (p : Option Addr) (b o cap : Nat) (R : List Nat) (x f : Nat) (w : World) (H : Rd w g t p b o cap R x f) (hx : x ≠ 0) :
    Calls Tryz.prog 164 #[.pointer (some ⟨g, 0, none⟩)] w fun e w' => e = .returned (.agg (bvs (List.replicate 32 0)).toArray) ∧ Below w.heap.size w w' := by
  have hi := hidp (show (Tryz.prog.info? 39).map (·.size) = some (bvs (List.replicate 32 0)).length by kernel_rfl)
  have HE := hidp (fun o2 : Obj => elemHash_dead g t p b o cap R x f (w.alloc o2) (H.below ((Below.refl _ w).alloc (Nat.le_refl _) o2)) hx)
  clear H hx
  go_enter Tryz.func164, Tryz.ntmps164
  go_wp2_with fail
  refine (HE.out _).mono ?_
  rintro e w2 ⟨rfl, h1⟩
  have hz2 := hidp (h1.blk' (Blk.new w (Array.toList _) 39))
  have hx2 := hidp (((Below.refl w.heap.size w).alloc (Nat.le_refl _) _).trans (h1.mono (by simp)))
  clear HE h1
  go_wp2_with (refine wpList_store_blk rfl 39 _ _ rfl w.heap.size (bvs (List.replicate 32 0)) _ 39 rfl rfl hz2.out hi.out rfl (bvs_one _) ?_; intro w6 hw6)
  have b2 : Blk w6 w.heap.size (bvs (List.replicate 32 0)) 39 := by rw [hw6.out]; exact hz2.out.row
  have hx6 := Bex.ofRow hw6.out
  refine bodyPost_ret (v := .agg (bvs (List.replicate 32 0)).toArray) ?_ rfl ⟨rfl, hx2.out.atNew hx6⟩
  exact results_cell_row Tryz.results164 _ _ w.heap.size 39 _ (0, 0) _ rfl b2 Tryz.underlying39 rfl (by kernel_rfl)

set_option maxRecDepth 20000 in
theorem elemKey_dead (g t : Nat) (p : Option Addr) (b o cap : Nat) (R : List Nat) (x f : Nat) (w : World) (H : Rd w g t p b o cap R x f) (hx : x ≠ 0) :
    Calls Tryz.prog 200 #[.pointer (some ⟨g, 0, none⟩), .func (.func 201) #[] #[]] w fun e w' => e = .returned (.agg (bvs (List.replicate 4 0)).toArray) ∧ Below w.heap.size w w' := by
  have hmf : ∀ (fn : Fn) (first cap : Array Value) (w : World), (Instr.makeFunc fn first cap).run Tryz.prog w = .ok (.func fn first cap) w := fun _ _ _ _ => rfl
  have hlt := H.blk.lt
  have HF := hidp (fun (o3 : Obj) (A B : Array Value) (W : World) (h : ((w.alloc (.cells #[.pointer (some ⟨g, 0, none⟩)] 128)).alloc (.cells A 24)).alloc (.cells B 24) = W) =>
    (show Blk W (w.heap.size + 1) A.toList 24 ∧ Blk W (w.heap.size + 1 + 1) B.toList 24 ∧ Below w.heap.size w W ∧ W.cell? ⟨g, 3, none⟩ = some (.int .i64 (x : Nat)) ∧ W.cell? ⟨w.heap.size, 0, none⟩ = some (.pointer (some ⟨g, 0, none⟩)) from by
      have b : Below w.heap.size w W := by rw [← h]; exact (((Below.refl w.heap.size w).alloc (Nat.le_refl _) _).alloc (by simp) _).alloc (by simp; omega) _
      refine ⟨?_, ?_, b, (H.below b).c3, ?_⟩
      · rw [← h]; exact (Blk.new' _ A.toList _ _ (by simp)).alloc _
      · rw [← h]; exact Blk.new' _ B.toList _ _ (by simp)
      · rw [← h]; exact (((Blk.new w [.pointer (some ⟨g, 0, none⟩)] 128).alloc _).alloc _).cell 0))
  have HV := hidp (fun (w' : World) (hB : Below w.heap.size w w') => valid_yes (H.below hB))
  have hz : ((x : Int) == 0) = false := by rw [beq_eq_false_iff_ne]; omega
  have hz2 : ((x : Int) != 0) = true := by rw [bne_iff_ne]; omega
  clear H hx
  have hi := hidp (show (Tryz.prog.info? 24).map (·.size) = some 4 by kernel_rfl)
  go_enter_defers Tryz.func200, Tryz.ntmps200
  go_wp2_with first
    | (with_reducible refine (?_ : wpList _ _ _ _ _ _); refine wpList_load_blk rfl 24 _ rfl (w.heap.size + 1 + 1) _ 24 rfl k2.out _ Tryz.underlying24 rfl (hi.out.trans rfl) ?_)
    | (with_reducible refine (?_ : wpList _ _ _ _ _ _); refine wpList_store_blk rfl 24 _ _ rfl (w.heap.size + 1) _ _ 24 rfl rfl k1.out (hi.out.trans rfl) rfl (by kernel_rfl) ?_; intro w6 hw6)
    | (go_at_call 163; refine (HV.out _ (by (repeat' (first | (with_reducible exact Below.refl _ _) | (with_reducible refine Below.alloc ?_ ?_ _) | (with_reducible refine Below.drew ?_) | (with_reducible refine Below.drewN ?_ _) | (with_reducible refine Below.setCell ?_ ?_ _) | go_size)))).mono ?_; rintro e wx ⟨rfl, hwx⟩; obtain ⟨k1, k2, k3, k4, k5⟩ := HF.out (.cells #[] 0) _ _ _ hwx; replace k1 := hidp k1; replace k2 := hidp k2; replace k3 := hidp k3; clear hwx)
  have b2 : Blk w6 (w.heap.size + 1) (bvs (List.replicate 4 0)) 24 := by rw [hw6.out]; exact k1.out.row
  have b3 : Below w.heap.size w w6 := k3.out.trans ((Bex.ofRow hw6.out).below (by omega) k3.out.size)
  exact ⟨_, results_cell_row Tryz.results200 _ _ (w.heap.size + 1) 24 _ (0, 0) _ rfl b2 Tryz.underlying24 rfl (by kernel_rfl), rfl, b3⟩
set_option maxRecDepth 20000 in
theorem mKey_dead (g t : Nat) (p : Option Addr) (b o cap : Nat) (R : List Nat) (x f : Nat) (w : World) (H : Rd w g t p b o cap R x f) (hx : x ≠ 0) :
    Calls Tryz.prog 140 #[.pointer (some ⟨g, 0, none⟩)] w fun e w' => e = .returned (.agg (bvs (List.replicate 4 0)).toArray) ∧ Below w.heap.size w w' := by
  have hi := hidp (show (Tryz.prog.info? 24).map (·.size) = some (bvs (List.replicate 4 0)).length by kernel_rfl)
  have HE := hidp (fun o2 : Obj => elemKey_dead g t p b o cap R x f (w.alloc o2) (H.below ((Below.refl _ w).alloc (Nat.le_refl _) o2)) hx)
  clear H hx
  go_enter Tryz.func140, Tryz.ntmps140
  go_wp2_with fail
  refine (HE.out _).mono ?_
  rintro e w2 ⟨rfl, h1⟩
  have hz2 := hidp (h1.blk' (Blk.new w (Array.toList _) 24))
  have hx2 := hidp (((Below.refl w.heap.size w).alloc (Nat.le_refl _) _).trans (h1.mono (by simp)))
  clear HE h1
  go_wp2_with (refine wpList_store_blk rfl 24 _ _ rfl w.heap.size (bvs (List.replicate 4 0)) _ 24 rfl rfl hz2.out hi.out rfl (bvs_one _) ?_; intro w6 hw6)
  have b2 : Blk w6 w.heap.size (bvs (List.replicate 4 0)) 24 := by rw [hw6.out]; exact hz2.out.row
  have hx6 := Bex.ofRow hw6.out
  refine bodyPost_ret (v := .agg (bvs (List.replicate 4 0)).toArray) ?_ rfl ⟨rfl, hx2.out.atNew hx6⟩
  exact results_cell_row Tryz.results140 _ _ w.heap.size 24 _ (0, 0) _ rfl b2 Tryz.underlying24 rfl (by kernel_rfl)

end Go.Proofs.YtcmkmnidnapabaaGreat

/-! Nb: A reader's methods, each one law over a plain state: its place, what is left, its fault. -/
namespace Go.Proofs.YtcmkmnidnapabaaGreat
open Go.RowKit Go.Lib Go.Maps

/-- A reader's plain state. -/
structure RS where
  t : Nat
  R : List Nat
  e : Nat
  f : Nat
/-- What a step of reading tells, and the state behind it. -/
def rdV {α : Type} (pr : List Nat → PR α) (z : α) (s : RS) : α := if s.e ≠ 0 then z else match pr s.R with | .ok v _ => v | .er _ => z
def rdN {α : Type} (pr : List Nat → PR α) (s : RS) : RS := if s.e ≠ 0 then s else match pr s.R with | .ok _ n => ⟨s.t + n, s.R.drop n, 0, 0⟩ | .er x => ⟨s.t, [], x, s.t⟩
structure RdS (w : World) (g b : Nat) (s : RS) : Prop where
  rd : RdX w g s.t b s.R s.e s.f
  lt : b < w.heap.size
  z : s.e = 0 → s.f = 0
theorem RdS.below {w w' : World} {g b : Nat} {s : RS} (H : RdS w g b s) (hB : Below w.heap.size w w') : RdS w' g b s := ⟨H.rd.below hB, Nat.lt_of_lt_of_le H.lt hB.size, H.z⟩
theorem RdS.bexA {k : Nat} {w w' : World} {g b : Nat} {s : RS} (H : RdS w g b s) (hb : Bex k w w') (hg : g ≠ k) (hk : k ≠ b) : RdS w' g b s := ⟨H.rd.bexA hb hg hk, Nat.lt_of_lt_of_le H.lt hb.size, H.z⟩
theorem RdS.glt {w : World} {g b : Nat} {s : RS} (H : RdS w g b s) : g < w.heap.size := by obtain ⟨_, _, _, h⟩ := H.rd; exact h.blk.lt
theorem RdS.byte {w : World} {g b : Nat} {s : RS} (H : RdS w g b s) : ∀ x ∈ s.R, x < 256 := by obtain ⟨_, _, _, h⟩ := H.rd; exact h.bs.byte
theorem pRaw_ne {m : Nat} {R : List Nat} {x : Nat} (h : pRaw m R = .er x) : x ≠ 0 := by have := (pRaw_er h).1; omega
theorem FB_nil (base : Nat) (w : World) : FB base [] (.slice none 0 0) w := ⟨none, base, 0, rfl, Nat.le_refl _, fun _ => rfl, ⟨by simp, by simp, fun h => absurd h (by omega), fun i hi => absurd hi (by simp)⟩⟩

theorem sNum {w : World} {g b : Nat} {s : RS} (H : RdS w g b s) :
    Calls Tryz.prog 89 #[.pointer (some ⟨g, 0, none⟩)] w fun e w' => e = .returned (.int .i64 (rdV pNum 0 s : Nat)) ∧ RdS w' g b (rdN pNum s) ∧ Bex g w w' := by
  obtain ⟨t, R, e0, f0⟩ := s
  obtain ⟨⟨p, o, cap, hr⟩, hlt, hz⟩ := H
  simp only at hr hz
  by_cases h0 : e0 = 0
  · subst h0
    obtain rfl := hz rfl
    cases hp : pNum R with
    | ok v n =>
      refine (mNum_ok g t p b o cap R v n w hr hp).mono ?_
      rintro e w' ⟨he, h1, h2⟩
      have e1 : rdV pNum 0 ⟨t, R, 0, 0⟩ = v := by unfold rdV; simp [hp]
      have e2 : rdN pNum ⟨t, R, 0, 0⟩ = ⟨t + n, R.drop n, 0, 0⟩ := by unfold rdN; simp [hp]
      rw [e1, e2]
      exact ⟨he, ⟨h1, Nat.lt_of_lt_of_le hlt h2.size, fun _ => rfl⟩, h2⟩
    | er x =>
      refine (mNum_er g t p b o cap R x w hr hp).mono ?_
      rintro e w' ⟨he, h1, h2⟩
      have e1 : rdV pNum 0 ⟨t, R, 0, 0⟩ = 0 := by unfold rdV; simp [hp]
      have e2 : rdN pNum ⟨t, R, 0, 0⟩ = ⟨t, [], x, t⟩ := by unfold rdN; simp [hp]
      rw [e1, e2]
      exact ⟨he, ⟨h1, Nat.lt_of_lt_of_le hlt h2.size, fun h => absurd h (pNum_ne hp)⟩, h2⟩
  · refine (mNum_dead g t p b o cap R e0 f0 w hr h0).mono ?_
    rintro e w' ⟨he, h2⟩
    have e1 : rdV pNum 0 ⟨t, R, e0, f0⟩ = 0 := by unfold rdV; simp [h0]
    have e2 : rdN pNum ⟨t, R, e0, f0⟩ = ⟨t, R, e0, f0⟩ := by unfold rdN; simp [h0]
    rw [e1, e2]
    exact ⟨he, ⟨(show RdX w g t b R e0 f0 from ⟨p, o, cap, hr⟩).below h2, Nat.lt_of_lt_of_le hlt h2.size, fun h => absurd h h0⟩, Bex.of_below h2⟩
theorem sWord {w : World} {g b : Nat} {s : RS} (H : RdS w g b s) :
    Calls Tryz.prog 165 #[.pointer (some ⟨g, 0, none⟩)] w fun e w' => e = .returned (.int .u64 (rdV pWord 0 s : Nat)) ∧ RdS w' g b (rdN pWord s) ∧ Bex g w w' := by
  obtain ⟨t, R, e0, f0⟩ := s
  obtain ⟨⟨p, o, cap, hr⟩, hlt, hz⟩ := H
  simp only at hr hz
  by_cases h0 : e0 = 0
  · subst h0
    obtain rfl := hz rfl
    cases hp : pWord R with
    | ok v n =>
      refine (mWord_ok g t p b o cap R v n w hr hp).mono ?_
      rintro e w' ⟨he, h1, h2⟩
      have e1 : rdV pWord 0 ⟨t, R, 0, 0⟩ = v := by unfold rdV; simp [hp]
      have e2 : rdN pWord ⟨t, R, 0, 0⟩ = ⟨t + n, R.drop n, 0, 0⟩ := by unfold rdN; simp [hp]
      rw [e1, e2]
      exact ⟨he, ⟨h1, Nat.lt_of_lt_of_le hlt h2.size, fun _ => rfl⟩, h2⟩
    | er x =>
      refine (mWord_er g t p b o cap R x w hr hp).mono ?_
      rintro e w' ⟨he, h1, h2⟩
      have e1 : rdV pWord 0 ⟨t, R, 0, 0⟩ = 0 := by unfold rdV; simp [hp]
      have e2 : rdN pWord ⟨t, R, 0, 0⟩ = ⟨t, [], x, t⟩ := by unfold rdN; simp [hp]
      rw [e1, e2]
      exact ⟨he, ⟨h1, Nat.lt_of_lt_of_le hlt h2.size, fun h => absurd h (pWord_ne hp)⟩, h2⟩
  · refine (mWord_dead g t p b o cap R e0 f0 w hr h0).mono ?_
    rintro e w' ⟨he, h2⟩
    have e1 : rdV pWord 0 ⟨t, R, e0, f0⟩ = 0 := by unfold rdV; simp [h0]
    have e2 : rdN pWord ⟨t, R, e0, f0⟩ = ⟨t, R, e0, f0⟩ := by unfold rdN; simp [h0]
    rw [e1, e2]
    exact ⟨he, ⟨(show RdX w g t b R e0 f0 from ⟨p, o, cap, hr⟩).below h2, Nat.lt_of_lt_of_le hlt h2.size, fun h => absurd h h0⟩, Bex.of_below h2⟩
theorem sText {w : World} {g b : Nat} {s : RS} (H : RdS w g b s) (most : Int) :
    Calls Tryz.prog 197 #[.pointer (some ⟨g, 0, none⟩), .int .i64 most] w fun e w' => e = .returned (.string (strB (rdV (fun R => pText R most) [] s))) ∧ RdS w' g b (rdN (fun R => pText R most) s) ∧ Bex g w w' := by
  obtain ⟨t, R, e0, f0⟩ := s
  obtain ⟨⟨p, o, cap, hr⟩, hlt, hz⟩ := H
  simp only at hr hz
  by_cases h0 : e0 = 0
  · subst h0
    obtain rfl := hz rfl
    cases hp : pText R most with
    | ok v n =>
      refine (mText_ok g t p b o cap R most v n w hr hp).mono ?_
      rintro e w' ⟨he, h1, h2⟩
      have e1 : rdV (fun R => pText R most) [] ⟨t, R, 0, 0⟩ = v := by unfold rdV; simp [hp]
      have e2 : rdN (fun R => pText R most) ⟨t, R, 0, 0⟩ = ⟨t + n, R.drop n, 0, 0⟩ := by unfold rdN; simp [hp]
      rw [e1, e2]
      exact ⟨he, ⟨h1, Nat.lt_of_lt_of_le hlt h2.size, fun _ => rfl⟩, h2⟩
    | er x =>
      refine (mText_er g t p b o cap R most x w hr hp).mono ?_
      rintro e w' ⟨he, h1, h2⟩
      have e1 : rdV (fun R => pText R most) [] ⟨t, R, 0, 0⟩ = [] := by unfold rdV; simp [hp]
      have e2 : rdN (fun R => pText R most) ⟨t, R, 0, 0⟩ = ⟨t, [], x, t⟩ := by unfold rdN; simp [hp]
      rw [e1, e2]
      exact ⟨he, ⟨h1, Nat.lt_of_lt_of_le hlt h2.size, fun h => absurd h (pText_ne hp)⟩, h2⟩
  · refine (mText_dead g t p b o cap R most e0 f0 w hr h0).mono ?_
    rintro e w' ⟨he, h2⟩
    have e1 : rdV (fun R => pText R most) [] ⟨t, R, e0, f0⟩ = [] := by unfold rdV; simp [h0]
    have e2 : rdN (fun R => pText R most) ⟨t, R, e0, f0⟩ = ⟨t, R, e0, f0⟩ := by unfold rdN; simp [h0]
    rw [e1, e2]
    exact ⟨he, ⟨(show RdX w g t b R e0 f0 from ⟨p, o, cap, hr⟩).below h2, Nat.lt_of_lt_of_le hlt h2.size, fun h => absurd h h0⟩, Bex.of_below h2⟩
theorem sBytes {w : World} {g b : Nat} {s : RS} (H : RdS w g b s) (most : Int) (h4 : s.R.length ≤ 4000000) :
    Calls Tryz.prog 195 #[.pointer (some ⟨g, 0, none⟩), .int .i64 most] w fun e w' => (∃ v, e = .returned v ∧ FB w.heap.size (rdV (fun R => pText R most) [] s) v w') ∧ RdS w' g b (rdN (fun R => pText R most) s) ∧ Bex g w w' := by
  obtain ⟨t, R, e0, f0⟩ := s
  obtain ⟨⟨p, o, cap, hr⟩, hlt, hz⟩ := H
  simp only at hr hz h4
  by_cases h0 : e0 = 0
  · subst h0
    obtain rfl := hz rfl
    cases hp : pText R most with
    | ok v n =>
      refine (mBytes_ok g t p b o cap R most v n w hr h4 hp).mono ?_
      rintro e w' ⟨he, h1, h2⟩
      have e1 : rdV (fun R => pText R most) [] ⟨t, R, 0, 0⟩ = v := by unfold rdV; simp [hp]
      have e2 : rdN (fun R => pText R most) ⟨t, R, 0, 0⟩ = ⟨t + n, R.drop n, 0, 0⟩ := by unfold rdN; simp [hp]
      rw [e1, e2]
      exact ⟨he, ⟨h1, Nat.lt_of_lt_of_le hlt h2.size, fun _ => rfl⟩, h2⟩
    | er x =>
      refine (mBytes_er g t p b o cap R most x w hr hp).mono ?_
      rintro e w' ⟨he, h1, h2⟩
      have e1 : rdV (fun R => pText R most) [] ⟨t, R, 0, 0⟩ = [] := by unfold rdV; simp [hp]
      have e2 : rdN (fun R => pText R most) ⟨t, R, 0, 0⟩ = ⟨t, [], x, t⟩ := by unfold rdN; simp [hp]
      rw [e1, e2]
      exact ⟨⟨_, he, FB_nil _ _⟩, ⟨h1, Nat.lt_of_lt_of_le hlt h2.size, fun h => absurd h (pText_ne hp)⟩, h2⟩
  · refine (mBytes_dead g t p b o cap R most e0 f0 w hr h0).mono ?_
    rintro e w' ⟨he, h2⟩
    have e1 : rdV (fun R => pText R most) [] ⟨t, R, e0, f0⟩ = [] := by unfold rdV; simp [h0]
    have e2 : rdN (fun R => pText R most) ⟨t, R, e0, f0⟩ = ⟨t, R, e0, f0⟩ := by unfold rdN; simp [h0]
    rw [e1, e2]
    exact ⟨⟨_, he, FB_nil _ _⟩, ⟨(show RdX w g t b R e0 f0 from ⟨p, o, cap, hr⟩).below h2, Nat.lt_of_lt_of_le hlt h2.size, fun h => absurd h h0⟩, Bex.of_below h2⟩
theorem sHash {w : World} {g b : Nat} {s : RS} (H : RdS w g b s) :
    Calls Tryz.prog 164 #[.pointer (some ⟨g, 0, none⟩)] w fun e w' => e = .returned (.agg (bvs (rdV (pRaw 32) (List.replicate 32 0) s)).toArray) ∧ RdS w' g b (rdN (pRaw 32) s) ∧ Bex g w w' := by
  obtain ⟨t, R, e0, f0⟩ := s
  obtain ⟨⟨p, o, cap, hr⟩, hlt, hz⟩ := H
  simp only at hr hz
  by_cases h0 : e0 = 0
  · subst h0
    obtain rfl := hz rfl
    cases hp : (pRaw 32) R with
    | ok v n =>
      refine (mHash_ok g t p b o cap R v n w hr hp).mono ?_
      rintro e w' ⟨he, h1, h2⟩
      have e1 : rdV (pRaw 32) (List.replicate 32 0) ⟨t, R, 0, 0⟩ = v := by unfold rdV; simp [hp]
      have e2 : rdN (pRaw 32) ⟨t, R, 0, 0⟩ = ⟨t + n, R.drop n, 0, 0⟩ := by unfold rdN; simp [hp]
      rw [e1, e2]
      exact ⟨he, ⟨h1, Nat.lt_of_lt_of_le hlt h2.size, fun _ => rfl⟩, h2⟩
    | er x =>
      refine (mHash_er g t p b o cap R x w hr hlt hp).mono ?_
      rintro e w' ⟨he, h1, h2⟩
      have e1 : rdV (pRaw 32) (List.replicate 32 0) ⟨t, R, 0, 0⟩ = (List.replicate 32 0) := by unfold rdV; simp [hp]
      have e2 : rdN (pRaw 32) ⟨t, R, 0, 0⟩ = ⟨t, [], x, t⟩ := by unfold rdN; simp [hp]
      rw [e1, e2]
      exact ⟨he, ⟨h1, Nat.lt_of_lt_of_le hlt h2.size, fun h => absurd h (pRaw_ne hp)⟩, h2⟩
  · refine (mHash_dead g t p b o cap R e0 f0 w hr h0).mono ?_
    rintro e w' ⟨he, h2⟩
    have e1 : rdV (pRaw 32) (List.replicate 32 0) ⟨t, R, e0, f0⟩ = (List.replicate 32 0) := by unfold rdV; simp [h0]
    have e2 : rdN (pRaw 32) ⟨t, R, e0, f0⟩ = ⟨t, R, e0, f0⟩ := by unfold rdN; simp [h0]
    rw [e1, e2]
    exact ⟨he, ⟨(show RdX w g t b R e0 f0 from ⟨p, o, cap, hr⟩).below h2, Nat.lt_of_lt_of_le hlt h2.size, fun h => absurd h h0⟩, Bex.of_below h2⟩
theorem sKey {w : World} {g b : Nat} {s : RS} (H : RdS w g b s) :
    Calls Tryz.prog 140 #[.pointer (some ⟨g, 0, none⟩)] w fun e w' => e = .returned (.agg (bvs (rdV (pRaw 4) (List.replicate 4 0) s)).toArray) ∧ RdS w' g b (rdN (pRaw 4) s) ∧ Bex g w w' := by
  obtain ⟨t, R, e0, f0⟩ := s
  obtain ⟨⟨p, o, cap, hr⟩, hlt, hz⟩ := H
  simp only at hr hz
  by_cases h0 : e0 = 0
  · subst h0
    obtain rfl := hz rfl
    cases hp : (pRaw 4) R with
    | ok v n =>
      refine (mKey_ok g t p b o cap R v n w hr hp).mono ?_
      rintro e w' ⟨he, h1, h2⟩
      have e1 : rdV (pRaw 4) (List.replicate 4 0) ⟨t, R, 0, 0⟩ = v := by unfold rdV; simp [hp]
      have e2 : rdN (pRaw 4) ⟨t, R, 0, 0⟩ = ⟨t + n, R.drop n, 0, 0⟩ := by unfold rdN; simp [hp]
      rw [e1, e2]
      exact ⟨he, ⟨h1, Nat.lt_of_lt_of_le hlt h2.size, fun _ => rfl⟩, h2⟩
    | er x =>
      refine (mKey_er g t p b o cap R x w hr hlt hp).mono ?_
      rintro e w' ⟨he, h1, h2⟩
      have e1 : rdV (pRaw 4) (List.replicate 4 0) ⟨t, R, 0, 0⟩ = (List.replicate 4 0) := by unfold rdV; simp [hp]
      have e2 : rdN (pRaw 4) ⟨t, R, 0, 0⟩ = ⟨t, [], x, t⟩ := by unfold rdN; simp [hp]
      rw [e1, e2]
      exact ⟨he, ⟨h1, Nat.lt_of_lt_of_le hlt h2.size, fun h => absurd h (pRaw_ne hp)⟩, h2⟩
  · refine (mKey_dead g t p b o cap R e0 f0 w hr h0).mono ?_
    rintro e w' ⟨he, h2⟩
    have e1 : rdV (pRaw 4) (List.replicate 4 0) ⟨t, R, e0, f0⟩ = (List.replicate 4 0) := by unfold rdV; simp [h0]
    have e2 : rdN (pRaw 4) ⟨t, R, e0, f0⟩ = ⟨t, R, e0, f0⟩ := by unfold rdN; simp [h0]
    rw [e1, e2]
    exact ⟨he, ⟨(show RdX w g t b R e0 f0 from ⟨p, o, cap, hr⟩).below h2, Nat.lt_of_lt_of_le hlt h2.size, fun h => absurd h h0⟩, Bex.of_below h2⟩
def endS (s : RS) : Nat × Nat := endE s.e s.t s.f s.R
theorem sEnd {w : World} {g b : Nat} {s : RS} (H : RdS w g b s) :
    Calls Tryz.prog 92 #[.pointer (some ⟨g, 0, none⟩)] w fun e w' => e = .returned (.agg #[.int .i64 ((endS s).1 : Nat), .int .i64 ((endS s).2 : Nat)]) ∧ Below w.heap.size w w' := by
  obtain ⟨⟨p, o, cap, hr⟩, hlt, hz⟩ := H
  exact mEnd_any g s.t p b o cap s.R s.e s.f w hr
theorem sRest {w : World} {g b : Nat} {s : RS} (H : RdS w g b s) :
    Calls Tryz.prog 90 #[.pointer (some ⟨g, 0, none⟩)] w fun e w' => e = .returned (.int .i64 (s.R.length : Nat)) ∧ w = w' := by
  obtain ⟨⟨p, o, cap, hr⟩, hlt, hz⟩ := H
  exact mRest_any g s.t p b o cap s.R s.e s.f w hr
end Go.Proofs.YtcmkmnidnapabaaGreat
