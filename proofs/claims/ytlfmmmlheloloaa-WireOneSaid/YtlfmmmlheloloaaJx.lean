/-
  Contracts: a reader's Bytes.
-/
import Derived.Test.YtlfmmmlheloloaaJj
namespace Go.Proofs.Ytlfmmmlheloloaa
open Go.RowKit Go.Lib Go.Maps

/-- Bytes of one's own, in a row from base on. -/
def FB (base : Nat) (T : List Nat) (v : Value) (w : World) : Prop := ∃ p b cap, v = .slice p T.length cap ∧ base ≤ b ∧ (p = none → cap = 0) ∧ Bs w p b 0 T cap
theorem FB.bex {base g : Nat} {T : List Nat} {v : Value} {w w' : World} (h : FB base T v w) (hb : Bex g w w') (hg : g < base) : FB base T v w' := by
  obtain ⟨p, b, cap, h1, h2, h3, h4⟩ := h
  exact ⟨p, b, cap, h1, h2, h3, h4.bex hb (fun _ => by omega)⟩
theorem FB.below {base : Nat} {T : List Nat} {v : Value} {w w' : World} (h : FB base T v w) (hb : Below w.heap.size w w') : FB base T v w' := by
  obtain ⟨p, b, cap, h1, h2, h3, h4⟩ := h
  exact ⟨p, b, cap, h1, h2, h3, h4.below hb⟩
theorem FB.mono {base base' : Nat} {T : List Nat} {v : Value} {w : World} (h : FB base T v w) (hb : base' ≤ base) : FB base' T v w := by
  obtain ⟨p, b, cap, h1, h2, h3, h4⟩ := h
  exact ⟨p, b, cap, h1, Nat.le_trans hb h2, h3, h4⟩
theorem Bs.none_cap {w : World} {p : Option Addr} {b o cap : Nat} {L : List Nat} (h : Bs w p b o L cap) : p = none → cap = 0 := fun hp => by
  rcases Nat.eq_zero_or_pos cap with h0 | h0
  · exact h0
  · exact absurd ((h.ptr h0).1.symm.trans hp) (by simp)
theorem clone_any (p : Option Addr) (b o cap : Nat) (L : List Nat) (w : World) (h : Bs w p b o L cap) (hn : L.length ≤ 4000000) :
    Calls Try.prog 84 #[.slice p L.length cap] w fun e w' => (∃ v, e = .returned v ∧ FB w.heap.size L v w') ∧ Below w.heap.size w w' := by
  cases hp : p with
  | some y =>
    rw [hp] at h
    refine (clone_some y cap L w (ByS.of_bs h h.none_cap) hn).mono ?_
    rintro e w' ⟨⟨p', b', c', rfl, h1, h2, h3⟩, h4⟩
    exact ⟨⟨_, rfl, p', b', c', rfl, h1, h2, h3⟩, h4⟩
  | none =>
    have h0 : cap = 0 := h.none_cap hp
    have hL : L = [] := List.eq_nil_of_length_eq_zero (by have := h.le; omega)
    subst h0 hL
    refine (clone_none w).mono ?_
    rintro e w' ⟨rfl, rfl⟩
    exact ⟨⟨_, rfl, none, w.heap.size, 0, rfl, Nat.le_refl _, fun _ => rfl, ⟨by simp, by simp, fun h0 => absurd h0 (by omega), fun i hi => absurd hi (by simp)⟩⟩, Below.refl _ w⟩
theorem Cu.below' {w w' : World} {c t : Nat} {p : Option Addr} {b o cap : Nat} {R : List Nat} (H : Cu w c t p b o cap R) (hB : Below w.heap.size w w') : Cu w' c t p b o cap R := ⟨H.blk.below hB H.blk.lt, H.bs.below hB, H.ne, H.lim⟩
theorem readBytes_ok (mb c t : Nat) (p : Option Addr) (b o cap : Nat) (R : List Nat) (most : Int) (T : List Nat) (n : Nat) (w : World) (H : Cu w c t p b o cap R) (h4 : R.length ≤ 4000000) (hm : w.cell? ⟨mb, 0, none⟩ = some (.int .i64 most)) (hp : pText R most = .ok T n) :
    Calls Try.prog 103 #[.pointer (some ⟨c, 0, none⟩), .pointer (some ⟨mb, 0, none⟩)] w fun e w' => (∃ v, e = .returned v ∧ FB w.heap.size T v w') ∧ CuX w' c (t + n) b (R.drop n) cap ∧ Bex c w w' := by
  unfold pText at hp
  cases hn : pLen R most with
  | er x => rw [hn] at hp; cases hp
  | ok v n' =>
    rw [hn] at hp
    by_cases hl : R.length - n' < v
    · simp only [hl, if_true] at hp; cases hp
    · simp only [hl, if_false] at hp
      cases hp
      have HN := hidp (length_ok c t p b o cap R most v n' w H hn)
      have HL := hidp hl
      have H4 := hidp h4
      clear H hn hl h4
      go_enter Try.func103, Try.ntmps103
      go_wp2_with fail
      refine HN.out.mono ?_
      rintro e w1 ⟨rfl, ⟨p1, o1, cap1, hc1, hx⟩, hb⟩
      have HX := hidp hx
      have HB := hidp (And.intro hb hc1)
      clear hx hb hc1
      go_wp2_with fail
      refine takeBytes_ok c (t + n') p1 b o1 cap1 (R.drop n') v w1 HX.out (by have := HL.out; rw [List.length_drop]; omega) _ (fun w2 a1 a2 a3 => ?_)
      have hlen : ((R.drop n').take v).length = v := by have := HL.out; rw [List.length_take, List.length_drop]; omega
      have q := clone_any p1 b o1 cap1 _ w2 a2 (by rw [hlen]; have := HL.out; have := H4.out; omega)
      rw [hlen] at q
      refine q.mono ?_
      rintro e w3 ⟨⟨y, rfl, hy⟩, hb3⟩
      refine .inl ⟨_, rfl, ?_⟩
      have B1 := hidp (a1.below' hb3)
      have B3 := hidp ((HB.out.1.trans a3).trans (Bex.of_below hb3))
      have HY := hidp (hy.mono (Nat.le_trans HB.out.1.size a3.size))
      clear a1 a2 a3 q hlen hy hb3
      go_wp2
      go_ret
      have hcu : Cu w3 c (t + (n' + v)) (partA p1 cap1 v) b (o1 + v) (cap1 - v) (R.drop (n' + v)) := by
        have := B1.out
        rw [List.drop_drop, Nat.add_assoc] at this
        exact this
      exact ⟨⟨_, rfl, HY.out⟩, ⟨_, _, _, Nat.le_trans (Nat.sub_le _ _) HB.out.2, hcu⟩, B3.out⟩
theorem readBytes_er (mb c t : Nat) (p : Option Addr) (b o cap : Nat) (R : List Nat) (most : Int) (x : Nat) (w : World) (H : Cu w c t p b o cap R) (hm : w.cell? ⟨mb, 0, none⟩ = some (.int .i64 most)) (hp : pText R most = .er x) :
    Calls Try.prog 103 #[.pointer (some ⟨c, 0, none⟩), .pointer (some ⟨mb, 0, none⟩)] w fun e w' => e = .panicked (brk x) ∧ Bex c w w' := by
  unfold pText at hp
  cases hn : pLen R most with
  | er x' =>
    rw [hn] at hp; cases hp
    have HN := hidp (length_er c t p b o cap R most x w H hn)
    clear H hn
    go_enter Try.func103, Try.ntmps103
    go_wp2_with fail
    refine HN.out.mono ?_
    rintro e w1 ⟨rfl, hb⟩
    exact ⟨rfl, rfl, hb⟩
  | ok v n' =>
    rw [hn] at hp
    by_cases hl : R.length - n' < v
    · simp only [hl, if_true] at hp
      cases hp
      have HN := hidp (length_ok c t p b o cap R most v n' w H hn)
      have HL := hidp hl
      clear H hn hl
      go_enter Try.func103, Try.ntmps103
      go_wp2_with fail
      refine HN.out.mono ?_
      rintro e w1 ⟨rfl, ⟨p1, o1, cap1, hc1, hx⟩, hb⟩
      have HX := hidp hx
      have HB := hidp hb
      clear hx hb hc1
      go_wp2_with fail
      refine (takeBytes_short c (t + n') p1 b o1 cap1 (R.drop n') v w1 HX.out (by have := HL.out; rw [List.length_drop]; omega)).mono ?_
      rintro e w2 ⟨rfl, hB⟩
      exact ⟨rfl, rfl, HB.out.trans (Bex.of_below hB)⟩
    · simp only [hl, if_false] at hp; cases hp

set_option maxRecDepth 20000 in
theorem elemBytes_ok (mb : Nat) (g t : Nat) (p : Option Addr) (b o cap : Nat) (R : List Nat) (VP : Value → World → Prop) (hVP : ∀ v w1 w2, VP v w1 → Bex g w1 w2 → VP v w2) (n : Nat) (w : World) (H : Rd w g t p b o cap R 0 0)
    (hread : ∀ w1 c, Below w.heap.size w w1 → w.heap.size ≤ c → Cu w1 c t p b o cap R → Calls Try.prog 103 #[.pointer (some ⟨c, 0, none⟩), .pointer (some ⟨mb, 0, none⟩)] w1 fun e w' => (∃ v, e = .returned v ∧ VP v w') ∧ CuX w' c (t + n) b (R.drop n) cap ∧ Bex c w1 w') :
    Calls Try.prog 102 #[.pointer (some ⟨g, 0, none⟩), .func (.func 103) #[] #[.pointer (some ⟨mb, 0, none⟩)]] w fun e w' => (∃ v, e = .returned v ∧ VP v w') ∧ RdX w' g (t + n) b (R.drop n) 0 0 ∧ Bex g w w' := by
  have hmf : ∀ (fn : Fn) (first cap : Array Value) (w : World), (Instr.makeFunc fn first cap).run Try.prog w = .ok (.func fn first cap) w := fun _ _ _ _ => rfl
  have h1 := H.c1
  have h2 := H.c2
  have h3 := H.c3
  have HV := hidp (fun (w' : World) (hB : Below w.heap.size w w') => valid_yes (H.below hB))
  have HH := hidp H
  have hlt := H.blk.lt
  have hread := hidp hread
  clear H
  go_enter_defers Try.func102, Try.ntmps102
  go_wp2_with (go_at_call 94; refine (HV.out _ (by (repeat' (first | (with_reducible exact Below.refl _ _) | (with_reducible refine Below.alloc ?_ ?_ _) | (with_reducible refine Below.drew ?_) | (with_reducible refine Below.drewN ?_ _) | (with_reducible refine Below.setCell ?_ ?_ _) | go_size)))).mono ?_; rintro e wx ⟨rfl, rfl⟩)
  refine (hread.out _ _ (elW_cu HH.out).2.1 (by omega) (elW_cu HH.out).1).mono ?_
  rintro e w1 ⟨⟨v, rfl, hvp⟩, hx, hbx⟩
  obtain ⟨p', o', cap', hE⟩ := ElB.of HH.out hx hbx
  have HE := hidp hE
  obtain ⟨pq, oq, capq, hrd⟩ := hE.rd
  have d0 := hE.cu.c0
  have d1 := hE.cu.c1
  have hbox := hE.box
  have g1 := hrd.c1
  have g2 := hrd.c2
  have f1 := hrd.blk.free 1
  have f2 := hrd.blk.free 2
  have HR := hidp hrd
  have hvp := hidp hvp
  clear hE hx hbx hrd HV HH hread h1 h2 h3
  go_wp2
  have e1 : (t : Int) + (n : Int) = ((t + n : Nat) : Int) := by omega
  have e2 : R.length - n = (R.drop n).length := by rw [List.length_drop]
  rw [e1, e2]
  have hput := HR.out.put HE.out.cu.bs HE.out.ne HE.out.cu.lim
  have hbe : Bex g w1 ((w1.setCell ⟨g, 1, none⟩ (.int .i64 (t + n : Nat))).setCell ⟨g, 2, none⟩ (.slice p' (R.drop n).length cap')) := ((Bex.refl g w1).setCell _ _).setCell _ _
  refine leaves_cons (f := 155) (args := #[.pointer (some ⟨w.heap.size, 0, none⟩)]) (by simp) (by simp [go_sem]) ?_
  refine (endBytes_none w.heap.size g _ ?_).mono ?_
  · have hlt : w.heap.size < w1.heap.size := by have := cell_lt HE.out.box; exact this
    exact (World.cell?_of_block (a := ⟨w.heap.size, 0, none⟩) (hbe.block w.heap.size hlt (by have := HE.out.hg; omega))).trans HE.out.box
  rintro e u' w'' ⟨rfl, rfl, rfl⟩
  have qv := hVP v _ _ hvp.out (hbe.drew)
  exact ⟨_, results_tmp rfl _ _ _, ⟨v, rfl, qv⟩, ⟨_, _, _, hput.drew⟩, (HE.out.bex.bex hbe).drew⟩
set_option maxRecDepth 20000 in
theorem elemBytes_er (mb : Nat) (g t : Nat) (p : Option Addr) (b o cap : Nat) (R : List Nat) (x : Nat) (w : World) (H : Rd w g t p b o cap R 0 0)
    (hread : ∀ w1 c, Below w.heap.size w w1 → w.heap.size ≤ c → Cu w1 c t p b o cap R → Calls Try.prog 103 #[.pointer (some ⟨c, 0, none⟩), .pointer (some ⟨mb, 0, none⟩)] w1 fun e w' => e = .panicked (brk x) ∧ Bex c w1 w') :
    Calls Try.prog 102 #[.pointer (some ⟨g, 0, none⟩), .func (.func 103) #[] #[.pointer (some ⟨mb, 0, none⟩)]] w fun e w' => e = .returned (.slice none 0 0) ∧ RdX w' g t b [] x t ∧ Bex g w w' := by
  have hmf : ∀ (fn : Fn) (first cap : Array Value) (w : World), (Instr.makeFunc fn first cap).run Try.prog w = .ok (.func fn first cap) w := fun _ _ _ _ => rfl
  have h1 := H.c1
  have h2 := H.c2
  have h3 := H.c3
  have HV := hidp (fun (w' : World) (hB : Below w.heap.size w w') => valid_yes (H.below hB))
  have HH := hidp H
  have hlt := H.blk.lt
  have hread := hidp hread
  clear H
  go_enter_defers Try.func102, Try.ntmps102
  go_wp2_with (go_at_call 94; refine (HV.out _ (by (repeat' (first | (with_reducible exact Below.refl _ _) | (with_reducible refine Below.alloc ?_ ?_ _) | (with_reducible refine Below.drew ?_) | (with_reducible refine Below.drewN ?_ _) | (with_reducible refine Below.setCell ?_ ?_ _) | go_size)))).mono ?_; rintro e wx ⟨rfl, rfl⟩)
  refine (hread.out _ _ (elW_cu HH.out).2.1 (by omega) (elW_cu HH.out).1).mono ?_
  rintro e w1 ⟨rfl, hbx⟩
  obtain ⟨a1, a2, a3, a4⟩ := elW_cu HH.out
  have hs : (elW w g t p R.length cap).heap.size = w.heap.size + 2 := by unfold elW; simp
  have hrd : Rd w1 g t p b o cap R 0 0 := a4.bex hbx (by omega) (fun h0 => by have := (HH.out.bs.ptr h0).2; omega)
  have hbox : w1.cell? ⟨w.heap.size, 0, none⟩ = some (.pointer (some ⟨g, 0, none⟩)) := (hbx.blk a3 (by omega)).cell 0
  have hb2 : Bex g w w1 := ⟨hbx.os.trans a2.os, hbx.tape.trans a2.tape, hbx.output.trans a2.output, Nat.le_trans a2.size hbx.size, fun k hk _ => (hbx.block k (by omega) (by omega)).trans (a2.block k hk)⟩
  refine leaves_cons (f := 155) (args := #[.pointer (some ⟨w.heap.size, 0, none⟩)]) (by simp) (by simp [go_sem]) ?_
  refine (endBytes_brk w.heap.size g t p b o cap R 0 0 x _ hrd hbox).mono ?_
  rintro e u' w'' ⟨rfl, rfl, h5, h6⟩
  exact ⟨_, results_tmp rfl _ _ _, rfl, h5, hb2.bex h6⟩
theorem mBytes_ok (g t : Nat) (p : Option Addr) (b o cap : Nat) (R : List Nat) (most : Int) (T : List Nat) (n : Nat) (w : World) (H : Rd w g t p b o cap R 0 0) (h4 : R.length ≤ 4000000) (hp : pText R most = .ok T n) :
    Calls Try.prog 35 #[.pointer (some ⟨g, 0, none⟩), .int .i64 most] w fun e w' => (∃ v, e = .returned v ∧ FB w.heap.size T v w') ∧ RdX w' g (t + n) b (R.drop n) 0 0 ∧ Bex g w w' := by
  have hmf : ∀ (fn : Fn) (first cap : Array Value) (w : World), (Instr.makeFunc fn first cap).run Try.prog w = .ok (.func fn first cap) w := fun _ _ _ _ => rfl
  have HB : Hid (Below w.heap.size w (w.alloc (.cells #[.int .i64 most] 3))) := hidp ((Below.refl _ w).alloc (Nat.le_refl _) _)
  have HE := hidp (elemBytes_ok w.heap.size g t p b o cap R (FB w.heap.size T) (fun v w1 w2 hv hb => hv.bex hb H.blk.lt) n _ (H.below HB.out) (fun w1 c hb _ hc => (readBytes_ok w.heap.size c t p b o cap R most T n w1 hc h4 (box_cell hb) hp).mono fun e w' ⟨⟨v, h1, h2⟩, h3⟩ => ⟨⟨v, h1, h2.mono (Nat.le_trans HB.out.size hb.size)⟩, h3⟩))
  clear H hp h4
  go_enter Try.func35, Try.ntmps35
  go_wp2_with fail
  refine HE.out.mono ?_
  rintro e w1 ⟨⟨v, rfl, hv⟩, h1, h2⟩
  have HV := hidp hv
  have HX := hidp (And.intro h1 ((((Bex.refl g w).alloc _).bex h2)))
  clear h1 h2 HE HB hv
  go_wp2
  go_ret
  exact ⟨⟨_, rfl, HV.out⟩, HX.out⟩
theorem mBytes_er (g t : Nat) (p : Option Addr) (b o cap : Nat) (R : List Nat) (most : Int) (x : Nat) (w : World) (H : Rd w g t p b o cap R 0 0) (hp : pText R most = .er x) :
    Calls Try.prog 35 #[.pointer (some ⟨g, 0, none⟩), .int .i64 most] w fun e w' => e = .returned (.slice none 0 0) ∧ RdX w' g t b [] x t ∧ Bex g w w' := by
  have hmf : ∀ (fn : Fn) (first cap : Array Value) (w : World), (Instr.makeFunc fn first cap).run Try.prog w = .ok (.func fn first cap) w := fun _ _ _ _ => rfl
  have HB : Hid (Below w.heap.size w (w.alloc (.cells #[.int .i64 most] 3))) := hidp ((Below.refl _ w).alloc (Nat.le_refl _) _)
  have HE := hidp (elemBytes_er w.heap.size g t p b o cap R x _ (H.below HB.out) (fun w1 c hb _ hc => readBytes_er w.heap.size c t p b o cap R most x w1 hc (box_cell hb) hp))
  clear H hp
  go_enter Try.func35, Try.ntmps35
  go_wp2_with fail
  refine HE.out.mono ?_
  rintro e w1 ⟨rfl, h1, h2⟩
  have HX := hidp (And.intro h1 ((((Bex.refl g w).alloc _).bex h2)))
  clear h1 h2 HE HB
  go_wp2
  go_ret
  exact ⟨rfl, HX.out⟩
end Go.Proofs.Ytlfmmmlheloloaa
