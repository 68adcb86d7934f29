/-
  WireWrites: the answer's writer, in whatever state.
-/
import Derived.Test.YtbhkjflpkpkdlaaWwa
import Derived.Test.YtbhkjflpkpkdlaaRx
namespace Go.Proofs.Ytbhkjflpkpkdlaa
open Go.RowKit Go.Lib Go.Maps
set_option linter.unusedVariables false
set_option linter.unusedSimpArgs false

/-- The answer's writer in block g, its bytes in block b, with this error. -/
structure RqW (w : World) (g b lim : Nat) (L : List Nat) (e : Nat) : Prop where
  q : ∃ p c, Blk w g [.int .i64 (lim : Nat), .slice p L.length c, .int .i64 (e : Nat)] 117 ∧ Bs w p b 0 L c ∧ (0 < c → b ≠ g)
  le : L.length ≤ lim
  lim : lim ≤ 1048576
theorem RqW.below {w w' : World} {g b lim e : Nat} {L : List Nat} (H : RqW w g b lim L e) (h : Below w.heap.size w w') : RqW w' g b lim L e := by
  obtain ⟨p, c, h1, h2, h3⟩ := H.q
  exact ⟨⟨p, c, h1.below h h1.lt, h2.below h, h3⟩, H.le, H.lim⟩
theorem RqW.glt {w : World} {g b lim e : Nat} {L : List Nat} (H : RqW w g b lim L e) : g < w.heap.size := by obtain ⟨p, c, h1, _⟩ := H.q; exact h1.lt
theorem RqW.wfr {w w' : World} {g b lim e : Nat} {L : List Nat} (H : RqW w g b lim L e) {k : Nat} {v v' : Value} (h : Wfr k v w w' v') (h1 : g ≠ k ∧ v.ownBlock ≠ some g) (h2 : b ≠ k ∧ v.ownBlock ≠ some b) : RqW w' g b lim L e := by
  obtain ⟨p, c, q1, q2, q3⟩ := H.q
  refine ⟨⟨p, c, ?_, ?_, q3⟩, H.le, H.lim⟩
  · exact (h.block g q1.lt h1.1 h1.2).trans q1
  · exact ⟨q2.byte, q2.le, fun h0 => ⟨(q2.ptr h0).1, Nat.lt_of_lt_of_le (q2.ptr h0).2 h.size⟩, fun i hi => by
      have h0 : 0 < c := by have := q2.le; omega
      exact (World.cell?_of_block (a := ⟨b, 0 + i, none⟩) (h.block b (q2.ptr h0).2 h2.1 h2.2)).trans (q2.here i hi)⟩
set_option maxRecDepth 100000 in
set_option maxHeartbeats 4000000 in
theorem rPutQ_ok {w : World} {g b lim : Nat} {L X : List Nat} {p : Option Addr} {c : Nat} (H : RqW w g b lim L 0) (hS : ByS w p c X) (hl : L.length + X.length ≤ lim) :
    Calls Try.prog 146 #[.pointer (some ⟨g, 0, none⟩), .slice p X.length c] w fun e w' => e = .returned (.int .i64 0) ∧ (∃ b', RqW w' g b' lim (L ++ X) 0 ∧ w.heap.size ≤ b') ∧ Bex g w w' := by
  have hlim := H.lim
  obtain ⟨p0, c0, hb, hs0, hne⟩ := H.q
  have HB := hidp hb
  have HS0 := hidp (ByS.of_bs hs0 hs0.none_cap)
  have HL := hidp (And.intro hl hlim)
  have HS := hidp hS
  have k0 := hb.cell 0
  have k1 := hb.cell 1
  have k2 := hb.cell 2
  simp only [List.getElem?_cons_zero, List.getElem?_cons_succ] at k0 k1 k2
  have hw1 : IntKind.i64.wrap ((L.length : Int) + (X.length : Int)) = (L.length : Int) + (X.length : Int) := by rw [IntKind.wrap_i64]; omega
  have hw2 : wrap64 ((L.length : Int) + (X.length : Int)) = (L.length : Int) + (X.length : Int) := by rw [w64 _ (by omega)]
  have hd : decide ((lim : Int) < (L.length : Int) + (X.length : Int)) = false := decide_eq_false (by omega)
  clear H hb hs0 hne hS hl hlim
  go_enter Try.func146, Try.ntmps146
  go_wp2_with fail
  go_quiet (fail)
  have H1 := hidp (HB.out.drewN nq)
  have hx := hidp ((Bex.refl g w).drewN nq)
  have hzz := hidp (show (w.drewN nq).heap.size = w.heap.size from rfl)
  have HT : Hid (ByS (w.drewN nq) p0 c0 L ∧ ByS (w.drewN nq) p c X) := hidp ⟨⟨HS0.out.byte, HS0.out.le, HS0.out.none, HS0.out.cell⟩, ⟨HS.out.byte, HS.out.le, HS.out.none, HS.out.cell⟩⟩
  clear k0 k1 k2 HB HS0 HS hw1 hw2 hd
  generalize w.drewN nq = w1 at H1 hx HT hzz ⊢
  have k1 := H1.out.cell 1
  have k2 := H1.out.cell 2
  simp only [List.getElem?_cons_zero, List.getElem?_cons_succ] at k1 k2
  have f1 := H1.out.free 1
  have hlt := H1.out.lt
  have hown := hidp (own_nothing w1)
  have hby := hidp (show ∀ x ∈ L ++ X, x < 256 from fun x hx => by
    rcases List.mem_append.1 hx with h | h
    · exact HT.out.1.byte x h
    · exact HT.out.2.byte x h)
  have hA := hidp ((Below.refl w1.heap.size w1).alloc (Nat.le_refl _) (.cells #[] 5))
  have HSA := hidp (HT.out.1.below hA.out)
  have hz0 := hidp hA.out.size
  have hn1 : Hid (0 + L.length ≤ 4000000) := hidp (by have := HL.out; omega)
  have hn2 : Hid (0 + L.length + X.length ≤ 4000000) := hidp (by have := HL.out; omega)
  go_wp2_with (first
    | (at_builtin; refine wpList_append_byS rfl _ _ rfl w1.heap.size 0 [] _ rfl hown.out p0 c0 L rfl HSA.out hn1.out hz0.out ?_; intro v' w2 hown' hgrow; have hO := hidp hown'; have T1 := hidp (hA.out.grown hgrow hz0.out (fun k hk => (hown.out.lt k hk).1)); have hz1 := hidp T1.out.size; have HSX := hidp (HT.out.2.below T1.out); clear hown' hgrow)
    | (at_builtin; refine wpList_append_byS rfl _ _ rfl w1.heap.size (0 + L.length) ([] ++ bvs L) _ rfl hO.out p c X rfl HSX.out hn2.out hz1.out ?_; intro v'' w3 hown' hgrow; have hO2 := hidp hown'; have T2 := hidp (T1.out.grown hgrow hz1.out (fun k hk => (hO.out.lt k hk).1)); clear hown' hgrow; have K3 := hidp (H1.out.below T2.out hlt); have kf := K3.out.free 1; have kl := K3.out.lt; have kc := K3.out.cell 2; have kd := K3.out.cell 1; simp only [List.getElem?_cons_zero, List.getElem?_cons_succ] at kc kd; obtain ⟨p3, b3, c3, rfl, hb3, _, hs3⟩ := Bs.of_own (L := L ++ X) (by have q := hO2.out; rw [List.nil_append, ← bvs_appR, Nat.zero_add, ← List.length_append] at q; exact q) hby.out; have HS3 := hidp (And.intro hb3 hs3); clear hb3 hs3; rw [List.length_append] at *))
  have hq : Bex g w3 (w3.setCell ⟨g, 1, none⟩ (.slice p3 (L ++ X).length c3)) := (Bex.refl g w3).setCell 1 _
  have hW : RqW (w3.setCell ⟨g, 1, none⟩ (.slice p3 (L ++ X).length c3)) g b3 lim (L ++ X) 0 := ⟨⟨p3, c3, K3.out.set 1 _, HS3.out.2.bex hq (fun _ => by have := HS3.out.1; omega), fun _ => by have := HS3.out.1; omega⟩, by rw [List.length_append]; exact HL.out.1, HL.out.2⟩
  rw [List.length_append] at hq
  rw [List.length_append] at hW
  go_ret
  exact ⟨rfl, ⟨b3, hW, by have := HS3.out.1; have := hzz.out; omega⟩, hx.out.trans ((Bex.of_below T2.out).trans hq)⟩
set_option maxRecDepth 100000 in
set_option maxHeartbeats 4000000 in
theorem rPutQ_long {w : World} {g b lim : Nat} {L X : List Nat} {p : Option Addr} {c : Nat} (H : RqW w g b lim L 0) (hl : lim < L.length + X.length) (hx : X.length ≤ 3000000) :
    Calls Try.prog 146 #[.pointer (some ⟨g, 0, none⟩), .slice p X.length c] w fun e w' => e = .returned (.int .i64 4) ∧ RqW w' g b lim L 4 ∧ Bex g w w' := by
  have hlim := H.lim
  have hle := hidp H.le
  obtain ⟨p0, c0, hb, hs0, hne⟩ := H.q
  have HB := hidp hb
  have HS0 := hidp (And.intro hs0 hne)
  have HL := hidp hlim
  have k0 := hb.cell 0
  have k1 := hb.cell 1
  have k2 := hb.cell 2
  simp only [List.getElem?_cons_zero, List.getElem?_cons_succ] at k0 k1 k2
  have hw1 : IntKind.i64.wrap ((L.length : Int) + (X.length : Int)) = (L.length : Int) + (X.length : Int) := by rw [IntKind.wrap_i64]; have := hle.out; omega
  have hw2 : wrap64 ((L.length : Int) + (X.length : Int)) = (L.length : Int) + (X.length : Int) := by rw [w64 _ (by have := hle.out; omega)]
  have hd : decide ((lim : Int) < (L.length : Int) + (X.length : Int)) = true := decide_eq_true (by omega)
  clear H hb hs0 hne hl hlim
  go_enter Try.func146, Try.ntmps146
  go_wp2_with fail
  go_quiet (fail)
  have H1 := hidp (HB.out.drewN nq)
  have hxx := hidp ((Bex.refl g w).drewN nq)
  clear k0 k1 k2 HB hw1 hw2 hd
  have k1 := H1.out.cell 1
  have k2 := H1.out.cell 2
  simp only [List.getElem?_cons_zero, List.getElem?_cons_succ] at k1 k2
  have f2 := H1.out.free 2
  have hlt := H1.out.lt
  go_wp2_with fail
  go_ret
  have hq : Bex g (w.drewN nq) ((w.drewN nq).setCell ⟨g, 2, none⟩ (.int .i64 4)) := (Bex.refl g _).setCell 2 _
  have hq2 := hxx.out.trans hq
  exact ⟨rfl, ⟨⟨p0, c0, H1.out.set 2 _, HS0.out.1.bex hq2 (fun h0 => fun e => HS0.out.2 h0 e.symm), HS0.out.2⟩, hle.out, HL.out⟩, hq2⟩
set_option maxRecDepth 100000 in
set_option maxHeartbeats 4000000 in
theorem rPutQ_dead {w : World} {g b lim e0 : Nat} {L X : List Nat} {p : Option Addr} {c : Nat} (H : RqW w g b lim L e0) (he : e0 ≠ 0) :
    Calls Try.prog 146 #[.pointer (some ⟨g, 0, none⟩), .slice p X.length c] w fun e w' => e = .returned (.int .i64 (e0 : Nat)) ∧ Below w.heap.size w w' := by
  obtain ⟨p0, c0, hb, hs0, hne⟩ := H.q
  have HB := hidp hb
  have k0 := hb.cell 0
  have k1 := hb.cell 1
  have k2 := hb.cell 2
  simp only [List.getElem?_cons_zero, List.getElem?_cons_succ] at k0 k1 k2
  have hz : ((e0 : Int) == 0) = false := by rw [beq_eq_false_iff_ne]; omega
  clear H hb hs0 hne he
  go_enter Try.func146, Try.ntmps146
  go_wp2_with fail
  go_quiet (fail)
  have H1 := hidp (HB.out.drewN nq)
  clear k0 k1 k2
  have k1 := H1.out.cell 1
  have k2 := H1.out.cell 2
  simp only [List.getElem?_cons_zero, List.getElem?_cons_succ] at k1 k2
  go_wp2_with fail
  go_ret
  exact ⟨rfl, (Below.refl _ _).drewN _⟩
/-- The answer's writer: its bytes count where it has no error. -/
def RW (w : World) (g b lim : Nat) (L : List Nat) (e : Nat) : Prop := ∃ M, RqW w g b lim M e ∧ (e = 0 → M = L)
theorem RW.below {w w' : World} {g b lim e : Nat} {L : List Nat} (H : RW w g b lim L e) (h : Below w.heap.size w w') : RW w' g b lim L e := by
  obtain ⟨M, h1, h2⟩ := H
  exact ⟨M, h1.below h, h2⟩
def RP (w : World) (g b lim : Nat) (L : List Nat) (e1 : Nat) (e : Ending) (w' : World) : Prop := e = .returned (.int .i64 (e1 : Nat)) ∧ (∃ b', RW w' g b' lim L e1 ∧ (b' = b ∨ w.heap.size ≤ b')) ∧ Bex g w w'
theorem RP.low {w0 w w' : World} {g b lim e1 : Nat} {L : List Nat} {e : Ending} (h : RP w g b lim L e1 e w') (hb : Below w0.heap.size w0 w) : RP w0 g b lim L e1 e w' := by
  obtain ⟨h1, ⟨b', h2, h3⟩, h4⟩ := h
  have := hb.size
  exact ⟨h1, ⟨b', h2, by omega⟩, (Bex.of_below hb).trans h4⟩
theorem rPut_gen {w : World} {g b lim e0 : Nat} {L X : List Nat} {p : Option Addr} {c : Nat} (H : RW w g b lim L e0) (hS : ByS w p c X) (hx : X.length ≤ 3000000) :
    Calls Try.prog 146 #[.pointer (some ⟨g, 0, none⟩), .slice p X.length c] w (RP w g b lim (L ++ X) (nxE e0 lim L X)) := by
  obtain ⟨M, h, hM⟩ := H
  unfold nxE
  by_cases he : e0 = 0
  · subst he
    obtain rfl := hM rfl
    rw [if_neg (by omega)]
    by_cases hs : lim < M.length + X.length
    · rw [if_pos hs]
      refine (rPutQ_long h hs hx).mono ?_
      rintro e w' ⟨h1, h2, h3⟩
      exact ⟨h1, ⟨b, ⟨_, h2, fun h => absurd h (by decide)⟩, .inl rfl⟩, h3⟩
    · rw [if_neg hs]
      refine (rPutQ_ok h hS (by omega)).mono ?_
      rintro e w' ⟨h1, ⟨b', h2, h3⟩, h4⟩
      exact ⟨h1, ⟨b', ⟨_, h2, fun _ => rfl⟩, .inr h3⟩, h4⟩
  · rw [if_pos he]
    refine (rPutQ_dead (X := X) h he).mono ?_
    rintro e w' ⟨h1, h2⟩
    exact ⟨h1, ⟨b, ⟨_, h.below h2, fun h => absurd h he⟩, .inl rfl⟩, Bex.of_below h2⟩
set_option maxRecDepth 100000 in
set_option maxHeartbeats 4000000 in
theorem rWWord_gen {w : World} {g b lim e0 : Nat} {L : List Nat} (H : RW w g b lim L e0) (n : Nat) (hn : n < 18446744073709551616) :
    Calls Try.prog 81 #[.pointer (some ⟨g, 0, none⟩), .int .u64 (n : Nat)] w (RP w g b lim (L ++ (wordB n)) (nxE e0 lim L (wordB n))) := by
  have HH := hidp H
  have HD := hidp (by have q := rWord_any n w hn; rw [loD_word] at q; exact q)
  have hX := hidp (show (wordB n).length ≤ 3000000 from (by rw [wordB_len]; decide))
  clear H hn
  generalize wordB n = M at *
  go_enter Try.func81, Try.ntmps81
  go_wp2_with fail
  refine HD.out.mono ?_
  rintro e wx ⟨⟨q, c, rfl, hs, _⟩, hB⟩
  have HP := hidp ((rPut_gen (HH.out.below hB) hs hX.out).mono fun e w' h => RP.low h hB)
  clear HD hs hB
  go_wp2_with fail
  refine HP.out.mono ?_
  rintro e w2 ⟨rfl, h⟩
  have h := hidp h
  clear HP
  go_wp2_with fail
  go_ret
  exact ⟨rfl, h.out⟩
set_option maxRecDepth 100000 in
set_option maxHeartbeats 4000000 in
theorem rWBytes_gen {w : World} {g b lim e0 : Nat} {L : List Nat} (H : RW w g b lim L e0) (p : Option Addr) (cap : Nat) (X : List Nat) (hS : ByS w p cap X) (hl : X.length ≤ 1000) :
    Calls Try.prog 78 #[.pointer (some ⟨g, 0, none⟩), .slice p X.length cap] w (RP w g b lim (L ++ (ctB X)) (nxE e0 lim L (ctB X))) := by
  have HH := hidp H
  have HD := hidp (rCounted_any hS (by omega))
  have hX := hidp (show (ctB X).length ≤ 3000000 from (by unfold ctB; rw [List.length_append, nB_len]; have := dg_le X.length; omega))
  clear H hS hl
  generalize ctB X = M at *
  go_enter Try.func78, Try.ntmps78
  go_wp2_with fail
  refine HD.out.mono ?_
  rintro e wx ⟨⟨q, c, rfl, hs, _⟩, hB⟩
  have HP := hidp ((rPut_gen (HH.out.below hB) hs hX.out).mono fun e w' h => RP.low h hB)
  clear HD hs hB
  go_wp2_with fail
  refine HP.out.mono ?_
  rintro e w2 ⟨rfl, h⟩
  have h := hidp h
  clear HP
  go_wp2_with fail
  go_ret
  exact ⟨rfl, h.out⟩
set_option maxRecDepth 100000 in
set_option maxHeartbeats 4000000 in
theorem rWText_gen {w : World} {g b lim e0 : Nat} {L : List Nat} (H : RW w g b lim L e0) (s : ByteArray) (hl : s.size ≤ 1000) :
    Calls Try.prog 77 #[.pointer (some ⟨g, 0, none⟩), .string s] w (RP w g b lim (L ++ ctB (strL s)) (nxE e0 lim L (ctB (strL s)))) := by
  have kc := fun W : World => _root_.Go.Lib.run_convert_string_bytes (P := Try.prog) W 9 32 5 s Try.underlying9 Try.underlying32 Try.underlying5
  have HB0 := hidp (bytesW_below w s)
  have hle : (strL s).length ≤ 3000000 := by rw [strL_len]; omega
  have Q := hidp (rCounted_any (ByS.of_bs (bytesW_bs w s) (bytesW_bs w s).none_cap) hle)
  rw [strL_len] at Q
  have HH := hidp (H.below HB0.out)
  have hX := hidp (show (ctB (strL s)).length ≤ 3000000 from by unfold ctB; rw [List.length_append, nB_len, strL_len]; have := dg_le s.size; omega)
  clear H hl hle
  generalize ctB (strL s) = M at *
  go_enter Try.func77, Try.ntmps77
  go_wp2_with fail
  refine Q.out.mono ?_
  rintro e wx ⟨⟨q, c, rfl, hs, _⟩, hB⟩
  have HP := hidp ((rPut_gen (HH.out.below hB) hs hX.out).mono fun e w' h => RP.low h (HB0.out.trans (hB.mono HB0.out.size)))
  clear Q hs hB
  go_wp2_with fail
  refine HP.out.mono ?_
  rintro e w2 ⟨rfl, h⟩
  have h := hidp h
  clear HP
  go_wp2_with fail
  go_ret
  exact ⟨rfl, h.out⟩
set_option maxRecDepth 100000 in
set_option maxHeartbeats 4000000 in
theorem rWHash_gen {w : World} {g b lim e0 : Nat} {L : List Nat} (H : RW w g b lim L e0) (a : List Nat) (ha : Bytes 32 a) :
    Calls Try.prog 79 #[.pointer (some ⟨g, 0, none⟩), .agg (bvs a).toArray] w (RP w g b lim (L ++ a) (nxE e0 lim L a)) := by
  have hsl := fun w' => run_sliceAt_all (P := Try.prog) (t := 34) (e := 5) (n := 32) Try.underlying34 (by kernel_rfl) (by decide) w.heap.size 0 w'
  have hA := hidp (((Below.refl w.heap.size w).alloc (Nat.le_refl _) (.cells (bvs a).toArray 34)).alloc (by simp) (.cells #[] 5))
  have hk := hidp ((Blk.new w (bvs a) 34).alloc (.cells #[] 5))
  have HH := hidp H
  have hown : Hid (((w.alloc (.cells (bvs a).toArray 34)).alloc (.cells #[] 5)).ownsRow (w.heap.size + 1) 5 1 (.slice (some ⟨w.heap.size + 1, 0, none⟩) 0 0) 0 []) := by
    have q := own_nothing (w.alloc (.cells (bvs a).toArray 34))
    rw [show (w.alloc (.cells (bvs a).toArray 34)).heap.size = w.heap.size + 1 by simp] at q
    exact hidp q
  have HSA : Hid (ByS ((w.alloc (.cells (bvs a).toArray 34)).alloc (.cells #[] 5)) (some ⟨w.heap.size, 0, none⟩) 32 a) := hidp (ByS.of_bs (b := w.heap.size) (o := 0) ⟨ha.2, by rw [ha.1]; exact Nat.le_refl _, fun _ => ⟨rfl, hk.out.lt⟩, fun i hi => by
    rw [Nat.zero_add, hk.out.cell i]
    exact bvs_get hi⟩ (fun h => by cases h))
  have hz0 : Hid (w.heap.size + 1 ≤ ((w.alloc (.cells (bvs a).toArray 34)).alloc (.cells #[] 5)).heap.size) := hidp (by simp)
  have hla := hidp ha.1
  have hby := hidp ha.2
  have hn1 : Hid (0 + a.length ≤ 4000000) := hidp (by rw [ha.1]; decide)
  have hln := hidp (show a.length ≤ 3000000 from by rw [ha.1]; decide)
  clear H ha
  go_enter Try.func79, Try.ntmps79
  go_wp2_with (at_builtin; refine wpList_append_byS rfl _ _ rfl (w.heap.size + 1) 0 [] _ rfl hown.out (some ⟨w.heap.size, 0, none⟩) 32 a (by rw [hla.out]; rfl) HSA.out hn1.out hz0.out ?_; intro v' w1 hown' hgrow; have hB1 := hidp (hA.out.grown hgrow (by simp; omega) (fun j hj => by have := (hown.out.lt j hj).1; omega)); have HH1 := hidp (HH.out.below hB1.out); rw [Nat.zero_add, List.nil_append] at hown'; obtain ⟨q, b, c, rfl, hqb, hq0, hs⟩ := Bs.of_own hown' hby.out; have hS := hidp (ByS.of_bs hs hq0); clear hown' hgrow hqb hq0 hs)
  have HP := hidp ((rPut_gen HH1.out hS.out hln.out).mono fun e w' h => RP.low h hB1.out)
  refine HP.out.mono ?_
  rintro e w2 ⟨rfl, h⟩
  have h := hidp h
  clear HP
  go_wp2_with fail
  go_ret
  exact ⟨rfl, h.out⟩
set_option maxRecDepth 100000 in
set_option maxHeartbeats 4000000 in
theorem rWKey_gen {w : World} {g b lim e0 : Nat} {L : List Nat} (H : RW w g b lim L e0) (a : List Nat) (ha : Bytes 4 a) :
    Calls Try.prog 80 #[.pointer (some ⟨g, 0, none⟩), .agg (bvs a).toArray] w (RP w g b lim (L ++ a) (nxE e0 lim L a)) := by
  have hsl := fun w' => run_sliceAt_all (P := Try.prog) (t := 36) (e := 5) (n := 4) Try.underlying36 (by kernel_rfl) (by decide) w.heap.size 0 w'
  have hA := hidp (((Below.refl w.heap.size w).alloc (Nat.le_refl _) (.cells (bvs a).toArray 36)).alloc (by simp) (.cells #[] 5))
  have hk := hidp ((Blk.new w (bvs a) 36).alloc (.cells #[] 5))
  have HH := hidp H
  have hown : Hid (((w.alloc (.cells (bvs a).toArray 36)).alloc (.cells #[] 5)).ownsRow (w.heap.size + 1) 5 1 (.slice (some ⟨w.heap.size + 1, 0, none⟩) 0 0) 0 []) := by
    have q := own_nothing (w.alloc (.cells (bvs a).toArray 36))
    rw [show (w.alloc (.cells (bvs a).toArray 36)).heap.size = w.heap.size + 1 by simp] at q
    exact hidp q
  have HSA : Hid (ByS ((w.alloc (.cells (bvs a).toArray 36)).alloc (.cells #[] 5)) (some ⟨w.heap.size, 0, none⟩) 4 a) := hidp (ByS.of_bs (b := w.heap.size) (o := 0) ⟨ha.2, by rw [ha.1]; exact Nat.le_refl _, fun _ => ⟨rfl, hk.out.lt⟩, fun i hi => by
    rw [Nat.zero_add, hk.out.cell i]
    exact bvs_get hi⟩ (fun h => by cases h))
  have hz0 : Hid (w.heap.size + 1 ≤ ((w.alloc (.cells (bvs a).toArray 36)).alloc (.cells #[] 5)).heap.size) := hidp (by simp)
  have hla := hidp ha.1
  have hby := hidp ha.2
  have hn1 : Hid (0 + a.length ≤ 4000000) := hidp (by rw [ha.1]; decide)
  have hln := hidp (show a.length ≤ 3000000 from by rw [ha.1]; decide)
  clear H ha
  go_enter Try.func80, Try.ntmps80
  go_wp2_with (at_builtin; refine wpList_append_byS rfl _ _ rfl (w.heap.size + 1) 0 [] _ rfl hown.out (some ⟨w.heap.size, 0, none⟩) 4 a (by rw [hla.out]; rfl) HSA.out hn1.out hz0.out ?_; intro v' w1 hown' hgrow; have hB1 := hidp (hA.out.grown hgrow (by simp; omega) (fun j hj => by have := (hown.out.lt j hj).1; omega)); have HH1 := hidp (HH.out.below hB1.out); rw [Nat.zero_add, List.nil_append] at hown'; obtain ⟨q, b, c, rfl, hqb, hq0, hs⟩ := Bs.of_own hown' hby.out; have hS := hidp (ByS.of_bs hs hq0); clear hown' hgrow hqb hq0 hs)
  have HP := hidp ((rPut_gen HH1.out hS.out hln.out).mono fun e w' h => RP.low h hB1.out)
  refine HP.out.mono ?_
  rintro e w2 ⟨rfl, h⟩
  have h := hidp h
  clear HP
  go_wp2_with fail
  go_ret
  exact ⟨rfl, h.out⟩
set_option maxRecDepth 100000 in
theorem rBool_any (is : Bool) (w : World) : Calls Try.prog 150 #[.bool is] w (NewB w [bN is]) := by
  have hO : ∀ x : Nat, x < 256 → NewB w [x] (.returned (.slice (some ⟨w.heap.size, 0, none⟩) 1 1)) (w.alloc (.cells (bvs [x]).toArray 5)) := fun x hx => by
    have h1 := own_lit1 w x
    obtain ⟨p, c, h2, h3⟩ := bys_own (L := [x]) h1 (by simpa using hx)
    cases h2
    exact ⟨⟨_, _, rfl, h3, h1⟩, (Below.refl _ w).alloc (Nat.le_refl _) _⟩
  cases is
  · have HO := hidp (hO 0 (by decide))
    clear hO
    go_enter Try.func150, Try.ntmps150
    go_wp2_with fail
    go_ret
    exact HO.out
  · have HO := hidp (hO 1 (by decide))
    clear hO
    go_enter Try.func150, Try.ntmps150
    go_wp2_with fail
    go_ret
    exact HO.out
set_option maxRecDepth 100000 in
set_option maxHeartbeats 4000000 in
theorem rWBool_gen {w : World} {g b lim e0 : Nat} {L : List Nat} (H : RW w g b lim L e0) (is : Bool) :
    Calls Try.prog 83 #[.pointer (some ⟨g, 0, none⟩), .bool is] w (RP w g b lim (L ++ ([bN is])) (nxE e0 lim L ([bN is]))) := by
  have HH := hidp H
  have HD := hidp (rBool_any is w)
  have hX := hidp (show ([bN is]).length ≤ 3000000 from (by simp))
  clear H 
  generalize [bN is] = M at *
  go_enter Try.func83, Try.ntmps83
  go_wp2_with fail
  refine HD.out.mono ?_
  rintro e wx ⟨⟨q, c, rfl, hs, _⟩, hB⟩
  have HP := hidp ((rPut_gen (HH.out.below hB) hs hX.out).mono fun e w' h => RP.low h hB)
  clear HD hs hB
  go_wp2_with fail
  refine HP.out.mono ?_
  rintro e w2 ⟨rfl, h⟩
  have h := hidp h
  clear HP
  go_wp2_with fail
  go_ret
  exact ⟨rfl, h.out⟩
set_option maxRecDepth 100000 in
set_option maxHeartbeats 4000000 in
theorem rWPace_gen {w : World} {g b lim e0 : Nat} {L : List Nat} (H : RW w g b lim L e0) (n : Nat) (hn : n < 18446744073709551616) :
    Calls Try.prog 82 #[.pointer (some ⟨g, 0, none⟩), .float .f64 n] w (RP w g b lim (L ++ (wordB (formN n))) (nxE e0 lim L (wordB (formN n)))) := by
  have HB := hidp (fun w' => refBits_any n w')
  have HH := hidp H
  have HD := hidp (by have q := rWord_any (formN n) w (formN_lt n hn); rw [loD_word] at q; exact q)
  have hX := hidp (show (wordB (formN n)).length ≤ 3000000 from (by rw [wordB_len]; decide))
  clear H hn
  generalize formN n = U at *
  generalize wordB U = M at *
  go_enter Try.func82, Try.ntmps82
  go_wp2_with fail
  refine (HB.out _).mono ?_
  rintro e w0 ⟨rfl, rfl⟩
  go_wp2_with fail
  refine HD.out.mono ?_
  rintro e wx ⟨⟨q, c, rfl, hs, _⟩, hB⟩
  have HP := hidp ((rPut_gen (HH.out.below hB) hs hX.out).mono fun e w' h => RP.low h hB)
  clear HD hs hB
  go_wp2_with fail
  refine HP.out.mono ?_
  rintro e w2 ⟨rfl, h⟩
  have h := hidp h
  clear HP
  go_wp2_with fail
  go_ret
  exact ⟨rfl, h.out⟩
set_option maxRecDepth 100000 in
set_option maxHeartbeats 4000000 in
theorem rWNum_gen {w : World} {g b lim e0 : Nat} {L : List Nat} (H : RW w g b lim L e0) (n : Int) (hn : n ≤ 9223372036854775807) :
    Calls Try.prog 76 #[.pointer (some ⟨g, 0, none⟩), .int .i64 n] w (RP w g b lim (L ++ nB n.toNat) (nxN e0 lim L n)) := by
  obtain ⟨M, h, hM⟩ := H
  obtain ⟨p0, c0, hb, hs0, hne⟩ := h.q
  have k2 := hb.cell 2
  simp only [List.getElem?_cons_zero, List.getElem?_cons_succ] at k2
  have hlt := hb.lt
  unfold nxN
  by_cases he : e0 = 0
  · subst he
    obtain rfl := hM rfl
    by_cases hn0 : n < 0
    · rw [if_pos ⟨rfl, hn0⟩]
      have hd : decide (n < 0) = true := decide_eq_true hn0
      have f2 := hb.free 2
      have hq : Bex g w (w.setCell ⟨g, 2, none⟩ (.int .i64 3)) := (Bex.refl g _).setCell 2 _
      have hR := hidp (show RqW (w.setCell ⟨g, 2, none⟩ (.int .i64 3)) g b lim M 3 from ⟨⟨p0, c0, hb.set 2 _, hs0.bex hq (fun h0 e => hne h0 e.symm), hne⟩, h.le, h.lim⟩)
      clear h hM hb hs0 hne hn hn0
      go_enter Try.func76, Try.ntmps76
      go_wp2_with fail
      go_ret
      exact ⟨rfl, ⟨b, ⟨_, hR.out, fun h => absurd h (by decide)⟩, .inl rfl⟩, hq⟩
    · rw [if_neg (by omega)]
      have hd : decide (n < 0) = false := decide_eq_false hn0
      have HH := hidp (show RW w g b lim M 0 from ⟨M, h, fun _ => rfl⟩)
      have HD := hidp (by have q := rNumber_any n.toNat w (by omega); rw [show ((n.toNat : Nat) : Int) = n by omega] at q; exact q)
      have hX := hidp (show (nB n.toNat).length ≤ 3000000 from by rw [nB_len]; have := dg_le n.toNat; omega)
      clear h hM hb hs0 hne hn hn0
      generalize nB n.toNat = Z at *
      go_enter Try.func76, Try.ntmps76
      go_wp2_with fail
      refine HD.out.mono ?_
      rintro e wx ⟨⟨q, c, rfl, hs, _⟩, hB⟩
      have HP := hidp ((rPut_gen (HH.out.below hB) hs hX.out).mono fun e w' h => RP.low h hB)
      clear HD hs hB k2
      go_wp2_with fail
      refine HP.out.mono ?_
      rintro e w2 ⟨rfl, h⟩
      have h := hidp h
      clear HP
      go_wp2_with fail
      go_ret
      exact ⟨rfl, h.out⟩
  · rw [if_neg (by omega)]
    have e1 : nxE e0 lim L (nB n.toNat) = e0 := by unfold nxE; rw [if_pos he]
    rw [e1]
    have hz : ((e0 : Int) == 0) = false := by rw [beq_eq_false_iff_ne]; omega
    have hz2 : ((e0 : Int) != 0) = true := by rw [bne_iff_ne]; omega
    have HH := hidp (show RW w g b lim (L ++ nB n.toNat) e0 from ⟨M, h, fun h => absurd h he⟩)
    clear h hM hb hs0 hne hn e1
    by_cases hn0 : n < 0
    · have hd : decide (n < 0) = true := decide_eq_true hn0
      clear hn0 he
      go_enter Try.func76, Try.ntmps76
      go_wp2_with fail
      go_ret
      exact ⟨rfl, ⟨b, HH.out, .inl rfl⟩, Bex.refl _ _⟩
    · have hd : decide (n < 0) = false := decide_eq_false hn0
      clear hn0 he
      go_enter Try.func76, Try.ntmps76
      go_wp2_with fail
      go_ret
      exact ⟨rfl, ⟨b, HH.out, .inl rfl⟩, Bex.refl _ _⟩
end Go.Proofs.Ytbhkjflpkpkdlaa
