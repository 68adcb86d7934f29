/-
  Texts Bkf, Bkg, Bkh, Dow, Bki, one behind the other.
-/
import Derived.Test.YtcmkmnidnapabaaGreatBka
import Derived.Test.YtcmkmnidnapabaaGreatQi
import Derived.Test.YtcmkmnidnapabaaGreatTD
import Derived.Test.YtcmkmnidnapabaaGreatBkc
import Derived.Test.YtcmkmnidnapabaaGreatTF
import Derived.Test.YtcmkmnidnapabaaGreatL6d
import Derived.Deep.CutRange
import Derived.Test.YtcmkmnidnapabaaGreatOVV

/-! Bkf: Block: a reader of items: its own fault, its end. -/
namespace Go.Proofs.YtcmkmnidnapabaaGreat
open Go.RowKit Go.Lib
set_option linter.unusedSimpArgs false
set_option linter.unusedVariables false

/-- A world that is as another one but for two blocks and new ones. -/
structure F2 (k g : Nat) (w w' : World) : Prop where
  os : w'.os = w.os
  tape : w'.tape = w.tape
  output : w'.output = w.output
  size : w.heap.size ≤ w'.heap.size
  block : ∀ j, j < w.heap.size → j ≠ k → j ≠ g → w'.heap[j]? = w.heap[j]?
theorem F2.refl (k g : Nat) (w : World) : F2 k g w w := ⟨rfl, rfl, rfl, Nat.le_refl _, fun _ _ _ _ => rfl⟩
theorem F2.trans {k g : Nat} {w1 w2 w3 : World} (h : F2 k g w1 w2) (q : F2 k g w2 w3) : F2 k g w1 w3 :=
  ⟨q.os.trans h.os, q.tape.trans h.tape, q.output.trans h.output, Nat.le_trans h.size q.size, fun i hi h1 h2 => (q.block i (Nat.lt_of_lt_of_le hi h.size) h1 h2).trans (h.block i hi h1 h2)⟩
theorem F2.below {k g : Nat} {w1 w2 w3 : World} (h : F2 k g w1 w2) (q : Below w2.heap.size w2 w3) : F2 k g w1 w3 :=
  ⟨q.os.trans h.os, q.tape.trans h.tape, q.output.trans h.output, Nat.le_trans h.size q.size, fun i hi h1 h2 => (q.block i (Nat.lt_of_lt_of_le hi h.size)).trans (h.block i hi h1 h2)⟩
theorem F2.bexG {k g : Nat} {w1 w2 w3 : World} (h : F2 k g w1 w2) (q : Bex g w2 w3) : F2 k g w1 w3 :=
  ⟨q.os.trans h.os, q.tape.trans h.tape, q.output.trans h.output, Nat.le_trans h.size q.size, fun i hi h1 h2 => (q.block i (Nat.lt_of_lt_of_le hi h.size) h2).trans (h.block i hi h1 h2)⟩
theorem F2.bexK {k g : Nat} {w1 w2 w3 : World} (h : F2 k g w1 w2) (q : Bex k w2 w3) : F2 k g w1 w3 :=
  ⟨q.os.trans h.os, q.tape.trans h.tape, q.output.trans h.output, Nat.le_trans h.size q.size, fun i hi h1 h2 => (q.block i (Nat.lt_of_lt_of_le hi h.size) h1).trans (h.block i hi h1 h2)⟩
theorem F2.butN {k g c : Nat} {w1 w2 w3 : World} (h : F2 k g w1 w2) (q : But c w2 w3) (hc : w1.heap.size ≤ c) : F2 k g w1 w3 :=
  ⟨q.os.trans h.os, q.tape.trans h.tape, q.output.trans h.output, by rw [q.size]; exact h.size, fun i hi h1 h2 => (q.block i (by omega)).trans (h.block i hi h1 h2)⟩
theorem F2.toBelow {k g B : Nat} {w w' : World} (h : F2 k g w w') (hk : B ≤ k) (hg : B ≤ g) (hB : B ≤ w.heap.size) : Below B w w' :=
  ⟨h.os, h.tape, h.output, h.size, fun i hi => h.block i (by omega) (by omega) (by omega)⟩
theorem F2.blk {k g c : Nat} {w w' : World} {cs : List Value} {T : TypeId} (h : F2 k g w w') (hc : Blk w c cs T) (h1 : c ≠ k) (h2 : c ≠ g) : Blk w' c cs T := (h.block c hc.lt h1 h2).trans hc
/-- The items' reader: its block, its reader, how many bytes there were, its fault. -/
structure ItW (W : World) (k g b : Nat) (s : RS) (n fe ff : Nat) : Prop where
  kt : Blk W k [.pointer (some ⟨g, 0, none⟩), .int .i64 (n : Nat), .int .i64 (fe : Nat), .int .i64 (ff : Nat)] 176
  rd : RdS W g b s
  ne : k ≠ g ∧ k ≠ b
theorem ItW.below {W W' : World} {k g b n fe ff : Nat} {s : RS} (H : ItW W k g b s n fe ff) (hb : Below W.heap.size W W') : ItW W' k g b s n fe ff := ⟨hb.blk' H.kt, H.rd.below hb, H.ne⟩
theorem ItW.read {W W' : World} {k g b n fe ff : Nat} {s s' : RS} (H : ItW W k g b s n fe ff) (hb : Bex g W W') (hr : RdS W' g b s') : ItW W' k g b s' n fe ff := ⟨hb.blk H.kt H.ne.1, hr, H.ne⟩
theorem ItW.put {W : World} {k g b n fe ff : Nat} {s : RS} (H : ItW W k g b s n fe ff) (x y : Nat) : ItW ((W.setCell ⟨k, 2, none⟩ (.int .i64 (x : Nat))).setCell ⟨k, 3, none⟩ (.int .i64 (y : Nat))) k g b s n x y :=
  ⟨(H.kt.set 2 (.int .i64 (x : Nat))).set 3 (.int .i64 (y : Nat)), H.rd.bexA (((Bex.refl k W).setCell 2 _).setCell 3 _) (Ne.symm H.ne.1) H.ne.2, H.ne⟩
theorem ItW.bexP (W : World) (k : Nat) (x y : Value) : Bex k W ((W.setCell ⟨k, 2, none⟩ x).setCell ⟨k, 3, none⟩ y) := ((Bex.refl k W).setCell 2 _).setCell 3 _
/-- The reader's own fault, as broken tells it. -/
def bk (s : RS) : Nat × Nat := if 0 < s.R.length then (0, 0) else endS s
def FaP (w : World) (f : Nat × Nat) (e : Ending) (w' : World) : Prop := e = .returned (.agg #[.int .i64 (f.1 : Nat), .int .i64 (f.2 : Nat)]) ∧ Below w.heap.size w w'
set_option maxRecDepth 100000 in
set_option maxHeartbeats 2000000 in
theorem broken_any {w : World} {k g b n fe ff : Nat} {s : RS} (H : ItW w k g b s n fe ff) : Calls Tryz.prog 196 #[.pointer (some ⟨k, 0, none⟩)] w (FaP w (bk s)) := by
  have HA := hidp ((Below.refl w.heap.size w).alloc (Nat.le_refl _) (.cells #[.int .i64 0, .int .i64 0] 52))
  have H1 := hidp (H.below HA.out)
  have HZ := hidp (Blk.new w [.int .i64 0, .int .i64 0] 52)
  have c0 := H1.out.kt.cell 0
  have d0 := H.kt.cell 0
  have kl := H.kt.lt
  simp only [List.getElem?_cons_zero] at c0 d0
  clear H
  by_cases h0 : 0 < s.R.length
  · have hd : decide (0 < s.R.length) = true := decide_eq_true h0
    have hb : bk s = (0, 0) := by unfold bk; rw [if_pos h0]
    rw [hb]
    clear hb h0
    go_enter Tryz.func196, Tryz.ntmps196
    go_wp2_with fail
    refine (sRest H1.out.rd).mono ?_
    rintro e w1 ⟨rfl, rfl⟩
    go_wp2
    exact bodyPost_ret (v := .agg #[.int .i64 0, .int .i64 0]) (by simp [results, Tryz.results196, go_sem]) rfl ⟨rfl, HA.out⟩
  · have hd : decide (0 < s.R.length) = false := decide_eq_false h0
    have hb : bk s = endS s := by unfold bk; rw [if_neg h0]
    rw [hb]
    obtain ⟨f, hf⟩ : ∃ f, f = endS s := ⟨_, rfl⟩
    have HE := hidp (sEnd H1.out.rd)
    rw [← hf] at HE ⊢
    obtain ⟨x, y⟩ := f
    clear hb h0 hf
    go_enter Tryz.func196, Tryz.ntmps196
    go_wp2_with fail
    refine (sRest H1.out.rd).mono ?_
    rintro e w1 ⟨rfl, rfl⟩
    go_wp2_with fail
    refine HE.out.mono ?_
    rintro e w2 ⟨rfl, hb⟩
    have HB := hidp (HA.out.trans (hb.mono HA.out.size))
    have HR := hidp (hb.blk' HZ.out)
    clear hb HE HZ HA H1 c0 d0
    have c0 := HR.out.cell 0
    have c1 := HR.out.cell 1
    have f0 := HR.out.free 0
    have f1 := HR.out.free 1
    simp only [List.getElem?_cons_zero, List.getElem?_cons_succ] at c0 c1
    go_wp2
    have hb := (HR.out.set 0 (.int .i64 (x : Nat))).set 1 (.int .i64 (y : Nat))
    have hB5 := hidp ((HB.out.setCell (p := ⟨w.heap.size, 0, none⟩) (Nat.le_refl _) (.int .i64 (x : Nat))).setCell (p := ⟨w.heap.size, 1, none⟩) (Nat.le_refl _) (.int .i64 (y : Nat)))
    obtain ⟨W, hW⟩ : ∃ W, W = (w2.setCell ⟨w.heap.size, 0, none⟩ (.int .i64 (x : Nat))).setCell ⟨w.heap.size, 1, none⟩ (.int .i64 (y : Nat)) := ⟨_, rfl⟩
    rw [← hW] at hb hB5 ⊢
    have d0 : W.cell? ⟨w.heap.size, 0, none⟩ = some (.int .i64 (x : Nat)) := hb.cell 0
    have d1 : W.cell? ⟨w.heap.size, 1, none⟩ = some (.int .i64 (y : Nat)) := hb.cell 1
    exact bodyPost_ret (v := .agg #[.int .i64 (x : Nat), .int .i64 (y : Nat)]) (by simp [results, Tryz.results196, go_sem, d0, d1]) rfl ⟨rfl, hB5.out⟩
/-- What Decode tells as its fault. -/
def lastF (s : RS) (fe ff : Nat) : Nat × Nat := if fe ≠ 0 then (fe, ff) else endS s
set_option maxRecDepth 100000 in
set_option maxHeartbeats 2000000 in
theorem itend_any {w : World} {k g b n fe ff : Nat} {s : RS} (H : ItW w k g b s n fe ff) : Calls Tryz.prog 134 #[.pointer (some ⟨k, 0, none⟩)] w (FaP w (lastF s fe ff)) := by
  have HA := hidp ((Below.refl w.heap.size w).alloc (Nat.le_refl _) (.cells #[.int .i64 0, .int .i64 0] 52))
  have H1 := hidp (H.below HA.out)
  have HZ := hidp (Blk.new w [.int .i64 0, .int .i64 0] 52)
  have c0 := H1.out.kt.cell 0
  have c2 := H1.out.kt.cell 2
  have c3 := H1.out.kt.cell 3
  have d0 := H.kt.cell 0
  have d2 := H.kt.cell 2
  have d3 := H.kt.cell 3
  have kl := H.kt.lt
  simp only [List.getElem?_cons_zero, List.getElem?_cons_succ] at c0 d0 c2 d2 c3 d3
  clear H
  by_cases h0 : fe = 0
  · have hd : (((fe : Nat) : Int) != 0) = false := by rw [h0]; rfl
    have hb : lastF s fe ff = endS s := by unfold lastF; rw [if_neg (by omega)]
    rw [hb]
    obtain ⟨f, hf⟩ : ∃ f, f = endS s := ⟨_, rfl⟩
    have HE := hidp (sEnd H1.out.rd)
    rw [← hf] at HE ⊢
    obtain ⟨x, y⟩ := f
    clear hb h0 hf
    go_enter Tryz.func134, Tryz.ntmps134
    go_wp2_with fail
    refine HE.out.mono ?_
    rintro e w2 ⟨rfl, hb⟩
    have HB := hidp (HA.out.trans (hb.mono HA.out.size))
    have HR := hidp (hb.blk' HZ.out)
    clear hb HE HZ HA H1 c0 d0 c2 d2 c3 d3
    have c0 := HR.out.cell 0
    have c1 := HR.out.cell 1
    have f0 := HR.out.free 0
    have f1 := HR.out.free 1
    simp only [List.getElem?_cons_zero, List.getElem?_cons_succ] at c0 c1
    go_wp2
    have hb := (HR.out.set 0 (.int .i64 (x : Nat))).set 1 (.int .i64 (y : Nat))
    have hB5 := hidp ((HB.out.setCell (p := ⟨w.heap.size, 0, none⟩) (Nat.le_refl _) (.int .i64 (x : Nat))).setCell (p := ⟨w.heap.size, 1, none⟩) (Nat.le_refl _) (.int .i64 (y : Nat)))
    obtain ⟨W, hW⟩ : ∃ W, W = (w2.setCell ⟨w.heap.size, 0, none⟩ (.int .i64 (x : Nat))).setCell ⟨w.heap.size, 1, none⟩ (.int .i64 (y : Nat)) := ⟨_, rfl⟩
    rw [← hW] at hb hB5 ⊢
    have d0 : W.cell? ⟨w.heap.size, 0, none⟩ = some (.int .i64 (x : Nat)) := hb.cell 0
    have d1 : W.cell? ⟨w.heap.size, 1, none⟩ = some (.int .i64 (y : Nat)) := hb.cell 1
    exact bodyPost_ret (v := .agg #[.int .i64 (x : Nat), .int .i64 (y : Nat)]) (by simp [results, Tryz.results134, go_sem, d0, d1]) rfl ⟨rfl, hB5.out⟩
  · have hd : (((fe : Nat) : Int) != 0) = true := by rw [bne_iff_ne]; omega
    have hb : lastF s fe ff = (fe, ff) := by unfold lastF; rw [if_pos h0]
    have HB := hidp ((Below.refl w.heap.size w).alloc (Nat.le_refl _) (.cells #[.int .i64 (fe : Nat), .int .i64 (ff : Nat)] 52))
    rw [hb]
    clear hb h0 H1 HZ
    go_enter Tryz.func134, Tryz.ntmps134
    go_wp2
    exact bodyPost_ret (v := .agg #[.int .i64 (fe : Nat), .int .i64 (ff : Nat)]) (by simp [results, Tryz.results134, go_sem]) rfl ⟨rfl, HB.out⟩
end Go.Proofs.YtcmkmnidnapabaaGreat

/-! Bkg: Block: the items of a block's bytes: a header. -/
namespace Go.Proofs.YtcmkmnidnapabaaGreat
open Go.RowKit Go.Lib
set_option linter.unusedSimpArgs false
set_option linter.unusedVariables false

def itN (s : RS) : RS := rdN (fun R => pText R 65536) s
def itB (s : RS) : List Nat := rdV (fun R => pText R 65536) [] s
def itF (err : List Nat → Nat) (n : Nat) (s : RS) (fe ff : Nat) : Nat × Nat := if fe ≠ 0 then (fe, ff) else if (bk (itN s)).1 ≠ 0 then bk (itN s) else if err (itB s) ≠ 0 then (5, n - s.R.length) else bk (itN s)
def itS (s : RS) (fe : Nat) : RS := if fe ≠ 0 then s else itN s
theorem pText_len {R T : List Nat} {n : Nat} {most : Int} (h : pText R most = .ok T n) : T.length ≤ R.length := by
  unfold pText at h
  cases hk : pLen R most with
  | er m => rw [hk] at h; cases h
  | ok k m =>
    rw [hk] at h
    simp only at h
    by_cases hl : R.length - m < k
    · rw [if_pos hl] at h; cases h
    · rw [if_neg hl] at h
      cases h
      rw [List.length_take, List.length_drop]
      omega
theorem new_two {w6 t1 : World} {cs cs' : List Value} {T T2 : TypeId} (h : t1 = ((w6.alloc (.cells cs.toArray T)).alloc (.cells #[.int .i64 0, .int .i64 0] T2)).setRow w6.heap.size cs'.toArray) : Below w6.heap.size w6 t1 ∧ Blk t1 w6.heap.size cs' T ∧ Blk t1 (w6.heap.size + 1) [.int .i64 0, .int .i64 0] T2 := by
  have b := (But.refl w6.heap.size ((w6.alloc (.cells cs.toArray T)).alloc (.cells #[.int .i64 0, .int .i64 0] T2))).setRow cs'.toArray
  rw [← h] at b
  have k1 := (Blk.new w6 cs T).alloc (.cells #[.int .i64 0, .int .i64 0] T2)
  exact ⟨(((Below.refl w6.heap.size w6).alloc (Nat.le_refl _) _).alloc (by simp) _).trans (b.below (Nat.le_refl _)), by rw [h]; exact k1.row, b.blk (Blk.new' _ [.int .i64 0, .int .i64 0] _ _ (by simp)) (by omega)⟩
theorem two_cells {W : World} {b : Nat} {x y : Value} {T : TypeId} (h : Blk W b [x, y] T) : W.cell? ⟨b, 0, none⟩ = some x ∧ W.cell? ⟨b, 1, none⟩ = some y ∧ W.frozen? ⟨b, 0, none⟩ = false ∧ W.frozen? ⟨b, 1, none⟩ = false := ⟨h.cell 0, h.cell 1, h.free 0, h.free 1⟩
theorem itB_len (s : RS) : (itB s).length ≤ s.R.length := by
  unfold itB rdV
  split
  · simp
  · split
    · rename_i v n h
      exact pText_len h
    · simp
/-- An item under way: the result's block, the one that holds nothing. -/
structure ItUH (w W : World) (k g b : Nat) (s : RS) (n fe ff : Nat) : Prop where
  it : ItW W k g b s n fe ff
  r : Blk W w.heap.size (hC hdr0) 79
  z : Blk W (w.heap.size + 1) (hC hdr0) 79
  f : F2 k g w W
  kg : k < w.heap.size ∧ g < w.heap.size ∧ b < w.heap.size
theorem ItUH.below {w W W' : World} {k g b n fe ff : Nat} {s : RS} (H : ItUH w W k g b s n fe ff) (hb : Below W.heap.size W W') : ItUH w W' k g b s n fe ff := ⟨H.it.below hb, hb.blk' H.r, hb.blk' H.z, H.f.below hb, H.kg⟩
theorem ItUH.read {w W W' : World} {k g b n fe ff : Nat} {s s' : RS} (H : ItUH w W k g b s n fe ff) (hb : Bex g W W') (hr : RdS W' g b s') : ItUH w W' k g b s' n fe ff :=
  ⟨H.it.read hb hr, hb.blk H.r (by have := H.kg.2.1; omega), hb.blk H.z (by have := H.kg.2.1; omega), H.f.bexG hb, H.kg⟩
theorem ItUH.put {w W : World} {k g b n fe ff : Nat} {s : RS} (H : ItUH w W k g b s n fe ff) (x y : Nat) : ItUH w ((W.setCell ⟨k, 2, none⟩ (.int .i64 (x : Nat))).setCell ⟨k, 3, none⟩ (.int .i64 (y : Nat))) k g b s n x y :=
  ⟨H.it.put x y, (ItW.bexP W k _ _).blk H.r (by have := H.kg.1; omega), (ItW.bexP W k _ _).blk H.z (by have := H.kg.1; omega), H.f.bexK (ItW.bexP W k _ _), H.kg⟩
theorem ItUH.fin {w W W' : World} {k g b n fe ff : Nat} {s : RS} (H : ItUH w W k g b s n fe ff) (bt : But w.heap.size W W') : ItW W' k g b s n fe ff ∧ F2 k g w W' :=
  ⟨⟨bt.blk H.it.kt (by have := H.kg.1; omega), H.it.rd.bexA (Bex.of_but bt) (by have := H.kg.2.1; omega) (by have := H.kg.2.2; omega), H.it.ne⟩, H.f.butN bt (Nat.le_refl _)⟩
theorem ItUH.fc {w W : World} {k g b n fe ff : Nat} {s : RS} (H : ItUH w W k g b s n fe ff) : W.cell? ⟨k, 0, none⟩ = some (.pointer (some ⟨g, 0, none⟩)) ∧ W.cell? ⟨k, 2, none⟩ = some (.int .i64 (fe : Nat)) ∧ W.cell? ⟨k, 3, none⟩ = some (.int .i64 (ff : Nat)) ∧ W.frozen? ⟨k, 2, none⟩ = false ∧ W.frozen? ⟨k, 3, none⟩ = false := ⟨H.it.kt.cell 0, H.it.kt.cell 2, H.it.kt.cell 3, H.it.kt.free 2, H.it.kt.free 3⟩
def vH (s : RS) (fe : Nat) : Hdr := if fe = 0 ∧ (bk (itN s)).1 = 0 ∧ (decH (itB s)).2.1 = 0 then (decH (itB s)).1 else hdr0
def ItHP (w : World) (k g b : Nat) (s : RS) (n fe ff : Nat) (e : Ending) (w' : World) : Prop :=
  e = .returned (.agg (hC (vH s fe)).toArray) ∧ ItW w' k g b (itS s fe) n (itF (fun L => (decH L).2.1) n s fe ff).1 (itF (fun L => (decH L).2.1) n s fe ff).2 ∧ F2 k g w w'
theorem ItHP.old {w w' : World} {k g b n fe ff : Nat} {s : RS} (hfe : fe ≠ 0) (h1 : ItW w' k g b s n fe ff) (h2 : F2 k g w w') : ItHP w k g b s n fe ff (.returned (.agg (hC hdr0).toArray)) w' := by
  unfold ItHP vH itF itS
  rw [if_neg (fun h => hfe h.1), if_pos hfe, if_pos hfe]
  exact ⟨rfl, h1, h2⟩
theorem ItHP.brk {w w' : World} {k g b n ff x y : Nat} {s : RS} (hb : (x, y) = bk (itN s)) (hx : x ≠ 0) (h1 : ItW w' k g b (itN s) n x y) (h2 : F2 k g w w') : ItHP w k g b s n 0 ff (.returned (.agg (hC hdr0).toArray)) w' := by
  unfold ItHP vH itF itS
  rw [← hb, if_neg (fun h => hx h.2.1), if_neg (by simp), if_neg (by simp), if_pos hx]
  exact ⟨rfl, h1, h2⟩
theorem ItHP.err {w w' : World} {k g b n ff x y : Nat} {s : RS} (hb : (x, y) = bk (itN s)) (hx : x = 0) (he : (decH (itB s)).2.1 ≠ 0) (h1 : ItW w' k g b (itN s) n 5 (n - s.R.length)) (h2 : F2 k g w w') : ItHP w k g b s n 0 ff (.returned (.agg (hC hdr0).toArray)) w' := by
  unfold ItHP vH itF itS
  rw [← hb, if_neg (fun h => he h.2.2), if_neg (by simp), if_neg (by simp), if_neg (by simp [hx]), if_pos he]
  exact ⟨rfl, h1, h2⟩
theorem ItHP.good {w w' : World} {k g b n ff x y : Nat} {s : RS} {v : Hdr} {ex ey : Nat} (hb : (x, y) = bk (itN s)) (hx : x = 0) (hv : (v, ex, ey) = decH (itB s)) (he : ex = 0) (h1 : ItW w' k g b (itN s) n x y) (h2 : F2 k g w w') : ItHP w k g b s n 0 ff (.returned (.agg (hC v).toArray)) w' := by
  have e1 : (decH (itB s)).2.1 = 0 := by rw [← hv]; exact he
  have e2 : (decH (itB s)).1 = v := by rw [← hv]
  unfold ItHP vH itF itS
  rw [← hb, if_pos ⟨rfl, hx, e1⟩, if_neg (by simp), if_neg (by simp), if_neg (by simp [hx]), if_neg (by simp [e1]), e2]
  exact ⟨rfl, h1, h2⟩
theorem decH_hok {L : List Nat} (h : ∀ x ∈ L, x < 256) : HdrOk (decH L).1 := by
  unfold decH
  split
  · exact hdr0_ok
  · split
    · exact hdr0_ok
    · exact rdH_ok h
set_option maxRecDepth 100000 in
set_option maxHeartbeats 8000000 in
theorem itemH_any {w : World} {k g b n fe ff : Nat} {s : RS} (H : ItW w k g b s n fe ff) (hk : g < w.heap.size) (hn : s.R.length ≤ n) (hn4 : n ≤ 1000000) : Calls Tryz.prog 129 #[.pointer (some ⟨k, 0, none⟩), .func (.func 130) #[] #[]] w (ItHP w k g b s n fe ff) := by
  have hz : ∀ w, (zeroValue 79).run Tryz.prog w = .ok (.agg (hC hdr0).toArray) w := (zero_of_info (P := Tryz.prog) zero_hdr).1
  have hzf : ∀ w, (zeroValue 52).run Tryz.prog w = .ok (.agg #[.int .i64 0, .int .i64 0]) w := fun _ => by kernel_rfl
  have hl0 := hidp (hC_len hdr0_ok)
  have h10 := hidp (hC_one hdr0)
  have H0 : Hid (ItUH w ((w.alloc (.cells (hC hdr0).toArray 79)).alloc (.cells (hC hdr0).toArray 79)) k g b s n fe ff) := hidp (by
    have hb : Below w.heap.size w ((w.alloc (.cells (hC hdr0).toArray 79)).alloc (.cells (hC hdr0).toArray 79)) := ((Below.refl _ w).alloc (Nat.le_refl _) _).alloc (by simp) _
    exact ⟨H.below hb, (Blk.new w (hC hdr0) _).alloc _, Blk.new' _ (hC hdr0) _ _ (by simp), (F2.refl k g w).below hb, H.kt.lt, hk, H.rd.lt⟩)
  have HN := hidp (And.intro hn hn4)
  obtain ⟨W0, hW0⟩ : ∃ W0, W0 = (w.alloc (.cells (hC hdr0).toArray 79)).alloc (.cells (hC hdr0).toArray 79) := ⟨_, rfl⟩
  obtain ⟨c0, c2, c3, f2, f3⟩ := H0.out.fc
  by_cases hfe : fe = 0
  · subst hfe
    clear H hk hn hn4
    go_enter Tryz.func129, Tryz.ntmps129
    go_wp2_with fail
    rw [← hW0] at H0 ⊢
    clear hW0 c0 c2 c3 f2 f3
    have hT := hidp (H0.out.below (Below.refl _ _).drew)
    clear H0
    refine wp_region_held_drew (S := fun W => ItUH w W k g b s n 0 ff) (by kernel_rfl) hT.out (fun hHeld => ?_)
    try simp only [Act.put, List.setIfInBounds_toArray, List.set_cons_zero, List.set_cons_succ]
    refine wpAnyH_takeTo2 (i := 0) (oi := _) (v := ?_) (some 17) rfl rfl (by kernel_rfl) (by kernel_rfl) (by kernel_rfl) (fun _ _ _ h => h) (Or.inl ⟨by rfl, ?_⟩) hHeld ?_
    rotate_left
    · intro w' hSw
      go_simp
      try with_reducible rfl
    try simp only [Act.put, List.setIfInBounds_toArray, List.set_cons_zero, List.set_cons_succ]
    refine wpAnyH_takeTo2 (i := 1) (oi := _) (v := ?_) (some 18) rfl rfl (by kernel_rfl) (by kernel_rfl) (by kernel_rfl) (fun _ _ _ h => h) (Or.inl ⟨by rfl, ?_⟩) hHeld ?_
    rotate_left
    · intro w' hSw
      go_simp
      try with_reducible rfl
    try simp only [Act.put, List.setIfInBounds_toArray, List.set_cons_zero, List.set_cons_succ]
    refine wpAnyH_takeTo2 (i := 2) (oi := _) (v := ?_) (some 19) rfl rfl (by kernel_rfl) (by kernel_rfl) (by kernel_rfl) (fun _ _ _ h => h) (Or.inl ⟨by rfl, ?_⟩) hHeld ?_
    rotate_left
    · intro w' hSw
      go_simp
      try with_reducible rfl
    try simp only [Act.put, List.setIfInBounds_toArray, List.set_cons_zero, List.set_cons_succ]
    refine wpAnyH_takeTo2 (i := 3) (oi := _) (v := ?_) (some 20) rfl rfl (by kernel_rfl) (by kernel_rfl) (by kernel_rfl) (fun _ _ _ h => h) (Or.inl ⟨by rfl, ?_⟩) hHeld ?_
    rotate_left
    · intro w' hSw
      have q : w'.cell? ⟨k, 1, none⟩ = some (.int .i64 (n : Nat)) := hSw.it.kt.cell 1
      go_simp
      try with_reducible rfl
    try simp only [Act.put, List.setIfInBounds_toArray, List.set_cons_zero, List.set_cons_succ]
    refine wpAnyH_takeTo2 (i := 4) (oi := _) (v := ?_) (some 21) rfl rfl (by kernel_rfl) (by kernel_rfl) (by kernel_rfl) (fun _ _ _ h => h) (Or.inl ⟨by rfl, ?_⟩) hHeld ?_
    rotate_left
    · intro w' hSw
      go_simp
      try with_reducible rfl
    try simp only [Act.put, List.setIfInBounds_toArray, List.set_cons_zero, List.set_cons_succ]
    refine wpAnyH_takeTo2 (i := 5) (oi := _) (v := ?_) (some 22) rfl rfl (by kernel_rfl) (by kernel_rfl) (by kernel_rfl) (fun _ _ _ h => h) (Or.inl ⟨by rfl, ?_⟩) hHeld ?_
    rotate_left
    · intro w' hSw
      go_simp
      try with_reducible rfl
    try simp only [Act.put, List.setIfInBounds_toArray, List.set_cons_zero, List.set_cons_succ]
    refine wpAnyH_takeTo2 (i := 6) (oi := _) (v := ?_) (some 23) rfl rfl (by kernel_rfl) (by kernel_rfl) (by kernel_rfl) (fun _ _ _ h => h) (Or.inl ⟨by rfl, ?_⟩) hHeld ?_
    rotate_left
    · intro w' hSw
      go_simp
      try with_reducible rfl
    try simp only [Act.put, List.setIfInBounds_toArray, List.set_cons_zero, List.set_cons_succ]
    refine wpAnyH_takeTo2 (i := 7) (oi := _) (v := ?_) (some 24) rfl rfl (by kernel_rfl) (by kernel_rfl) (by kernel_rfl) (fun _ _ _ h => h) (Or.inl ⟨by rfl, ?_⟩) hHeld ?_
    rotate_left
    · intro w' hSw
      have q : w'.cell? ⟨k, 0, none⟩ = some (.pointer (some ⟨g, 0, none⟩)) := hSw.it.kt.cell 0
      go_simp
      try with_reducible rfl
    try simp only [Act.put, List.setIfInBounds_toArray, List.set_cons_zero, List.set_cons_succ]
    refine wpAnyH_ready (rs := [8]) (by kernel_rfl) (by simp) ?_
    refine AllReadyH.cons (o := _) rfl (fun K hK => ?_) AllReadyH.nil
    go_simp
    refine (sRest hT.out.it.rd).mono ?_
    rintro e wN ⟨rfl, rfl⟩
    go_wp2_with fail
    refine hK.out _ _ hT.out (fun hHeld' => ?_)
    clear hK K hHeld
    have hHeld := hHeld'
    clear hHeld'
    have hsub : IntKind.i64.wrap ((n : Int) - ((s.R.length : Nat) : Int)) = ((n - s.R.length : Nat) : Int) := by rw [IntKind.wrap_i64]; have := HN.out; omega
    try simp only [Act.put, List.setIfInBounds_toArray, List.set_cons_zero, List.set_cons_succ]
    refine wpAnyH_takeTo2 (i := 9) (oi := _) (v := ?_) (some 26) rfl rfl (by kernel_rfl) (by kernel_rfl) (by kernel_rfl) (fun _ _ _ h => h) (Or.inl ⟨by rfl, ?_⟩) hHeld ?_
    rotate_left
    · intro w' hSw
      go_simp
      try with_reducible rfl
    try simp only [Act.put, List.setIfInBounds_toArray, List.set_cons_zero, List.set_cons_succ]
    refine wpAnyH_takeTo2 (i := 10) (oi := _) (v := ?_) (some 6) rfl rfl (by kernel_rfl) (by kernel_rfl) (by kernel_rfl) (fun _ _ _ h => h) (Or.inl ⟨by rfl, ?_⟩) hHeld ?_
    rotate_left
    · intro w' hSw
      go_simp
      try with_reducible rfl
    try simp only [Act.put, List.setIfInBounds_toArray, List.set_cons_zero, List.set_cons_succ]
    refine wpAnyH_done (by kernel_rfl) ?_ _
    clear hHeld
    obtain ⟨c0, c2, c3, f2, f3⟩ := hT.out.fc
    go_wp2_with fail
    refine (sBytes hT.out.it.rd 65536 (by have := HN.out; omega)).mono ?_
    rintro e w3 ⟨⟨v, rfl, p, pb, pc, rfl, hpb, hpn, hbs⟩, hr, hbx⟩
    have H3 := hidp (hT.out.read hbx hr)
    have BS := hidp hbs
    have BL := hidp (itB_len s)
    have hpk := hidp (show k ≠ pb by have h1 := hT.out.f.size; have h2 := hT.out.kg.1; omega)
    clear hr hbx hbs hT c0 c2 c3 f2 f3 hpb hpn
    have eB : rdV (fun R => pText R 65536) [] s = itB s := rfl
    have eN : rdN (fun R => pText R 65536) s = itN s := rfl
    rw [eB] at BS ⊢
    rw [eN] at H3
    clear eB eN
    obtain ⟨c0, c2, c3, f2, f3⟩ := H3.out.fc
    go_wp2_with fail
    refine (broken_any H3.out.it).mono ?_
    rintro e w4 ⟨rfl, hb⟩
    have H4 := hidp (H3.out.below hb)
    replace BS := hidp (BS.out.below hb)
    clear hb H3 c0 c2 c3 f2 f3
    obtain ⟨f, hf⟩ : ∃ f, f = bk (itN s) := ⟨_, rfl⟩
    rw [← hf]
    obtain ⟨x, y⟩ := f
    have hF := hidp hf
    clear hf
    obtain ⟨c0, c2, c3, f2, f3⟩ := H4.out.fc
    have H5 := hidp (H4.out.put x y)
    have BS5 := hidp (show Bs ((w4.setCell ⟨k, 2, none⟩ (.int .i64 (x : Nat))).setCell ⟨k, 3, none⟩ (.int .i64 (y : Nat))) p pb 0 (itB s) pc from BS.out.bex (ItW.bexP w4 k _ _) (fun _ => hpk.out))
    obtain ⟨e0, e2, e3, g2, g3⟩ := H5.out.fc
    by_cases hx : x = 0
    · subst hx
      have hbz := hidp (show (bk (itN s)).1 = 0 by rw [← hF.out])
      go_wp2_with fail
      have hD := hidp (hdecode_any p pb 0 pc (itB s) _ BS5.out (by have := BL.out; have := HN.out; omega))
      obtain ⟨V, hV⟩ : ∃ V, V = decH (itB s) := ⟨_, rfl⟩
      rw [← hV] at hD
      obtain ⟨v, ex, ey⟩ := V
      have hVO := hidp (decH_hok BS.out.byte)
      rw [← hV] at hVO
      replace hV := hidp hV
      refine hD.out.mono ?_
      rintro e w6 ⟨rfl, hb⟩
      have H6 := hidp (H5.out.below hb)
      clear hb hD H5 H4 BS BS5 c0 c2 c3 f2 f3 e0 e2 e3 g2 g3
      have hlv := hidp (hC_len hVO.out)
      have h1v := hidp (hC_one v)
      have HB := hidp (fun (t1 : World) (h : t1 = ((w6.alloc (.cells (hC hdr0).toArray 79)).alloc (.cells #[.int .i64 0, .int .i64 0] 52)).setRow w6.heap.size (hC v).toArray) => new_two h)
      go_upto_region 10 with (with_reducible refine (?_ : wpList _ _ _ _ _ _); refine wpList_store_blk rfl 79 _ _ rfl w6.heap.size (hC v) (hC hdr0) 79 rfl rfl ((Blk.new w6 (hC hdr0) _).alloc _) (by rw [hlv.out]; kernel_rfl) (by rw [hlv.out, hl0.out]) h1v.out ?_; intro t1 ht1; obtain ⟨n1, n2, n3⟩ := HB.out t1 ht1.out; obtain ⟨z0, z1, y0, y1⟩ := two_cells n3; clear ht1; replace n1 := hidp n1; replace n2 := hidp n2; replace n3 := hidp n3)
      obtain ⟨W7, hW7⟩ : ∃ W, W = (t1.setCell ⟨w6.heap.size + 1, 0, none⟩ (.int .i64 (ex : Nat))).setCell ⟨w6.heap.size + 1, 1, none⟩ (.int .i64 (ey : Nat)) := ⟨_, rfl⟩
      have F7 := hidp (show Blk W7 (w6.heap.size + 1) [.int .i64 (ex : Nat), .int .i64 (ey : Nat)] 52 by rw [hW7]; exact (n3.out.set 0 _).set 1 _)
      have V7 := hidp (show Blk W7 w6.heap.size (hC v) 79 by rw [hW7]; exact (n2.out.other _ _ (by simp)).other _ _ (by simp))
      have H7 := hidp (H6.out.below (show Below w6.heap.size w6 W7 by rw [hW7]; exact (n1.out.setCell (p := ⟨w6.heap.size + 1, 0, none⟩) (by simp) _).setCell (p := ⟨w6.heap.size + 1, 1, none⟩) (by simp) _))
      rw [← hW7]
      clear hW7 n1 n2 n3 z0 z1 y0 y1 HB H6
      have q0 : W7.cell? ⟨w6.heap.size + 1, 0, none⟩ = some (.int .i64 (ex : Nat)) := F7.out.cell 0
      by_cases hex : ex = 0
      · have hbn : (((ex : Nat) : Int) != 0) = false := by rw [hex]; rfl
        have R0 := hidp H7.out.r
        replace hex := hidp hex
        go_wp2_with first
          | (with_reducible refine (?_ : wpList _ _ _ _ _ _); refine wpList_load_blk rfl 79 _ rfl w6.heap.size (hC v) 79 rfl V7.out _ Tryz.underlying79 rfl (by rw [hlv.out]; kernel_rfl) ?_)
          | (with_reducible refine (?_ : wpList _ _ _ _ _ _); refine wpList_store_blk rfl 79 _ _ rfl w.heap.size (hC v) (hC hdr0) 79 rfl rfl R0.out (by rw [hlv.out]; kernel_rfl) (by rw [hlv.out, hl0.out]) h1v.out ?_; intro w9 hw9)
        have R9 : Blk w9 w.heap.size (hC v) 79 := by rw [hw9.out]; exact R0.out.row
        have bt9 : But w.heap.size W7 w9 := by rw [hw9.out]; exact (But.refl _ _).setRow _
        have hF9 := H7.out.fin bt9
        refine bodyPost_ret (v := .agg (hC v).toArray) ?_ rfl (ItHP.good hF.out rfl hV.out hex.out hF9.1 hF9.2)
        exact results_row0 Tryz.results129 _ _ w.heap.size 79 _ _ rfl R9 Tryz.underlying79 rfl (by rw [hlv.out]; kernel_rfl)
      · have hbn : (((ex : Nat) : Int) != 0) = true := by rw [bne_iff_ne]; omega
        obtain ⟨c0, c2, c3, f2, f3⟩ := H7.out.fc
        have H8 := hidp (show ItUH w ((W7.setCell ⟨k, 2, none⟩ (.int .i64 5)).setCell ⟨k, 3, none⟩ (.int .i64 ((n - s.R.length : Nat) : Int))) k g b (itN s) n 5 (n - s.R.length) from H7.out.put 5 (n - s.R.length))
        replace hex := hidp hex
        have R0 := hidp H8.out.r
        have Z0 := hidp H8.out.z
        go_wp2_with first
          | (with_reducible refine (?_ : wpList _ _ _ _ _ _); refine wpList_load_blk rfl 79 _ rfl (w.heap.size + 1) (hC hdr0) 79 rfl Z0.out _ Tryz.underlying79 rfl (by rw [hl0.out]; kernel_rfl) ?_)
          | (with_reducible refine (?_ : wpList _ _ _ _ _ _); refine wpList_store_blk rfl 79 _ _ rfl w.heap.size (hC hdr0) (hC hdr0) 79 rfl rfl R0.out (by rw [hl0.out]; kernel_rfl) rfl h10.out ?_; intro w9 hw9)
        have R9 : Blk w9 w.heap.size (hC hdr0) 79 := by rw [hw9.out]; exact R0.out.row
        have hF0 := H8.out.fin (show But w.heap.size _ w9 by rw [hw9.out]; exact (But.refl _ _).setRow _)
        refine bodyPost_ret (v := .agg (hC hdr0).toArray) ?_ rfl (ItHP.err hF.out rfl (by rw [← hV.out]; exact hex.out) hF0.1 hF0.2)
        exact results_row0 Tryz.results129 _ _ w.heap.size 79 _ _ rfl R9 Tryz.underlying79 rfl (by rw [hl0.out]; kernel_rfl)
    · have hbn : (((x : Nat) : Int) != 0) = true := by rw [bne_iff_ne]; omega
      replace hx := hidp hx
      have R0 := hidp H5.out.r
      have Z0 := hidp H5.out.z
      go_wp2_with first
        | (with_reducible refine (?_ : wpList _ _ _ _ _ _); refine wpList_load_blk rfl 79 _ rfl (w.heap.size + 1) (hC hdr0) 79 rfl Z0.out _ Tryz.underlying79 rfl (by rw [hl0.out]; kernel_rfl) ?_)
        | (with_reducible refine (?_ : wpList _ _ _ _ _ _); refine wpList_store_blk rfl 79 _ _ rfl w.heap.size (hC hdr0) (hC hdr0) 79 rfl rfl R0.out (by rw [hl0.out]; kernel_rfl) rfl h10.out ?_; intro w9 hw9)
      have R9 : Blk w9 w.heap.size (hC hdr0) 79 := by rw [hw9.out]; exact R0.out.row
      have hF0 := H5.out.fin (show But w.heap.size _ w9 by rw [hw9.out]; exact (But.refl _ _).setRow _)
      refine bodyPost_ret (v := .agg (hC hdr0).toArray) ?_ rfl (ItHP.brk hF.out hx.out hF0.1 hF0.2)
      exact results_row0 Tryz.results129 _ _ w.heap.size 79 _ _ rfl R9 Tryz.underlying79 rfl (by rw [hl0.out]; kernel_rfl)
  · have hne : (((fe : Nat) : Int) != 0) = true := by rw [bne_iff_ne]; omega
    clear H hk hn hn4
    go_enter Tryz.func129, Tryz.ntmps129
    have R0 := hidp H0.out.r
    have Z0 := hidp H0.out.z
    go_wp2_with first
      | (with_reducible refine (?_ : wpList _ _ _ _ _ _); refine wpList_load_blk rfl 79 _ rfl (w.heap.size + 1) (hC hdr0) 79 rfl Z0.out _ Tryz.underlying79 rfl (by rw [hl0.out]; kernel_rfl) ?_)
      | (with_reducible refine (?_ : wpList _ _ _ _ _ _); refine wpList_store_blk rfl 79 _ _ rfl w.heap.size (hC hdr0) (hC hdr0) 79 rfl rfl R0.out (by rw [hl0.out]; kernel_rfl) rfl h10.out ?_; intro w9 hw9)
    have R9 : Blk w9 w.heap.size (hC hdr0) 79 := by rw [hw9.out]; exact R0.out.row
    have hF0 := H0.out.fin (show But w.heap.size _ w9 by rw [hw9.out]; exact (But.refl _ _).setRow _)
    refine bodyPost_ret (v := .agg (hC hdr0).toArray) ?_ rfl (ItHP.old hfe hF0.1 hF0.2)
    exact results_row0 Tryz.results129 _ _ w.heap.size 79 _ _ rfl R9 Tryz.underlying79 rfl (by rw [hl0.out]; kernel_rfl)
end Go.Proofs.YtcmkmnidnapabaaGreat

/-! Bkh: Block: the items of a block's bytes: a commit. -/
namespace Go.Proofs.YtcmkmnidnapabaaGreat
open Go.RowKit Go.Lib
set_option linter.unusedSimpArgs false
set_option linter.unusedVariables false

/-- An item under way: the result's block, the one that holds nothing. -/
structure ItUC (w W : World) (k g b : Nat) (s : RS) (n fe ff : Nat) : Prop where
  it : ItW W k g b s n fe ff
  r : Blk W w.heap.size (cC 0 zh32 (.slice none 0 0)) 82
  z : Blk W (w.heap.size + 1) (cC 0 zh32 (.slice none 0 0)) 82
  f : F2 k g w W
  kg : k < w.heap.size ∧ g < w.heap.size ∧ b < w.heap.size
theorem ItUC.below {w W W' : World} {k g b n fe ff : Nat} {s : RS} (H : ItUC w W k g b s n fe ff) (hb : Below W.heap.size W W') : ItUC w W' k g b s n fe ff := ⟨H.it.below hb, hb.blk' H.r, hb.blk' H.z, H.f.below hb, H.kg⟩
theorem ItUC.read {w W W' : World} {k g b n fe ff : Nat} {s s' : RS} (H : ItUC w W k g b s n fe ff) (hb : Bex g W W') (hr : RdS W' g b s') : ItUC w W' k g b s' n fe ff :=
  ⟨H.it.read hb hr, hb.blk H.r (by have := H.kg.2.1; omega), hb.blk H.z (by have := H.kg.2.1; omega), H.f.bexG hb, H.kg⟩
theorem ItUC.put {w W : World} {k g b n fe ff : Nat} {s : RS} (H : ItUC w W k g b s n fe ff) (x y : Nat) : ItUC w ((W.setCell ⟨k, 2, none⟩ (.int .i64 (x : Nat))).setCell ⟨k, 3, none⟩ (.int .i64 (y : Nat))) k g b s n x y :=
  ⟨H.it.put x y, (ItW.bexP W k _ _).blk H.r (by have := H.kg.1; omega), (ItW.bexP W k _ _).blk H.z (by have := H.kg.1; omega), H.f.bexK (ItW.bexP W k _ _), H.kg⟩
theorem ItUC.fin {w W W' : World} {k g b n fe ff : Nat} {s : RS} (H : ItUC w W k g b s n fe ff) (bt : But w.heap.size W W') : ItW W' k g b s n fe ff ∧ F2 k g w W' :=
  ⟨⟨bt.blk H.it.kt (by have := H.kg.1; omega), H.it.rd.bexA (Bex.of_but bt) (by have := H.kg.2.1; omega) (by have := H.kg.2.2; omega), H.it.ne⟩, H.f.butN bt (Nat.le_refl _)⟩
theorem ItUC.fc {w W : World} {k g b n fe ff : Nat} {s : RS} (H : ItUC w W k g b s n fe ff) : W.cell? ⟨k, 0, none⟩ = some (.pointer (some ⟨g, 0, none⟩)) ∧ W.cell? ⟨k, 2, none⟩ = some (.int .i64 (fe : Nat)) ∧ W.cell? ⟨k, 3, none⟩ = some (.int .i64 (ff : Nat)) ∧ W.frozen? ⟨k, 2, none⟩ = false ∧ W.frozen? ⟨k, 3, none⟩ = false := ⟨H.it.kt.cell 0, H.it.kt.cell 2, H.it.kt.cell 3, H.it.kt.free 2, H.it.kt.free 3⟩
def dc0 : DC := ⟨0, zh32, [], 0, 0⟩
def vC (s : RS) (fe : Nat) : DC := if fe = 0 ∧ (bk (itN s)).1 = 0 ∧ (decC (itB s)).e = 0 then decC (itB s) else dc0
def ItCP (w : World) (k g b : Nat) (s : RS) (n fe ff : Nat) (e : Ending) (w' : World) : Prop :=
  (∃ sv, e = .returned (.agg (cC (vC s fe).h (vC s fe).p sv).toArray) ∧ OwnT w' w.heap.size sv (vC s fe).l) ∧ ItW w' k g b (itS s fe) n (itF (fun L => (decC L).e) n s fe ff).1 (itF (fun L => (decC L).e) n s fe ff).2 ∧ F2 k g w w'
theorem ItCP.old {w w' : World} {k g b n fe ff : Nat} {s : RS} (hfe : fe ≠ 0) (h1 : ItW w' k g b s n fe ff) (h2 : F2 k g w w') : ItCP w k g b s n fe ff (.returned (.agg (cC 0 zh32 (.slice none 0 0)).toArray)) w' := by
  unfold ItCP vC itF itS
  rw [if_neg (fun h => hfe h.1), if_pos hfe, if_pos hfe]
  exact ⟨⟨_, rfl, OwnT.nil _ _⟩, h1, h2⟩
theorem ItCP.brk {w w' : World} {k g b n ff x y : Nat} {s : RS} (hb : (x, y) = bk (itN s)) (hx : x ≠ 0) (h1 : ItW w' k g b (itN s) n x y) (h2 : F2 k g w w') : ItCP w k g b s n 0 ff (.returned (.agg (cC 0 zh32 (.slice none 0 0)).toArray)) w' := by
  unfold ItCP vC itF itS
  rw [← hb, if_neg (fun h => hx h.2.1), if_neg (by simp), if_neg (by simp), if_pos hx]
  exact ⟨⟨_, rfl, OwnT.nil _ _⟩, h1, h2⟩
theorem ItCP.err {w w' : World} {k g b n ff x y : Nat} {s : RS} (hb : (x, y) = bk (itN s)) (hx : x = 0) (he : (decC (itB s)).e ≠ 0) (h1 : ItW w' k g b (itN s) n 5 (n - s.R.length)) (h2 : F2 k g w w') : ItCP w k g b s n 0 ff (.returned (.agg (cC 0 zh32 (.slice none 0 0)).toArray)) w' := by
  unfold ItCP vC itF itS
  rw [← hb, if_neg (fun h => he h.2.2), if_neg (by simp), if_neg (by simp), if_neg (by simp [hx]), if_pos he]
  exact ⟨⟨_, rfl, OwnT.nil _ _⟩, h1, h2⟩
theorem ItCP.good {w w' : World} {k g b n ff x y : Nat} {s : RS} {sv : Value} (hb : (x, y) = bk (itN s)) (hx : x = 0) (he : (decC (itB s)).e = 0) (ho : OwnT w' w.heap.size sv (decC (itB s)).l) (h1 : ItW w' k g b (itN s) n x y) (h2 : F2 k g w w') : ItCP w k g b s n 0 ff (.returned (.agg (cC (decC (itB s)).h (decC (itB s)).p sv).toArray)) w' := by
  unfold ItCP vC itF itS
  rw [← hb, if_pos ⟨rfl, hx, he⟩, if_neg (by simp), if_neg (by simp), if_neg (by simp [hx]), if_neg (by simp [he])]
  exact ⟨⟨_, rfl, ho⟩, h1, h2⟩
theorem dcE_p (e : Nat) (f : Int) : (dcE e f).p.length = 32 := rfl
theorem decC_pl {L : List Nat} (h : ∀ x ∈ L, x < 256) : (decC L).p.length = 32 := by
  unfold decC
  repeat' split
  · exact dcE_p _ _
  · exact dcE_p _ _
  · exact dcE_p _ _
  · exact (cP_bytes h).1
theorem OwnT.neT {W : World} {B b : Nat} {v : Value} {l : List Vt} {cs : List Value} {T : TypeId} (h : OwnT W B v l) (hb : Blk W b cs T) (hT : T ≠ 169) : v.ownBlock ≠ some b := by
  intro e
  rcases h.2 with ⟨h1, _⟩ | ⟨g, cap, cur, h1, h2, h3, _⟩
  · rw [h1] at e; cases e
  · rw [h1] at e
    simp only [Value.ownBlock, Option.some.injEq] at e
    subst e
    rw [show W.heap[g]? = _ from hb] at h3
    cases h3
    exact hT rfl
set_option maxRecDepth 100000 in
set_option maxHeartbeats 8000000 in
theorem itemC_any {w : World} {k g b n fe ff : Nat} {s : RS} (H : ItW w k g b s n fe ff) (hk : g < w.heap.size) (hn : s.R.length ≤ n) (hn4 : n ≤ 1000000) : Calls Tryz.prog 131 #[.pointer (some ⟨k, 0, none⟩), .func (.func 132) #[] #[]] w (ItCP w k g b s n fe ff) := by
  have hz : ∀ w, (zeroValue 82).run Tryz.prog w = .ok (.agg (cC 0 zh32 (.slice none 0 0)).toArray) w := (zero_of_info (P := Tryz.prog) zero_com).1
  have hzf : ∀ w, (zeroValue 52).run Tryz.prog w = .ok (.agg #[.int .i64 0, .int .i64 0]) w := fun _ => by kernel_rfl
  have hl0 := hidp (cC_len (h := 0) (sl := .slice none 0 0) (p := zh32) rfl)
  have h10 := hidp (cC_one 0 zh32 none 0 0)
  have H0 : Hid (ItUC w ((w.alloc (.cells (cC 0 zh32 (.slice none 0 0)).toArray 82)).alloc (.cells (cC 0 zh32 (.slice none 0 0)).toArray 82)) k g b s n fe ff) := hidp (by
    have hb : Below w.heap.size w ((w.alloc (.cells (cC 0 zh32 (.slice none 0 0)).toArray 82)).alloc (.cells (cC 0 zh32 (.slice none 0 0)).toArray 82)) := ((Below.refl _ w).alloc (Nat.le_refl _) _).alloc (by simp) _
    exact ⟨H.below hb, (Blk.new w (cC 0 zh32 (.slice none 0 0)) _).alloc _, Blk.new' _ (cC 0 zh32 (.slice none 0 0)) _ _ (by simp), (F2.refl k g w).below hb, H.kt.lt, hk, H.rd.lt⟩)
  have HN := hidp (And.intro hn hn4)
  obtain ⟨W0, hW0⟩ : ∃ W0, W0 = (w.alloc (.cells (cC 0 zh32 (.slice none 0 0)).toArray 82)).alloc (.cells (cC 0 zh32 (.slice none 0 0)).toArray 82) := ⟨_, rfl⟩
  obtain ⟨c0, c2, c3, f2, f3⟩ := H0.out.fc
  by_cases hfe : fe = 0
  · subst hfe
    clear H hk hn hn4
    go_enter Tryz.func131, Tryz.ntmps131
    go_wp2_with fail
    rw [← hW0] at H0 ⊢
    clear hW0 c0 c2 c3 f2 f3
    have hT := hidp (H0.out.below (Below.refl _ _).drew)
    clear H0
    refine wp_region_held_drew (S := fun W => ItUC w W k g b s n 0 ff) (by kernel_rfl) hT.out (fun hHeld => ?_)
    try simp only [Act.put, List.setIfInBounds_toArray, List.set_cons_zero, List.set_cons_succ]
    refine wpAnyH_takeTo2 (i := 0) (oi := _) (v := ?_) (some 17) rfl rfl (by kernel_rfl) (by kernel_rfl) (by kernel_rfl) (fun _ _ _ h => h) (Or.inl ⟨by rfl, ?_⟩) hHeld ?_
    rotate_left
    · intro w' hSw
      go_simp
      try with_reducible rfl
    try simp only [Act.put, List.setIfInBounds_toArray, List.set_cons_zero, List.set_cons_succ]
    refine wpAnyH_takeTo2 (i := 1) (oi := _) (v := ?_) (some 18) rfl rfl (by kernel_rfl) (by kernel_rfl) (by kernel_rfl) (fun _ _ _ h => h) (Or.inl ⟨by rfl, ?_⟩) hHeld ?_
    rotate_left
    · intro w' hSw
      go_simp
      try with_reducible rfl
    try simp only [Act.put, List.setIfInBounds_toArray, List.set_cons_zero, List.set_cons_succ]
    refine wpAnyH_takeTo2 (i := 2) (oi := _) (v := ?_) (some 19) rfl rfl (by kernel_rfl) (by kernel_rfl) (by kernel_rfl) (fun _ _ _ h => h) (Or.inl ⟨by rfl, ?_⟩) hHeld ?_
    rotate_left
    · intro w' hSw
      go_simp
      try with_reducible rfl
    try simp only [Act.put, List.setIfInBounds_toArray, List.set_cons_zero, List.set_cons_succ]
    refine wpAnyH_takeTo2 (i := 3) (oi := _) (v := ?_) (some 20) rfl rfl (by kernel_rfl) (by kernel_rfl) (by kernel_rfl) (fun _ _ _ h => h) (Or.inl ⟨by rfl, ?_⟩) hHeld ?_
    rotate_left
    · intro w' hSw
      have q : w'.cell? ⟨k, 1, none⟩ = some (.int .i64 (n : Nat)) := hSw.it.kt.cell 1
      go_simp
      try with_reducible rfl
    try simp only [Act.put, List.setIfInBounds_toArray, List.set_cons_zero, List.set_cons_succ]
    refine wpAnyH_takeTo2 (i := 4) (oi := _) (v := ?_) (some 21) rfl rfl (by kernel_rfl) (by kernel_rfl) (by kernel_rfl) (fun _ _ _ h => h) (Or.inl ⟨by rfl, ?_⟩) hHeld ?_
    rotate_left
    · intro w' hSw
      go_simp
      try with_reducible rfl
    try simp only [Act.put, List.setIfInBounds_toArray, List.set_cons_zero, List.set_cons_succ]
    refine wpAnyH_takeTo2 (i := 5) (oi := _) (v := ?_) (some 22) rfl rfl (by kernel_rfl) (by kernel_rfl) (by kernel_rfl) (fun _ _ _ h => h) (Or.inl ⟨by rfl, ?_⟩) hHeld ?_
    rotate_left
    · intro w' hSw
      go_simp
      try with_reducible rfl
    try simp only [Act.put, List.setIfInBounds_toArray, List.set_cons_zero, List.set_cons_succ]
    refine wpAnyH_takeTo2 (i := 6) (oi := _) (v := ?_) (some 23) rfl rfl (by kernel_rfl) (by kernel_rfl) (by kernel_rfl) (fun _ _ _ h => h) (Or.inl ⟨by rfl, ?_⟩) hHeld ?_
    rotate_left
    · intro w' hSw
      go_simp
      try with_reducible rfl
    try simp only [Act.put, List.setIfInBounds_toArray, List.set_cons_zero, List.set_cons_succ]
    refine wpAnyH_takeTo2 (i := 7) (oi := _) (v := ?_) (some 24) rfl rfl (by kernel_rfl) (by kernel_rfl) (by kernel_rfl) (fun _ _ _ h => h) (Or.inl ⟨by rfl, ?_⟩) hHeld ?_
    rotate_left
    · intro w' hSw
      have q : w'.cell? ⟨k, 0, none⟩ = some (.pointer (some ⟨g, 0, none⟩)) := hSw.it.kt.cell 0
      go_simp
      try with_reducible rfl
    try simp only [Act.put, List.setIfInBounds_toArray, List.set_cons_zero, List.set_cons_succ]
    refine wpAnyH_ready (rs := [8]) (by kernel_rfl) (by simp) ?_
    refine AllReadyH.cons (o := _) rfl (fun K hK => ?_) AllReadyH.nil
    go_simp
    refine (sRest hT.out.it.rd).mono ?_
    rintro e wN ⟨rfl, rfl⟩
    go_wp2_with fail
    refine hK.out _ _ hT.out (fun hHeld' => ?_)
    clear hK K hHeld
    have hHeld := hHeld'
    clear hHeld'
    have hsub : IntKind.i64.wrap ((n : Int) - ((s.R.length : Nat) : Int)) = ((n - s.R.length : Nat) : Int) := by rw [IntKind.wrap_i64]; have := HN.out; omega
    try simp only [Act.put, List.setIfInBounds_toArray, List.set_cons_zero, List.set_cons_succ]
    refine wpAnyH_takeTo2 (i := 9) (oi := _) (v := ?_) (some 26) rfl rfl (by kernel_rfl) (by kernel_rfl) (by kernel_rfl) (fun _ _ _ h => h) (Or.inl ⟨by rfl, ?_⟩) hHeld ?_
    rotate_left
    · intro w' hSw
      go_simp
      try with_reducible rfl
    try simp only [Act.put, List.setIfInBounds_toArray, List.set_cons_zero, List.set_cons_succ]
    refine wpAnyH_takeTo2 (i := 10) (oi := _) (v := ?_) (some 6) rfl rfl (by kernel_rfl) (by kernel_rfl) (by kernel_rfl) (fun _ _ _ h => h) (Or.inl ⟨by rfl, ?_⟩) hHeld ?_
    rotate_left
    · intro w' hSw
      go_simp
      try with_reducible rfl
    try simp only [Act.put, List.setIfInBounds_toArray, List.set_cons_zero, List.set_cons_succ]
    refine wpAnyH_done (by kernel_rfl) ?_ _
    clear hHeld
    obtain ⟨c0, c2, c3, f2, f3⟩ := hT.out.fc
    go_wp2_with fail
    refine (sBytes hT.out.it.rd 65536 (by have := HN.out; omega)).mono ?_
    rintro e w3 ⟨⟨v, rfl, p, pb, pc, rfl, hpb, hpn, hbs⟩, hr, hbx⟩
    have H3 := hidp (hT.out.read hbx hr)
    have BS := hidp hbs
    have BL := hidp (itB_len s)
    have hpk := hidp (show k ≠ pb by have h1 := hT.out.f.size; have h2 := hT.out.kg.1; omega)
    clear hr hbx hbs hT c0 c2 c3 f2 f3 hpb hpn
    have eB : rdV (fun R => pText R 65536) [] s = itB s := rfl
    have eN : rdN (fun R => pText R 65536) s = itN s := rfl
    rw [eB] at BS ⊢
    rw [eN] at H3
    clear eB eN
    obtain ⟨c0, c2, c3, f2, f3⟩ := H3.out.fc
    go_wp2_with fail
    refine (broken_any H3.out.it).mono ?_
    rintro e w4 ⟨rfl, hb⟩
    have H4 := hidp (H3.out.below hb)
    replace BS := hidp (BS.out.below hb)
    clear hb H3 c0 c2 c3 f2 f3
    obtain ⟨f, hf⟩ : ∃ f, f = bk (itN s) := ⟨_, rfl⟩
    rw [← hf]
    obtain ⟨x, y⟩ := f
    have hF := hidp hf
    clear hf
    obtain ⟨c0, c2, c3, f2, f3⟩ := H4.out.fc
    have H5 := hidp (H4.out.put x y)
    have BS5 := hidp (show Bs ((w4.setCell ⟨k, 2, none⟩ (.int .i64 (x : Nat))).setCell ⟨k, 3, none⟩ (.int .i64 (y : Nat))) p pb 0 (itB s) pc from BS.out.bex (ItW.bexP w4 k _ _) (fun _ => hpk.out))
    obtain ⟨e0, e2, e3, g2, g3⟩ := H5.out.fc
    by_cases hx : x = 0
    · subst hx
      have hbz := hidp (show (bk (itN s)).1 = 0 by rw [← hF.out])
      go_wp2_with fail
      have hD := hidp (cdecode_any p pb 0 pc (itB s) _ BS5.out (by have := BL.out; have := HN.out; omega))
      have hlp := hidp (decC_pl BS.out.byte)
      obtain ⟨ex, hex0⟩ : ∃ ex, ex = (decC (itB s)).e := ⟨_, rfl⟩
      obtain ⟨EY, hey0⟩ : ∃ ey : Int, ey = (decC (itB s)).f := ⟨_, rfl⟩
      rw [← hex0, ← hey0] at hD
      have hEX := hidp hex0.symm
      clear hex0 hey0
      refine hD.out.mono ?_
      rintro e w6 ⟨⟨sv, rfl, ht⟩, hb⟩
      obtain ⟨pp, cc, rfl, _⟩ := ht.slice
      have H6 := hidp (H5.out.below hb)
      have hsz := hidp H5.out.f.size
      have OT6 := hidp ht
      clear hb ht hD H5 H4 BS BS5 c0 c2 c3 f2 f3 e0 e2 e3 g2 g3
      have hlv := hidp (cC_len (h := (decC (itB s)).h) (sl := .slice pp (decC (itB s)).l.length cc) hlp.out)
      have h1v := hidp (cC_one (decC (itB s)).h (decC (itB s)).p pp (decC (itB s)).l.length cc)
      have HB := hidp (fun (t1 : World) (h : t1 = ((w6.alloc (.cells (cC 0 zh32 (.slice none 0 0)).toArray 82)).alloc (.cells #[.int .i64 0, .int .i64 0] 52)).setRow w6.heap.size (cC (decC (itB s)).h (decC (itB s)).p (.slice pp (decC (itB s)).l.length cc)).toArray) => new_two h)
      go_upto_region 10 with (with_reducible refine (?_ : wpList _ _ _ _ _ _); refine wpList_store_blk rfl 82 _ _ rfl w6.heap.size (cC (decC (itB s)).h (decC (itB s)).p (.slice pp (decC (itB s)).l.length cc)) (cC 0 zh32 (.slice none 0 0)) 82 rfl rfl ((Blk.new w6 (cC 0 zh32 (.slice none 0 0)) _).alloc _) (by rw [hlv.out]; kernel_rfl) (by rw [hlv.out, hl0.out]) h1v.out ?_; intro t1 ht1; obtain ⟨n1, n2, n3⟩ := HB.out t1 ht1.out; obtain ⟨z0, z1, y0, y1⟩ := two_cells n3; clear ht1; replace n1 := hidp n1; replace n2 := hidp n2; replace n3 := hidp n3)
      obtain ⟨W7, hW7⟩ : ∃ W, W = (t1.setCell ⟨w6.heap.size + 1, 0, none⟩ (.int .i64 (ex : Nat))).setCell ⟨w6.heap.size + 1, 1, none⟩ (.int .i64 EY) := ⟨_, rfl⟩
      have F7 := hidp (show Blk W7 (w6.heap.size + 1) [.int .i64 (ex : Nat), .int .i64 EY] 52 by rw [hW7]; exact (n3.out.set 0 _).set 1 _)
      have V7 := hidp (show Blk W7 w6.heap.size (cC (decC (itB s)).h (decC (itB s)).p (.slice pp (decC (itB s)).l.length cc)) 82 by rw [hW7]; exact (n2.out.other _ _ (by simp)).other _ _ (by simp))
      have H7 := hidp (H6.out.below (show Below w6.heap.size w6 W7 by rw [hW7]; exact (n1.out.setCell (p := ⟨w6.heap.size + 1, 0, none⟩) (by simp) _).setCell (p := ⟨w6.heap.size + 1, 1, none⟩) (by simp) _))
      have OT7 := hidp (OT6.out.below (show Below w6.heap.size w6 W7 by rw [hW7]; exact (n1.out.setCell (p := ⟨w6.heap.size + 1, 0, none⟩) (by simp) _).setCell (p := ⟨w6.heap.size + 1, 1, none⟩) (by simp) _))
      clear OT6
      rw [← hW7]
      clear hW7 n1 n2 n3 z0 z1 y0 y1 HB H6
      have q0 : W7.cell? ⟨w6.heap.size + 1, 0, none⟩ = some (.int .i64 (ex : Nat)) := F7.out.cell 0
      by_cases hex : ex = 0
      · have hbn : (((ex : Nat) : Int) != 0) = false := by rw [hex]; rfl
        have R0 := hidp H7.out.r
        replace hex := hidp hex
        go_wp2_with first
          | (with_reducible refine (?_ : wpList _ _ _ _ _ _); refine wpList_load_blk rfl 82 _ rfl w6.heap.size (cC (decC (itB s)).h (decC (itB s)).p (.slice pp (decC (itB s)).l.length cc)) 82 rfl V7.out _ Tryz.underlying82 rfl (by rw [hlv.out]; kernel_rfl) ?_)
          | (with_reducible refine (?_ : wpList _ _ _ _ _ _); refine wpList_store_blk rfl 82 _ _ rfl w.heap.size (cC (decC (itB s)).h (decC (itB s)).p (.slice pp (decC (itB s)).l.length cc)) (cC 0 zh32 (.slice none 0 0)) 82 rfl rfl R0.out (by rw [hlv.out]; kernel_rfl) (by rw [hlv.out, hl0.out]) h1v.out ?_; intro w9 hw9)
        have R9 : Blk w9 w.heap.size (cC (decC (itB s)).h (decC (itB s)).p (.slice pp (decC (itB s)).l.length cc)) 82 := by rw [hw9.out]; exact R0.out.row
        have bt9 : But w.heap.size W7 w9 := by rw [hw9.out]; exact (But.refl _ _).setRow _
        have hF9 := H7.out.fin bt9
        refine bodyPost_ret (v := .agg (cC (decC (itB s)).h (decC (itB s)).p (.slice pp (decC (itB s)).l.length cc)).toArray) ?_ rfl (ItCP.good hF.out rfl (by rw [hEX.out]; exact hex.out) ((OT7.out.butK bt9 (OT7.out.neT R0.out (by decide))).mono (by have := H7.out.f.size; have := hsz.out; omega)) hF9.1 hF9.2)
        exact results_row0 Tryz.results131 _ _ w.heap.size 82 _ _ rfl R9 Tryz.underlying82 rfl (by rw [hlv.out]; kernel_rfl)
      · have hbn : (((ex : Nat) : Int) != 0) = true := by rw [bne_iff_ne]; omega
        obtain ⟨c0, c2, c3, f2, f3⟩ := H7.out.fc
        have H8 := hidp (show ItUC w ((W7.setCell ⟨k, 2, none⟩ (.int .i64 5)).setCell ⟨k, 3, none⟩ (.int .i64 ((n - s.R.length : Nat) : Int))) k g b (itN s) n 5 (n - s.R.length) from H7.out.put 5 (n - s.R.length))
        replace hex := hidp hex
        have R0 := hidp H8.out.r
        have Z0 := hidp H8.out.z
        go_wp2_with first
          | (with_reducible refine (?_ : wpList _ _ _ _ _ _); refine wpList_load_blk rfl 82 _ rfl (w.heap.size + 1) (cC 0 zh32 (.slice none 0 0)) 82 rfl Z0.out _ Tryz.underlying82 rfl (by rw [hl0.out]; kernel_rfl) ?_)
          | (with_reducible refine (?_ : wpList _ _ _ _ _ _); refine wpList_store_blk rfl 82 _ _ rfl w.heap.size (cC 0 zh32 (.slice none 0 0)) (cC 0 zh32 (.slice none 0 0)) 82 rfl rfl R0.out (by rw [hl0.out]; kernel_rfl) rfl h10.out ?_; intro w9 hw9)
        have R9 : Blk w9 w.heap.size (cC 0 zh32 (.slice none 0 0)) 82 := by rw [hw9.out]; exact R0.out.row
        have hF0 := H8.out.fin (show But w.heap.size _ w9 by rw [hw9.out]; exact (But.refl _ _).setRow _)
        refine bodyPost_ret (v := .agg (cC 0 zh32 (.slice none 0 0)).toArray) ?_ rfl (ItCP.err hF.out rfl (by rw [hEX.out]; exact hex.out) hF0.1 hF0.2)
        exact results_row0 Tryz.results131 _ _ w.heap.size 82 _ _ rfl R9 Tryz.underlying82 rfl (by rw [hl0.out]; kernel_rfl)
    · have hbn : (((x : Nat) : Int) != 0) = true := by rw [bne_iff_ne]; omega
      replace hx := hidp hx
      have R0 := hidp H5.out.r
      have Z0 := hidp H5.out.z
      go_wp2_with first
        | (with_reducible refine (?_ : wpList _ _ _ _ _ _); refine wpList_load_blk rfl 82 _ rfl (w.heap.size + 1) (cC 0 zh32 (.slice none 0 0)) 82 rfl Z0.out _ Tryz.underlying82 rfl (by rw [hl0.out]; kernel_rfl) ?_)
        | (with_reducible refine (?_ : wpList _ _ _ _ _ _); refine wpList_store_blk rfl 82 _ _ rfl w.heap.size (cC 0 zh32 (.slice none 0 0)) (cC 0 zh32 (.slice none 0 0)) 82 rfl rfl R0.out (by rw [hl0.out]; kernel_rfl) rfl h10.out ?_; intro w9 hw9)
      have R9 : Blk w9 w.heap.size (cC 0 zh32 (.slice none 0 0)) 82 := by rw [hw9.out]; exact R0.out.row
      have hF0 := H5.out.fin (show But w.heap.size _ w9 by rw [hw9.out]; exact (But.refl _ _).setRow _)
      refine bodyPost_ret (v := .agg (cC 0 zh32 (.slice none 0 0)).toArray) ?_ rfl (ItCP.brk hF.out hx.out hF0.1 hF0.2)
      exact results_row0 Tryz.results131 _ _ w.heap.size 82 _ _ rfl R9 Tryz.underlying82 rfl (by rw [hl0.out]; kernel_rfl)
  · have hne : (((fe : Nat) : Int) != 0) = true := by rw [bne_iff_ne]; omega
    clear H hk hn hn4
    go_enter Tryz.func131, Tryz.ntmps131
    have R0 := hidp H0.out.r
    have Z0 := hidp H0.out.z
    go_wp2_with first
      | (with_reducible refine (?_ : wpList _ _ _ _ _ _); refine wpList_load_blk rfl 82 _ rfl (w.heap.size + 1) (cC 0 zh32 (.slice none 0 0)) 82 rfl Z0.out _ Tryz.underlying82 rfl (by rw [hl0.out]; kernel_rfl) ?_)
      | (with_reducible refine (?_ : wpList _ _ _ _ _ _); refine wpList_store_blk rfl 82 _ _ rfl w.heap.size (cC 0 zh32 (.slice none 0 0)) (cC 0 zh32 (.slice none 0 0)) 82 rfl rfl R0.out (by rw [hl0.out]; kernel_rfl) rfl h10.out ?_; intro w9 hw9)
    have R9 : Blk w9 w.heap.size (cC 0 zh32 (.slice none 0 0)) 82 := by rw [hw9.out]; exact R0.out.row
    have hF0 := H0.out.fin (show But w.heap.size _ w9 by rw [hw9.out]; exact (But.refl _ _).setRow _)
    refine bodyPost_ret (v := .agg (cC 0 zh32 (.slice none 0 0)).toArray) ?_ rfl (ItCP.old hfe hF0.1 hF0.2)
    exact results_row0 Tryz.results131 _ _ w.heap.size 82 _ _ rfl R9 Tryz.underlying82 rfl (by rw [hl0.out]; kernel_rfl)
end Go.Proofs.YtcmkmnidnapabaaGreat

/-! Bki: Block: the items of a block's bytes: a set. -/
namespace Go.Proofs.YtcmkmnidnapabaaGreat
open Go.RowKit Go.Lib
set_option linter.unusedSimpArgs false
set_option linter.unusedVariables false

/-- An item under way. -/
structure ItUV (w W : World) (k g b : Nat) (s : RS) (n fe ff : Nat) : Prop where
  it : ItW W k g b s n fe ff
  f : F2 k g w W
  kg : k < w.heap.size ∧ g < w.heap.size
theorem ItUV.below {w W W' : World} {k g b n fe ff : Nat} {s : RS} (H : ItUV w W k g b s n fe ff) (hb : Below W.heap.size W W') : ItUV w W' k g b s n fe ff := ⟨H.it.below hb, H.f.below hb, H.kg⟩
theorem ItUV.read {w W W' : World} {k g b n fe ff : Nat} {s s' : RS} (H : ItUV w W k g b s n fe ff) (hb : Bex g W W') (hr : RdS W' g b s') : ItUV w W' k g b s' n fe ff := ⟨H.it.read hb hr, H.f.bexG hb, H.kg⟩
theorem ItUV.put {w W : World} {k g b n fe ff : Nat} {s : RS} (H : ItUV w W k g b s n fe ff) (x y : Nat) : ItUV w ((W.setCell ⟨k, 2, none⟩ (.int .i64 (x : Nat))).setCell ⟨k, 3, none⟩ (.int .i64 (y : Nat))) k g b s n x y :=
  ⟨H.it.put x y, H.f.bexK (ItW.bexP W k _ _), H.kg⟩
theorem ItUV.fc {w W : World} {k g b n fe ff : Nat} {s : RS} (H : ItUV w W k g b s n fe ff) : W.cell? ⟨k, 0, none⟩ = some (.pointer (some ⟨g, 0, none⟩)) ∧ W.cell? ⟨k, 2, none⟩ = some (.int .i64 (fe : Nat)) ∧ W.cell? ⟨k, 3, none⟩ = some (.int .i64 (ff : Nat)) ∧ W.frozen? ⟨k, 2, none⟩ = false ∧ W.frozen? ⟨k, 3, none⟩ = false := ⟨H.it.kt.cell 0, H.it.kt.cell 2, H.it.kt.cell 3, H.it.kt.free 2, H.it.kt.free 3⟩
def vV (s : RS) (fe : Nat) : List Vd := if fe = 0 ∧ (bk (itN s)).1 = 0 ∧ (decO (itB s)).2.1 = 0 then (decO (itB s)).1 else []
def ItVP (w : World) (k g b : Nat) (s : RS) (n fe ff : Nat) (e : Ending) (w' : World) : Prop :=
  (∃ p q c, e = .returned (.slice p (vV s fe).length c) ∧ w.heap.size ≤ q ∧ Vs w' p q 0 c (vV s fe) ∧ Ow w' q (vV s fe).length) ∧ ItW w' k g b (itS s fe) n (itF (fun L => (decO L).2.1) n s fe ff).1 (itF (fun L => (decO L).2.1) n s fe ff).2 ∧ F2 k g w w'
theorem Vs.nil0 (w : World) (q : Nat) : Vs w none q 0 0 [] := ⟨by simp, by simp, fun h => absurd h (by omega), fun i v hi => by simp at hi⟩
theorem Ow.nil0 (w : World) (q : Nat) : Ow w q 0 := fun h => absurd h (by omega)
theorem ItVP.nothing {w w' : World} {k g b n fe ff : Nat} {s : RS} (hv : vV s fe = []) (h1 : ItW w' k g b (itS s fe) n (itF (fun L => (decO L).2.1) n s fe ff).1 (itF (fun L => (decO L).2.1) n s fe ff).2) (h2 : F2 k g w w') : ItVP w k g b s n fe ff (.returned (.slice none 0 0)) w' := by
  unfold ItVP
  rw [hv]
  exact ⟨⟨none, w.heap.size, 0, rfl, Nat.le_refl _, Vs.nil0 _ _, Ow.nil0 _ _⟩, h1, h2⟩
theorem ItVP.old {w w' : World} {k g b n fe ff : Nat} {s : RS} (hfe : fe ≠ 0) (h1 : ItW w' k g b s n fe ff) (h2 : F2 k g w w') : ItVP w k g b s n fe ff (.returned (.slice none 0 0)) w' := by
  refine ItVP.nothing (by unfold vV; rw [if_neg (fun h => hfe h.1)]) ?_ h2
  unfold itF itS
  rw [if_pos hfe, if_pos hfe]
  exact h1
theorem ItVP.brk {w w' : World} {k g b n ff x y : Nat} {s : RS} (hb : (x, y) = bk (itN s)) (hx : x ≠ 0) (h1 : ItW w' k g b (itN s) n x y) (h2 : F2 k g w w') : ItVP w k g b s n 0 ff (.returned (.slice none 0 0)) w' := by
  refine ItVP.nothing (by unfold vV; rw [← hb, if_neg (fun h => hx h.2.1)]) ?_ h2
  unfold itF itS
  rw [← hb, if_neg (by simp), if_neg (by simp), if_pos hx]
  exact h1
theorem ItVP.err {w w' : World} {k g b n ff x y : Nat} {s : RS} (hb : (x, y) = bk (itN s)) (hx : x = 0) (he : (decO (itB s)).2.1 ≠ 0) (h1 : ItW w' k g b (itN s) n 5 (n - s.R.length)) (h2 : F2 k g w w') : ItVP w k g b s n 0 ff (.returned (.slice none 0 0)) w' := by
  refine ItVP.nothing (by unfold vV; rw [if_neg (fun h => he h.2.2)]) ?_ h2
  unfold itF itS
  rw [← hb, if_neg (by simp), if_neg (by simp), if_neg (by simp [hx]), if_pos he]
  exact h1
theorem ItVP.good {w w' : World} {k g b n ff x y : Nat} {s : RS} {p : Option Addr} {q c : Nat} (hb : (x, y) = bk (itN s)) (hx : x = 0) (he : (decO (itB s)).2.1 = 0) (hq : w.heap.size ≤ q) (hv : Vs w' p q 0 c (decO (itB s)).1) (ho : Ow w' q (decO (itB s)).1.length) (h1 : ItW w' k g b (itN s) n x y) (h2 : F2 k g w w') : ItVP w k g b s n 0 ff (.returned (.slice p (decO (itB s)).1.length c)) w' := by
  unfold ItVP vV itF itS
  rw [← hb, if_pos ⟨rfl, hx, he⟩, if_neg (by simp), if_neg (by simp), if_neg (by simp [hx]), if_neg (by simp [he])]
  exact ⟨⟨p, q, c, rfl, hq, hv, ho⟩, h1, h2⟩
set_option maxRecDepth 100000 in
set_option maxHeartbeats 8000000 in
theorem itemV_any {w : World} {k g b n fe ff : Nat} {s : RS} (H : ItW w k g b s n fe ff) (hk : g < w.heap.size) (hn : s.R.length ≤ n) (hn4 : n ≤ 1000000) : Calls Tryz.prog 133 #[.pointer (some ⟨k, 0, none⟩), .func (.func 70) #[] #[]] w (ItVP w k g b s n fe ff) := by
  have H0 : Hid (ItUV w w k g b s n fe ff) := hidp ⟨H, F2.refl k g w, H.kt.lt, hk⟩
  have HN := hidp (And.intro hn hn4)
  obtain ⟨c0, c2, c3, f2, f3⟩ := H0.out.fc
  by_cases hfe : fe = 0
  · subst hfe
    clear H hk hn hn4
    go_enter Tryz.func133, Tryz.ntmps133
    go_wp2_with fail
    clear c0 c2 c3 f2 f3
    have hT := hidp (H0.out.below (Below.refl _ _).drew)
    clear H0
    refine wp_region_held_drew (S := fun W => ItUV w W k g b s n 0 ff) (by kernel_rfl) hT.out (fun hHeld => ?_)
    try simp only [Act.put, List.setIfInBounds_toArray, List.set_cons_zero, List.set_cons_succ]
    refine wpAnyH_takeTo2 (i := 0) (oi := _) (v := ?_) (some 17) rfl rfl (by kernel_rfl) (by kernel_rfl) (by kernel_rfl) (fun _ _ _ h => h) (Or.inl ⟨by rfl, ?_⟩) hHeld ?_
    rotate_left
    · intro w' hSw
      go_simp
      try with_reducible rfl
    try simp only [Act.put, List.setIfInBounds_toArray, List.set_cons_zero, List.set_cons_succ]
    refine wpAnyH_takeTo2 (i := 1) (oi := _) (v := ?_) (some 18) rfl rfl (by kernel_rfl) (by kernel_rfl) (by kernel_rfl) (fun _ _ _ h => h) (Or.inl ⟨by rfl, ?_⟩) hHeld ?_
    rotate_left
    · intro w' hSw
      go_simp
      try with_reducible rfl
    try simp only [Act.put, List.setIfInBounds_toArray, List.set_cons_zero, List.set_cons_succ]
    refine wpAnyH_takeTo2 (i := 2) (oi := _) (v := ?_) (some 19) rfl rfl (by kernel_rfl) (by kernel_rfl) (by kernel_rfl) (fun _ _ _ h => h) (Or.inl ⟨by rfl, ?_⟩) hHeld ?_
    rotate_left
    · intro w' hSw
      go_simp
      try with_reducible rfl
    try simp only [Act.put, List.setIfInBounds_toArray, List.set_cons_zero, List.set_cons_succ]
    refine wpAnyH_takeTo2 (i := 3) (oi := _) (v := ?_) (some 20) rfl rfl (by kernel_rfl) (by kernel_rfl) (by kernel_rfl) (fun _ _ _ h => h) (Or.inl ⟨by rfl, ?_⟩) hHeld ?_
    rotate_left
    · intro w' hSw
      have q : w'.cell? ⟨k, 1, none⟩ = some (.int .i64 (n : Nat)) := hSw.it.kt.cell 1
      go_simp
      try with_reducible rfl
    try simp only [Act.put, List.setIfInBounds_toArray, List.set_cons_zero, List.set_cons_succ]
    refine wpAnyH_takeTo2 (i := 4) (oi := _) (v := ?_) (some 21) rfl rfl (by kernel_rfl) (by kernel_rfl) (by kernel_rfl) (fun _ _ _ h => h) (Or.inl ⟨by rfl, ?_⟩) hHeld ?_
    rotate_left
    · intro w' hSw
      go_simp
      try with_reducible rfl
    try simp only [Act.put, List.setIfInBounds_toArray, List.set_cons_zero, List.set_cons_succ]
    refine wpAnyH_takeTo2 (i := 5) (oi := _) (v := ?_) (some 22) rfl rfl (by kernel_rfl) (by kernel_rfl) (by kernel_rfl) (fun _ _ _ h => h) (Or.inl ⟨by rfl, ?_⟩) hHeld ?_
    rotate_left
    · intro w' hSw
      go_simp
      try with_reducible rfl
    try simp only [Act.put, List.setIfInBounds_toArray, List.set_cons_zero, List.set_cons_succ]
    refine wpAnyH_takeTo2 (i := 6) (oi := _) (v := ?_) (some 23) rfl rfl (by kernel_rfl) (by kernel_rfl) (by kernel_rfl) (fun _ _ _ h => h) (Or.inl ⟨by rfl, ?_⟩) hHeld ?_
    rotate_left
    · intro w' hSw
      go_simp
      try with_reducible rfl
    try simp only [Act.put, List.setIfInBounds_toArray, List.set_cons_zero, List.set_cons_succ]
    refine wpAnyH_takeTo2 (i := 7) (oi := _) (v := ?_) (some 24) rfl rfl (by kernel_rfl) (by kernel_rfl) (by kernel_rfl) (fun _ _ _ h => h) (Or.inl ⟨by rfl, ?_⟩) hHeld ?_
    rotate_left
    · intro w' hSw
      have q : w'.cell? ⟨k, 0, none⟩ = some (.pointer (some ⟨g, 0, none⟩)) := hSw.it.kt.cell 0
      go_simp
      try with_reducible rfl
    try simp only [Act.put, List.setIfInBounds_toArray, List.set_cons_zero, List.set_cons_succ]
    refine wpAnyH_ready (rs := [8]) (by kernel_rfl) (by simp) ?_
    refine AllReadyH.cons (o := _) rfl (fun K hK => ?_) AllReadyH.nil
    go_simp
    refine (sRest hT.out.it.rd).mono ?_
    rintro e wN ⟨rfl, rfl⟩
    go_wp2_with fail
    refine hK.out _ _ hT.out (fun hHeld' => ?_)
    clear hK K hHeld
    have hHeld := hHeld'
    clear hHeld'
    have hsub : IntKind.i64.wrap ((n : Int) - ((s.R.length : Nat) : Int)) = ((n - s.R.length : Nat) : Int) := by rw [IntKind.wrap_i64]; have := HN.out; omega
    try simp only [Act.put, List.setIfInBounds_toArray, List.set_cons_zero, List.set_cons_succ]
    refine wpAnyH_takeTo2 (i := 9) (oi := _) (v := ?_) (some 26) rfl rfl (by kernel_rfl) (by kernel_rfl) (by kernel_rfl) (fun _ _ _ h => h) (Or.inl ⟨by rfl, ?_⟩) hHeld ?_
    rotate_left
    · intro w' hSw
      go_simp
      try with_reducible rfl
    try simp only [Act.put, List.setIfInBounds_toArray, List.set_cons_zero, List.set_cons_succ]
    refine wpAnyH_takeTo2 (i := 10) (oi := _) (v := ?_) (some 6) rfl rfl (by kernel_rfl) (by kernel_rfl) (by kernel_rfl) (fun _ _ _ h => h) (Or.inl ⟨by rfl, ?_⟩) hHeld ?_
    rotate_left
    · intro w' hSw
      go_simp
      try with_reducible rfl
    try simp only [Act.put, List.setIfInBounds_toArray, List.set_cons_zero, List.set_cons_succ]
    refine wpAnyH_done (by kernel_rfl) ?_ _
    clear hHeld
    obtain ⟨c0, c2, c3, f2, f3⟩ := hT.out.fc
    go_wp2_with fail
    refine (sBytes hT.out.it.rd 65536 (by have := HN.out; omega)).mono ?_
    rintro e w3 ⟨⟨v, rfl, p, pb, pc, rfl, hpb, hpn, hbs⟩, hr, hbx⟩
    have H3 := hidp (hT.out.read hbx hr)
    have BS := hidp hbs
    have BL := hidp (itB_len s)
    have hpk := hidp (show k ≠ pb by have h1 := hT.out.f.size; have h2 := hT.out.kg.1; omega)
    clear hr hbx hbs hT c0 c2 c3 f2 f3 hpb hpn
    have eB : rdV (fun R => pText R 65536) [] s = itB s := rfl
    have eN : rdN (fun R => pText R 65536) s = itN s := rfl
    rw [eB] at BS ⊢
    rw [eN] at H3
    clear eB eN
    obtain ⟨c0, c2, c3, f2, f3⟩ := H3.out.fc
    go_wp2_with fail
    refine (broken_any H3.out.it).mono ?_
    rintro e w4 ⟨rfl, hb⟩
    have H4 := hidp (H3.out.below hb)
    replace BS := hidp (BS.out.below hb)
    clear hb H3 c0 c2 c3 f2 f3
    obtain ⟨f, hf⟩ : ∃ f, f = bk (itN s) := ⟨_, rfl⟩
    rw [← hf]
    obtain ⟨x, y⟩ := f
    have hF := hidp hf
    clear hf
    obtain ⟨c0, c2, c3, f2, f3⟩ := H4.out.fc
    have H5 := hidp (H4.out.put x y)
    have BS5 := hidp (show Bs ((w4.setCell ⟨k, 2, none⟩ (.int .i64 (x : Nat))).setCell ⟨k, 3, none⟩ (.int .i64 (y : Nat))) p pb 0 (itB s) pc from BS.out.bex (ItW.bexP w4 k _ _) (fun _ => hpk.out))
    obtain ⟨e0, e2, e3, g2, g3⟩ := H5.out.fc
    by_cases hx : x = 0
    · subst hx
      go_wp2_with fail
      have hD := hidp (decode_own p pb 0 pc (itB s) _ BS5.out (by have := BL.out; have := HN.out; omega))
      obtain ⟨ex, hex0⟩ : ∃ ex, ex = (decO (itB s)).2.1 := ⟨_, rfl⟩
      obtain ⟨ey, hey0⟩ : ∃ ey, ey = (decO (itB s)).2.2 := ⟨_, rfl⟩
      rw [← hex0, ← hey0] at hD
      have hEX := hidp hex0.symm
      clear hex0 hey0
      refine hD.out.mono ?_
      rintro e w6 ⟨⟨pp, q, cc, rfl, hq, hvs, how⟩, hb⟩
      have H6 := hidp (H5.out.below hb)
      have VS6 := hidp (And.intro (show w.heap.size ≤ q by have := H5.out.f.size; omega) (And.intro hvs how))
      clear hb hD H5 H4 BS BS5 c0 c2 c3 f2 f3 e0 e2 e3 g2 g3 hq hvs how
      go_upto_region 10 with fail
      obtain ⟨W7, hW7⟩ : ∃ W, W = w6.alloc (.cells #[.int .i64 (ex : Nat), .int .i64 (ey : Nat)] 52) := ⟨_, rfl⟩
      have B7 := hidp (show Below w6.heap.size w6 W7 by rw [hW7]; exact (Below.refl _ _).alloc (Nat.le_refl _) _)
      have F7 := hidp (show Blk W7 w6.heap.size [.int .i64 (ex : Nat), .int .i64 (ey : Nat)] 52 by rw [hW7]; exact Blk.new w6 [.int .i64 (ex : Nat), .int .i64 (ey : Nat)] _)
      have H7 := hidp (H6.out.below B7.out)
      have VS7 := hidp (And.intro VS6.out.1 (And.intro (VS6.out.2.1.below B7.out) (VS6.out.2.2.below B7.out)))
      rw [← hW7]
      clear hW7 B7 H6 VS6
      have q0 : W7.cell? ⟨w6.heap.size, 0, none⟩ = some (.int .i64 (ex : Nat)) := F7.out.cell 0
      by_cases hex : ex = 0
      · have hbn : (((ex : Nat) : Int) != 0) = false := by rw [hex]; rfl
        replace hex := hidp hex
        go_wp2
        go_ret
        exact ItVP.good hF.out rfl (by rw [hEX.out]; exact hex.out) VS7.out.1 VS7.out.2.1 VS7.out.2.2 H7.out.it H7.out.f
      · have hbn : (((ex : Nat) : Int) != 0) = true := by rw [bne_iff_ne]; omega
        obtain ⟨c0, c2, c3, f2, f3⟩ := H7.out.fc
        have H8 := hidp (show ItUV w ((W7.setCell ⟨k, 2, none⟩ (.int .i64 5)).setCell ⟨k, 3, none⟩ (.int .i64 ((n - s.R.length : Nat) : Int))) k g b (itN s) n 5 (n - s.R.length) from H7.out.put 5 (n - s.R.length))
        replace hex := hidp hex
        go_wp2
        go_ret
        exact ItVP.err hF.out rfl (by rw [hEX.out]; exact hex.out) H8.out.it H8.out.f
    · have hbn : (((x : Nat) : Int) != 0) = true := by rw [bne_iff_ne]; omega
      replace hx := hidp hx
      go_wp2
      go_ret
      exact ItVP.brk hF.out hx.out H5.out.it H5.out.f
  · have hne : (((fe : Nat) : Int) != 0) = true := by rw [bne_iff_ne]; omega
    clear H hk hn hn4
    go_enter Tryz.func133, Tryz.ntmps133
    go_wp2
    go_ret
    exact ItVP.old hfe H0.out.it H0.out.f
end Go.Proofs.YtcmkmnidnapabaaGreat
