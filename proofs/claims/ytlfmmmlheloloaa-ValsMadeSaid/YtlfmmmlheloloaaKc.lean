/-
  Contracts: again: a thing, read, is written.
-/
import Derived.Test.YtlfmmmlheloloaaQg
import Derived.Test.YtlfmmmlheloloaaJv
namespace Go.Proofs.Ytlfmmmlheloloaa
open Go.RowKit Go.Lib Go.Maps
attribute [local go_sem] run_bits run_frombits

/-- A Thing of a kind, of zeros otherwise. -/
def zT (kind : Int) : List Value := thL kind 0 none 0 0 (List.replicate 32 0) (List.replicate 4 0) 0 false
theorem RdX.lower {B : Nat} {w w' : World} {g t b : Nat} {R : List Nat} {e f : Nat} (H : RdX w g t b R e f) (hB : Below B w w') (hg : g < B) (hb : b < B) : RdX w' g t b R e f := by
  obtain ⟨p, o, c, h⟩ := H
  exact ⟨p, o, c, ⟨h.blk.below hB hg, ⟨h.bs.byte, h.bs.le, fun h0 => ⟨(h.bs.ptr h0).1, Nat.lt_of_lt_of_le (h.bs.ptr h0).2 hB.size⟩, fun i hi => (hB.cell (p := ⟨b, o + i, none⟩) hb).trans (h.bs.here i hi)⟩, h.ne, h.lim⟩⟩
theorem mEndX {w : World} {g t b : Nat} {R : List Nat} {e0 f0 : Nat} (H : RdX w g t b R e0 f0) (n m : Nat) (hE : endE e0 t f0 R = (n, m)) :
    Calls Try.prog 31 #[.pointer (some ⟨g, 0, none⟩)] w fun e w' => e = .returned (.agg #[.int .i64 (n : Nat), .int .i64 (m : Nat)]) ∧ Below w.heap.size w w' := by
  obtain ⟨p, o, c, h⟩ := H
  have q := mEnd_any g t p b o c R e0 f0 w h
  rw [hE] at q
  exact q
theorem mRestX {w : World} {g t b : Nat} {R : List Nat} {e0 f0 : Nat} (H : RdX w g t b R e0 f0) :
    Calls Try.prog 29 #[.pointer (some ⟨g, 0, none⟩)] w fun e w' => e = .returned (.int .i64 (R.length : Nat)) ∧ w = w' := by
  obtain ⟨p, o, c, h⟩ := H
  exact mRest_any g t p b o c R e0 f0 w h
theorem endE_cases (t f : Nat) (R : List Nat) : ∃ x y : Nat, endE 0 t f R = (x, y) ∧ ((x = 0 ∧ y = 0) ∨ (x = 4 ∧ 0 < R.length)) := by
  by_cases h0 : 0 < R.length
  · exact ⟨4, t, by unfold endE; rw [if_neg (by omega), if_pos h0], .inr ⟨rfl, h0⟩⟩
  · exact ⟨0, 0, by unfold endE; rw [if_neg (by omega), if_neg h0], .inl ⟨rfl, rfl⟩⟩
/-- A reader, a writer made later, and a Thing in a box of later still. -/
structure Ag (w0 w : World) (gr t b : Nat) (R : List Nat) (e f : Nat) (gw lim : Nat) (v : Value) (X : List Nat) (T : List Value) : Prop where
  rd : RdX w gr t b R e f
  wr : Wr w gw lim v X 0
  bel : Below gr w0 w
  box : Blk w w0.heap.size T 39
  hgr : gr < gw
  hb : b < gw
  hgw : gw < w0.heap.size
  own : ∀ k, v.ownBlock = some k → k < w0.heap.size
theorem Ag.start {w0 w1 : World} {gr t b : Nat} {R : List Nat} {gw lim : Nat} {v : Value} {X : List Nat} {T : List Value} (hr : RdX w0 gr t b R 0 0) (hw : Wr w0 gw lim v X 0) (hgr : gr < gw) (hb : b < gw) {A : Array Value}
    (h1 : w1 = (w0.alloc (.cells A 39)).setRow w0.heap.size T.toArray) : Ag w0 w1 gr t b R 0 0 gw lim v X T := by
  have hB : Below w0.heap.size w0 w1 := by rw [h1]; exact below_setRow ((Below.refl _ w0).alloc (Nat.le_refl _) _) (Nat.le_refl _) _
  have hlt := hw.blk.lt
  exact ⟨hr.lower hB (by omega) (by omega), hw.below hB, ⟨hB.os, hB.tape, hB.output, hB.size, fun k hk => hB.block k (by omega)⟩, by rw [h1]; exact (Blk.new w0 A.toList _).row, hgr, hb, hlt, fun k hk => (hw.ownGe hk).2⟩
theorem Ag.below {w0 w w' : World} {gr t b : Nat} {R : List Nat} {e f : Nat} {gw lim : Nat} {v : Value} {X : List Nat} {T : List Value} (H : Ag w0 w gr t b R e f gw lim v X T) (hB : Below w.heap.size w w') : Ag w0 w' gr t b R e f gw lim v X T := by
  have hl := H.wr.blk.lt
  have h1 := H.hgr
  have h2 := H.hb
  exact ⟨H.rd.lower hB (by omega) (by omega), H.wr.below hB, ⟨hB.os.trans H.bel.os, hB.tape.trans H.bel.tape, hB.output.trans H.bel.output, Nat.le_trans H.bel.size hB.size, fun k hk => (hB.block k (by omega)).trans (H.bel.block k hk)⟩, H.box.below hB H.box.lt, h1, h2, H.hgw, H.own⟩
theorem Ag.read {w0 w w' : World} {gr t b : Nat} {R : List Nat} {e f : Nat} {gw lim : Nat} {v : Value} {X : List Nat} {T : List Value} (H : Ag w0 w gr t b R e f gw lim v X T) {t' e' f' : Nat} {R' : List Nat} (hr : RdX w' gr t' b R' e' f') (hx : Bex gr w w') : Ag w0 w' gr t' b R' e' f' gw lim v X T := by
  have hl := H.wr.blk.lt
  have h1 := H.hgr
  have h3 := H.hgw
  exact ⟨hr, H.wr.bex hx (by omega) (fun h => by have := H.wr.ownGe h; omega), ⟨hx.os.trans H.bel.os, hx.tape.trans H.bel.tape, hx.output.trans H.bel.output, Nat.le_trans H.bel.size hx.size, fun k hk => (hx.block k (by omega) (by omega)).trans (H.bel.block k hk)⟩, hx.blk H.box (by omega), h1, H.hb, H.hgw, H.own⟩
theorem Ag.at {w0 w w' : World} {gr t b : Nat} {R : List Nat} {e f : Nat} {gw lim : Nat} {v : Value} {X : List Nat} {T T' : List Value} (H : Ag w0 w gr t b R e f gw lim v X T) (hx : Bex w0.heap.size w w') (hk : Blk w' w0.heap.size T' 39) : Ag w0 w' gr t b R e f gw lim v X T' := by
  have hl := H.hgw
  have h1 := H.hgr
  have h2 := H.hb
  exact ⟨H.rd.bexA hx (by omega) (by omega), H.wr.bex hx (by omega) (fun h => by have := H.own _ h; omega), ⟨hx.os.trans H.bel.os, hx.tape.trans H.bel.tape, hx.output.trans H.bel.output, Nat.le_trans H.bel.size hx.size, fun k hk => (hx.block k (by have := H.wr.blk.lt; omega) (by omega)).trans (H.bel.block k hk)⟩, hk, h1, h2, hl, H.own⟩
theorem Ag.set {w0 w : World} {gr t b : Nat} {R : List Nat} {e f : Nat} {gw lim : Nat} {v : Value} {X : List Nat} {T : List Value} (H : Ag w0 w gr t b R e f gw lim v X T) (i : Nat) (u : Value) : Ag w0 (w.setCell ⟨w0.heap.size, i, none⟩ u) gr t b R e f gw lim v X (T.set i u) :=
  H.at ((Bex.refl _ w).setCell i u) (H.box.set i u)
theorem Ag.tell {w0 w : World} {gr t b : Nat} {R : List Nat} {e f : Nat} {gw lim : Nat} {v : Value} {X : List Nat} {T T' : List Value} (h : T = T') (H : Ag w0 w gr t b R e f gw lim v X T) : Ag w0 w gr t b R e f gw lim v X T' := h ▸ H
/-- What again leaves behind a fault. -/
def AgE (w0 : World) (gr t b x : Nat) (e : Ending) (w' : World) : Prop := e = .returned (.bool false) ∧ RdX w' gr t b [] x t ∧ Below gr w0 w'
/-- What again leaves, all being well. -/
def AgP (w0 : World) (gr t b : Nat) (R : List Nat) (gw lim : Nat) (X : List Nat) (e : Ending) (w' : World) : Prop := e = .returned (.bool true) ∧ ∃ v', RdX w' gr t b R 0 0 ∧ Wr w' gw lim v' X 0 ∧ Below gr w0 w' ∧ w0.heap.size ≤ w'.heap.size
theorem Ag.wrote {w0 w w' : World} {gr t b : Nat} {R : List Nat} {gw lim : Nat} {v : Value} {X : List Nat} {T : List Value} (H : Ag w0 w gr t b R 0 0 gw lim v X T) {e : Ending} {Y : List Nat} (h : PutP w gw lim v Y e w') : e = .returned (.int .i64 0) ∧ AgP w0 gr t b R gw lim Y (.returned (.bool true)) w' := by
  obtain ⟨rfl, v', h1, h2⟩ := h
  have hB := h2.toBelow H.wr
  have h3 := H.hgr
  exact ⟨rfl, rfl, v', H.rd.lower hB h3 H.hb, h1, ⟨hB.os.trans H.bel.os, hB.tape.trans H.bel.tape, hB.output.trans H.bel.output, Nat.le_trans H.bel.size hB.size, fun k hk => (hB.block k (by omega)).trans (H.bel.block k hk)⟩, Nat.le_trans H.bel.size hB.size⟩

set_option maxRecDepth 100000 in
set_option maxHeartbeats 1000000 in
theorem again0_ok {w : World} {gr t : Nat} {p : Option Addr} {b o cap : Nat} {R : List Nat} {gw lim : Nat} {v : Value} {X : List Nat} (hr : Rd w gr t p b o cap R 0 0) (hw : Wr w gw lim v X 0) (hgr : gr < gw) (hb : b < gw) (hfit : X.length + R.length ≤ lim) (v0 : Nat) (n : Nat) (hp : pNum R = .ok v0 n) :
    Calls Try.prog 45 #[.pointer (some ⟨gr, 0, none⟩), .pointer (some ⟨gw, 0, none⟩), .int .i64 0] w (AgP w gr (t + n) b (R.drop n) gw lim (X ++ R.take n)) := by
  have hby := hr.bs.byte
  have B32 : Bytes 32 (List.replicate 32 0) := ⟨by simp, by simp⟩
  have B4 : Bytes 4 (List.replicate 4 0) := ⟨by simp, by simp⟩
  obtain ⟨dk, hdg, hf, hn1, hle, hlt⟩ := pNum_form hby hp
  have HD := hidp hdg
  have HS := hidp (And.intro (show RdX w gr t b R 0 0 from ⟨p, o, cap, hr⟩) (And.intro hw (And.intro hgr hb)))
  have HM := hidp (fun (w1 : World) (A : RdX w1 gr t b R 0 0) => show Calls Try.prog 33 #[.pointer (some ⟨gr, 0, none⟩)] w1 fun e w' => e = .returned (.int .i64 (v0 : Nat)) ∧ RdX w' gr (t + n) b (R.drop n) 0 0 ∧ Bex gr w1 w' by obtain ⟨p, o, cap, h⟩ := A; exact mNum_ok gr t p b o cap R v0 n w1 h hp)
  have HX := hidp hlt
  replace HM := HM.out
  obtain ⟨R2, hR2⟩ : ∃ R2, R2 = R.drop n := ⟨_, rfl⟩
  obtain ⟨tn, htn⟩ : ∃ tn, tn = t + n := ⟨_, rfl⟩
  rw [← hR2, ← htn] at HM ⊢
  replace HM := hidp HM
  have HF := hidp (And.intro (congrArg (X ++ ·) hf) (And.intro hn1 (And.intro hle hfit)))
  obtain ⟨x, y, hE, hxy⟩ := endE_cases tn 0 R2
  have HE := hidp (fun (w' : World) (A : RdX w' gr tn b R2 0 0) => mEndX A x y hE)
  have HR := hidp (fun (w' : World) (A : RdX w' gr tn b R2 0 0) => mRestX A)
  replace B32 := hidp B32
  replace B4 := hidp B4
  clear hr hw hp hf hle hlt hgr hb hfit hby hE hn1 hR2 htn hdg
  rcases hxy with ⟨rfl, hy⟩ | ⟨rfl, hrl⟩
  · subst hy
    go_enter Try.func45, Try.ntmps45
    go_wp2_with (first | refine wpList_buildG (by kernel_rfl) 39 _ rfl (zT 0).toArray (by kernel_rfl) ?_ | (refine wpList_store_blk rfl 39 _ _ rfl w.heap.size (zT 0) _ 39 rfl rfl (Blk.new w (Array.toList _) _) (by kernel_rfl) rfl (by kernel_rfl) ?_; intro w1 hw1; have A1 := hidp (Ag.start HS.out.1 HS.out.2.1 HS.out.2.2.1 HS.out.2.2.2 hw1.out)) | fail)
    refine (HM.out _ A1.out.rd).mono ?_
    rintro e w2 ⟨rfl, h2, hx2⟩
    have A2 := hidp (A1.out.read h2 hx2)
    have fc := A2.out.box.free 1
    have cc := (A2.out.box.cell 1).trans (rfl : (zT 0)[1]? = some (.int .i64 0))
    clear h2 hx2 A1
    go_wp2_with fail
    refine (HE.out _ (A2.out.set 1 (.int .i64 (v0 : Nat))).rd).mono ?_
    rintro e w3 ⟨rfl, hB3⟩
    have A3 := hidp (Ag.tell (show (zT 0).set 1 (.int .i64 (v0 : Nat)) = thL 0 (v0 : Nat) none 0 0 (List.replicate 32 0) (List.replicate 4 0) 0 false from rfl) ((A2.out.set 1 (.int .i64 (v0 : Nat))).below hB3))
    clear hB3 cc fc A2
    obtain ⟨T, hT⟩ : ∃ T, T = thL 0 (v0 : Nat) none 0 0 (List.replicate 32 0) (List.replicate 4 0) 0 false := ⟨_, rfl⟩
    rw [← hT] at A3
    have hTl : Hid ((Try.prog.info? 39).map (·.size) = some T.length) := hidp (by rw [hT, thL_len _ _ _ _ _ _ _ (by simp) (by simp)]; kernel_rfl)
    replace hT := hidp hT
    go_wp2_with (first | (with_reducible refine (?_ : wpList _ _ _ _ _ _); have A5 := hidp (A3.out.below ((Below.refl _ w3).alloc (Nat.le_refl _) (.cells #[.int .i64 0, .int .i64 0] 55))); refine wpList_load_blkG (by kernel_rfl) 39 _ rfl w.heap.size _ 39 rfl A5.out.box _ Try.underlying39 rfl hTl.out ?_) | fail)
    have hT := hT.out
    subst hT
    refine (puts0_ok A5.out.wr none 0 0 0 false (List.replicate 32 0) (List.replicate 4 0) B32.out B4.out v0 dk HX.out HD.out (by have := HF.out; omega)).mono ?_
    rintro e w6 h6
    obtain ⟨rfl, h7⟩ := A5.out.wrote h6
    have h7 := hidp h7
    go_wp2
    go_ret
    rw [HF.out.1] at h7
    exact h7.out
  · go_enter Try.func45, Try.ntmps45
    go_wp2_with (first | refine wpList_buildG (by kernel_rfl) 39 _ rfl (zT 0).toArray (by kernel_rfl) ?_ | (refine wpList_store_blk rfl 39 _ _ rfl w.heap.size (zT 0) _ 39 rfl rfl (Blk.new w (Array.toList _) _) (by kernel_rfl) rfl (by kernel_rfl) ?_; intro w1 hw1; have A1 := hidp (Ag.start HS.out.1 HS.out.2.1 HS.out.2.2.1 HS.out.2.2.2 hw1.out)) | fail)
    refine (HM.out _ A1.out.rd).mono ?_
    rintro e w2 ⟨rfl, h2, hx2⟩
    have A2 := hidp (A1.out.read h2 hx2)
    have fc := A2.out.box.free 1
    have cc := (A2.out.box.cell 1).trans (rfl : (zT 0)[1]? = some (.int .i64 0))
    clear h2 hx2 A1
    go_wp2_with fail
    refine (HE.out _ (A2.out.set 1 (.int .i64 (v0 : Nat))).rd).mono ?_
    rintro e w3 ⟨rfl, hB3⟩
    have A3 := hidp (Ag.tell (show (zT 0).set 1 (.int .i64 (v0 : Nat)) = thL 0 (v0 : Nat) none 0 0 (List.replicate 32 0) (List.replicate 4 0) 0 false from rfl) ((A2.out.set 1 (.int .i64 (v0 : Nat))).below hB3))
    clear hB3 cc fc A2
    obtain ⟨T, hT⟩ : ∃ T, T = thL 0 (v0 : Nat) none 0 0 (List.replicate 32 0) (List.replicate 4 0) 0 false := ⟨_, rfl⟩
    rw [← hT] at A3
    have hTl : Hid ((Try.prog.info? 39).map (·.size) = some T.length) := hidp (by rw [hT, thL_len _ _ _ _ _ _ _ (by simp) (by simp)]; kernel_rfl)
    replace hT := hidp hT
    have hgt : decide (0 < R2.length) = true := decide_eq_true hrl
    go_wp2_with (first | (with_reducible refine (?_ : wpList _ _ _ _ _ _); have A5 := hidp (A3.out.below ((Below.refl _ w3).alloc (Nat.le_refl _) (.cells #[.int .i64 4, .int .i64 (y : Nat)] 55))); refine wpList_load_blkG (by kernel_rfl) 39 _ rfl w.heap.size _ 39 rfl A5.out.box _ Try.underlying39 rfl hTl.out ?_) | (go_at_call 29; have A4 := hidp (A3.out.below ((Below.refl _ w3).alloc (Nat.le_refl _) (.cells #[.int .i64 4, .int .i64 (y : Nat)] 55))); refine (HR.out _ A4.out.rd).mono ?_; rintro e w5 ⟨rfl, rfl⟩) | fail)
    have hT := hT.out
    subst hT
    refine (puts0_ok A5.out.wr none 0 0 0 false (List.replicate 32 0) (List.replicate 4 0) B32.out B4.out v0 dk HX.out HD.out (by have := HF.out; omega)).mono ?_
    rintro e w6 h6
    obtain ⟨rfl, h7⟩ := A5.out.wrote h6
    have h7 := hidp h7
    go_wp2
    go_ret
    rw [HF.out.1] at h7
    exact h7.out

set_option maxRecDepth 100000 in
set_option maxHeartbeats 1000000 in
theorem again0_er {w : World} {gr t : Nat} {p : Option Addr} {b o cap : Nat} {R : List Nat} {gw lim : Nat} {v : Value} {X : List Nat} (hr : Rd w gr t p b o cap R 0 0) (hw : Wr w gw lim v X 0) (hgr : gr < gw) (hb : b < gw) (x : Nat) (hx : x ≠ 0) (hp : pNum R = .er x) :
    Calls Try.prog 45 #[.pointer (some ⟨gr, 0, none⟩), .pointer (some ⟨gw, 0, none⟩), .int .i64 0] w (AgE w gr t b x) := by
  have HS := hidp (And.intro (show RdX w gr t b R 0 0 from ⟨p, o, cap, hr⟩) (And.intro hw (And.intro hgr hb)))
  have HM := hidp (fun (w1 : World) (A : RdX w1 gr t b R 0 0) => show Calls Try.prog 33 #[.pointer (some ⟨gr, 0, none⟩)] w1 fun e w' => e = .returned (.int .i64 0) ∧ RdX w' gr t b [] x t ∧ Bex gr w1 w' by obtain ⟨p, o, cap, h⟩ := A; exact mNum_er gr t p b o cap R x w1 h hp)
  have HE := hidp (fun (w' : World) (A : RdX w' gr t b [] x t) => mEndX A x t (by unfold endE; rw [if_pos hx]))
  have HR := hidp (fun (w' : World) (A : RdX w' gr t b [] x t) => mRestX A)
  have q0 : ((x : Int) == 0) = false := by rw [beq_eq_false_iff_ne]; omega
  by_cases h4 : x = 4
  · subst h4
    clear hr hw hp hgr hb hx q0
    go_enter Try.func45, Try.ntmps45
    go_wp2_with (first | refine wpList_buildG (by kernel_rfl) 39 _ rfl (zT 0).toArray (by kernel_rfl) ?_ | (refine wpList_store_blk rfl 39 _ _ rfl w.heap.size (zT 0) _ 39 rfl rfl (Blk.new w (Array.toList _) _) (by kernel_rfl) rfl (by kernel_rfl) ?_; intro w1 hw1; have A1 := hidp (Ag.start HS.out.1 HS.out.2.1 HS.out.2.2.1 HS.out.2.2.2 hw1.out)) | fail)
    refine (HM.out _ A1.out.rd).mono ?_
    rintro e w2 ⟨rfl, h2, hx2⟩
    have A2 := hidp (A1.out.read h2 hx2)
    have fc := A2.out.box.free 1
    have cc := (A2.out.box.cell 1).trans (rfl : (zT 0)[1]? = some (.int .i64 0))
    clear h2 hx2 A1
    go_wp2_with fail
    refine (HE.out _ (A2.out.set 1 (.int .i64 0)).rd).mono ?_
    rintro e w3 ⟨rfl, hB3⟩
    have A3 := hidp ((A2.out.set 1 (.int .i64 0)).below hB3)
    clear hB3 cc fc A2
    go_wp2_with (first | (go_at_call 29; have A4 := hidp (A3.out.below ((Below.refl _ w3).alloc (Nat.le_refl _) (.cells #[.int .i64 4, .int .i64 (t : Nat)] 55))); refine (HR.out _ A4.out.rd).mono ?_; rintro e w5 ⟨rfl, rfl⟩) | fail)
    go_ret
    exact ⟨rfl, (A3.out.below ((Below.refl _ w3).alloc (Nat.le_refl _) _)).rd, (A3.out.below ((Below.refl _ w3).alloc (Nat.le_refl _) _)).bel⟩
  · have q4 : ((x : Int) == 4) = false := by rw [beq_eq_false_iff_ne]; omega
    clear hr hw hp hgr hb hx h4
    go_enter Try.func45, Try.ntmps45
    go_wp2_with (first | refine wpList_buildG (by kernel_rfl) 39 _ rfl (zT 0).toArray (by kernel_rfl) ?_ | (refine wpList_store_blk rfl 39 _ _ rfl w.heap.size (zT 0) _ 39 rfl rfl (Blk.new w (Array.toList _) _) (by kernel_rfl) rfl (by kernel_rfl) ?_; intro w1 hw1; have A1 := hidp (Ag.start HS.out.1 HS.out.2.1 HS.out.2.2.1 HS.out.2.2.2 hw1.out)) | fail)
    refine (HM.out _ A1.out.rd).mono ?_
    rintro e w2 ⟨rfl, h2, hx2⟩
    have A2 := hidp (A1.out.read h2 hx2)
    have fc := A2.out.box.free 1
    have cc := (A2.out.box.cell 1).trans (rfl : (zT 0)[1]? = some (.int .i64 0))
    clear h2 hx2 A1
    go_wp2_with fail
    refine (HE.out _ (A2.out.set 1 (.int .i64 0)).rd).mono ?_
    rintro e w3 ⟨rfl, hB3⟩
    have A3 := hidp ((A2.out.set 1 (.int .i64 0)).below hB3)
    clear hB3 cc fc A2
    go_wp2_with (first | fail)
    go_ret
    exact ⟨rfl, (A3.out.below ((Below.refl _ w3).alloc (Nat.le_refl _) _)).rd, (A3.out.below ((Below.refl _ w3).alloc (Nat.le_refl _) _)).bel⟩

set_option maxRecDepth 100000 in
set_option maxHeartbeats 1000000 in
theorem again5_ok {w : World} {gr t : Nat} {p : Option Addr} {b o cap : Nat} {R : List Nat} {gw lim : Nat} {v : Value} {X : List Nat} (hr : Rd w gr t p b o cap R 0 0) (hw : Wr w gw lim v X 0) (hgr : gr < gw) (hb : b < gw) (hfit : X.length + R.length ≤ lim) (v0 : Nat) (n : Nat) (hp : pWord R = .ok v0 n) :
    Calls Try.prog 45 #[.pointer (some ⟨gr, 0, none⟩), .pointer (some ⟨gw, 0, none⟩), .int .i64 5] w (AgP w gr (t + n) b (R.drop n) gw lim (X ++ R.take n)) := by
  have hby := hr.bs.byte
  have B32 : Bytes 32 (List.replicate 32 0) := ⟨by simp, by simp⟩
  have B4 : Bytes 4 (List.replicate 4 0) := ⟨by simp, by simp⟩
  obtain ⟨hf, hn1, hle, hlt⟩ := pWord_form hby hp
  have HS := hidp (And.intro (show RdX w gr t b R 0 0 from ⟨p, o, cap, hr⟩) (And.intro hw (And.intro hgr hb)))
  have HM := hidp (fun (w1 : World) (A : RdX w1 gr t b R 0 0) => show Calls Try.prog 38 #[.pointer (some ⟨gr, 0, none⟩)] w1 fun e w' => e = .returned (.int .u64 (v0 : Nat)) ∧ RdX w' gr (t + n) b (R.drop n) 0 0 ∧ Bex gr w1 w' by obtain ⟨p, o, cap, h⟩ := A; exact mWord_ok gr t p b o cap R v0 n w1 h hp)
  have HX := hidp hlt
  replace HM := HM.out
  obtain ⟨R2, hR2⟩ : ∃ R2, R2 = R.drop n := ⟨_, rfl⟩
  obtain ⟨tn, htn⟩ : ∃ tn, tn = t + n := ⟨_, rfl⟩
  rw [← hR2, ← htn] at HM ⊢
  replace HM := hidp HM
  have HF := hidp (And.intro (congrArg (X ++ ·) hf) (And.intro hn1 (And.intro hle hfit)))
  obtain ⟨x, y, hE, hxy⟩ := endE_cases tn 0 R2
  have HE := hidp (fun (w' : World) (A : RdX w' gr tn b R2 0 0) => mEndX A x y hE)
  have HR := hidp (fun (w' : World) (A : RdX w' gr tn b R2 0 0) => mRestX A)
  replace B32 := hidp B32
  replace B4 := hidp B4
  clear hr hw hp hf hle hlt hgr hb hfit hby hE hn1 hR2 htn
  rcases hxy with ⟨rfl, hy⟩ | ⟨rfl, hrl⟩
  · subst hy
    go_enter Try.func45, Try.ntmps45
    go_wp2_with (first | refine wpList_buildG (by kernel_rfl) 39 _ rfl (zT 5).toArray (by kernel_rfl) ?_ | (refine wpList_store_blk rfl 39 _ _ rfl w.heap.size (zT 5) _ 39 rfl rfl (Blk.new w (Array.toList _) _) (by kernel_rfl) rfl (by kernel_rfl) ?_; intro w1 hw1; have A1 := hidp (Ag.start HS.out.1 HS.out.2.1 HS.out.2.2.1 HS.out.2.2.2 hw1.out)) | fail)
    refine (HM.out _ A1.out.rd).mono ?_
    rintro e w2 ⟨rfl, h2, hx2⟩
    have A2 := hidp (A1.out.read h2 hx2)
    have fc := A2.out.box.free 39
    have cc := (A2.out.box.cell 39).trans (rfl : (zT 5)[39]? = some (.int .u64 0))
    clear h2 hx2 A1
    go_wp2_with fail
    refine (HE.out _ (A2.out.set 39 (.int .u64 (v0 : Nat))).rd).mono ?_
    rintro e w3 ⟨rfl, hB3⟩
    have A3 := hidp (Ag.tell (show (zT 5).set 39 (.int .u64 (v0 : Nat)) = thL 5 0 none 0 0 (List.replicate 32 0) (List.replicate 4 0) v0 false from rfl) ((A2.out.set 39 (.int .u64 (v0 : Nat))).below hB3))
    clear hB3 cc fc A2
    obtain ⟨T, hT⟩ : ∃ T, T = thL 5 0 none 0 0 (List.replicate 32 0) (List.replicate 4 0) v0 false := ⟨_, rfl⟩
    rw [← hT] at A3
    have hTl : Hid ((Try.prog.info? 39).map (·.size) = some T.length) := hidp (by rw [hT, thL_len _ _ _ _ _ _ _ (by simp) (by simp)]; kernel_rfl)
    replace hT := hidp hT
    go_wp2_with (first | (with_reducible refine (?_ : wpList _ _ _ _ _ _); have A5 := hidp (A3.out.below ((Below.refl _ w3).alloc (Nat.le_refl _) (.cells #[.int .i64 0, .int .i64 0] 55))); refine wpList_load_blkG (by kernel_rfl) 39 _ rfl w.heap.size _ 39 rfl A5.out.box _ Try.underlying39 rfl hTl.out ?_) | fail)
    have hT := hT.out
    subst hT
    refine (puts5_ok A5.out.wr 0 none 0 0 v0 false (List.replicate 32 0) (List.replicate 4 0) B32.out B4.out HX.out (by have := HF.out; omega)).mono ?_
    rintro e w6 h6
    obtain ⟨rfl, h7⟩ := A5.out.wrote h6
    have h7 := hidp h7
    go_wp2
    go_ret
    rw [HF.out.1] at h7
    exact h7.out
  · go_enter Try.func45, Try.ntmps45
    go_wp2_with (first | refine wpList_buildG (by kernel_rfl) 39 _ rfl (zT 5).toArray (by kernel_rfl) ?_ | (refine wpList_store_blk rfl 39 _ _ rfl w.heap.size (zT 5) _ 39 rfl rfl (Blk.new w (Array.toList _) _) (by kernel_rfl) rfl (by kernel_rfl) ?_; intro w1 hw1; have A1 := hidp (Ag.start HS.out.1 HS.out.2.1 HS.out.2.2.1 HS.out.2.2.2 hw1.out)) | fail)
    refine (HM.out _ A1.out.rd).mono ?_
    rintro e w2 ⟨rfl, h2, hx2⟩
    have A2 := hidp (A1.out.read h2 hx2)
    have fc := A2.out.box.free 39
    have cc := (A2.out.box.cell 39).trans (rfl : (zT 5)[39]? = some (.int .u64 0))
    clear h2 hx2 A1
    go_wp2_with fail
    refine (HE.out _ (A2.out.set 39 (.int .u64 (v0 : Nat))).rd).mono ?_
    rintro e w3 ⟨rfl, hB3⟩
    have A3 := hidp (Ag.tell (show (zT 5).set 39 (.int .u64 (v0 : Nat)) = thL 5 0 none 0 0 (List.replicate 32 0) (List.replicate 4 0) v0 false from rfl) ((A2.out.set 39 (.int .u64 (v0 : Nat))).below hB3))
    clear hB3 cc fc A2
    obtain ⟨T, hT⟩ : ∃ T, T = thL 5 0 none 0 0 (List.replicate 32 0) (List.replicate 4 0) v0 false := ⟨_, rfl⟩
    rw [← hT] at A3
    have hTl : Hid ((Try.prog.info? 39).map (·.size) = some T.length) := hidp (by rw [hT, thL_len _ _ _ _ _ _ _ (by simp) (by simp)]; kernel_rfl)
    replace hT := hidp hT
    have hgt : decide (0 < R2.length) = true := decide_eq_true hrl
    go_wp2_with (first | (with_reducible refine (?_ : wpList _ _ _ _ _ _); have A5 := hidp (A3.out.below ((Below.refl _ w3).alloc (Nat.le_refl _) (.cells #[.int .i64 4, .int .i64 (y : Nat)] 55))); refine wpList_load_blkG (by kernel_rfl) 39 _ rfl w.heap.size _ 39 rfl A5.out.box _ Try.underlying39 rfl hTl.out ?_) | (go_at_call 29; have A4 := hidp (A3.out.below ((Below.refl _ w3).alloc (Nat.le_refl _) (.cells #[.int .i64 4, .int .i64 (y : Nat)] 55))); refine (HR.out _ A4.out.rd).mono ?_; rintro e w5 ⟨rfl, rfl⟩) | fail)
    have hT := hT.out
    subst hT
    refine (puts5_ok A5.out.wr 0 none 0 0 v0 false (List.replicate 32 0) (List.replicate 4 0) B32.out B4.out HX.out (by have := HF.out; omega)).mono ?_
    rintro e w6 h6
    obtain ⟨rfl, h7⟩ := A5.out.wrote h6
    have h7 := hidp h7
    go_wp2
    go_ret
    rw [HF.out.1] at h7
    exact h7.out

set_option maxRecDepth 100000 in
set_option maxHeartbeats 1000000 in
theorem again5_er {w : World} {gr t : Nat} {p : Option Addr} {b o cap : Nat} {R : List Nat} {gw lim : Nat} {v : Value} {X : List Nat} (hr : Rd w gr t p b o cap R 0 0) (hw : Wr w gw lim v X 0) (hgr : gr < gw) (hb : b < gw) (x : Nat) (hx : x ≠ 0) (hp : pWord R = .er x) :
    Calls Try.prog 45 #[.pointer (some ⟨gr, 0, none⟩), .pointer (some ⟨gw, 0, none⟩), .int .i64 5] w (AgE w gr t b x) := by
  have HS := hidp (And.intro (show RdX w gr t b R 0 0 from ⟨p, o, cap, hr⟩) (And.intro hw (And.intro hgr hb)))
  have HM := hidp (fun (w1 : World) (A : RdX w1 gr t b R 0 0) => show Calls Try.prog 38 #[.pointer (some ⟨gr, 0, none⟩)] w1 fun e w' => e = .returned (.int .u64 0) ∧ RdX w' gr t b [] x t ∧ Bex gr w1 w' by obtain ⟨p, o, cap, h⟩ := A; exact mWord_er gr t p b o cap R x w1 h hp)
  have HE := hidp (fun (w' : World) (A : RdX w' gr t b [] x t) => mEndX A x t (by unfold endE; rw [if_pos hx]))
  have HR := hidp (fun (w' : World) (A : RdX w' gr t b [] x t) => mRestX A)
  have q0 : ((x : Int) == 0) = false := by rw [beq_eq_false_iff_ne]; omega
  by_cases h4 : x = 4
  · subst h4
    clear hr hw hp hgr hb hx q0
    go_enter Try.func45, Try.ntmps45
    go_wp2_with (first | refine wpList_buildG (by kernel_rfl) 39 _ rfl (zT 5).toArray (by kernel_rfl) ?_ | (refine wpList_store_blk rfl 39 _ _ rfl w.heap.size (zT 5) _ 39 rfl rfl (Blk.new w (Array.toList _) _) (by kernel_rfl) rfl (by kernel_rfl) ?_; intro w1 hw1; have A1 := hidp (Ag.start HS.out.1 HS.out.2.1 HS.out.2.2.1 HS.out.2.2.2 hw1.out)) | fail)
    refine (HM.out _ A1.out.rd).mono ?_
    rintro e w2 ⟨rfl, h2, hx2⟩
    have A2 := hidp (A1.out.read h2 hx2)
    have fc := A2.out.box.free 39
    have cc := (A2.out.box.cell 39).trans (rfl : (zT 5)[39]? = some (.int .u64 0))
    clear h2 hx2 A1
    go_wp2_with fail
    refine (HE.out _ (A2.out.set 39 (.int .u64 0)).rd).mono ?_
    rintro e w3 ⟨rfl, hB3⟩
    have A3 := hidp ((A2.out.set 39 (.int .u64 0)).below hB3)
    clear hB3 cc fc A2
    go_wp2_with (first | (go_at_call 29; have A4 := hidp (A3.out.below ((Below.refl _ w3).alloc (Nat.le_refl _) (.cells #[.int .i64 4, .int .i64 (t : Nat)] 55))); refine (HR.out _ A4.out.rd).mono ?_; rintro e w5 ⟨rfl, rfl⟩) | fail)
    go_ret
    exact ⟨rfl, (A3.out.below ((Below.refl _ w3).alloc (Nat.le_refl _) _)).rd, (A3.out.below ((Below.refl _ w3).alloc (Nat.le_refl _) _)).bel⟩
  · have q4 : ((x : Int) == 4) = false := by rw [beq_eq_false_iff_ne]; omega
    clear hr hw hp hgr hb hx h4
    go_enter Try.func45, Try.ntmps45
    go_wp2_with (first | refine wpList_buildG (by kernel_rfl) 39 _ rfl (zT 5).toArray (by kernel_rfl) ?_ | (refine wpList_store_blk rfl 39 _ _ rfl w.heap.size (zT 5) _ 39 rfl rfl (Blk.new w (Array.toList _) _) (by kernel_rfl) rfl (by kernel_rfl) ?_; intro w1 hw1; have A1 := hidp (Ag.start HS.out.1 HS.out.2.1 HS.out.2.2.1 HS.out.2.2.2 hw1.out)) | fail)
    refine (HM.out _ A1.out.rd).mono ?_
    rintro e w2 ⟨rfl, h2, hx2⟩
    have A2 := hidp (A1.out.read h2 hx2)
    have fc := A2.out.box.free 39
    have cc := (A2.out.box.cell 39).trans (rfl : (zT 5)[39]? = some (.int .u64 0))
    clear h2 hx2 A1
    go_wp2_with fail
    refine (HE.out _ (A2.out.set 39 (.int .u64 0)).rd).mono ?_
    rintro e w3 ⟨rfl, hB3⟩
    have A3 := hidp ((A2.out.set 39 (.int .u64 0)).below hB3)
    clear hB3 cc fc A2
    go_wp2_with (first | fail)
    go_ret
    exact ⟨rfl, (A3.out.below ((Below.refl _ w3).alloc (Nat.le_refl _) _)).rd, (A3.out.below ((Below.refl _ w3).alloc (Nat.le_refl _) _)).bel⟩

set_option maxRecDepth 100000 in
set_option maxHeartbeats 1000000 in
theorem again6_ok {w : World} {gr t : Nat} {p : Option Addr} {b o cap : Nat} {R : List Nat} {gw lim : Nat} {v : Value} {X : List Nat} (hr : Rd w gr t p b o cap R 0 0) (hw : Wr w gw lim v X 0) (hgr : gr < gw) (hb : b < gw) (hfit : X.length + R.length ≤ lim) (v0 : Nat) (n : Nat) (hp : pPace R = .ok v0 n) :
    Calls Try.prog 45 #[.pointer (some ⟨gr, 0, none⟩), .pointer (some ⟨gw, 0, none⟩), .int .i64 6] w (AgP w gr (t + n) b (R.drop n) gw lim (X ++ R.take n)) := by
  have hby := hr.bs.byte
  have B32 : Bytes 32 (List.replicate 32 0) := ⟨by simp, by simp⟩
  have B4 : Bytes 4 (List.replicate 4 0) := ⟨by simp, by simp⟩
  obtain ⟨hf, _, hn1, hle, hlt⟩ := pPace_form hby hp
  have HS := hidp (And.intro (show RdX w gr t b R 0 0 from ⟨p, o, cap, hr⟩) (And.intro hw (And.intro hgr hb)))
  have HM := hidp (fun (w1 : World) (A : RdX w1 gr t b R 0 0) => show Calls Try.prog 39 #[.pointer (some ⟨gr, 0, none⟩)] w1 fun e w' => e = .returned (.float .f64 v0) ∧ RdX w' gr (t + n) b (R.drop n) 0 0 ∧ Bex gr w1 w' by obtain ⟨p, o, cap, h⟩ := A; exact mPace_ok gr t p b o cap R v0 n w1 h hp)
  have HX := hidp hlt
  replace HM := HM.out
  obtain ⟨R2, hR2⟩ : ∃ R2, R2 = R.drop n := ⟨_, rfl⟩
  obtain ⟨tn, htn⟩ : ∃ tn, tn = t + n := ⟨_, rfl⟩
  rw [← hR2, ← htn] at HM ⊢
  replace HM := hidp HM
  have HF := hidp (And.intro (congrArg (X ++ ·) hf) (And.intro hn1 (And.intro hle hfit)))
  obtain ⟨x, y, hE, hxy⟩ := endE_cases tn 0 R2
  have HE := hidp (fun (w' : World) (A : RdX w' gr tn b R2 0 0) => mEndX A x y hE)
  have HR := hidp (fun (w' : World) (A : RdX w' gr tn b R2 0 0) => mRestX A)
  replace B32 := hidp B32
  replace B4 := hidp B4
  clear hr hw hp hf hle hlt hgr hb hfit hby hE hn1 hR2 htn
  rcases hxy with ⟨rfl, hy⟩ | ⟨rfl, hrl⟩
  · subst hy
    go_enter Try.func45, Try.ntmps45
    go_wp2_with (first | refine wpList_buildG (by kernel_rfl) 39 _ rfl (zT 6).toArray (by kernel_rfl) ?_ | (refine wpList_store_blk rfl 39 _ _ rfl w.heap.size (zT 6) _ 39 rfl rfl (Blk.new w (Array.toList _) _) (by kernel_rfl) rfl (by kernel_rfl) ?_; intro w1 hw1; have A1 := hidp (Ag.start HS.out.1 HS.out.2.1 HS.out.2.2.1 HS.out.2.2.2 hw1.out)) | fail)
    refine (HM.out _ A1.out.rd).mono ?_
    rintro e w2 ⟨rfl, h2, hx2⟩
    have A2 := hidp (A1.out.read h2 hx2)
    have fc := A2.out.box.free 39
    have cc := (A2.out.box.cell 39).trans (rfl : (zT 6)[39]? = some (.int .u64 0))
    clear h2 hx2 A1
    go_wp2_with fail
    refine (HE.out _ (A2.out.set 39 (.int .u64 (v0 : Nat))).rd).mono ?_
    rintro e w3 ⟨rfl, hB3⟩
    have A3 := hidp (Ag.tell (show (zT 6).set 39 (.int .u64 (v0 : Nat)) = thL 6 0 none 0 0 (List.replicate 32 0) (List.replicate 4 0) v0 false from rfl) ((A2.out.set 39 (.int .u64 (v0 : Nat))).below hB3))
    clear hB3 cc fc A2
    obtain ⟨T, hT⟩ : ∃ T, T = thL 6 0 none 0 0 (List.replicate 32 0) (List.replicate 4 0) v0 false := ⟨_, rfl⟩
    rw [← hT] at A3
    have hTl : Hid ((Try.prog.info? 39).map (·.size) = some T.length) := hidp (by rw [hT, thL_len _ _ _ _ _ _ _ (by simp) (by simp)]; kernel_rfl)
    replace hT := hidp hT
    go_wp2_with (first | (with_reducible refine (?_ : wpList _ _ _ _ _ _); have A5 := hidp (A3.out.below ((Below.refl _ w3).alloc (Nat.le_refl _) (.cells #[.int .i64 0, .int .i64 0] 55))); refine wpList_load_blkG (by kernel_rfl) 39 _ rfl w.heap.size _ 39 rfl A5.out.box _ Try.underlying39 rfl hTl.out ?_) | fail)
    have hT := hT.out
    subst hT
    refine (puts6_ok A5.out.wr 0 none 0 0 v0 false (List.replicate 32 0) (List.replicate 4 0) B32.out B4.out HX.out (by have := HF.out; omega)).mono ?_
    rintro e w6 h6
    obtain ⟨rfl, h7⟩ := A5.out.wrote h6
    have h7 := hidp h7
    go_wp2
    go_ret
    rw [HF.out.1] at h7
    exact h7.out
  · go_enter Try.func45, Try.ntmps45
    go_wp2_with (first | refine wpList_buildG (by kernel_rfl) 39 _ rfl (zT 6).toArray (by kernel_rfl) ?_ | (refine wpList_store_blk rfl 39 _ _ rfl w.heap.size (zT 6) _ 39 rfl rfl (Blk.new w (Array.toList _) _) (by kernel_rfl) rfl (by kernel_rfl) ?_; intro w1 hw1; have A1 := hidp (Ag.start HS.out.1 HS.out.2.1 HS.out.2.2.1 HS.out.2.2.2 hw1.out)) | fail)
    refine (HM.out _ A1.out.rd).mono ?_
    rintro e w2 ⟨rfl, h2, hx2⟩
    have A2 := hidp (A1.out.read h2 hx2)
    have fc := A2.out.box.free 39
    have cc := (A2.out.box.cell 39).trans (rfl : (zT 6)[39]? = some (.int .u64 0))
    clear h2 hx2 A1
    go_wp2_with fail
    refine (HE.out _ (A2.out.set 39 (.int .u64 (v0 : Nat))).rd).mono ?_
    rintro e w3 ⟨rfl, hB3⟩
    have A3 := hidp (Ag.tell (show (zT 6).set 39 (.int .u64 (v0 : Nat)) = thL 6 0 none 0 0 (List.replicate 32 0) (List.replicate 4 0) v0 false from rfl) ((A2.out.set 39 (.int .u64 (v0 : Nat))).below hB3))
    clear hB3 cc fc A2
    obtain ⟨T, hT⟩ : ∃ T, T = thL 6 0 none 0 0 (List.replicate 32 0) (List.replicate 4 0) v0 false := ⟨_, rfl⟩
    rw [← hT] at A3
    have hTl : Hid ((Try.prog.info? 39).map (·.size) = some T.length) := hidp (by rw [hT, thL_len _ _ _ _ _ _ _ (by simp) (by simp)]; kernel_rfl)
    replace hT := hidp hT
    have hgt : decide (0 < R2.length) = true := decide_eq_true hrl
    go_wp2_with (first | (with_reducible refine (?_ : wpList _ _ _ _ _ _); have A5 := hidp (A3.out.below ((Below.refl _ w3).alloc (Nat.le_refl _) (.cells #[.int .i64 4, .int .i64 (y : Nat)] 55))); refine wpList_load_blkG (by kernel_rfl) 39 _ rfl w.heap.size _ 39 rfl A5.out.box _ Try.underlying39 rfl hTl.out ?_) | (go_at_call 29; have A4 := hidp (A3.out.below ((Below.refl _ w3).alloc (Nat.le_refl _) (.cells #[.int .i64 4, .int .i64 (y : Nat)] 55))); refine (HR.out _ A4.out.rd).mono ?_; rintro e w5 ⟨rfl, rfl⟩) | fail)
    have hT := hT.out
    subst hT
    refine (puts6_ok A5.out.wr 0 none 0 0 v0 false (List.replicate 32 0) (List.replicate 4 0) B32.out B4.out HX.out (by have := HF.out; omega)).mono ?_
    rintro e w6 h6
    obtain ⟨rfl, h7⟩ := A5.out.wrote h6
    have h7 := hidp h7
    go_wp2
    go_ret
    rw [HF.out.1] at h7
    exact h7.out

set_option maxRecDepth 100000 in
set_option maxHeartbeats 1000000 in
theorem again6_er {w : World} {gr t : Nat} {p : Option Addr} {b o cap : Nat} {R : List Nat} {gw lim : Nat} {v : Value} {X : List Nat} (hr : Rd w gr t p b o cap R 0 0) (hw : Wr w gw lim v X 0) (hgr : gr < gw) (hb : b < gw) (x : Nat) (hx : x ≠ 0) (hp : pPace R = .er x) :
    Calls Try.prog 45 #[.pointer (some ⟨gr, 0, none⟩), .pointer (some ⟨gw, 0, none⟩), .int .i64 6] w (AgE w gr t b x) := by
  have HS := hidp (And.intro (show RdX w gr t b R 0 0 from ⟨p, o, cap, hr⟩) (And.intro hw (And.intro hgr hb)))
  have HM := hidp (fun (w1 : World) (A : RdX w1 gr t b R 0 0) => show Calls Try.prog 39 #[.pointer (some ⟨gr, 0, none⟩)] w1 fun e w' => e = .returned (.float .f64 0) ∧ RdX w' gr t b [] x t ∧ Bex gr w1 w' by obtain ⟨p, o, cap, h⟩ := A; exact mPace_er gr t p b o cap R x w1 h hp)
  have HE := hidp (fun (w' : World) (A : RdX w' gr t b [] x t) => mEndX A x t (by unfold endE; rw [if_pos hx]))
  have HR := hidp (fun (w' : World) (A : RdX w' gr t b [] x t) => mRestX A)
  have q0 : ((x : Int) == 0) = false := by rw [beq_eq_false_iff_ne]; omega
  by_cases h4 : x = 4
  · subst h4
    clear hr hw hp hgr hb hx q0
    go_enter Try.func45, Try.ntmps45
    go_wp2_with (first | refine wpList_buildG (by kernel_rfl) 39 _ rfl (zT 6).toArray (by kernel_rfl) ?_ | (refine wpList_store_blk rfl 39 _ _ rfl w.heap.size (zT 6) _ 39 rfl rfl (Blk.new w (Array.toList _) _) (by kernel_rfl) rfl (by kernel_rfl) ?_; intro w1 hw1; have A1 := hidp (Ag.start HS.out.1 HS.out.2.1 HS.out.2.2.1 HS.out.2.2.2 hw1.out)) | fail)
    refine (HM.out _ A1.out.rd).mono ?_
    rintro e w2 ⟨rfl, h2, hx2⟩
    have A2 := hidp (A1.out.read h2 hx2)
    have fc := A2.out.box.free 39
    have cc := (A2.out.box.cell 39).trans (rfl : (zT 6)[39]? = some (.int .u64 0))
    clear h2 hx2 A1
    go_wp2_with fail
    refine (HE.out _ (A2.out.set 39 (.int .u64 0)).rd).mono ?_
    rintro e w3 ⟨rfl, hB3⟩
    have A3 := hidp ((A2.out.set 39 (.int .u64 0)).below hB3)
    clear hB3 cc fc A2
    go_wp2_with (first | (go_at_call 29; have A4 := hidp (A3.out.below ((Below.refl _ w3).alloc (Nat.le_refl _) (.cells #[.int .i64 4, .int .i64 (t : Nat)] 55))); refine (HR.out _ A4.out.rd).mono ?_; rintro e w5 ⟨rfl, rfl⟩) | fail)
    go_ret
    exact ⟨rfl, (A3.out.below ((Below.refl _ w3).alloc (Nat.le_refl _) _)).rd, (A3.out.below ((Below.refl _ w3).alloc (Nat.le_refl _) _)).bel⟩
  · have q4 : ((x : Int) == 4) = false := by rw [beq_eq_false_iff_ne]; omega
    clear hr hw hp hgr hb hx h4
    go_enter Try.func45, Try.ntmps45
    go_wp2_with (first | refine wpList_buildG (by kernel_rfl) 39 _ rfl (zT 6).toArray (by kernel_rfl) ?_ | (refine wpList_store_blk rfl 39 _ _ rfl w.heap.size (zT 6) _ 39 rfl rfl (Blk.new w (Array.toList _) _) (by kernel_rfl) rfl (by kernel_rfl) ?_; intro w1 hw1; have A1 := hidp (Ag.start HS.out.1 HS.out.2.1 HS.out.2.2.1 HS.out.2.2.2 hw1.out)) | fail)
    refine (HM.out _ A1.out.rd).mono ?_
    rintro e w2 ⟨rfl, h2, hx2⟩
    have A2 := hidp (A1.out.read h2 hx2)
    have fc := A2.out.box.free 39
    have cc := (A2.out.box.cell 39).trans (rfl : (zT 6)[39]? = some (.int .u64 0))
    clear h2 hx2 A1
    go_wp2_with fail
    refine (HE.out _ (A2.out.set 39 (.int .u64 0)).rd).mono ?_
    rintro e w3 ⟨rfl, hB3⟩
    have A3 := hidp ((A2.out.set 39 (.int .u64 0)).below hB3)
    clear hB3 cc fc A2
    go_wp2_with (first | fail)
    go_ret
    exact ⟨rfl, (A3.out.below ((Below.refl _ w3).alloc (Nat.le_refl _) _)).rd, (A3.out.below ((Below.refl _ w3).alloc (Nat.le_refl _) _)).bel⟩

set_option maxRecDepth 100000 in
set_option maxHeartbeats 1000000 in
theorem again7_ok {w : World} {gr t : Nat} {p : Option Addr} {b o cap : Nat} {R : List Nat} {gw lim : Nat} {v : Value} {X : List Nat} (hr : Rd w gr t p b o cap R 0 0) (hw : Wr w gw lim v X 0) (hgr : gr < gw) (hb : b < gw) (hfit : X.length + R.length ≤ lim) (v0 : Bool) (n : Nat) (hp : pBool R = .ok v0 n) :
    Calls Try.prog 45 #[.pointer (some ⟨gr, 0, none⟩), .pointer (some ⟨gw, 0, none⟩), .int .i64 7] w (AgP w gr (t + n) b (R.drop n) gw lim (X ++ R.take n)) := by
  have hby := hr.bs.byte
  have B32 : Bytes 32 (List.replicate 32 0) := ⟨by simp, by simp⟩
  have B4 : Bytes 4 (List.replicate 4 0) := ⟨by simp, by simp⟩
  obtain ⟨hf, hn1, hle⟩ := pBool_form hp
  have hlt := hle
  have HS := hidp (And.intro (show RdX w gr t b R 0 0 from ⟨p, o, cap, hr⟩) (And.intro hw (And.intro hgr hb)))
  have HM := hidp (fun (w1 : World) (A : RdX w1 gr t b R 0 0) => show Calls Try.prog 40 #[.pointer (some ⟨gr, 0, none⟩)] w1 fun e w' => e = .returned (.bool v0) ∧ RdX w' gr (t + n) b (R.drop n) 0 0 ∧ Bex gr w1 w' by obtain ⟨p, o, cap, h⟩ := A; exact mBool_ok gr t p b o cap R v0 n w1 h hp)
  have HX := hidp hlt
  replace HM := HM.out
  obtain ⟨R2, hR2⟩ : ∃ R2, R2 = R.drop n := ⟨_, rfl⟩
  obtain ⟨tn, htn⟩ : ∃ tn, tn = t + n := ⟨_, rfl⟩
  rw [← hR2, ← htn] at HM ⊢
  replace HM := hidp HM
  have HF := hidp (And.intro (congrArg (X ++ ·) hf) (And.intro hn1 (And.intro hle hfit)))
  obtain ⟨x, y, hE, hxy⟩ := endE_cases tn 0 R2
  have HE := hidp (fun (w' : World) (A : RdX w' gr tn b R2 0 0) => mEndX A x y hE)
  have HR := hidp (fun (w' : World) (A : RdX w' gr tn b R2 0 0) => mRestX A)
  replace B32 := hidp B32
  replace B4 := hidp B4
  clear hr hw hp hf hle hlt hgr hb hfit hby hE hn1 hR2 htn
  rcases hxy with ⟨rfl, hy⟩ | ⟨rfl, hrl⟩
  · subst hy
    go_enter Try.func45, Try.ntmps45
    go_wp2_with (first | refine wpList_buildG (by kernel_rfl) 39 _ rfl (zT 7).toArray (by kernel_rfl) ?_ | (refine wpList_store_blk rfl 39 _ _ rfl w.heap.size (zT 7) _ 39 rfl rfl (Blk.new w (Array.toList _) _) (by kernel_rfl) rfl (by kernel_rfl) ?_; intro w1 hw1; have A1 := hidp (Ag.start HS.out.1 HS.out.2.1 HS.out.2.2.1 HS.out.2.2.2 hw1.out)) | fail)
    refine (HM.out _ A1.out.rd).mono ?_
    rintro e w2 ⟨rfl, h2, hx2⟩
    have A2 := hidp (A1.out.read h2 hx2)
    have fc := A2.out.box.free 40
    have cc := (A2.out.box.cell 40).trans (rfl : (zT 7)[40]? = some (.bool false))
    clear h2 hx2 A1
    go_wp2_with fail
    refine (HE.out _ (A2.out.set 40 (.bool v0)).rd).mono ?_
    rintro e w3 ⟨rfl, hB3⟩
    have A3 := hidp (Ag.tell (show (zT 7).set 40 (.bool v0) = thL 7 0 none 0 0 (List.replicate 32 0) (List.replicate 4 0) 0 v0 from rfl) ((A2.out.set 40 (.bool v0)).below hB3))
    clear hB3 cc fc A2
    obtain ⟨T, hT⟩ : ∃ T, T = thL 7 0 none 0 0 (List.replicate 32 0) (List.replicate 4 0) 0 v0 := ⟨_, rfl⟩
    rw [← hT] at A3
    have hTl : Hid ((Try.prog.info? 39).map (·.size) = some T.length) := hidp (by rw [hT, thL_len _ _ _ _ _ _ _ (by simp) (by simp)]; kernel_rfl)
    replace hT := hidp hT
    go_wp2_with (first | (with_reducible refine (?_ : wpList _ _ _ _ _ _); have A5 := hidp (A3.out.below ((Below.refl _ w3).alloc (Nat.le_refl _) (.cells #[.int .i64 0, .int .i64 0] 55))); refine wpList_load_blkG (by kernel_rfl) 39 _ rfl w.heap.size _ 39 rfl A5.out.box _ Try.underlying39 rfl hTl.out ?_) | fail)
    have hT := hT.out
    subst hT
    refine (puts7_ok A5.out.wr 0 none 0 0 0 v0 (List.replicate 32 0) (List.replicate 4 0) B32.out B4.out (by have := HF.out; omega)).mono ?_
    rintro e w6 h6
    obtain ⟨rfl, h7⟩ := A5.out.wrote h6
    have h7 := hidp h7
    go_wp2
    go_ret
    rw [HF.out.1] at h7
    exact h7.out
  · go_enter Try.func45, Try.ntmps45
    go_wp2_with (first | refine wpList_buildG (by kernel_rfl) 39 _ rfl (zT 7).toArray (by kernel_rfl) ?_ | (refine wpList_store_blk rfl 39 _ _ rfl w.heap.size (zT 7) _ 39 rfl rfl (Blk.new w (Array.toList _) _) (by kernel_rfl) rfl (by kernel_rfl) ?_; intro w1 hw1; have A1 := hidp (Ag.start HS.out.1 HS.out.2.1 HS.out.2.2.1 HS.out.2.2.2 hw1.out)) | fail)
    refine (HM.out _ A1.out.rd).mono ?_
    rintro e w2 ⟨rfl, h2, hx2⟩
    have A2 := hidp (A1.out.read h2 hx2)
    have fc := A2.out.box.free 40
    have cc := (A2.out.box.cell 40).trans (rfl : (zT 7)[40]? = some (.bool false))
    clear h2 hx2 A1
    go_wp2_with fail
    refine (HE.out _ (A2.out.set 40 (.bool v0)).rd).mono ?_
    rintro e w3 ⟨rfl, hB3⟩
    have A3 := hidp (Ag.tell (show (zT 7).set 40 (.bool v0) = thL 7 0 none 0 0 (List.replicate 32 0) (List.replicate 4 0) 0 v0 from rfl) ((A2.out.set 40 (.bool v0)).below hB3))
    clear hB3 cc fc A2
    obtain ⟨T, hT⟩ : ∃ T, T = thL 7 0 none 0 0 (List.replicate 32 0) (List.replicate 4 0) 0 v0 := ⟨_, rfl⟩
    rw [← hT] at A3
    have hTl : Hid ((Try.prog.info? 39).map (·.size) = some T.length) := hidp (by rw [hT, thL_len _ _ _ _ _ _ _ (by simp) (by simp)]; kernel_rfl)
    replace hT := hidp hT
    have hgt : decide (0 < R2.length) = true := decide_eq_true hrl
    go_wp2_with (first | (with_reducible refine (?_ : wpList _ _ _ _ _ _); have A5 := hidp (A3.out.below ((Below.refl _ w3).alloc (Nat.le_refl _) (.cells #[.int .i64 4, .int .i64 (y : Nat)] 55))); refine wpList_load_blkG (by kernel_rfl) 39 _ rfl w.heap.size _ 39 rfl A5.out.box _ Try.underlying39 rfl hTl.out ?_) | (go_at_call 29; have A4 := hidp (A3.out.below ((Below.refl _ w3).alloc (Nat.le_refl _) (.cells #[.int .i64 4, .int .i64 (y : Nat)] 55))); refine (HR.out _ A4.out.rd).mono ?_; rintro e w5 ⟨rfl, rfl⟩) | fail)
    have hT := hT.out
    subst hT
    refine (puts7_ok A5.out.wr 0 none 0 0 0 v0 (List.replicate 32 0) (List.replicate 4 0) B32.out B4.out (by have := HF.out; omega)).mono ?_
    rintro e w6 h6
    obtain ⟨rfl, h7⟩ := A5.out.wrote h6
    have h7 := hidp h7
    go_wp2
    go_ret
    rw [HF.out.1] at h7
    exact h7.out

set_option maxRecDepth 100000 in
set_option maxHeartbeats 1000000 in
theorem again7_er {w : World} {gr t : Nat} {p : Option Addr} {b o cap : Nat} {R : List Nat} {gw lim : Nat} {v : Value} {X : List Nat} (hr : Rd w gr t p b o cap R 0 0) (hw : Wr w gw lim v X 0) (hgr : gr < gw) (hb : b < gw) (x : Nat) (hx : x ≠ 0) (hp : pBool R = .er x) :
    Calls Try.prog 45 #[.pointer (some ⟨gr, 0, none⟩), .pointer (some ⟨gw, 0, none⟩), .int .i64 7] w (AgE w gr t b x) := by
  have HS := hidp (And.intro (show RdX w gr t b R 0 0 from ⟨p, o, cap, hr⟩) (And.intro hw (And.intro hgr hb)))
  have HM := hidp (fun (w1 : World) (A : RdX w1 gr t b R 0 0) => show Calls Try.prog 40 #[.pointer (some ⟨gr, 0, none⟩)] w1 fun e w' => e = .returned (.bool false) ∧ RdX w' gr t b [] x t ∧ Bex gr w1 w' by obtain ⟨p, o, cap, h⟩ := A; exact mBool_er gr t p b o cap R x w1 h hp)
  have HE := hidp (fun (w' : World) (A : RdX w' gr t b [] x t) => mEndX A x t (by unfold endE; rw [if_pos hx]))
  have HR := hidp (fun (w' : World) (A : RdX w' gr t b [] x t) => mRestX A)
  have q0 : ((x : Int) == 0) = false := by rw [beq_eq_false_iff_ne]; omega
  by_cases h4 : x = 4
  · subst h4
    clear hr hw hp hgr hb hx q0
    go_enter Try.func45, Try.ntmps45
    go_wp2_with (first | refine wpList_buildG (by kernel_rfl) 39 _ rfl (zT 7).toArray (by kernel_rfl) ?_ | (refine wpList_store_blk rfl 39 _ _ rfl w.heap.size (zT 7) _ 39 rfl rfl (Blk.new w (Array.toList _) _) (by kernel_rfl) rfl (by kernel_rfl) ?_; intro w1 hw1; have A1 := hidp (Ag.start HS.out.1 HS.out.2.1 HS.out.2.2.1 HS.out.2.2.2 hw1.out)) | fail)
    refine (HM.out _ A1.out.rd).mono ?_
    rintro e w2 ⟨rfl, h2, hx2⟩
    have A2 := hidp (A1.out.read h2 hx2)
    have fc := A2.out.box.free 40
    have cc := (A2.out.box.cell 40).trans (rfl : (zT 7)[40]? = some (.bool false))
    clear h2 hx2 A1
    go_wp2_with fail
    refine (HE.out _ (A2.out.set 40 (.bool false)).rd).mono ?_
    rintro e w3 ⟨rfl, hB3⟩
    have A3 := hidp ((A2.out.set 40 (.bool false)).below hB3)
    clear hB3 cc fc A2
    go_wp2_with (first | (go_at_call 29; have A4 := hidp (A3.out.below ((Below.refl _ w3).alloc (Nat.le_refl _) (.cells #[.int .i64 4, .int .i64 (t : Nat)] 55))); refine (HR.out _ A4.out.rd).mono ?_; rintro e w5 ⟨rfl, rfl⟩) | fail)
    go_ret
    exact ⟨rfl, (A3.out.below ((Below.refl _ w3).alloc (Nat.le_refl _) _)).rd, (A3.out.below ((Below.refl _ w3).alloc (Nat.le_refl _) _)).bel⟩
  · have q4 : ((x : Int) == 4) = false := by rw [beq_eq_false_iff_ne]; omega
    clear hr hw hp hgr hb hx h4
    go_enter Try.func45, Try.ntmps45
    go_wp2_with (first | refine wpList_buildG (by kernel_rfl) 39 _ rfl (zT 7).toArray (by kernel_rfl) ?_ | (refine wpList_store_blk rfl 39 _ _ rfl w.heap.size (zT 7) _ 39 rfl rfl (Blk.new w (Array.toList _) _) (by kernel_rfl) rfl (by kernel_rfl) ?_; intro w1 hw1; have A1 := hidp (Ag.start HS.out.1 HS.out.2.1 HS.out.2.2.1 HS.out.2.2.2 hw1.out)) | fail)
    refine (HM.out _ A1.out.rd).mono ?_
    rintro e w2 ⟨rfl, h2, hx2⟩
    have A2 := hidp (A1.out.read h2 hx2)
    have fc := A2.out.box.free 40
    have cc := (A2.out.box.cell 40).trans (rfl : (zT 7)[40]? = some (.bool false))
    clear h2 hx2 A1
    go_wp2_with fail
    refine (HE.out _ (A2.out.set 40 (.bool false)).rd).mono ?_
    rintro e w3 ⟨rfl, hB3⟩
    have A3 := hidp ((A2.out.set 40 (.bool false)).below hB3)
    clear hB3 cc fc A2
    go_wp2_with (first | fail)
    go_ret
    exact ⟨rfl, (A3.out.below ((Below.refl _ w3).alloc (Nat.le_refl _) _)).rd, (A3.out.below ((Below.refl _ w3).alloc (Nat.le_refl _) _)).bel⟩

end Go.Proofs.Ytlfmmmlheloloaa
