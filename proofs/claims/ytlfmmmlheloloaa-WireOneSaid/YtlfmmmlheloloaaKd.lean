/-
  Contracts: again, of bytes.
-/
import Derived.Test.YtlfmmmlheloloaaKc
namespace Go.Proofs.Ytlfmmmlheloloaa
open Go.RowKit Go.Lib Go.Maps
attribute [local go_sem] run_bits run_frombits

set_option maxRecDepth 100000 in
set_option maxHeartbeats 1000000 in
theorem again2_ok {w : World} {gr t : Nat} {p : Option Addr} {b o cap : Nat} {R : List Nat} {gw lim : Nat} {v : Value} {X : List Nat} (hr : Rd w gr t p b o cap R 0 0) (hw : Wr w gw lim v X 0) (hgr : gr < gw) (hb : b < gw) (hfit : X.length + R.length ≤ lim) (v0 : List Nat) (n : Nat) (hp : pText R 1000 = .ok v0 n) :
    Calls Try.prog 45 #[.pointer (some ⟨gr, 0, none⟩), .pointer (some ⟨gw, 0, none⟩), .int .i64 2] w (AgP w gr (t + n) b (R.drop n) gw lim (X ++ R.take n)) := by
  have hby := hr.bs.byte
  have B32 : Bytes 32 (List.replicate 32 0) := ⟨by simp, by simp⟩
  have B4 : Bytes 4 (List.replicate 4 0) := ⟨by simp, by simp⟩
  obtain ⟨dk, hdg, hf, hn1, hle⟩ := pText_form hby hp
  have HD := hidp hdg
  have hlt := hle
  have hlm := hw.lim
  have HS := hidp (And.intro (show RdX w gr t b R 0 0 from ⟨p, o, cap, hr⟩) (And.intro hw (And.intro hgr hb)))
  have HM := hidp (fun (w1 : World) (A : RdX w1 gr t b R 0 0) => show Calls Try.prog 35 #[.pointer (some ⟨gr, 0, none⟩), .int .i64 1000] w1 fun e w' => (∃ u, e = .returned u ∧ FB w1.heap.size v0 u w') ∧ RdX w' gr (t + n) b (R.drop n) 0 0 ∧ Bex gr w1 w' by obtain ⟨p, o, cap, h⟩ := A; exact mBytes_ok gr t p b o cap R 1000 v0 n w1 h (by omega) hp)
  have HX := hidp hlt
  replace HM := HM.out
  obtain ⟨R2, hR2⟩ : ∃ R2, R2 = R.drop n := ⟨_, rfl⟩
  obtain ⟨tn, htn⟩ : ∃ tn, tn = t + n := ⟨_, rfl⟩
  rw [← hR2, ← htn] at HM ⊢
  replace HM := hidp HM
  have HF := hidp (And.intro (congrArg (X ++ ·) hf) (And.intro hn1 (And.intro hle hfit)))
  obtain ⟨x, y, hE, hxy⟩ := endE_cases tn 0 R2
  have HE := hidp (fun (w' : World) (A : RdX w' gr tn b R2 0 0) => mEndX A x y hE)
  have HR := hidp (fun (w' : World) (A : RdX w' gr tn b R2 0 0) => mRestX A)
  replace B32 := hidp B32
  replace B4 := hidp B4
  clear hr hw hp hf hle hlt hgr hb hfit hby hE hn1 hR2 htn hdg hlm
  rcases hxy with ⟨rfl, hy⟩ | ⟨rfl, hrl⟩
  · subst hy
    go_enter Try.func45, Try.ntmps45
    go_wp2_with (first | refine wpList_buildG (by kernel_rfl) 39 _ rfl (zT 2).toArray (by kernel_rfl) ?_ | (refine wpList_store_blk rfl 39 _ _ rfl w.heap.size (zT 2) _ 39 rfl rfl (Blk.new w (Array.toList _) _) (by kernel_rfl) rfl (by kernel_rfl) ?_; intro w1 hw1; have A1 := hidp (Ag.start HS.out.1 HS.out.2.1 HS.out.2.2.1 HS.out.2.2.2 hw1.out)) | fail)
    refine (HM.out _ A1.out.rd).mono ?_
    rintro e w2 ⟨⟨u, rfl, p1, b1, c1, rfl, hb1, hp1, hs1⟩, h2, hx2⟩
    have hgx := A1.out.box.lt
    have HB1 := hidp (And.intro (Nat.lt_of_lt_of_le hgx hb1) hs1)
    have A2 := hidp (A1.out.read h2 hx2)
    have fc := A2.out.box.free 2
    have cc := (A2.out.box.cell 2).trans (rfl : (zT 2)[2]? = some (.slice none 0 0))
    clear h2 hx2 A1 hgx hb1 hp1 hs1
    go_wp2_with fail
    refine (HE.out _ (A2.out.set 2 (.slice p1 v0.length c1)).rd).mono ?_
    rintro e w3 ⟨rfl, hB3⟩
    have A3 := hidp (Ag.tell (show (zT 2).set 2 (.slice p1 v0.length c1) = thL 2 0 p1 v0.length c1 (List.replicate 32 0) (List.replicate 4 0) 0 false from rfl) ((A2.out.set 2 (.slice p1 v0.length c1)).below hB3))
    have HB3 := hidp (And.intro HB1.out.1 ((HB1.out.2.bex ((Bex.refl w.heap.size _).setCell 2 (.slice p1 v0.length c1)) (fun _ => by have := HB1.out.1; omega)).below hB3))
    clear hB3 cc fc A2 HB1
    obtain ⟨T, hT⟩ : ∃ T, T = thL 2 0 p1 v0.length c1 (List.replicate 32 0) (List.replicate 4 0) 0 false := ⟨_, rfl⟩
    rw [← hT] at A3
    have hTl : Hid ((Try.prog.info? 39).map (·.size) = some T.length) := hidp (by rw [hT, thL_len _ _ _ _ _ _ _ (by simp) (by simp)]; kernel_rfl)
    replace hT := hidp hT
    go_wp2_with (first | (with_reducible refine (?_ : wpList _ _ _ _ _ _); have A5 := hidp (A3.out.below ((Below.refl _ w3).alloc (Nat.le_refl _) (.cells #[.int .i64 0, .int .i64 0] 55))); refine wpList_load_blkG (by kernel_rfl) 39 _ rfl w.heap.size _ 39 rfl A5.out.box _ Try.underlying39 rfl hTl.out ?_) | fail)
    have hT := hT.out
    subst hT
    refine (puts2_ok A5.out.wr 0 p1 c1 0 false (List.replicate 32 0) (List.replicate 4 0) B32.out B4.out b1 0 v0 (HB3.out.2.below ((Below.refl _ w3).alloc (Nat.le_refl _) _)) (fun a ha h0 => by
      have q := (HB3.out.2.ptr (by have := HB3.out.2.le; omega)).1
      rw [ha] at q
      cases q
      have q1 := HB3.out.1
      have q2 := A5.out.hgw
      exact ⟨by simp only; omega, fun h => by have := A5.out.own _ h; simp only at this; omega⟩) dk HD.out (by have := HF.out; omega)).mono ?_
    rintro e w6 h6
    obtain ⟨rfl, h7⟩ := A5.out.wrote h6
    have h7 := hidp h7
    go_wp2
    go_ret
    rw [HF.out.1] at h7
    exact h7.out
  · go_enter Try.func45, Try.ntmps45
    go_wp2_with (first | refine wpList_buildG (by kernel_rfl) 39 _ rfl (zT 2).toArray (by kernel_rfl) ?_ | (refine wpList_store_blk rfl 39 _ _ rfl w.heap.size (zT 2) _ 39 rfl rfl (Blk.new w (Array.toList _) _) (by kernel_rfl) rfl (by kernel_rfl) ?_; intro w1 hw1; have A1 := hidp (Ag.start HS.out.1 HS.out.2.1 HS.out.2.2.1 HS.out.2.2.2 hw1.out)) | fail)
    refine (HM.out _ A1.out.rd).mono ?_
    rintro e w2 ⟨⟨u, rfl, p1, b1, c1, rfl, hb1, hp1, hs1⟩, h2, hx2⟩
    have hgx := A1.out.box.lt
    have HB1 := hidp (And.intro (Nat.lt_of_lt_of_le hgx hb1) hs1)
    have A2 := hidp (A1.out.read h2 hx2)
    have fc := A2.out.box.free 2
    have cc := (A2.out.box.cell 2).trans (rfl : (zT 2)[2]? = some (.slice none 0 0))
    clear h2 hx2 A1 hgx hb1 hp1 hs1
    go_wp2_with fail
    refine (HE.out _ (A2.out.set 2 (.slice p1 v0.length c1)).rd).mono ?_
    rintro e w3 ⟨rfl, hB3⟩
    have A3 := hidp (Ag.tell (show (zT 2).set 2 (.slice p1 v0.length c1) = thL 2 0 p1 v0.length c1 (List.replicate 32 0) (List.replicate 4 0) 0 false from rfl) ((A2.out.set 2 (.slice p1 v0.length c1)).below hB3))
    have HB3 := hidp (And.intro HB1.out.1 ((HB1.out.2.bex ((Bex.refl w.heap.size _).setCell 2 (.slice p1 v0.length c1)) (fun _ => by have := HB1.out.1; omega)).below hB3))
    clear hB3 cc fc A2 HB1
    obtain ⟨T, hT⟩ : ∃ T, T = thL 2 0 p1 v0.length c1 (List.replicate 32 0) (List.replicate 4 0) 0 false := ⟨_, rfl⟩
    rw [← hT] at A3
    have hTl : Hid ((Try.prog.info? 39).map (·.size) = some T.length) := hidp (by rw [hT, thL_len _ _ _ _ _ _ _ (by simp) (by simp)]; kernel_rfl)
    replace hT := hidp hT
    have hgt : decide (0 < R2.length) = true := decide_eq_true hrl
    go_wp2_with (first | (with_reducible refine (?_ : wpList _ _ _ _ _ _); have A5 := hidp (A3.out.below ((Below.refl _ w3).alloc (Nat.le_refl _) (.cells #[.int .i64 4, .int .i64 (y : Nat)] 55))); refine wpList_load_blkG (by kernel_rfl) 39 _ rfl w.heap.size _ 39 rfl A5.out.box _ Try.underlying39 rfl hTl.out ?_) | (go_at_call 29; have A4 := hidp (A3.out.below ((Below.refl _ w3).alloc (Nat.le_refl _) (.cells #[.int .i64 4, .int .i64 (y : Nat)] 55))); refine (HR.out _ A4.out.rd).mono ?_; rintro e w5 ⟨rfl, rfl⟩) | fail)
    have hT := hT.out
    subst hT
    refine (puts2_ok A5.out.wr 0 p1 c1 0 false (List.replicate 32 0) (List.replicate 4 0) B32.out B4.out b1 0 v0 (HB3.out.2.below ((Below.refl _ w3).alloc (Nat.le_refl _) _)) (fun a ha h0 => by
      have q := (HB3.out.2.ptr (by have := HB3.out.2.le; omega)).1
      rw [ha] at q
      cases q
      have q1 := HB3.out.1
      have q2 := A5.out.hgw
      exact ⟨by simp only; omega, fun h => by have := A5.out.own _ h; simp only at this; omega⟩) dk HD.out (by have := HF.out; omega)).mono ?_
    rintro e w6 h6
    obtain ⟨rfl, h7⟩ := A5.out.wrote h6
    have h7 := hidp h7
    go_wp2
    go_ret
    rw [HF.out.1] at h7
    exact h7.out

set_option maxRecDepth 100000 in
set_option maxHeartbeats 1000000 in
theorem again2_er {w : World} {gr t : Nat} {p : Option Addr} {b o cap : Nat} {R : List Nat} {gw lim : Nat} {v : Value} {X : List Nat} (hr : Rd w gr t p b o cap R 0 0) (hw : Wr w gw lim v X 0) (hgr : gr < gw) (hb : b < gw) (x : Nat) (hx : x ≠ 0) (hp : pText R 1000 = .er x) :
    Calls Try.prog 45 #[.pointer (some ⟨gr, 0, none⟩), .pointer (some ⟨gw, 0, none⟩), .int .i64 2] w (AgE w gr t b x) := by
  have HS := hidp (And.intro (show RdX w gr t b R 0 0 from ⟨p, o, cap, hr⟩) (And.intro hw (And.intro hgr hb)))
  have HM := hidp (fun (w1 : World) (A : RdX w1 gr t b R 0 0) => show Calls Try.prog 35 #[.pointer (some ⟨gr, 0, none⟩), .int .i64 1000] w1 fun e w' => e = .returned (.slice none 0 0) ∧ RdX w' gr t b [] x t ∧ Bex gr w1 w' by obtain ⟨p, o, cap, h⟩ := A; exact mBytes_er gr t p b o cap R 1000 x w1 h hp)
  have HE := hidp (fun (w' : World) (A : RdX w' gr t b [] x t) => mEndX A x t (by unfold endE; rw [if_pos hx]))
  have HR := hidp (fun (w' : World) (A : RdX w' gr t b [] x t) => mRestX A)
  have q0 : ((x : Int) == 0) = false := by rw [beq_eq_false_iff_ne]; omega
  by_cases h4 : x = 4
  · subst h4
    clear hr hw hp hgr hb hx q0
    go_enter Try.func45, Try.ntmps45
    go_wp2_with (first | refine wpList_buildG (by kernel_rfl) 39 _ rfl (zT 2).toArray (by kernel_rfl) ?_ | (refine wpList_store_blk rfl 39 _ _ rfl w.heap.size (zT 2) _ 39 rfl rfl (Blk.new w (Array.toList _) _) (by kernel_rfl) rfl (by kernel_rfl) ?_; intro w1 hw1; have A1 := hidp (Ag.start HS.out.1 HS.out.2.1 HS.out.2.2.1 HS.out.2.2.2 hw1.out)) | fail)
    refine (HM.out _ A1.out.rd).mono ?_
    rintro e w2 ⟨rfl, h2, hx2⟩
    have A2 := hidp (A1.out.read h2 hx2)
    have fc := A2.out.box.free 2
    have cc := (A2.out.box.cell 2).trans (rfl : (zT 2)[2]? = some (.slice none 0 0))
    clear h2 hx2 A1
    go_wp2_with fail
    refine (HE.out _ (A2.out.set 2 (.slice none 0 0)).rd).mono ?_
    rintro e w3 ⟨rfl, hB3⟩
    have A3 := hidp ((A2.out.set 2 (.slice none 0 0)).below hB3)
    clear hB3 cc fc A2
    go_wp2_with (first | (go_at_call 29; have A4 := hidp (A3.out.below ((Below.refl _ w3).alloc (Nat.le_refl _) (.cells #[.int .i64 4, .int .i64 (t : Nat)] 55))); refine (HR.out _ A4.out.rd).mono ?_; rintro e w5 ⟨rfl, rfl⟩) | fail)
    go_ret
    exact ⟨rfl, (A3.out.below ((Below.refl _ w3).alloc (Nat.le_refl _) _)).rd, (A3.out.below ((Below.refl _ w3).alloc (Nat.le_refl _) _)).bel⟩
  · have q4 : ((x : Int) == 4) = false := by rw [beq_eq_false_iff_ne]; omega
    clear hr hw hp hgr hb hx h4
    go_enter Try.func45, Try.ntmps45
    go_wp2_with (first | refine wpList_buildG (by kernel_rfl) 39 _ rfl (zT 2).toArray (by kernel_rfl) ?_ | (refine wpList_store_blk rfl 39 _ _ rfl w.heap.size (zT 2) _ 39 rfl rfl (Blk.new w (Array.toList _) _) (by kernel_rfl) rfl (by kernel_rfl) ?_; intro w1 hw1; have A1 := hidp (Ag.start HS.out.1 HS.out.2.1 HS.out.2.2.1 HS.out.2.2.2 hw1.out)) | fail)
    refine (HM.out _ A1.out.rd).mono ?_
    rintro e w2 ⟨rfl, h2, hx2⟩
    have A2 := hidp (A1.out.read h2 hx2)
    have fc := A2.out.box.free 2
    have cc := (A2.out.box.cell 2).trans (rfl : (zT 2)[2]? = some (.slice none 0 0))
    clear h2 hx2 A1
    go_wp2_with fail
    refine (HE.out _ (A2.out.set 2 (.slice none 0 0)).rd).mono ?_
    rintro e w3 ⟨rfl, hB3⟩
    have A3 := hidp ((A2.out.set 2 (.slice none 0 0)).below hB3)
    clear hB3 cc fc A2
    go_wp2_with (first | fail)
    go_ret
    exact ⟨rfl, (A3.out.below ((Below.refl _ w3).alloc (Nat.le_refl _) _)).rd, (A3.out.below ((Below.refl _ w3).alloc (Nat.le_refl _) _)).bel⟩

end Go.Proofs.Ytlfmmmlheloloaa
