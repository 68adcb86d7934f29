/-
  Texts Kd, Ke, Kf, Kg, one behind the other.
-/
import Derived.Test.YtlfmmmlheloloaaKc
import Derived.Lib.ConvBytes

/-! Kd: Contracts: again, of bytes. -/
namespace Go.Proofs.Ytlfmmmlheloloaa
open Go.RowKit Go.Lib Go.Maps
attribute [local go_sem] run_bits run_frombits

set_option maxRecDepth 100000 in
set_option maxHeartbeats 1000000 in
theorem again2_ok {w : World} {gr t : Nat} {p : Option Addr} {b o cap : Nat} {R : List Nat} {gw lim : Nat} {v : Value} {X : List Nat} (hr : Rd w gr t p b o cap R 0 0) (hw : Wr w gw lim v X 0) (hgr : gr < gw) (hb : b < gw) (hfit : X.length + R.length ≤ lim) (v0 : List Nat) (n : Nat) (hp : pText R 1000 = .ok v0 n) :
    Calls Try.prog 45 #[.pointer (some ⟨gr, 0, none⟩), .pointer (some ⟨gw, 0, none⟩), .int .i64 2] w (AgP w gr (t + n) b (R.drop n) gw lim (X ++ R.take n)) := by
  have hby := hr.bs.byte
  have B32 : Bytes 32 (List.replicate 32 0) := ⟨by simp, by simp⟩
  have B4 : Bytes 4 (List.replicate 4 0) := ⟨by simp, by simp⟩
  obtain ⟨dk, hdg, hf, hn1, hle⟩ := pText_form hby hp
  have HD := hidp hdg
  have hlt := hle
  have hlm := hw.lim
  have HS := hidp (And.intro (show RdX w gr t b R 0 0 from ⟨p, o, cap, hr⟩) (And.intro hw (And.intro hgr hb)))
  have HM := hidp (fun (w1 : World) (A : RdX w1 gr t b R 0 0) => show Calls Try.prog 35 #[.pointer (some ⟨gr, 0, none⟩), .int .i64 1000] w1 fun e w' => (∃ u, e = .returned u ∧ FB w1.heap.size v0 u w') ∧ RdX w' gr (t + n) b (R.drop n) 0 0 ∧ Bex gr w1 w' by obtain ⟨p, o, cap, h⟩ := A; exact mBytes_ok gr t p b o cap R 1000 v0 n w1 h (by omega) hp)
  have HX := hidp hlt
  replace HM := HM.out
  obtain ⟨R2, hR2⟩ : ∃ R2, R2 = R.drop n := ⟨_, rfl⟩
  obtain ⟨tn, htn⟩ : ∃ tn, tn = t + n := ⟨_, rfl⟩
  rw [← hR2, ← htn] at HM ⊢
  replace HM := hidp HM
  have HF := hidp (And.intro (congrArg (X ++ ·) hf) (And.intro hn1 (And.intro hle hfit)))
  obtain ⟨x, y, hE, hxy⟩ := endE_cases tn 0 R2
  have HE := hidp (fun (w' : World) (A : RdX w' gr tn b R2 0 0) => mEndX A x y hE)
  have HR := hidp (fun (w' : World) (A : RdX w' gr tn b R2 0 0) => mRestX A)
  replace B32 := hidp B32
  replace B4 := hidp B4
  clear hr hw hp hf hle hlt hgr hb hfit hby hE hn1 hR2 htn hdg hlm
  rcases hxy with ⟨rfl, hy⟩ | ⟨rfl, hrl⟩
  · subst hy
    go_enter Try.func45, Try.ntmps45
    go_wp2_with (first | refine wpList_buildG (by kernel_rfl) 39 _ rfl (zT 2).toArray (by kernel_rfl) ?_ | (refine wpList_store_blk rfl 39 _ _ rfl w.heap.size (zT 2) _ 39 rfl rfl (Blk.new w (Array.toList _) _) (by kernel_rfl) rfl (by kernel_rfl) ?_; intro w1 hw1; have A1 := hidp (Ag.start HS.out.1 HS.out.2.1 HS.out.2.2.1 HS.out.2.2.2 hw1.out)) | fail)
    refine (HM.out _ A1.out.rd).mono ?_
    rintro e w2 ⟨⟨u, rfl, p1, b1, c1, rfl, hb1, hp1, hs1⟩, h2, hx2⟩
    have hgx := A1.out.box.lt
    have HB1 := hidp (And.intro (Nat.lt_of_lt_of_le hgx hb1) hs1)
    have A2 := hidp (A1.out.read h2 hx2)
    have fc := A2.out.box.free 2
    have cc := (A2.out.box.cell 2).trans (rfl : (zT 2)[2]? = some (.slice none 0 0))
    clear h2 hx2 A1 hgx hb1 hp1 hs1
    go_wp2_with fail
    refine (HE.out _ (A2.out.set 2 (.slice p1 v0.length c1)).rd).mono ?_
    rintro e w3 ⟨rfl, hB3⟩
    have A3 := hidp (Ag.tell (show (zT 2).set 2 (.slice p1 v0.length c1) = thL 2 0 p1 v0.length c1 (List.replicate 32 0) (List.replicate 4 0) 0 false from rfl) ((A2.out.set 2 (.slice p1 v0.length c1)).below hB3))
    have HB3 := hidp (And.intro HB1.out.1 ((HB1.out.2.bex ((Bex.refl w.heap.size _).setCell 2 (.slice p1 v0.length c1)) (fun _ => by have := HB1.out.1; omega)).below hB3))
    clear hB3 cc fc A2 HB1
    obtain ⟨T, hT⟩ : ∃ T, T = thL 2 0 p1 v0.length c1 (List.replicate 32 0) (List.replicate 4 0) 0 false := ⟨_, rfl⟩
    rw [← hT] at A3
    have hTl : Hid ((Try.prog.info? 39).map (·.size) = some T.length) := hidp (by rw [hT, thL_len _ _ _ _ _ _ _ (by simp) (by simp)]; kernel_rfl)
    replace hT := hidp hT
    go_wp2_with (first | (with_reducible refine (?_ : wpList _ _ _ _ _ _); have A5 := hidp (A3.out.below ((Below.refl _ w3).alloc (Nat.le_refl _) (.cells #[.int .i64 0, .int .i64 0] 55))); refine wpList_load_blkG (by kernel_rfl) 39 _ rfl w.heap.size _ 39 rfl A5.out.box _ Try.underlying39 rfl hTl.out ?_) | fail)
    have hT := hT.out
    subst hT
    refine (puts2_ok A5.out.wr 0 p1 c1 0 false (List.replicate 32 0) (List.replicate 4 0) B32.out B4.out b1 0 v0 (HB3.out.2.below ((Below.refl _ w3).alloc (Nat.le_refl _) _)) (fun a ha h0 => by
      have q := (HB3.out.2.ptr (by have := HB3.out.2.le; omega)).1
      rw [ha] at q
      cases q
      have q1 := HB3.out.1
      have q2 := A5.out.hgw
      exact ⟨by simp only; omega, fun h => by have := A5.out.own _ h; simp only at this; omega⟩) dk HD.out (by have := HF.out; omega)).mono ?_
    rintro e w6 h6
    obtain ⟨rfl, h7⟩ := A5.out.wrote h6
    have h7 := hidp h7
    go_wp2
    go_ret
    rw [HF.out.1] at h7
    exact h7.out
  · go_enter Try.func45, Try.ntmps45
    go_wp2_with (first | refine wpList_buildG (by kernel_rfl) 39 _ rfl (zT 2).toArray (by kernel_rfl) ?_ | (refine wpList_store_blk rfl 39 _ _ rfl w.heap.size (zT 2) _ 39 rfl rfl (Blk.new w (Array.toList _) _) (by kernel_rfl) rfl (by kernel_rfl) ?_; intro w1 hw1; have A1 := hidp (Ag.start HS.out.1 HS.out.2.1 HS.out.2.2.1 HS.out.2.2.2 hw1.out)) | fail)
    refine (HM.out _ A1.out.rd).mono ?_
    rintro e w2 ⟨⟨u, rfl, p1, b1, c1, rfl, hb1, hp1, hs1⟩, h2, hx2⟩
    have hgx := A1.out.box.lt
    have HB1 := hidp (And.intro (Nat.lt_of_lt_of_le hgx hb1) hs1)
    have A2 := hidp (A1.out.read h2 hx2)
    have fc := A2.out.box.free 2
    have cc := (A2.out.box.cell 2).trans (rfl : (zT 2)[2]? = some (.slice none 0 0))
    clear h2 hx2 A1 hgx hb1 hp1 hs1
    go_wp2_with fail
    refine (HE.out _ (A2.out.set 2 (.slice p1 v0.length c1)).rd).mono ?_
    rintro e w3 ⟨rfl, hB3⟩
    have A3 := hidp (Ag.tell (show (zT 2).set 2 (.slice p1 v0.length c1) = thL 2 0 p1 v0.length c1 (List.replicate 32 0) (List.replicate 4 0) 0 false from rfl) ((A2.out.set 2 (.slice p1 v0.length c1)).below hB3))
    have HB3 := hidp (And.intro HB1.out.1 ((HB1.out.2.bex ((Bex.refl w.heap.size _).setCell 2 (.slice p1 v0.length c1)) (fun _ => by have := HB1.out.1; omega)).below hB3))
    clear hB3 cc fc A2 HB1
    obtain ⟨T, hT⟩ : ∃ T, T = thL 2 0 p1 v0.length c1 (List.replicate 32 0) (List.replicate 4 0) 0 false := ⟨_, rfl⟩
    rw [← hT] at A3
    have hTl : Hid ((Try.prog.info? 39).map (·.size) = some T.length) := hidp (by rw [hT, thL_len _ _ _ _ _ _ _ (by simp) (by simp)]; kernel_rfl)
    replace hT := hidp hT
    have hgt : decide (0 < R2.length) = true := decide_eq_true hrl
    go_wp2_with (first | (with_reducible refine (?_ : wpList _ _ _ _ _ _); have A5 := hidp (A3.out.below ((Below.refl _ w3).alloc (Nat.le_refl _) (.cells #[.int .i64 4, .int .i64 (y : Nat)] 55))); refine wpList_load_blkG (by kernel_rfl) 39 _ rfl w.heap.size _ 39 rfl A5.out.box _ Try.underlying39 rfl hTl.out ?_) | (go_at_call 29; have A4 := hidp (A3.out.below ((Below.refl _ w3).alloc (Nat.le_refl _) (.cells #[.int .i64 4, .int .i64 (y : Nat)] 55))); refine (HR.out _ A4.out.rd).mono ?_; rintro e w5 ⟨rfl, rfl⟩) | fail)
    have hT := hT.out
    subst hT
    refine (puts2_ok A5.out.wr 0 p1 c1 0 false (List.replicate 32 0) (List.replicate 4 0) B32.out B4.out b1 0 v0 (HB3.out.2.below ((Below.refl _ w3).alloc (Nat.le_refl _) _)) (fun a ha h0 => by
      have q := (HB3.out.2.ptr (by have := HB3.out.2.le; omega)).1
      rw [ha] at q
      cases q
      have q1 := HB3.out.1
      have q2 := A5.out.hgw
      exact ⟨by simp only; omega, fun h => by have := A5.out.own _ h; simp only at this; omega⟩) dk HD.out (by have := HF.out; omega)).mono ?_
    rintro e w6 h6
    obtain ⟨rfl, h7⟩ := A5.out.wrote h6
    have h7 := hidp h7
    go_wp2
    go_ret
    rw [HF.out.1] at h7
    exact h7.out

set_option maxRecDepth 100000 in
set_option maxHeartbeats 1000000 in
theorem again2_er {w : World} {gr t : Nat} {p : Option Addr} {b o cap : Nat} {R : List Nat} {gw lim : Nat} {v : Value} {X : List Nat} (hr : Rd w gr t p b o cap R 0 0) (hw : Wr w gw lim v X 0) (hgr : gr < gw) (hb : b < gw) (x : Nat) (hx : x ≠ 0) (hp : pText R 1000 = .er x) :
    Calls Try.prog 45 #[.pointer (some ⟨gr, 0, none⟩), .pointer (some ⟨gw, 0, none⟩), .int .i64 2] w (AgE w gr t b x) := by
  have HS := hidp (And.intro (show RdX w gr t b R 0 0 from ⟨p, o, cap, hr⟩) (And.intro hw (And.intro hgr hb)))
  have HM := hidp (fun (w1 : World) (A : RdX w1 gr t b R 0 0) => show Calls Try.prog 35 #[.pointer (some ⟨gr, 0, none⟩), .int .i64 1000] w1 fun e w' => e = .returned (.slice none 0 0) ∧ RdX w' gr t b [] x t ∧ Bex gr w1 w' by obtain ⟨p, o, cap, h⟩ := A; exact mBytes_er gr t p b o cap R 1000 x w1 h hp)
  have HE := hidp (fun (w' : World) (A : RdX w' gr t b [] x t) => mEndX A x t (by unfold endE; rw [if_pos hx]))
  have HR := hidp (fun (w' : World) (A : RdX w' gr t b [] x t) => mRestX A)
  have q0 : ((x : Int) == 0) = false := by rw [beq_eq_false_iff_ne]; omega
  by_cases h4 : x = 4
  · subst h4
    clear hr hw hp hgr hb hx q0
    go_enter Try.func45, Try.ntmps45
    go_wp2_with (first | refine wpList_buildG (by kernel_rfl) 39 _ rfl (zT 2).toArray (by kernel_rfl) ?_ | (refine wpList_store_blk rfl 39 _ _ rfl w.heap.size (zT 2) _ 39 rfl rfl (Blk.new w (Array.toList _) _) (by kernel_rfl) rfl (by kernel_rfl) ?_; intro w1 hw1; have A1 := hidp (Ag.start HS.out.1 HS.out.2.1 HS.out.2.2.1 HS.out.2.2.2 hw1.out)) | fail)
    refine (HM.out _ A1.out.rd).mono ?_
    rintro e w2 ⟨rfl, h2, hx2⟩
    have A2 := hidp (A1.out.read h2 hx2)
    have fc := A2.out.box.free 2
    have cc := (A2.out.box.cell 2).trans (rfl : (zT 2)[2]? = some (.slice none 0 0))
    clear h2 hx2 A1
    go_wp2_with fail
    refine (HE.out _ (A2.out.set 2 (.slice none 0 0)).rd).mono ?_
    rintro e w3 ⟨rfl, hB3⟩
    have A3 := hidp ((A2.out.set 2 (.slice none 0 0)).below hB3)
    clear hB3 cc fc A2
    go_wp2_with (first | (go_at_call 29; have A4 := hidp (A3.out.below ((Below.refl _ w3).alloc (Nat.le_refl _) (.cells #[.int .i64 4, .int .i64 (t : Nat)] 55))); refine (HR.out _ A4.out.rd).mono ?_; rintro e w5 ⟨rfl, rfl⟩) | fail)
    go_ret
    exact ⟨rfl, (A3.out.below ((Below.refl _ w3).alloc (Nat.le_refl _) _)).rd, (A3.out.below ((Below.refl _ w3).alloc (Nat.le_refl _) _)).bel⟩
  · have q4 : ((x : Int) == 4) = false := by rw [beq_eq_false_iff_ne]; omega
    clear hr hw hp hgr hb hx h4
    go_enter Try.func45, Try.ntmps45
    go_wp2_with (first | refine wpList_buildG (by kernel_rfl) 39 _ rfl (zT 2).toArray (by kernel_rfl) ?_ | (refine wpList_store_blk rfl 39 _ _ rfl w.heap.size (zT 2) _ 39 rfl rfl (Blk.new w (Array.toList _) _) (by kernel_rfl) rfl (by kernel_rfl) ?_; intro w1 hw1; have A1 := hidp (Ag.start HS.out.1 HS.out.2.1 HS.out.2.2.1 HS.out.2.2.2 hw1.out)) | fail)
    refine (HM.out _ A1.out.rd).mono ?_
    rintro e w2 ⟨rfl, h2, hx2⟩
    have A2 := hidp (A1.out.read h2 hx2)
    have fc := A2.out.box.free 2
    have cc := (A2.out.box.cell 2).trans (rfl : (zT 2)[2]? = some (.slice none 0 0))
    clear h2 hx2 A1
    go_wp2_with fail
    refine (HE.out _ (A2.out.set 2 (.slice none 0 0)).rd).mono ?_
    rintro e w3 ⟨rfl, hB3⟩
    have A3 := hidp ((A2.out.set 2 (.slice none 0 0)).below hB3)
    clear hB3 cc fc A2
    go_wp2_with (first | fail)
    go_ret
    exact ⟨rfl, (A3.out.below ((Below.refl _ w3).alloc (Nat.le_refl _) _)).rd, (A3.out.below ((Below.refl _ w3).alloc (Nat.le_refl _) _)).bel⟩

end Go.Proofs.Ytlfmmmlheloloaa

/-! Ke: Contracts: again, of hashes and keys. -/
namespace Go.Proofs.Ytlfmmmlheloloaa
open Go.RowKit Go.Lib Go.Maps
attribute [local go_sem] run_bits run_frombits

/-- Cells laid from a place on. -/
def setsL : List Value → Nat → List Value → List Value
  | cs, _, [] => cs
  | cs, o, v :: r => setsL (cs.set o v) (o + 1) r
theorem Blk.sets {b : Nat} {T : TypeId} : ∀ (vs : List Value) (o : Nat) (w : World) (cs : List Value), Blk w b cs T → Blk (w.setCells b o vs) b (setsL cs o vs) T
  | [], _, _, _, h => h
  | v :: r, o, _, _, h => Blk.sets r (o + 1) _ _ (h.set o v)
theorem Bex.sets (b : Nat) : ∀ (vs : List Value) (o : Nat) (w : World), Bex b w (w.setCells b o vs)
  | [], _, w => Bex.refl b w
  | v :: r, o, w => ((Bex.refl b w).setCell o v).trans (Bex.sets b r (o + 1) _)
theorem setsL_mid : ∀ (V A B C : List Value), B.length = V.length → setsL (A ++ (B ++ C)) A.length V = A ++ (V ++ C)
  | [], A, B, C, h => by
    have : B = [] := List.eq_nil_of_length_eq_zero h
    subst this
    rfl
  | v :: r, A, [], C, h => by simp at h
  | v :: r, A, x :: B, C, h => by
    have q := setsL_mid r (A ++ [v]) B C (by simpa using h)
    simp only [List.append_assoc, List.length_append, List.length_cons, List.length_nil, List.cons_append, List.nil_append] at q
    simp only [setsL, List.cons_append]
    rw [List.set_append_right _ _ (Nat.le_refl _), Nat.sub_self, List.set_cons_zero]
    exact q
theorem setsL_h {h : List Nat} (hh : h.length = 32) : setsL (zT 3) 3 (bvs h) = thL 3 0 none 0 0 h (List.replicate 4 0) 0 false := by
  have q := setsL_mid (bvs h) [.int .i64 3, .int .i64 0, .slice none 0 0] (bvs (List.replicate 32 0)) (bvs (List.replicate 4 0) ++ [.int .u64 ((0 : Nat) : Int), .bool false]) (by rw [bvs_len, bvs_len, hh]; rfl)
  exact q
theorem setsL_k {k : List Nat} (hk : k.length = 4) : setsL (zT 4) 35 (bvs k) = thL 4 0 none 0 0 (List.replicate 32 0) k 0 false := by
  have q := setsL_mid (bvs k) ([.int .i64 4, .int .i64 0, .slice none 0 0] ++ bvs (List.replicate 32 0)) (bvs (List.replicate 4 0)) [.int .u64 ((0 : Nat) : Int), .bool false] (by rw [bvs_len, bvs_len, hk]; rfl)
  simp only [List.append_assoc] at q
  exact q
theorem Blk.there {w : World} {b : Nat} {cs : List Value} {T : TypeId} (h : Blk w b cs T) (o n : Nat) (hn : o + n ≤ cs.length) : w.there b o n := fun j hj =>
  ⟨by rw [h.cell (o + j), List.getElem?_eq_getElem (by omega)]; rfl, h.free (o + j)⟩
theorem Ag.sets {w0 w : World} {gr t b : Nat} {R : List Nat} {e f : Nat} {gw lim : Nat} {v : Value} {X : List Nat} {T : List Value} (H : Ag w0 w gr t b R e f gw lim v X T) (o : Nat) (vs : List Value) : Ag w0 (w.setCells w0.heap.size o vs) gr t b R e f gw lim v X (setsL T o vs) :=
  H.at (Bex.sets _ vs o w) (H.box.sets vs o w T)

set_option maxRecDepth 100000 in
set_option maxHeartbeats 1000000 in
theorem again3_ok {w : World} {gr t : Nat} {p : Option Addr} {b o cap : Nat} {R : List Nat} {gw lim : Nat} {v : Value} {X : List Nat} (hr : Rd w gr t p b o cap R 0 0) (hw : Wr w gw lim v X 0) (hgr : gr < gw) (hb : b < gw) (hfit : X.length + R.length ≤ lim) (v0 : List Nat) (n : Nat) (hp : pRaw 32 R = .ok v0 n) :
    Calls Try.prog 45 #[.pointer (some ⟨gr, 0, none⟩), .pointer (some ⟨gw, 0, none⟩), .int .i64 3] w (AgP w gr (t + n) b (R.drop n) gw lim (X ++ R.take n)) := by
  have hby := hr.bs.byte
  have B32 : Bytes 32 (List.replicate 32 0) := ⟨by simp, by simp⟩
  have B4 : Bytes 4 (List.replicate 4 0) := ⟨by simp, by simp⟩
  obtain ⟨hf, hn1, hle⟩ := pRaw_ok hp
  have hl32 : Bytes 32 v0 := by rw [hf]; exact ⟨by rw [List.length_take]; omega, fun x hx => hby x (List.mem_of_mem_take hx)⟩
  rw [← hn1] at hf
  have HL := hidp hl32
  have hlt := hle
  have HS := hidp (And.intro (show RdX w gr t b R 0 0 from ⟨p, o, cap, hr⟩) (And.intro hw (And.intro hgr hb)))
  have HM := hidp (fun (w1 : World) (A : RdX w1 gr t b R 0 0) => show Calls Try.prog 36 #[.pointer (some ⟨gr, 0, none⟩)] w1 fun e w' => e = .returned (.agg (bvs v0).toArray) ∧ RdX w' gr (t + n) b (R.drop n) 0 0 ∧ Bex gr w1 w' by obtain ⟨p, o, cap, h⟩ := A; exact mHash_ok gr t p b o cap R v0 n w1 h hp)
  have HX := hidp hlt
  replace HM := HM.out
  obtain ⟨R2, hR2⟩ : ∃ R2, R2 = R.drop n := ⟨_, rfl⟩
  obtain ⟨tn, htn⟩ : ∃ tn, tn = t + n := ⟨_, rfl⟩
  rw [← hR2, ← htn] at HM ⊢
  replace HM := hidp HM
  have HF := hidp (And.intro (congrArg (X ++ ·) hf) (And.intro hn1 (And.intro hle hfit)))
  obtain ⟨x, y, hE, hxy⟩ := endE_cases tn 0 R2
  have HE := hidp (fun (w' : World) (A : RdX w' gr tn b R2 0 0) => mEndX A x y hE)
  have HR := hidp (fun (w' : World) (A : RdX w' gr tn b R2 0 0) => mRestX A)
  replace B32 := hidp B32
  replace B4 := hidp B4
  clear hr hw hp hf hle hlt hgr hb hfit hby hE hn1 hR2 htn hl32
  rcases hxy with ⟨rfl, hy⟩ | ⟨rfl, hrl⟩
  · subst hy
    go_enter Try.func45, Try.ntmps45
    go_wp2_with (first | refine wpList_buildG (by kernel_rfl) 39 _ rfl (zT 3).toArray (by kernel_rfl) ?_ | (refine wpList_store_blk rfl 39 _ _ rfl w.heap.size (zT 3) _ 39 rfl rfl (Blk.new w (Array.toList _) _) (by kernel_rfl) rfl (by kernel_rfl) ?_; intro w1 hw1; have A1 := hidp (Ag.start HS.out.1 HS.out.2.1 HS.out.2.2.1 HS.out.2.2.2 hw1.out)) | fail)
    refine (HM.out _ A1.out.rd).mono ?_
    rintro e w2 ⟨rfl, h2, hx2⟩
    have A2 := hidp (A1.out.read h2 hx2)
    have HSZ : Hid ((Try.prog.info? 34).map (·.size) = some (bvs v0).toArray.size) := hidp (by rw [List.size_toArray, bvs_len, HL.out.1]; kernel_rfl)
    have HTH : Hid (w2.there w.heap.size 3 (bvs v0).toArray.size) := hidp (A2.out.box.there 3 _ (by rw [List.size_toArray, bvs_len, HL.out.1]; unfold zT; rw [thL_len _ _ _ _ _ _ _ (by simp) (by simp)]; decide))
    clear h2 hx2 A1
    go_wp2_with (first | (with_reducible refine (?_ : wpList _ _ _ _ _ _); refine wpList_store_mid rfl 34 _ _ rfl w.heap.size 3 (bvs v0).toArray rfl rfl HTH.out HSZ.out (bvs_one _) ?_) | fail)
    refine (HE.out _ (A2.out.sets 3 _).rd).mono ?_
    rintro e w3 ⟨rfl, hB3⟩
    have A3 := hidp (Ag.tell (setsL_h HL.out.1) ((A2.out.sets 3 (bvs v0)).below hB3))
    clear hB3 A2 HTH
    obtain ⟨T, hT⟩ : ∃ T, T = thL 3 0 none 0 0 v0 (List.replicate 4 0) 0 false := ⟨_, rfl⟩
    rw [← hT] at A3
    have hTl : Hid ((Try.prog.info? 39).map (·.size) = some T.length) := hidp (by rw [hT, thL_len _ _ _ _ _ _ _ HL.out.1 (by simp)]; kernel_rfl)
    replace hT := hidp hT
    go_wp2_with (first | (with_reducible refine (?_ : wpList _ _ _ _ _ _); have A5 := hidp (A3.out.below ((Below.refl _ w3).alloc (Nat.le_refl _) (.cells #[.int .i64 0, .int .i64 0] 55))); refine wpList_load_blkG (by kernel_rfl) 39 _ rfl w.heap.size _ 39 rfl A5.out.box _ Try.underlying39 rfl hTl.out ?_) | fail)
    have hT := hT.out
    subst hT
    refine (puts3_ok A5.out.wr 0 none 0 0 0 false v0 (List.replicate 4 0) HL.out B4 (by have := HF.out; omega)).mono ?_
    rintro e w6 h6
    obtain ⟨rfl, h7⟩ := A5.out.wrote h6
    have h7 := hidp h7
    go_wp2
    go_ret
    rw [HF.out.1] at h7
    exact h7.out
  · go_enter Try.func45, Try.ntmps45
    go_wp2_with (first | refine wpList_buildG (by kernel_rfl) 39 _ rfl (zT 3).toArray (by kernel_rfl) ?_ | (refine wpList_store_blk rfl 39 _ _ rfl w.heap.size (zT 3) _ 39 rfl rfl (Blk.new w (Array.toList _) _) (by kernel_rfl) rfl (by kernel_rfl) ?_; intro w1 hw1; have A1 := hidp (Ag.start HS.out.1 HS.out.2.1 HS.out.2.2.1 HS.out.2.2.2 hw1.out)) | fail)
    refine (HM.out _ A1.out.rd).mono ?_
    rintro e w2 ⟨rfl, h2, hx2⟩
    have A2 := hidp (A1.out.read h2 hx2)
    have HSZ : Hid ((Try.prog.info? 34).map (·.size) = some (bvs v0).toArray.size) := hidp (by rw [List.size_toArray, bvs_len, HL.out.1]; kernel_rfl)
    have HTH : Hid (w2.there w.heap.size 3 (bvs v0).toArray.size) := hidp (A2.out.box.there 3 _ (by rw [List.size_toArray, bvs_len, HL.out.1]; unfold zT; rw [thL_len _ _ _ _ _ _ _ (by simp) (by simp)]; decide))
    clear h2 hx2 A1
    go_wp2_with (first | (with_reducible refine (?_ : wpList _ _ _ _ _ _); refine wpList_store_mid rfl 34 _ _ rfl w.heap.size 3 (bvs v0).toArray rfl rfl HTH.out HSZ.out (bvs_one _) ?_) | fail)
    refine (HE.out _ (A2.out.sets 3 _).rd).mono ?_
    rintro e w3 ⟨rfl, hB3⟩
    have A3 := hidp (Ag.tell (setsL_h HL.out.1) ((A2.out.sets 3 (bvs v0)).below hB3))
    clear hB3 A2 HTH
    obtain ⟨T, hT⟩ : ∃ T, T = thL 3 0 none 0 0 v0 (List.replicate 4 0) 0 false := ⟨_, rfl⟩
    rw [← hT] at A3
    have hTl : Hid ((Try.prog.info? 39).map (·.size) = some T.length) := hidp (by rw [hT, thL_len _ _ _ _ _ _ _ HL.out.1 (by simp)]; kernel_rfl)
    replace hT := hidp hT
    have hgt : decide (0 < R2.length) = true := decide_eq_true hrl
    go_wp2_with (first | (with_reducible refine (?_ : wpList _ _ _ _ _ _); have A5 := hidp (A3.out.below ((Below.refl _ w3).alloc (Nat.le_refl _) (.cells #[.int .i64 4, .int .i64 (y : Nat)] 55))); refine wpList_load_blkG (by kernel_rfl) 39 _ rfl w.heap.size _ 39 rfl A5.out.box _ Try.underlying39 rfl hTl.out ?_) | (go_at_call 29; have A4 := hidp (A3.out.below ((Below.refl _ w3).alloc (Nat.le_refl _) (.cells #[.int .i64 4, .int .i64 (y : Nat)] 55))); refine (HR.out _ A4.out.rd).mono ?_; rintro e w5 ⟨rfl, rfl⟩) | fail)
    have hT := hT.out
    subst hT
    refine (puts3_ok A5.out.wr 0 none 0 0 0 false v0 (List.replicate 4 0) HL.out B4 (by have := HF.out; omega)).mono ?_
    rintro e w6 h6
    obtain ⟨rfl, h7⟩ := A5.out.wrote h6
    have h7 := hidp h7
    go_wp2
    go_ret
    rw [HF.out.1] at h7
    exact h7.out

set_option maxRecDepth 100000 in
set_option maxHeartbeats 1000000 in
theorem again3_er {w : World} {gr t : Nat} {p : Option Addr} {b o cap : Nat} {R : List Nat} {gw lim : Nat} {v : Value} {X : List Nat} (hr : Rd w gr t p b o cap R 0 0) (hw : Wr w gw lim v X 0) (hgr : gr < gw) (hb : b < gw) (x : Nat) (hx : x ≠ 0) (hp : pRaw 32 R = .er x) :
    Calls Try.prog 45 #[.pointer (some ⟨gr, 0, none⟩), .pointer (some ⟨gw, 0, none⟩), .int .i64 3] w (AgE w gr t b x) := by
  have HS := hidp (And.intro (show RdX w gr t b R 0 0 from ⟨p, o, cap, hr⟩) (And.intro hw (And.intro hgr hb)))
  have HM := hidp (fun (w1 : World) (A : RdX w1 gr t b R 0 0) => show b < w1.heap.size → Calls Try.prog 36 #[.pointer (some ⟨gr, 0, none⟩)] w1 fun e w' => e = .returned (.agg (bvs (List.replicate 32 0)).toArray) ∧ RdX w' gr t b [] x t ∧ Bex gr w1 w' from fun hbw => by obtain ⟨p, o, cap, h⟩ := A; exact mHash_er gr t p b o cap R x w1 h hbw hp)
  have HE := hidp (fun (w' : World) (A : RdX w' gr t b [] x t) => mEndX A x t (by unfold endE; rw [if_pos hx]))
  have HR := hidp (fun (w' : World) (A : RdX w' gr t b [] x t) => mRestX A)
  have q0 : ((x : Int) == 0) = false := by rw [beq_eq_false_iff_ne]; omega
  by_cases h4 : x = 4
  · subst h4
    clear hr hw hp hgr hb hx q0
    go_enter Try.func45, Try.ntmps45
    go_wp2_with (first | refine wpList_buildG (by kernel_rfl) 39 _ rfl (zT 3).toArray (by kernel_rfl) ?_ | (refine wpList_store_blk rfl 39 _ _ rfl w.heap.size (zT 3) _ 39 rfl rfl (Blk.new w (Array.toList _) _) (by kernel_rfl) rfl (by kernel_rfl) ?_; intro w1 hw1; have A1 := hidp (Ag.start HS.out.1 HS.out.2.1 HS.out.2.2.1 HS.out.2.2.2 hw1.out)) | fail)
    refine (HM.out _ A1.out.rd (by have := A1.out.hb; have := A1.out.wr.blk.lt; omega)).mono ?_
    rintro e w2 ⟨rfl, h2, hx2⟩
    have A2 := hidp (A1.out.read h2 hx2)
    have HSZ : Hid ((Try.prog.info? 34).map (·.size) = some (bvs (List.replicate 32 0)).toArray.size) := hidp (by rw [List.size_toArray, bvs_len, List.length_replicate]; kernel_rfl)
    have HTH : Hid (w2.there w.heap.size 3 (bvs (List.replicate 32 0)).toArray.size) := hidp (A2.out.box.there 3 _ (by rw [List.size_toArray, bvs_len, List.length_replicate]; unfold zT; rw [thL_len _ _ _ _ _ _ _ (by simp) (by simp)]; decide))
    clear h2 hx2 A1
    go_wp2_with (first | (with_reducible refine (?_ : wpList _ _ _ _ _ _); refine wpList_store_mid rfl 34 _ _ rfl w.heap.size 3 (bvs (List.replicate 32 0)).toArray rfl rfl HTH.out HSZ.out (bvs_one _) ?_) | fail)
    refine (HE.out _ (A2.out.sets 3 _).rd).mono ?_
    rintro e w3 ⟨rfl, hB3⟩
    have A3 := hidp ((A2.out.sets 3 _).below hB3)
    clear hB3 A2 HTH
    go_wp2_with (first | (go_at_call 29; have A4 := hidp (A3.out.below ((Below.refl _ w3).alloc (Nat.le_refl _) (.cells #[.int .i64 4, .int .i64 (t : Nat)] 55))); refine (HR.out _ A4.out.rd).mono ?_; rintro e w5 ⟨rfl, rfl⟩) | fail)
    go_ret
    exact ⟨rfl, (A3.out.below ((Below.refl _ w3).alloc (Nat.le_refl _) _)).rd, (A3.out.below ((Below.refl _ w3).alloc (Nat.le_refl _) _)).bel⟩
  · have q4 : ((x : Int) == 4) = false := by rw [beq_eq_false_iff_ne]; omega
    clear hr hw hp hgr hb hx h4
    go_enter Try.func45, Try.ntmps45
    go_wp2_with (first | refine wpList_buildG (by kernel_rfl) 39 _ rfl (zT 3).toArray (by kernel_rfl) ?_ | (refine wpList_store_blk rfl 39 _ _ rfl w.heap.size (zT 3) _ 39 rfl rfl (Blk.new w (Array.toList _) _) (by kernel_rfl) rfl (by kernel_rfl) ?_; intro w1 hw1; have A1 := hidp (Ag.start HS.out.1 HS.out.2.1 HS.out.2.2.1 HS.out.2.2.2 hw1.out)) | fail)
    refine (HM.out _ A1.out.rd (by have := A1.out.hb; have := A1.out.wr.blk.lt; omega)).mono ?_
    rintro e w2 ⟨rfl, h2, hx2⟩
    have A2 := hidp (A1.out.read h2 hx2)
    have HSZ : Hid ((Try.prog.info? 34).map (·.size) = some (bvs (List.replicate 32 0)).toArray.size) := hidp (by rw [List.size_toArray, bvs_len, List.length_replicate]; kernel_rfl)
    have HTH : Hid (w2.there w.heap.size 3 (bvs (List.replicate 32 0)).toArray.size) := hidp (A2.out.box.there 3 _ (by rw [List.size_toArray, bvs_len, List.length_replicate]; unfold zT; rw [thL_len _ _ _ _ _ _ _ (by simp) (by simp)]; decide))
    clear h2 hx2 A1
    go_wp2_with (first | (with_reducible refine (?_ : wpList _ _ _ _ _ _); refine wpList_store_mid rfl 34 _ _ rfl w.heap.size 3 (bvs (List.replicate 32 0)).toArray rfl rfl HTH.out HSZ.out (bvs_one _) ?_) | fail)
    refine (HE.out _ (A2.out.sets 3 _).rd).mono ?_
    rintro e w3 ⟨rfl, hB3⟩
    have A3 := hidp ((A2.out.sets 3 _).below hB3)
    clear hB3 A2 HTH
    go_wp2_with (first | fail)
    go_ret
    exact ⟨rfl, (A3.out.below ((Below.refl _ w3).alloc (Nat.le_refl _) _)).rd, (A3.out.below ((Below.refl _ w3).alloc (Nat.le_refl _) _)).bel⟩

set_option maxRecDepth 100000 in
set_option maxHeartbeats 1000000 in
theorem again4_ok {w : World} {gr t : Nat} {p : Option Addr} {b o cap : Nat} {R : List Nat} {gw lim : Nat} {v : Value} {X : List Nat} (hr : Rd w gr t p b o cap R 0 0) (hw : Wr w gw lim v X 0) (hgr : gr < gw) (hb : b < gw) (hfit : X.length + R.length ≤ lim) (v0 : List Nat) (n : Nat) (hp : pRaw 4 R = .ok v0 n) :
    Calls Try.prog 45 #[.pointer (some ⟨gr, 0, none⟩), .pointer (some ⟨gw, 0, none⟩), .int .i64 4] w (AgP w gr (t + n) b (R.drop n) gw lim (X ++ R.take n)) := by
  have hby := hr.bs.byte
  have B32 : Bytes 32 (List.replicate 32 0) := ⟨by simp, by simp⟩
  have B4 : Bytes 4 (List.replicate 4 0) := ⟨by simp, by simp⟩
  obtain ⟨hf, hn1, hle⟩ := pRaw_ok hp
  have hl32 : Bytes 4 v0 := by rw [hf]; exact ⟨by rw [List.length_take]; omega, fun x hx => hby x (List.mem_of_mem_take hx)⟩
  rw [← hn1] at hf
  have HL := hidp hl32
  have hlt := hle
  have HS := hidp (And.intro (show RdX w gr t b R 0 0 from ⟨p, o, cap, hr⟩) (And.intro hw (And.intro hgr hb)))
  have HM := hidp (fun (w1 : World) (A : RdX w1 gr t b R 0 0) => show Calls Try.prog 37 #[.pointer (some ⟨gr, 0, none⟩)] w1 fun e w' => e = .returned (.agg (bvs v0).toArray) ∧ RdX w' gr (t + n) b (R.drop n) 0 0 ∧ Bex gr w1 w' by obtain ⟨p, o, cap, h⟩ := A; exact mKey_ok gr t p b o cap R v0 n w1 h hp)
  have HX := hidp hlt
  replace HM := HM.out
  obtain ⟨R2, hR2⟩ : ∃ R2, R2 = R.drop n := ⟨_, rfl⟩
  obtain ⟨tn, htn⟩ : ∃ tn, tn = t + n := ⟨_, rfl⟩
  rw [← hR2, ← htn] at HM ⊢
  replace HM := hidp HM
  have HF := hidp (And.intro (congrArg (X ++ ·) hf) (And.intro hn1 (And.intro hle hfit)))
  obtain ⟨x, y, hE, hxy⟩ := endE_cases tn 0 R2
  have HE := hidp (fun (w' : World) (A : RdX w' gr tn b R2 0 0) => mEndX A x y hE)
  have HR := hidp (fun (w' : World) (A : RdX w' gr tn b R2 0 0) => mRestX A)
  replace B32 := hidp B32
  replace B4 := hidp B4
  clear hr hw hp hf hle hlt hgr hb hfit hby hE hn1 hR2 htn hl32
  rcases hxy with ⟨rfl, hy⟩ | ⟨rfl, hrl⟩
  · subst hy
    go_enter Try.func45, Try.ntmps45
    go_wp2_with (first | refine wpList_buildG (by kernel_rfl) 39 _ rfl (zT 4).toArray (by kernel_rfl) ?_ | (refine wpList_store_blk rfl 39 _ _ rfl w.heap.size (zT 4) _ 39 rfl rfl (Blk.new w (Array.toList _) _) (by kernel_rfl) rfl (by kernel_rfl) ?_; intro w1 hw1; have A1 := hidp (Ag.start HS.out.1 HS.out.2.1 HS.out.2.2.1 HS.out.2.2.2 hw1.out)) | fail)
    refine (HM.out _ A1.out.rd).mono ?_
    rintro e w2 ⟨rfl, h2, hx2⟩
    have A2 := hidp (A1.out.read h2 hx2)
    have HSZ : Hid ((Try.prog.info? 36).map (·.size) = some (bvs v0).toArray.size) := hidp (by rw [List.size_toArray, bvs_len, HL.out.1]; kernel_rfl)
    have HTH : Hid (w2.there w.heap.size 35 (bvs v0).toArray.size) := hidp (A2.out.box.there 35 _ (by rw [List.size_toArray, bvs_len, HL.out.1]; unfold zT; rw [thL_len _ _ _ _ _ _ _ (by simp) (by simp)]; decide))
    clear h2 hx2 A1
    go_wp2_with (first | (with_reducible refine (?_ : wpList _ _ _ _ _ _); refine wpList_store_mid rfl 36 _ _ rfl w.heap.size 35 (bvs v0).toArray rfl rfl HTH.out HSZ.out (bvs_one _) ?_) | fail)
    refine (HE.out _ (A2.out.sets 35 _).rd).mono ?_
    rintro e w3 ⟨rfl, hB3⟩
    have A3 := hidp (Ag.tell (setsL_k HL.out.1) ((A2.out.sets 35 (bvs v0)).below hB3))
    clear hB3 A2 HTH
    obtain ⟨T, hT⟩ : ∃ T, T = thL 4 0 none 0 0 (List.replicate 32 0) v0 0 false := ⟨_, rfl⟩
    rw [← hT] at A3
    have hTl : Hid ((Try.prog.info? 39).map (·.size) = some T.length) := hidp (by rw [hT, thL_len _ _ _ _ _ _ _ (by simp) HL.out.1]; kernel_rfl)
    replace hT := hidp hT
    go_wp2_with (first | (with_reducible refine (?_ : wpList _ _ _ _ _ _); have A5 := hidp (A3.out.below ((Below.refl _ w3).alloc (Nat.le_refl _) (.cells #[.int .i64 0, .int .i64 0] 55))); refine wpList_load_blkG (by kernel_rfl) 39 _ rfl w.heap.size _ 39 rfl A5.out.box _ Try.underlying39 rfl hTl.out ?_) | fail)
    have hT := hT.out
    subst hT
    refine (puts4_ok A5.out.wr 0 none 0 0 0 false (List.replicate 32 0) v0 B32 HL.out (by have := HF.out; omega)).mono ?_
    rintro e w6 h6
    obtain ⟨rfl, h7⟩ := A5.out.wrote h6
    have h7 := hidp h7
    go_wp2
    go_ret
    rw [HF.out.1] at h7
    exact h7.out
  · go_enter Try.func45, Try.ntmps45
    go_wp2_with (first | refine wpList_buildG (by kernel_rfl) 39 _ rfl (zT 4).toArray (by kernel_rfl) ?_ | (refine wpList_store_blk rfl 39 _ _ rfl w.heap.size (zT 4) _ 39 rfl rfl (Blk.new w (Array.toList _) _) (by kernel_rfl) rfl (by kernel_rfl) ?_; intro w1 hw1; have A1 := hidp (Ag.start HS.out.1 HS.out.2.1 HS.out.2.2.1 HS.out.2.2.2 hw1.out)) | fail)
    refine (HM.out _ A1.out.rd).mono ?_
    rintro e w2 ⟨rfl, h2, hx2⟩
    have A2 := hidp (A1.out.read h2 hx2)
    have HSZ : Hid ((Try.prog.info? 36).map (·.size) = some (bvs v0).toArray.size) := hidp (by rw [List.size_toArray, bvs_len, HL.out.1]; kernel_rfl)
    have HTH : Hid (w2.there w.heap.size 35 (bvs v0).toArray.size) := hidp (A2.out.box.there 35 _ (by rw [List.size_toArray, bvs_len, HL.out.1]; unfold zT; rw [thL_len _ _ _ _ _ _ _ (by simp) (by simp)]; decide))
    clear h2 hx2 A1
    go_wp2_with (first | (with_reducible refine (?_ : wpList _ _ _ _ _ _); refine wpList_store_mid rfl 36 _ _ rfl w.heap.size 35 (bvs v0).toArray rfl rfl HTH.out HSZ.out (bvs_one _) ?_) | fail)
    refine (HE.out _ (A2.out.sets 35 _).rd).mono ?_
    rintro e w3 ⟨rfl, hB3⟩
    have A3 := hidp (Ag.tell (setsL_k HL.out.1) ((A2.out.sets 35 (bvs v0)).below hB3))
    clear hB3 A2 HTH
    obtain ⟨T, hT⟩ : ∃ T, T = thL 4 0 none 0 0 (List.replicate 32 0) v0 0 false := ⟨_, rfl⟩
    rw [← hT] at A3
    have hTl : Hid ((Try.prog.info? 39).map (·.size) = some T.length) := hidp (by rw [hT, thL_len _ _ _ _ _ _ _ (by simp) HL.out.1]; kernel_rfl)
    replace hT := hidp hT
    have hgt : decide (0 < R2.length) = true := decide_eq_true hrl
    go_wp2_with (first | (with_reducible refine (?_ : wpList _ _ _ _ _ _); have A5 := hidp (A3.out.below ((Below.refl _ w3).alloc (Nat.le_refl _) (.cells #[.int .i64 4, .int .i64 (y : Nat)] 55))); refine wpList_load_blkG (by kernel_rfl) 39 _ rfl w.heap.size _ 39 rfl A5.out.box _ Try.underlying39 rfl hTl.out ?_) | (go_at_call 29; have A4 := hidp (A3.out.below ((Below.refl _ w3).alloc (Nat.le_refl _) (.cells #[.int .i64 4, .int .i64 (y : Nat)] 55))); refine (HR.out _ A4.out.rd).mono ?_; rintro e w5 ⟨rfl, rfl⟩) | fail)
    have hT := hT.out
    subst hT
    refine (puts4_ok A5.out.wr 0 none 0 0 0 false (List.replicate 32 0) v0 B32 HL.out (by have := HF.out; omega)).mono ?_
    rintro e w6 h6
    obtain ⟨rfl, h7⟩ := A5.out.wrote h6
    have h7 := hidp h7
    go_wp2
    go_ret
    rw [HF.out.1] at h7
    exact h7.out

set_option maxRecDepth 100000 in
set_option maxHeartbeats 1000000 in
theorem again4_er {w : World} {gr t : Nat} {p : Option Addr} {b o cap : Nat} {R : List Nat} {gw lim : Nat} {v : Value} {X : List Nat} (hr : Rd w gr t p b o cap R 0 0) (hw : Wr w gw lim v X 0) (hgr : gr < gw) (hb : b < gw) (x : Nat) (hx : x ≠ 0) (hp : pRaw 4 R = .er x) :
    Calls Try.prog 45 #[.pointer (some ⟨gr, 0, none⟩), .pointer (some ⟨gw, 0, none⟩), .int .i64 4] w (AgE w gr t b x) := by
  have HS := hidp (And.intro (show RdX w gr t b R 0 0 from ⟨p, o, cap, hr⟩) (And.intro hw (And.intro hgr hb)))
  have HM := hidp (fun (w1 : World) (A : RdX w1 gr t b R 0 0) => show b < w1.heap.size → Calls Try.prog 37 #[.pointer (some ⟨gr, 0, none⟩)] w1 fun e w' => e = .returned (.agg (bvs (List.replicate 4 0)).toArray) ∧ RdX w' gr t b [] x t ∧ Bex gr w1 w' from fun hbw => by obtain ⟨p, o, cap, h⟩ := A; exact mKey_er gr t p b o cap R x w1 h hbw hp)
  have HE := hidp (fun (w' : World) (A : RdX w' gr t b [] x t) => mEndX A x t (by unfold endE; rw [if_pos hx]))
  have HR := hidp (fun (w' : World) (A : RdX w' gr t b [] x t) => mRestX A)
  have q0 : ((x : Int) == 0) = false := by rw [beq_eq_false_iff_ne]; omega
  by_cases h4 : x = 4
  · subst h4
    clear hr hw hp hgr hb hx q0
    go_enter Try.func45, Try.ntmps45
    go_wp2_with (first | refine wpList_buildG (by kernel_rfl) 39 _ rfl (zT 4).toArray (by kernel_rfl) ?_ | (refine wpList_store_blk rfl 39 _ _ rfl w.heap.size (zT 4) _ 39 rfl rfl (Blk.new w (Array.toList _) _) (by kernel_rfl) rfl (by kernel_rfl) ?_; intro w1 hw1; have A1 := hidp (Ag.start HS.out.1 HS.out.2.1 HS.out.2.2.1 HS.out.2.2.2 hw1.out)) | fail)
    refine (HM.out _ A1.out.rd (by have := A1.out.hb; have := A1.out.wr.blk.lt; omega)).mono ?_
    rintro e w2 ⟨rfl, h2, hx2⟩
    have A2 := hidp (A1.out.read h2 hx2)
    have HSZ : Hid ((Try.prog.info? 36).map (·.size) = some (bvs (List.replicate 4 0)).toArray.size) := hidp (by rw [List.size_toArray, bvs_len, List.length_replicate]; kernel_rfl)
    have HTH : Hid (w2.there w.heap.size 35 (bvs (List.replicate 4 0)).toArray.size) := hidp (A2.out.box.there 35 _ (by rw [List.size_toArray, bvs_len, List.length_replicate]; unfold zT; rw [thL_len _ _ _ _ _ _ _ (by simp) (by simp)]; decide))
    clear h2 hx2 A1
    go_wp2_with (first | (with_reducible refine (?_ : wpList _ _ _ _ _ _); refine wpList_store_mid rfl 36 _ _ rfl w.heap.size 35 (bvs (List.replicate 4 0)).toArray rfl rfl HTH.out HSZ.out (bvs_one _) ?_) | fail)
    refine (HE.out _ (A2.out.sets 35 _).rd).mono ?_
    rintro e w3 ⟨rfl, hB3⟩
    have A3 := hidp ((A2.out.sets 35 _).below hB3)
    clear hB3 A2 HTH
    go_wp2_with (first | (go_at_call 29; have A4 := hidp (A3.out.below ((Below.refl _ w3).alloc (Nat.le_refl _) (.cells #[.int .i64 4, .int .i64 (t : Nat)] 55))); refine (HR.out _ A4.out.rd).mono ?_; rintro e w5 ⟨rfl, rfl⟩) | fail)
    go_ret
    exact ⟨rfl, (A3.out.below ((Below.refl _ w3).alloc (Nat.le_refl _) _)).rd, (A3.out.below ((Below.refl _ w3).alloc (Nat.le_refl _) _)).bel⟩
  · have q4 : ((x : Int) == 4) = false := by rw [beq_eq_false_iff_ne]; omega
    clear hr hw hp hgr hb hx h4
    go_enter Try.func45, Try.ntmps45
    go_wp2_with (first | refine wpList_buildG (by kernel_rfl) 39 _ rfl (zT 4).toArray (by kernel_rfl) ?_ | (refine wpList_store_blk rfl 39 _ _ rfl w.heap.size (zT 4) _ 39 rfl rfl (Blk.new w (Array.toList _) _) (by kernel_rfl) rfl (by kernel_rfl) ?_; intro w1 hw1; have A1 := hidp (Ag.start HS.out.1 HS.out.2.1 HS.out.2.2.1 HS.out.2.2.2 hw1.out)) | fail)
    refine (HM.out _ A1.out.rd (by have := A1.out.hb; have := A1.out.wr.blk.lt; omega)).mono ?_
    rintro e w2 ⟨rfl, h2, hx2⟩
    have A2 := hidp (A1.out.read h2 hx2)
    have HSZ : Hid ((Try.prog.info? 36).map (·.size) = some (bvs (List.replicate 4 0)).toArray.size) := hidp (by rw [List.size_toArray, bvs_len, List.length_replicate]; kernel_rfl)
    have HTH : Hid (w2.there w.heap.size 35 (bvs (List.replicate 4 0)).toArray.size) := hidp (A2.out.box.there 35 _ (by rw [List.size_toArray, bvs_len, List.length_replicate]; unfold zT; rw [thL_len _ _ _ _ _ _ _ (by simp) (by simp)]; decide))
    clear h2 hx2 A1
    go_wp2_with (first | (with_reducible refine (?_ : wpList _ _ _ _ _ _); refine wpList_store_mid rfl 36 _ _ rfl w.heap.size 35 (bvs (List.replicate 4 0)).toArray rfl rfl HTH.out HSZ.out (bvs_one _) ?_) | fail)
    refine (HE.out _ (A2.out.sets 35 _).rd).mono ?_
    rintro e w3 ⟨rfl, hB3⟩
    have A3 := hidp ((A2.out.sets 35 _).below hB3)
    clear hB3 A2 HTH
    go_wp2_with (first | fail)
    go_ret
    exact ⟨rfl, (A3.out.below ((Below.refl _ w3).alloc (Nat.le_refl _) _)).rd, (A3.out.below ((Below.refl _ w3).alloc (Nat.le_refl _) _)).bel⟩

end Go.Proofs.Ytlfmmmlheloloaa

/-! Kf: Contracts: again, of texts. -/
namespace Go.Proofs.Ytlfmmmlheloloaa
open Go.RowKit Go.Lib Go.Maps
attribute [local go_sem] run_bits run_frombits

set_option maxRecDepth 100000 in
set_option maxHeartbeats 1000000 in
theorem again1_ok {w : World} {gr t : Nat} {p : Option Addr} {b o cap : Nat} {R : List Nat} {gw lim : Nat} {v : Value} {X : List Nat} (hr : Rd w gr t p b o cap R 0 0) (hw : Wr w gw lim v X 0) (hgr : gr < gw) (hb : b < gw) (hfit : X.length + R.length ≤ lim) (v0 : List Nat) (n : Nat) (hp : pText R 1000 = .ok v0 n) :
    Calls Try.prog 45 #[.pointer (some ⟨gr, 0, none⟩), .pointer (some ⟨gw, 0, none⟩), .int .i64 1] w (AgP w gr (t + n) b (R.drop n) gw lim (X ++ R.take n)) := by
  have hby := hr.bs.byte
  have B32 : Bytes 32 (List.replicate 32 0) := ⟨by simp, by simp⟩
  have B4 : Bytes 4 (List.replicate 4 0) := ⟨by simp, by simp⟩
  obtain ⟨dk, hdg, hf, hn1, hle⟩ := pText_form hby hp
  have HD := hidp hdg
  have hlt := hle
  have hlm := hw.lim
  have hvb : ∀ x ∈ v0, x < 256 := fun x hx => hby x (List.mem_of_mem_take (hf ▸ List.mem_append_right _ hx))
  have HVB := hidp hvb
  have HS := hidp (And.intro (show RdX w gr t b R 0 0 from ⟨p, o, cap, hr⟩) (And.intro hw (And.intro hgr hb)))
  have HM := hidp (fun (w1 : World) (A : RdX w1 gr t b R 0 0) => show Calls Try.prog 34 #[.pointer (some ⟨gr, 0, none⟩), .int .i64 1000] w1 fun e w' => e = .returned (.string (strB v0)) ∧ RdX w' gr (t + n) b (R.drop n) 0 0 ∧ Bex gr w1 w' by obtain ⟨p, o, cap, h⟩ := A; exact mText_ok gr t p b o cap R 1000 v0 n w1 h hp)
  have HX := hidp hlt
  replace HM := HM.out
  obtain ⟨R2, hR2⟩ : ∃ R2, R2 = R.drop n := ⟨_, rfl⟩
  obtain ⟨tn, htn⟩ : ∃ tn, tn = t + n := ⟨_, rfl⟩
  rw [← hR2, ← htn] at HM ⊢
  replace HM := hidp HM
  have HF := hidp (And.intro (congrArg (X ++ ·) hf) (And.intro hn1 (And.intro hle hfit)))
  obtain ⟨x, y, hE, hxy⟩ := endE_cases tn 0 R2
  have HE := hidp (fun (w' : World) (A : RdX w' gr tn b R2 0 0) => mEndX A x y hE)
  have HR := hidp (fun (w' : World) (A : RdX w' gr tn b R2 0 0) => mRestX A)
  replace B32 := hidp B32
  replace B4 := hidp B4
  clear hr hw hp hf hle hlt hgr hb hfit hby hE hn1 hR2 htn hdg hlm hvb
  rcases hxy with ⟨rfl, hy⟩ | ⟨rfl, hrl⟩
  · subst hy
    go_enter Try.func45, Try.ntmps45
    go_wp2_with (first | refine wpList_buildG (by kernel_rfl) 39 _ rfl (zT 1).toArray (by kernel_rfl) ?_ | (refine wpList_store_blk rfl 39 _ _ rfl w.heap.size (zT 1) _ 39 rfl rfl (Blk.new w (Array.toList _) _) (by kernel_rfl) rfl (by kernel_rfl) ?_; intro w1 hw1; have A1 := hidp (Ag.start HS.out.1 HS.out.2.1 HS.out.2.2.1 HS.out.2.2.2 hw1.out)) | fail)
    refine (HM.out _ A1.out.rd).mono ?_
    rintro e w2 ⟨rfl, h2, hx2⟩
    have hgx := A1.out.box.lt
    have kc := _root_.Go.Lib.run_convert_string_bytes (P := Try.prog) w2 9 32 5 (strB v0) Try.underlying9 Try.underlying32 Try.underlying5
    have hs1 := bytesW_bs w2 (strB v0)
    have hB1 := bytesW_below w2 (strB v0)
    rw [strL_strB HVB.out] at hs1
    rw [strB_size] at kc hs1
    obtain ⟨p1, hp1⟩ : ∃ p1, p1 = some (⟨w2.heap.size, 0, none⟩ : Addr) := ⟨_, rfl⟩
    rw [← hp1] at kc hs1
    obtain ⟨c1, hc1⟩ : ∃ c1, c1 = grownCap w2 v0.length 0 5 := ⟨_, rfl⟩
    rw [← hc1] at kc hs1
    obtain ⟨b1, hb1⟩ : ∃ b1, b1 = w2.heap.size := ⟨_, rfl⟩
    rw [← hb1] at hs1
    have HB1 := hidp (And.intro (show w.heap.size < b1 by rw [hb1]; exact Nat.lt_of_lt_of_le hgx hx2.size) hs1)
    have A2 := hidp ((A1.out.read h2 hx2).below hB1)
    have fc := A2.out.box.free 2
    have cc := (A2.out.box.cell 2).trans (rfl : (zT 1)[2]? = some (.slice none 0 0))
    clear h2 hx2 A1 hgx hb1 hp1 hs1 hc1 hB1
    go_wp2_with fail
    refine (HE.out _ (A2.out.set 2 (.slice p1 v0.length c1)).rd).mono ?_
    rintro e w3 ⟨rfl, hB3⟩
    have A3 := hidp (Ag.tell (show (zT 1).set 2 (.slice p1 v0.length c1) = thL 1 0 p1 v0.length c1 (List.replicate 32 0) (List.replicate 4 0) 0 false from rfl) ((A2.out.set 2 (.slice p1 v0.length c1)).below hB3))
    have HB3 := hidp (And.intro HB1.out.1 ((HB1.out.2.bex ((Bex.refl w.heap.size _).setCell 2 (.slice p1 v0.length c1)) (fun _ => by have := HB1.out.1; omega)).below hB3))
    clear hB3 cc fc A2 HB1
    obtain ⟨T, hT⟩ : ∃ T, T = thL 1 0 p1 v0.length c1 (List.replicate 32 0) (List.replicate 4 0) 0 false := ⟨_, rfl⟩
    rw [← hT] at A3
    have hTl : Hid ((Try.prog.info? 39).map (·.size) = some T.length) := hidp (by rw [hT, thL_len _ _ _ _ _ _ _ (by simp) (by simp)]; kernel_rfl)
    replace hT := hidp hT
    go_wp2_with (first | (with_reducible refine (?_ : wpList _ _ _ _ _ _); have A5 := hidp (A3.out.below ((Below.refl _ w3).alloc (Nat.le_refl _) (.cells #[.int .i64 0, .int .i64 0] 55))); refine wpList_load_blkG (by kernel_rfl) 39 _ rfl w.heap.size _ 39 rfl A5.out.box _ Try.underlying39 rfl hTl.out ?_) | fail)
    have hT := hT.out
    subst hT
    refine (puts1_ok A5.out.wr 0 p1 c1 0 false (List.replicate 32 0) (List.replicate 4 0) B32.out B4.out b1 0 v0 (HB3.out.2.below ((Below.refl _ w3).alloc (Nat.le_refl _) _)) dk HD.out (by have := HF.out; omega)).mono ?_
    rintro e w6 h6
    obtain ⟨rfl, h7⟩ := A5.out.wrote h6
    have h7 := hidp h7
    go_wp2
    go_ret
    rw [HF.out.1] at h7
    exact h7.out
  · go_enter Try.func45, Try.ntmps45
    go_wp2_with (first | refine wpList_buildG (by kernel_rfl) 39 _ rfl (zT 1).toArray (by kernel_rfl) ?_ | (refine wpList_store_blk rfl 39 _ _ rfl w.heap.size (zT 1) _ 39 rfl rfl (Blk.new w (Array.toList _) _) (by kernel_rfl) rfl (by kernel_rfl) ?_; intro w1 hw1; have A1 := hidp (Ag.start HS.out.1 HS.out.2.1 HS.out.2.2.1 HS.out.2.2.2 hw1.out)) | fail)
    refine (HM.out _ A1.out.rd).mono ?_
    rintro e w2 ⟨rfl, h2, hx2⟩
    have hgx := A1.out.box.lt
    have kc := _root_.Go.Lib.run_convert_string_bytes (P := Try.prog) w2 9 32 5 (strB v0) Try.underlying9 Try.underlying32 Try.underlying5
    have hs1 := bytesW_bs w2 (strB v0)
    have hB1 := bytesW_below w2 (strB v0)
    rw [strL_strB HVB.out] at hs1
    rw [strB_size] at kc hs1
    obtain ⟨p1, hp1⟩ : ∃ p1, p1 = some (⟨w2.heap.size, 0, none⟩ : Addr) := ⟨_, rfl⟩
    rw [← hp1] at kc hs1
    obtain ⟨c1, hc1⟩ : ∃ c1, c1 = grownCap w2 v0.length 0 5 := ⟨_, rfl⟩
    rw [← hc1] at kc hs1
    obtain ⟨b1, hb1⟩ : ∃ b1, b1 = w2.heap.size := ⟨_, rfl⟩
    rw [← hb1] at hs1
    have HB1 := hidp (And.intro (show w.heap.size < b1 by rw [hb1]; exact Nat.lt_of_lt_of_le hgx hx2.size) hs1)
    have A2 := hidp ((A1.out.read h2 hx2).below hB1)
    have fc := A2.out.box.free 2
    have cc := (A2.out.box.cell 2).trans (rfl : (zT 1)[2]? = some (.slice none 0 0))
    clear h2 hx2 A1 hgx hb1 hp1 hs1 hc1 hB1
    go_wp2_with fail
    refine (HE.out _ (A2.out.set 2 (.slice p1 v0.length c1)).rd).mono ?_
    rintro e w3 ⟨rfl, hB3⟩
    have A3 := hidp (Ag.tell (show (zT 1).set 2 (.slice p1 v0.length c1) = thL 1 0 p1 v0.length c1 (List.replicate 32 0) (List.replicate 4 0) 0 false from rfl) ((A2.out.set 2 (.slice p1 v0.length c1)).below hB3))
    have HB3 := hidp (And.intro HB1.out.1 ((HB1.out.2.bex ((Bex.refl w.heap.size _).setCell 2 (.slice p1 v0.length c1)) (fun _ => by have := HB1.out.1; omega)).below hB3))
    clear hB3 cc fc A2 HB1
    obtain ⟨T, hT⟩ : ∃ T, T = thL 1 0 p1 v0.length c1 (List.replicate 32 0) (List.replicate 4 0) 0 false := ⟨_, rfl⟩
    rw [← hT] at A3
    have hTl : Hid ((Try.prog.info? 39).map (·.size) = some T.length) := hidp (by rw [hT, thL_len _ _ _ _ _ _ _ (by simp) (by simp)]; kernel_rfl)
    replace hT := hidp hT
    have hgt : decide (0 < R2.length) = true := decide_eq_true hrl
    go_wp2_with (first | (with_reducible refine (?_ : wpList _ _ _ _ _ _); have A5 := hidp (A3.out.below ((Below.refl _ w3).alloc (Nat.le_refl _) (.cells #[.int .i64 4, .int .i64 (y : Nat)] 55))); refine wpList_load_blkG (by kernel_rfl) 39 _ rfl w.heap.size _ 39 rfl A5.out.box _ Try.underlying39 rfl hTl.out ?_) | (go_at_call 29; have A4 := hidp (A3.out.below ((Below.refl _ w3).alloc (Nat.le_refl _) (.cells #[.int .i64 4, .int .i64 (y : Nat)] 55))); refine (HR.out _ A4.out.rd).mono ?_; rintro e w5 ⟨rfl, rfl⟩) | fail)
    have hT := hT.out
    subst hT
    refine (puts1_ok A5.out.wr 0 p1 c1 0 false (List.replicate 32 0) (List.replicate 4 0) B32.out B4.out b1 0 v0 (HB3.out.2.below ((Below.refl _ w3).alloc (Nat.le_refl _) _)) dk HD.out (by have := HF.out; omega)).mono ?_
    rintro e w6 h6
    obtain ⟨rfl, h7⟩ := A5.out.wrote h6
    have h7 := hidp h7
    go_wp2
    go_ret
    rw [HF.out.1] at h7
    exact h7.out

set_option maxRecDepth 100000 in
set_option maxHeartbeats 1000000 in
theorem again1_er {w : World} {gr t : Nat} {p : Option Addr} {b o cap : Nat} {R : List Nat} {gw lim : Nat} {v : Value} {X : List Nat} (hr : Rd w gr t p b o cap R 0 0) (hw : Wr w gw lim v X 0) (hgr : gr < gw) (hb : b < gw) (x : Nat) (hx : x ≠ 0) (hp : pText R 1000 = .er x) :
    Calls Try.prog 45 #[.pointer (some ⟨gr, 0, none⟩), .pointer (some ⟨gw, 0, none⟩), .int .i64 1] w (AgE w gr t b x) := by
  have HS := hidp (And.intro (show RdX w gr t b R 0 0 from ⟨p, o, cap, hr⟩) (And.intro hw (And.intro hgr hb)))
  have HM := hidp (fun (w1 : World) (A : RdX w1 gr t b R 0 0) => show Calls Try.prog 34 #[.pointer (some ⟨gr, 0, none⟩), .int .i64 1000] w1 fun e w' => e = .returned (.string ⟨#[]⟩) ∧ RdX w' gr t b [] x t ∧ Bex gr w1 w' by obtain ⟨p, o, cap, h⟩ := A; exact mText_er gr t p b o cap R 1000 x w1 h hp)
  have HE := hidp (fun (w' : World) (A : RdX w' gr t b [] x t) => mEndX A x t (by unfold endE; rw [if_pos hx]))
  have HR := hidp (fun (w' : World) (A : RdX w' gr t b [] x t) => mRestX A)
  have q0 : ((x : Int) == 0) = false := by rw [beq_eq_false_iff_ne]; omega
  by_cases h4 : x = 4
  · subst h4
    clear hr hw hp hgr hb hx q0
    go_enter Try.func45, Try.ntmps45
    go_wp2_with (first | refine wpList_buildG (by kernel_rfl) 39 _ rfl (zT 1).toArray (by kernel_rfl) ?_ | (refine wpList_store_blk rfl 39 _ _ rfl w.heap.size (zT 1) _ 39 rfl rfl (Blk.new w (Array.toList _) _) (by kernel_rfl) rfl (by kernel_rfl) ?_; intro w1 hw1; have A1 := hidp (Ag.start HS.out.1 HS.out.2.1 HS.out.2.2.1 HS.out.2.2.2 hw1.out)) | fail)
    refine (HM.out _ A1.out.rd).mono ?_
    rintro e w2 ⟨rfl, h2, hx2⟩
    have kc := _root_.Go.Lib.run_convert_string_bytes (P := Try.prog) w2 9 32 5 ⟨#[]⟩ Try.underlying9 Try.underlying32 Try.underlying5
    have hB1 := bytesW_below w2 ⟨#[]⟩
    rw [show (ByteArray.mk #[]).size = 0 from rfl] at kc
    obtain ⟨c1, hc1⟩ : ∃ c1, c1 = grownCap w2 0 0 5 := ⟨_, rfl⟩
    rw [← hc1] at kc
    have A2 := hidp ((A1.out.read h2 hx2).below hB1)
    have fc := A2.out.box.free 2
    have cc := (A2.out.box.cell 2).trans (rfl : (zT 1)[2]? = some (.slice none 0 0))
    clear h2 hx2 A1 hB1 hc1
    go_wp2_with fail
    refine (HE.out _ (A2.out.set 2 (.slice (some ⟨w2.heap.size, 0, none⟩) 0 c1)).rd).mono ?_
    rintro e w3 ⟨rfl, hB3⟩
    have A3 := hidp ((A2.out.set 2 (.slice (some ⟨w2.heap.size, 0, none⟩) 0 c1)).below hB3)
    clear hB3 cc fc A2
    go_wp2_with (first | (go_at_call 29; have A4 := hidp (A3.out.below ((Below.refl _ w3).alloc (Nat.le_refl _) (.cells #[.int .i64 4, .int .i64 (t : Nat)] 55))); refine (HR.out _ A4.out.rd).mono ?_; rintro e w5 ⟨rfl, rfl⟩) | fail)
    go_ret
    exact ⟨rfl, (A3.out.below ((Below.refl _ w3).alloc (Nat.le_refl _) _)).rd, (A3.out.below ((Below.refl _ w3).alloc (Nat.le_refl _) _)).bel⟩
  · have q4 : ((x : Int) == 4) = false := by rw [beq_eq_false_iff_ne]; omega
    clear hr hw hp hgr hb hx h4
    go_enter Try.func45, Try.ntmps45
    go_wp2_with (first | refine wpList_buildG (by kernel_rfl) 39 _ rfl (zT 1).toArray (by kernel_rfl) ?_ | (refine wpList_store_blk rfl 39 _ _ rfl w.heap.size (zT 1) _ 39 rfl rfl (Blk.new w (Array.toList _) _) (by kernel_rfl) rfl (by kernel_rfl) ?_; intro w1 hw1; have A1 := hidp (Ag.start HS.out.1 HS.out.2.1 HS.out.2.2.1 HS.out.2.2.2 hw1.out)) | fail)
    refine (HM.out _ A1.out.rd).mono ?_
    rintro e w2 ⟨rfl, h2, hx2⟩
    have kc := _root_.Go.Lib.run_convert_string_bytes (P := Try.prog) w2 9 32 5 ⟨#[]⟩ Try.underlying9 Try.underlying32 Try.underlying5
    have hB1 := bytesW_below w2 ⟨#[]⟩
    rw [show (ByteArray.mk #[]).size = 0 from rfl] at kc
    obtain ⟨c1, hc1⟩ : ∃ c1, c1 = grownCap w2 0 0 5 := ⟨_, rfl⟩
    rw [← hc1] at kc
    have A2 := hidp ((A1.out.read h2 hx2).below hB1)
    have fc := A2.out.box.free 2
    have cc := (A2.out.box.cell 2).trans (rfl : (zT 1)[2]? = some (.slice none 0 0))
    clear h2 hx2 A1 hB1 hc1
    go_wp2_with fail
    refine (HE.out _ (A2.out.set 2 (.slice (some ⟨w2.heap.size, 0, none⟩) 0 c1)).rd).mono ?_
    rintro e w3 ⟨rfl, hB3⟩
    have A3 := hidp ((A2.out.set 2 (.slice (some ⟨w2.heap.size, 0, none⟩) 0 c1)).below hB3)
    clear hB3 cc fc A2
    go_wp2_with (first | fail)
    go_ret
    exact ⟨rfl, (A3.out.below ((Below.refl _ w3).alloc (Nat.le_refl _) _)).rd, (A3.out.below ((Below.refl _ w3).alloc (Nat.le_refl _) _)).bel⟩

end Go.Proofs.Ytlfmmmlheloloaa

/-! Kg: Contracts: Pick, a reader of any bytes, again of any kind. -/
namespace Go.Proofs.Ytlfmmmlheloloaa
open Go.RowKit Go.Lib Go.Maps

theorem Pick_any (x : Int) (n : Nat) (w : World) (hn : 0 < n) (hn2 : n ≤ 1000) :
    Calls Try.prog 44 #[.int .i64 x, .int .i64 n] w fun e w' => (∃ r : Nat, r < n ∧ e = .returned (.int .i64 r)) ∧ w' = w := by
  have hm := Int.tmod_lt_of_pos x (show (0 : Int) < (n : Int) by omega)
  have hm2 : -(n : Int) < x.tmod n := by
    have h1 := Int.tmod_lt_of_pos (-x) (show (0 : Int) < (n : Int) by omega)
    rw [Int.neg_tmod] at h1
    omega
  have hz : ((n : Int) == 0) = false := by rw [beq_eq_false_iff_ne]; omega
  have hle : decide ((n : Int) ≤ 0) = false := decide_eq_false (by omega)
  have hnz : ¬ (n : Int) = 0 := by omega
  generalize hr : x.tmod (n : Int) = r at hm hm2
  by_cases h0 : r < 0
  · have ht : decide (r < 0) = true := decide_eq_true h0
    have hw : wrap64 (r + n) = r + n := w64 _ (by omega)
    have hw0 : wrap64 r = r := w64 _ (by omega)
    have HH := hidp (And.intro hm (And.intro hm2 h0))
    clear hm hm2 h0
    go_enter Try.func44, Try.ntmps44
    go_wp2
    go_ret
    exact ⟨⟨(r + n).toNat, by have := HH.out; omega, ret_int (by have := HH.out; omega)⟩, rfl⟩
  · have ht : decide (r < 0) = false := decide_eq_false h0
    have hw0 : wrap64 r = r := w64 _ (by omega)
    have HH := hidp (And.intro hm (And.intro hm2 h0))
    clear hm hm2 h0
    go_enter Try.func44, Try.ntmps44
    go_wp2
    go_ret
    exact ⟨⟨r.toNat, by have := HH.out; omega, ret_int (by have := HH.out; omega)⟩, rfl⟩

theorem pNum_ne {R : List Nat} {x : Nat} (h : pNum R = .er x) : x ≠ 0 := by
  cases R with
  | nil => cases h; decide
  | cons k R =>
    rw [pNum_cons] at h
    split at h
    · cases h; decide
    split at h
    · cases h; decide
    split at h
    · cases h; decide
    · cases h
theorem pText_ne {R : List Nat} {most : Int} {x : Nat} (h : pText R most = .er x) : x ≠ 0 := by
  unfold pText pLen at h
  cases hn : pNum R with
  | er y => rw [hn] at h; cases h; exact pNum_ne hn
  | ok v n =>
    rw [hn] at h
    simp only at h
    split at h
    · rename_i hq
      cases h
      split at hq
      · cases hq; decide
      · cases hq
    · split at h
      · cases h; decide
      · cases h
theorem pWord_ne {R : List Nat} {x : Nat} (h : pWord R = .er x) : x ≠ 0 := by
  unfold pWord at h
  split at h
  · cases h; decide
  · cases h
theorem pPace_ne {R : List Nat} {x : Nat} (h : pPace R = .er x) : x ≠ 0 := by
  unfold pPace at h
  split at h
  · cases h; decide
  split at h
  · cases h
  · cases h; decide
theorem pBool_ne {R : List Nat} {x : Nat} (h : pBool R = .er x) : x ≠ 0 := by
  cases R with
  | nil => cases h; decide
  | cons k R =>
    rw [pBool_cons] at h
    split at h
    · cases h; decide
    · cases h
theorem again_any {w : World} {gr t b : Nat} {R : List Nat} {gw lim : Nat} {v : Value} {X : List Nat} (hr : RdX w gr t b R 0 0) (hw : Wr w gw lim v X 0) (hgr : gr < gw) (hb : b < gw) (hfit : X.length + R.length ≤ lim) (k : Nat) (hk : k < 8) :
    Calls Try.prog 45 #[.pointer (some ⟨gr, 0, none⟩), .pointer (some ⟨gw, 0, none⟩), .int .i64 (k : Nat)] w fun e w' =>
      (∃ n, n ≤ R.length ∧ AgP w gr (t + n) b (R.drop n) gw lim (X ++ R.take n) e w') ∨ (∃ x, x ≠ 0 ∧ AgE w gr t b x e w') := by
  obtain ⟨p, o, cap, hr⟩ := hr
  rcases (show k = 0 ∨ k = 1 ∨ k = 2 ∨ k = 3 ∨ k = 4 ∨ k = 5 ∨ k = 6 ∨ k = 7 by omega) with rfl | rfl | rfl | rfl | rfl | rfl | rfl | rfl
  · cases hq : pNum R with
    | ok v0 n => exact (again0_ok hr hw hgr hb hfit v0 n hq).mono fun e w' h => .inl ⟨n, (by obtain ⟨_, _, _, _, h, _⟩ := pNum_form hr.bs.byte hq; exact h), h⟩
    | er x => exact (again0_er hr hw hgr hb x (pNum_ne hq) hq).mono fun e w' h => .inr ⟨x, pNum_ne hq, h⟩
  · cases hq : pText R 1000 with
    | ok v0 n => exact (again1_ok hr hw hgr hb hfit v0 n hq).mono fun e w' h => .inl ⟨n, (by obtain ⟨_, _, _, _, h⟩ := pText_form hr.bs.byte hq; exact h), h⟩
    | er x => exact (again1_er hr hw hgr hb x (pText_ne hq) hq).mono fun e w' h => .inr ⟨x, pText_ne hq, h⟩
  · cases hq : pText R 1000 with
    | ok v0 n => exact (again2_ok hr hw hgr hb hfit v0 n hq).mono fun e w' h => .inl ⟨n, (by obtain ⟨_, _, _, _, h⟩ := pText_form hr.bs.byte hq; exact h), h⟩
    | er x => exact (again2_er hr hw hgr hb x (pText_ne hq) hq).mono fun e w' h => .inr ⟨x, pText_ne hq, h⟩
  · cases hq : pRaw 32 R with
    | ok v0 n => exact (again3_ok hr hw hgr hb hfit v0 n hq).mono fun e w' h => .inl ⟨n, (by obtain ⟨_, h1, h2⟩ := pRaw_ok hq; omega), h⟩
    | er x => exact (again3_er hr hw hgr hb x ((by have := (pRaw_er hq).1; omega)) hq).mono fun e w' h => .inr ⟨x, (by have := (pRaw_er hq).1; omega), h⟩
  · cases hq : pRaw 4 R with
    | ok v0 n => exact (again4_ok hr hw hgr hb hfit v0 n hq).mono fun e w' h => .inl ⟨n, (by obtain ⟨_, h1, h2⟩ := pRaw_ok hq; omega), h⟩
    | er x => exact (again4_er hr hw hgr hb x ((by have := (pRaw_er hq).1; omega)) hq).mono fun e w' h => .inr ⟨x, (by have := (pRaw_er hq).1; omega), h⟩
  · cases hq : pWord R with
    | ok v0 n => exact (again5_ok hr hw hgr hb hfit v0 n hq).mono fun e w' h => .inl ⟨n, (pWord_form hr.bs.byte hq).2.2.1, h⟩
    | er x => exact (again5_er hr hw hgr hb x ((pWord_ne hq)) hq).mono fun e w' h => .inr ⟨x, (pWord_ne hq), h⟩
  · cases hq : pPace R with
    | ok v0 n => exact (again6_ok hr hw hgr hb hfit v0 n hq).mono fun e w' h => .inl ⟨n, (pPace_form hr.bs.byte hq).2.2.2.1, h⟩
    | er x => exact (again6_er hr hw hgr hb x ((pPace_ne hq)) hq).mono fun e w' h => .inr ⟨x, (pPace_ne hq), h⟩
  · cases hq : pBool R with
    | ok v0 n => exact (again7_ok hr hw hgr hb hfit v0 n hq).mono fun e w' h => .inl ⟨n, (pBool_form hq).2.2, h⟩
    | er x => exact (again7_er hr hw hgr hb x ((pBool_ne hq)) hq).mono fun e w' h => .inr ⟨x, (pBool_ne hq), h⟩
theorem newReader_any (p : Option Addr) (b o cap : Nat) (L : List Nat) (w : World) (h : Bs w p b o L cap) (hn : L.length ≤ 4000000) :
    Calls Try.prog 26 #[.slice p L.length cap] w fun e w' => ∃ g b', e = .returned (.pointer (some ⟨g, 0, none⟩)) ∧ w.heap.size ≤ g ∧ b' < w'.heap.size ∧ RdX w' g 0 b' L 0 0 ∧ Below w.heap.size w w' := by
  have HC := hidp (clone_any p b o cap L w h hn)
  have HN := hidp hn
  clear h hn
  go_enter Try.func26, Try.ntmps26
  go_wp2_with (go_at_call 84; refine HC.out.mono ?_; rintro e w1 ⟨⟨v, rfl, p, b, cap', rfl, hb, hp, hs⟩, hB⟩; have hX := hidp (And.intro hb (And.intro hp (And.intro hs hB))); clear hb hp hs hB)
  go_ret
  have hB2 : Below w1.heap.size w1 (w1.alloc (.cells #[.pointer (some ⟨w1.heap.size, 0, none⟩), .int .i64 (0 : Nat), .slice p L.length cap', .int .i64 (0 : Nat), .int .i64 (0 : Nat)] 64)) := (Below.refl _ w1).alloc (Nat.le_refl _) _
  have hs2 := hX.out.2.2.1.below hB2
  by_cases h0 : 0 < cap'
  · exact ⟨w1.heap.size, b, rfl, hX.out.2.2.2.size, by have := (hX.out.2.2.1.ptr h0).2; simp; omega, ⟨p, 0, cap', Blk.new w1 [.pointer (some ⟨w1.heap.size, 0, none⟩), .int .i64 (0 : Nat), .slice p L.length cap', .int .i64 (0 : Nat), .int .i64 (0 : Nat)] _, hs2, fun h0 => by have := (hX.out.2.2.1.ptr h0).2; omega, by have := HN.out; omega⟩, btrans hX.out.2.2.2 hB2⟩
  · exact ⟨w1.heap.size, w1.heap.size, rfl, hX.out.2.2.2.size, by simp, ⟨p, 0, cap', Blk.new w1 [.pointer (some ⟨w1.heap.size, 0, none⟩), .int .i64 (0 : Nat), .slice p L.length cap', .int .i64 (0 : Nat), .int .i64 (0 : Nat)] _, ⟨hs2.byte, hs2.le, fun h => absurd h h0, fun i hi => absurd hi (by have := hs2.le; omega)⟩, fun h => absurd h h0, by have := HN.out; omega⟩, btrans hX.out.2.2.2 hB2⟩
end Go.Proofs.Ytlfmmmlheloloaa
