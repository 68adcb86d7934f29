/-
  Contracts: again, of hashes and keys.
-/
import Derived.Test.YtlfmmmlheloloaaKd
namespace Go.Proofs.Ytlfmmmlheloloaa
open Go.RowKit Go.Lib Go.Maps
attribute [local go_sem] run_bits run_frombits

/-- Cells laid from a place on. -/
def setsL : List Value → Nat → List Value → List Value
  | cs, _, [] => cs
  | cs, o, v :: r => setsL (cs.set o v) (o + 1) r
theorem Blk.sets {b : Nat} {T : TypeId} : ∀ (vs : List Value) (o : Nat) (w : World) (cs : List Value), Blk w b cs T → Blk (w.setCells b o vs) b (setsL cs o vs) T
  | [], _, _, _, h => h
  | v :: r, o, _, _, h => Blk.sets r (o + 1) _ _ (h.set o v)
theorem Bex.sets (b : Nat) : ∀ (vs : List Value) (o : Nat) (w : World), Bex b w (w.setCells b o vs)
  | [], _, w => Bex.refl b w
  | v :: r, o, w => ((Bex.refl b w).setCell o v).trans (Bex.sets b r (o + 1) _)
theorem setsL_mid : ∀ (V A B C : List Value), B.length = V.length → setsL (A ++ (B ++ C)) A.length V = A ++ (V ++ C)
  | [], A, B, C, h => by
    have : B = [] := List.eq_nil_of_length_eq_zero h
    subst this
    rfl
  | v :: r, A, [], C, h => by simp at h
  | v :: r, A, x :: B, C, h => by
    have q := setsL_mid r (A ++ [v]) B C (by simpa using h)
    simp only [List.append_assoc, List.length_append, List.length_cons, List.length_nil, List.cons_append, List.nil_append] at q
    simp only [setsL, List.cons_append]
    rw [List.set_append_right _ _ (Nat.le_refl _), Nat.sub_self, List.set_cons_zero]
    exact q
theorem setsL_h {h : List Nat} (hh : h.length = 32) : setsL (zT 3) 3 (bvs h) = thL 3 0 none 0 0 h (List.replicate 4 0) 0 false := by
  have q := setsL_mid (bvs h) [.int .i64 3, .int .i64 0, .slice none 0 0] (bvs (List.replicate 32 0)) (bvs (List.replicate 4 0) ++ [.int .u64 ((0 : Nat) : Int), .bool false]) (by rw [bvs_len, bvs_len, hh]; rfl)
  exact q
theorem setsL_k {k : List Nat} (hk : k.length = 4) : setsL (zT 4) 35 (bvs k) = thL 4 0 none 0 0 (List.replicate 32 0) k 0 false := by
  have q := setsL_mid (bvs k) ([.int .i64 4, .int .i64 0, .slice none 0 0] ++ bvs (List.replicate 32 0)) (bvs (List.replicate 4 0)) [.int .u64 ((0 : Nat) : Int), .bool false] (by rw [bvs_len, bvs_len, hk]; rfl)
  simp only [List.append_assoc] at q
  exact q
theorem Blk.there {w : World} {b : Nat} {cs : List Value} {T : TypeId} (h : Blk w b cs T) (o n : Nat) (hn : o + n ≤ cs.length) : w.there b o n := fun j hj =>
  ⟨by rw [h.cell (o + j), List.getElem?_eq_getElem (by omega)]; rfl, h.free (o + j)⟩
theorem Ag.sets {w0 w : World} {gr t b : Nat} {R : List Nat} {e f : Nat} {gw lim : Nat} {v : Value} {X : List Nat} {T : List Value} (H : Ag w0 w gr t b R e f gw lim v X T) (o : Nat) (vs : List Value) : Ag w0 (w.setCells w0.heap.size o vs) gr t b R e f gw lim v X (setsL T o vs) :=
  H.at (Bex.sets _ vs o w) (H.box.sets vs o w T)

set_option maxRecDepth 100000 in
set_option maxHeartbeats 1000000 in
theorem again3_ok {w : World} {gr t : Nat} {p : Option Addr} {b o cap : Nat} {R : List Nat} {gw lim : Nat} {v : Value} {X : List Nat} (hr : Rd w gr t p b o cap R 0 0) (hw : Wr w gw lim v X 0) (hgr : gr < gw) (hb : b < gw) (hfit : X.length + R.length ≤ lim) (v0 : List Nat) (n : Nat) (hp : pRaw 32 R = .ok v0 n) :
    Calls Try.prog 45 #[.pointer (some ⟨gr, 0, none⟩), .pointer (some ⟨gw, 0, none⟩), .int .i64 3] w (AgP w gr (t + n) b (R.drop n) gw lim (X ++ R.take n)) := by
  have hby := hr.bs.byte
  have B32 : Bytes 32 (List.replicate 32 0) := ⟨by simp, by simp⟩
  have B4 : Bytes 4 (List.replicate 4 0) := ⟨by simp, by simp⟩
  obtain ⟨hf, hn1, hle⟩ := pRaw_ok hp
  have hl32 : Bytes 32 v0 := by rw [hf]; exact ⟨by rw [List.length_take]; omega, fun x hx => hby x (List.mem_of_mem_take hx)⟩
  rw [← hn1] at hf
  have HL := hidp hl32
  have hlt := hle
  have HS := hidp (And.intro (show RdX w gr t b R 0 0 from ⟨p, o, cap, hr⟩) (And.intro hw (And.intro hgr hb)))
  have HM := hidp (fun (w1 : World) (A : RdX w1 gr t b R 0 0) => show Calls Try.prog 36 #[.pointer (some ⟨gr, 0, none⟩)] w1 fun e w' => e = .returned (.agg (bvs v0).toArray) ∧ RdX w' gr (t + n) b (R.drop n) 0 0 ∧ Bex gr w1 w' by obtain ⟨p, o, cap, h⟩ := A; exact mHash_ok gr t p b o cap R v0 n w1 h hp)
  have HX := hidp hlt
  replace HM := HM.out
  obtain ⟨R2, hR2⟩ : ∃ R2, R2 = R.drop n := ⟨_, rfl⟩
  obtain ⟨tn, htn⟩ : ∃ tn, tn = t + n := ⟨_, rfl⟩
  rw [← hR2, ← htn] at HM ⊢
  replace HM := hidp HM
  have HF := hidp (And.intro (congrArg (X ++ ·) hf) (And.intro hn1 (And.intro hle hfit)))
  obtain ⟨x, y, hE, hxy⟩ := endE_cases tn 0 R2
  have HE := hidp (fun (w' : World) (A : RdX w' gr tn b R2 0 0) => mEndX A x y hE)
  have HR := hidp (fun (w' : World) (A : RdX w' gr tn b R2 0 0) => mRestX A)
  replace B32 := hidp B32
  replace B4 := hidp B4
  clear hr hw hp hf hle hlt hgr hb hfit hby hE hn1 hR2 htn hl32
  rcases hxy with ⟨rfl, hy⟩ | ⟨rfl, hrl⟩
  · subst hy
    go_enter Try.func45, Try.ntmps45
    go_wp2_with (first | refine wpList_buildG (by kernel_rfl) 39 _ rfl (zT 3).toArray (by kernel_rfl) ?_ | (refine wpList_store_blk rfl 39 _ _ rfl w.heap.size (zT 3) _ 39 rfl rfl (Blk.new w (Array.toList _) _) (by kernel_rfl) rfl (by kernel_rfl) ?_; intro w1 hw1; have A1 := hidp (Ag.start HS.out.1 HS.out.2.1 HS.out.2.2.1 HS.out.2.2.2 hw1.out)) | fail)
    refine (HM.out _ A1.out.rd).mono ?_
    rintro e w2 ⟨rfl, h2, hx2⟩
    have A2 := hidp (A1.out.read h2 hx2)
    have HSZ : Hid ((Try.prog.info? 34).map (·.size) = some (bvs v0).toArray.size) := hidp (by rw [List.size_toArray, bvs_len, HL.out.1]; kernel_rfl)
    have HTH : Hid (w2.there w.heap.size 3 (bvs v0).toArray.size) := hidp (A2.out.box.there 3 _ (by rw [List.size_toArray, bvs_len, HL.out.1]; unfold zT; rw [thL_len _ _ _ _ _ _ _ (by simp) (by simp)]; decide))
    clear h2 hx2 A1
    go_wp2_with (first | (with_reducible refine (?_ : wpList _ _ _ _ _ _); refine wpList_store_mid rfl 34 _ _ rfl w.heap.size 3 (bvs v0).toArray rfl rfl HTH.out HSZ.out (bvs_one _) ?_) | fail)
    refine (HE.out _ (A2.out.sets 3 _).rd).mono ?_
    rintro e w3 ⟨rfl, hB3⟩
    have A3 := hidp (Ag.tell (setsL_h HL.out.1) ((A2.out.sets 3 (bvs v0)).below hB3))
    clear hB3 A2 HTH
    obtain ⟨T, hT⟩ : ∃ T, T = thL 3 0 none 0 0 v0 (List.replicate 4 0) 0 false := ⟨_, rfl⟩
    rw [← hT] at A3
    have hTl : Hid ((Try.prog.info? 39).map (·.size) = some T.length) := hidp (by rw [hT, thL_len _ _ _ _ _ _ _ HL.out.1 (by simp)]; kernel_rfl)
    replace hT := hidp hT
    go_wp2_with (first | (with_reducible refine (?_ : wpList _ _ _ _ _ _); have A5 := hidp (A3.out.below ((Below.refl _ w3).alloc (Nat.le_refl _) (.cells #[.int .i64 0, .int .i64 0] 55))); refine wpList_load_blkG (by kernel_rfl) 39 _ rfl w.heap.size _ 39 rfl A5.out.box _ Try.underlying39 rfl hTl.out ?_) | fail)
    have hT := hT.out
    subst hT
    refine (puts3_ok A5.out.wr 0 none 0 0 0 false v0 (List.replicate 4 0) HL.out B4 (by have := HF.out; omega)).mono ?_
    rintro e w6 h6
    obtain ⟨rfl, h7⟩ := A5.out.wrote h6
    have h7 := hidp h7
    go_wp2
    go_ret
    rw [HF.out.1] at h7
    exact h7.out
  · go_enter Try.func45, Try.ntmps45
    go_wp2_with (first | refine wpList_buildG (by kernel_rfl) 39 _ rfl (zT 3).toArray (by kernel_rfl) ?_ | (refine wpList_store_blk rfl 39 _ _ rfl w.heap.size (zT 3) _ 39 rfl rfl (Blk.new w (Array.toList _) _) (by kernel_rfl) rfl (by kernel_rfl) ?_; intro w1 hw1; have A1 := hidp (Ag.start HS.out.1 HS.out.2.1 HS.out.2.2.1 HS.out.2.2.2 hw1.out)) | fail)
    refine (HM.out _ A1.out.rd).mono ?_
    rintro e w2 ⟨rfl, h2, hx2⟩
    have A2 := hidp (A1.out.read h2 hx2)
    have HSZ : Hid ((Try.prog.info? 34).map (·.size) = some (bvs v0).toArray.size) := hidp (by rw [List.size_toArray, bvs_len, HL.out.1]; kernel_rfl)
    have HTH : Hid (w2.there w.heap.size 3 (bvs v0).toArray.size) := hidp (A2.out.box.there 3 _ (by rw [List.size_toArray, bvs_len, HL.out.1]; unfold zT; rw [thL_len _ _ _ _ _ _ _ (by simp) (by simp)]; decide))
    clear h2 hx2 A1
    go_wp2_with (first | (with_reducible refine (?_ : wpList _ _ _ _ _ _); refine wpList_store_mid rfl 34 _ _ rfl w.heap.size 3 (bvs v0).toArray rfl rfl HTH.out HSZ.out (bvs_one _) ?_) | fail)
    refine (HE.out _ (A2.out.sets 3 _).rd).mono ?_
    rintro e w3 ⟨rfl, hB3⟩
    have A3 := hidp (Ag.tell (setsL_h HL.out.1) ((A2.out.sets 3 (bvs v0)).below hB3))
    clear hB3 A2 HTH
    obtain ⟨T, hT⟩ : ∃ T, T = thL 3 0 none 0 0 v0 (List.replicate 4 0) 0 false := ⟨_, rfl⟩
    rw [← hT] at A3
    have hTl : Hid ((Try.prog.info? 39).map (·.size) = some T.length) := hidp (by rw [hT, thL_len _ _ _ _ _ _ _ HL.out.1 (by simp)]; kernel_rfl)
    replace hT := hidp hT
    have hgt : decide (0 < R2.length) = true := decide_eq_true hrl
    go_wp2_with (first | (with_reducible refine (?_ : wpList _ _ _ _ _ _); have A5 := hidp (A3.out.below ((Below.refl _ w3).alloc (Nat.le_refl _) (.cells #[.int .i64 4, .int .i64 (y : Nat)] 55))); refine wpList_load_blkG (by kernel_rfl) 39 _ rfl w.heap.size _ 39 rfl A5.out.box _ Try.underlying39 rfl hTl.out ?_) | (go_at_call 29; have A4 := hidp (A3.out.below ((Below.refl _ w3).alloc (Nat.le_refl _) (.cells #[.int .i64 4, .int .i64 (y : Nat)] 55))); refine (HR.out _ A4.out.rd).mono ?_; rintro e w5 ⟨rfl, rfl⟩) | fail)
    have hT := hT.out
    subst hT
    refine (puts3_ok A5.out.wr 0 none 0 0 0 false v0 (List.replicate 4 0) HL.out B4 (by have := HF.out; omega)).mono ?_
    rintro e w6 h6
    obtain ⟨rfl, h7⟩ := A5.out.wrote h6
    have h7 := hidp h7
    go_wp2
    go_ret
    rw [HF.out.1] at h7
    exact h7.out

set_option maxRecDepth 100000 in
set_option maxHeartbeats 1000000 in
theorem again3_er {w : World} {gr t : Nat} {p : Option Addr} {b o cap : Nat} {R : List Nat} {gw lim : Nat} {v : Value} {X : List Nat} (hr : Rd w gr t p b o cap R 0 0) (hw : Wr w gw lim v X 0) (hgr : gr < gw) (hb : b < gw) (x : Nat) (hx : x ≠ 0) (hp : pRaw 32 R = .er x) :
    Calls Try.prog 45 #[.pointer (some ⟨gr, 0, none⟩), .pointer (some ⟨gw, 0, none⟩), .int .i64 3] w (AgE w gr t b x) := by
  have HS := hidp (And.intro (show RdX w gr t b R 0 0 from ⟨p, o, cap, hr⟩) (And.intro hw (And.intro hgr hb)))
  have HM := hidp (fun (w1 : World) (A : RdX w1 gr t b R 0 0) => show b < w1.heap.size → Calls Try.prog 36 #[.pointer (some ⟨gr, 0, none⟩)] w1 fun e w' => e = .returned (.agg (bvs (List.replicate 32 0)).toArray) ∧ RdX w' gr t b [] x t ∧ Bex gr w1 w' from fun hbw => by obtain ⟨p, o, cap, h⟩ := A; exact mHash_er gr t p b o cap R x w1 h hbw hp)
  have HE := hidp (fun (w' : World) (A : RdX w' gr t b [] x t) => mEndX A x t (by unfold endE; rw [if_pos hx]))
  have HR := hidp (fun (w' : World) (A : RdX w' gr t b [] x t) => mRestX A)
  have q0 : ((x : Int) == 0) = false := by rw [beq_eq_false_iff_ne]; omega
  by_cases h4 : x = 4
  · subst h4
    clear hr hw hp hgr hb hx q0
    go_enter Try.func45, Try.ntmps45
    go_wp2_with (first | refine wpList_buildG (by kernel_rfl) 39 _ rfl (zT 3).toArray (by kernel_rfl) ?_ | (refine wpList_store_blk rfl 39 _ _ rfl w.heap.size (zT 3) _ 39 rfl rfl (Blk.new w (Array.toList _) _) (by kernel_rfl) rfl (by kernel_rfl) ?_; intro w1 hw1; have A1 := hidp (Ag.start HS.out.1 HS.out.2.1 HS.out.2.2.1 HS.out.2.2.2 hw1.out)) | fail)
    refine (HM.out _ A1.out.rd (by have := A1.out.hb; have := A1.out.wr.blk.lt; omega)).mono ?_
    rintro e w2 ⟨rfl, h2, hx2⟩
    have A2 := hidp (A1.out.read h2 hx2)
    have HSZ : Hid ((Try.prog.info? 34).map (·.size) = some (bvs (List.replicate 32 0)).toArray.size) := hidp (by rw [List.size_toArray, bvs_len, List.length_replicate]; kernel_rfl)
    have HTH : Hid (w2.there w.heap.size 3 (bvs (List.replicate 32 0)).toArray.size) := hidp (A2.out.box.there 3 _ (by rw [List.size_toArray, bvs_len, List.length_replicate]; unfold zT; rw [thL_len _ _ _ _ _ _ _ (by simp) (by simp)]; decide))
    clear h2 hx2 A1
    go_wp2_with (first | (with_reducible refine (?_ : wpList _ _ _ _ _ _); refine wpList_store_mid rfl 34 _ _ rfl w.heap.size 3 (bvs (List.replicate 32 0)).toArray rfl rfl HTH.out HSZ.out (bvs_one _) ?_) | fail)
    refine (HE.out _ (A2.out.sets 3 _).rd).mono ?_
    rintro e w3 ⟨rfl, hB3⟩
    have A3 := hidp ((A2.out.sets 3 _).below hB3)
    clear hB3 A2 HTH
    go_wp2_with (first | (go_at_call 29; have A4 := hidp (A3.out.below ((Below.refl _ w3).alloc (Nat.le_refl _) (.cells #[.int .i64 4, .int .i64 (t : Nat)] 55))); refine (HR.out _ A4.out.rd).mono ?_; rintro e w5 ⟨rfl, rfl⟩) | fail)
    go_ret
    exact ⟨rfl, (A3.out.below ((Below.refl _ w3).alloc (Nat.le_refl _) _)).rd, (A3.out.below ((Below.refl _ w3).alloc (Nat.le_refl _) _)).bel⟩
  · have q4 : ((x : Int) == 4) = false := by rw [beq_eq_false_iff_ne]; omega
    clear hr hw hp hgr hb hx h4
    go_enter Try.func45, Try.ntmps45
    go_wp2_with (first | refine wpList_buildG (by kernel_rfl) 39 _ rfl (zT 3).toArray (by kernel_rfl) ?_ | (refine wpList_store_blk rfl 39 _ _ rfl w.heap.size (zT 3) _ 39 rfl rfl (Blk.new w (Array.toList _) _) (by kernel_rfl) rfl (by kernel_rfl) ?_; intro w1 hw1; have A1 := hidp (Ag.start HS.out.1 HS.out.2.1 HS.out.2.2.1 HS.out.2.2.2 hw1.out)) | fail)
    refine (HM.out _ A1.out.rd (by have := A1.out.hb; have := A1.out.wr.blk.lt; omega)).mono ?_
    rintro e w2 ⟨rfl, h2, hx2⟩
    have A2 := hidp (A1.out.read h2 hx2)
    have HSZ : Hid ((Try.prog.info? 34).map (·.size) = some (bvs (List.replicate 32 0)).toArray.size) := hidp (by rw [List.size_toArray, bvs_len, List.length_replicate]; kernel_rfl)
    have HTH : Hid (w2.there w.heap.size 3 (bvs (List.replicate 32 0)).toArray.size) := hidp (A2.out.box.there 3 _ (by rw [List.size_toArray, bvs_len, List.length_replicate]; unfold zT; rw [thL_len _ _ _ _ _ _ _ (by simp) (by simp)]; decide))
    clear h2 hx2 A1
    go_wp2_with (first | (with_reducible refine (?_ : wpList _ _ _ _ _ _); refine wpList_store_mid rfl 34 _ _ rfl w.heap.size 3 (bvs (List.replicate 32 0)).toArray rfl rfl HTH.out HSZ.out (bvs_one _) ?_) | fail)
    refine (HE.out _ (A2.out.sets 3 _).rd).mono ?_
    rintro e w3 ⟨rfl, hB3⟩
    have A3 := hidp ((A2.out.sets 3 _).below hB3)
    clear hB3 A2 HTH
    go_wp2_with (first | fail)
    go_ret
    exact ⟨rfl, (A3.out.below ((Below.refl _ w3).alloc (Nat.le_refl _) _)).rd, (A3.out.below ((Below.refl _ w3).alloc (Nat.le_refl _) _)).bel⟩

set_option maxRecDepth 100000 in
set_option maxHeartbeats 1000000 in
theorem again4_ok {w : World} {gr t : Nat} {p : Option Addr} {b o cap : Nat} {R : List Nat} {gw lim : Nat} {v : Value} {X : List Nat} (hr : Rd w gr t p b o cap R 0 0) (hw : Wr w gw lim v X 0) (hgr : gr < gw) (hb : b < gw) (hfit : X.length + R.length ≤ lim) (v0 : List Nat) (n : Nat) (hp : pRaw 4 R = .ok v0 n) :
    Calls Try.prog 45 #[.pointer (some ⟨gr, 0, none⟩), .pointer (some ⟨gw, 0, none⟩), .int .i64 4] w (AgP w gr (t + n) b (R.drop n) gw lim (X ++ R.take n)) := by
  have hby := hr.bs.byte
  have B32 : Bytes 32 (List.replicate 32 0) := ⟨by simp, by simp⟩
  have B4 : Bytes 4 (List.replicate 4 0) := ⟨by simp, by simp⟩
  obtain ⟨hf, hn1, hle⟩ := pRaw_ok hp
  have hl32 : Bytes 4 v0 := by rw [hf]; exact ⟨by rw [List.length_take]; omega, fun x hx => hby x (List.mem_of_mem_take hx)⟩
  rw [← hn1] at hf
  have HL := hidp hl32
  have hlt := hle
  have HS := hidp (And.intro (show RdX w gr t b R 0 0 from ⟨p, o, cap, hr⟩) (And.intro hw (And.intro hgr hb)))
  have HM := hidp (fun (w1 : World) (A : RdX w1 gr t b R 0 0) => show Calls Try.prog 37 #[.pointer (some ⟨gr, 0, none⟩)] w1 fun e w' => e = .returned (.agg (bvs v0).toArray) ∧ RdX w' gr (t + n) b (R.drop n) 0 0 ∧ Bex gr w1 w' by obtain ⟨p, o, cap, h⟩ := A; exact mKey_ok gr t p b o cap R v0 n w1 h hp)
  have HX := hidp hlt
  replace HM := HM.out
  obtain ⟨R2, hR2⟩ : ∃ R2, R2 = R.drop n := ⟨_, rfl⟩
  obtain ⟨tn, htn⟩ : ∃ tn, tn = t + n := ⟨_, rfl⟩
  rw [← hR2, ← htn] at HM ⊢
  replace HM := hidp HM
  have HF := hidp (And.intro (congrArg (X ++ ·) hf) (And.intro hn1 (And.intro hle hfit)))
  obtain ⟨x, y, hE, hxy⟩ := endE_cases tn 0 R2
  have HE := hidp (fun (w' : World) (A : RdX w' gr tn b R2 0 0) => mEndX A x y hE)
  have HR := hidp (fun (w' : World) (A : RdX w' gr tn b R2 0 0) => mRestX A)
  replace B32 := hidp B32
  replace B4 := hidp B4
  clear hr hw hp hf hle hlt hgr hb hfit hby hE hn1 hR2 htn hl32
  rcases hxy with ⟨rfl, hy⟩ | ⟨rfl, hrl⟩
  · subst hy
    go_enter Try.func45, Try.ntmps45
    go_wp2_with (first | refine wpList_buildG (by kernel_rfl) 39 _ rfl (zT 4).toArray (by kernel_rfl) ?_ | (refine wpList_store_blk rfl 39 _ _ rfl w.heap.size (zT 4) _ 39 rfl rfl (Blk.new w (Array.toList _) _) (by kernel_rfl) rfl (by kernel_rfl) ?_; intro w1 hw1; have A1 := hidp (Ag.start HS.out.1 HS.out.2.1 HS.out.2.2.1 HS.out.2.2.2 hw1.out)) | fail)
    refine (HM.out _ A1.out.rd).mono ?_
    rintro e w2 ⟨rfl, h2, hx2⟩
    have A2 := hidp (A1.out.read h2 hx2)
    have HSZ : Hid ((Try.prog.info? 36).map (·.size) = some (bvs v0).toArray.size) := hidp (by rw [List.size_toArray, bvs_len, HL.out.1]; kernel_rfl)
    have HTH : Hid (w2.there w.heap.size 35 (bvs v0).toArray.size) := hidp (A2.out.box.there 35 _ (by rw [List.size_toArray, bvs_len, HL.out.1]; unfold zT; rw [thL_len _ _ _ _ _ _ _ (by simp) (by simp)]; decide))
    clear h2 hx2 A1
    go_wp2_with (first | (with_reducible refine (?_ : wpList _ _ _ _ _ _); refine wpList_store_mid rfl 36 _ _ rfl w.heap.size 35 (bvs v0).toArray rfl rfl HTH.out HSZ.out (bvs_one _) ?_) | fail)
    refine (HE.out _ (A2.out.sets 35 _).rd).mono ?_
    rintro e w3 ⟨rfl, hB3⟩
    have A3 := hidp (Ag.tell (setsL_k HL.out.1) ((A2.out.sets 35 (bvs v0)).below hB3))
    clear hB3 A2 HTH
    obtain ⟨T, hT⟩ : ∃ T, T = thL 4 0 none 0 0 (List.replicate 32 0) v0 0 false := ⟨_, rfl⟩
    rw [← hT] at A3
    have hTl : Hid ((Try.prog.info? 39).map (·.size) = some T.length) := hidp (by rw [hT, thL_len _ _ _ _ _ _ _ (by simp) HL.out.1]; kernel_rfl)
    replace hT := hidp hT
    go_wp2_with (first | (with_reducible refine (?_ : wpList _ _ _ _ _ _); have A5 := hidp (A3.out.below ((Below.refl _ w3).alloc (Nat.le_refl _) (.cells #[.int .i64 0, .int .i64 0] 55))); refine wpList_load_blkG (by kernel_rfl) 39 _ rfl w.heap.size _ 39 rfl A5.out.box _ Try.underlying39 rfl hTl.out ?_) | fail)
    have hT := hT.out
    subst hT
    refine (puts4_ok A5.out.wr 0 none 0 0 0 false (List.replicate 32 0) v0 B32 HL.out (by have := HF.out; omega)).mono ?_
    rintro e w6 h6
    obtain ⟨rfl, h7⟩ := A5.out.wrote h6
    have h7 := hidp h7
    go_wp2
    go_ret
    rw [HF.out.1] at h7
    exact h7.out
  · go_enter Try.func45, Try.ntmps45
    go_wp2_with (first | refine wpList_buildG (by kernel_rfl) 39 _ rfl (zT 4).toArray (by kernel_rfl) ?_ | (refine wpList_store_blk rfl 39 _ _ rfl w.heap.size (zT 4) _ 39 rfl rfl (Blk.new w (Array.toList _) _) (by kernel_rfl) rfl (by kernel_rfl) ?_; intro w1 hw1; have A1 := hidp (Ag.start HS.out.1 HS.out.2.1 HS.out.2.2.1 HS.out.2.2.2 hw1.out)) | fail)
    refine (HM.out _ A1.out.rd).mono ?_
    rintro e w2 ⟨rfl, h2, hx2⟩
    have A2 := hidp (A1.out.read h2 hx2)
    have HSZ : Hid ((Try.prog.info? 36).map (·.size) = some (bvs v0).toArray.size) := hidp (by rw [List.size_toArray, bvs_len, HL.out.1]; kernel_rfl)
    have HTH : Hid (w2.there w.heap.size 35 (bvs v0).toArray.size) := hidp (A2.out.box.there 35 _ (by rw [List.size_toArray, bvs_len, HL.out.1]; unfold zT; rw [thL_len _ _ _ _ _ _ _ (by simp) (by simp)]; decide))
    clear h2 hx2 A1
    go_wp2_with (first | (with_reducible refine (?_ : wpList _ _ _ _ _ _); refine wpList_store_mid rfl 36 _ _ rfl w.heap.size 35 (bvs v0).toArray rfl rfl HTH.out HSZ.out (bvs_one _) ?_) | fail)
    refine (HE.out _ (A2.out.sets 35 _).rd).mono ?_
    rintro e w3 ⟨rfl, hB3⟩
    have A3 := hidp (Ag.tell (setsL_k HL.out.1) ((A2.out.sets 35 (bvs v0)).below hB3))
    clear hB3 A2 HTH
    obtain ⟨T, hT⟩ : ∃ T, T = thL 4 0 none 0 0 (List.replicate 32 0) v0 0 false := ⟨_, rfl⟩
    rw [← hT] at A3
    have hTl : Hid ((Try.prog.info? 39).map (·.size) = some T.length) := hidp (by rw [hT, thL_len _ _ _ _ _ _ _ (by simp) HL.out.1]; kernel_rfl)
    replace hT := hidp hT
    have hgt : decide (0 < R2.length) = true := decide_eq_true hrl
    go_wp2_with (first | (with_reducible refine (?_ : wpList _ _ _ _ _ _); have A5 := hidp (A3.out.below ((Below.refl _ w3).alloc (Nat.le_refl _) (.cells #[.int .i64 4, .int .i64 (y : Nat)] 55))); refine wpList_load_blkG (by kernel_rfl) 39 _ rfl w.heap.size _ 39 rfl A5.out.box _ Try.underlying39 rfl hTl.out ?_) | (go_at_call 29; have A4 := hidp (A3.out.below ((Below.refl _ w3).alloc (Nat.le_refl _) (.cells #[.int .i64 4, .int .i64 (y : Nat)] 55))); refine (HR.out _ A4.out.rd).mono ?_; rintro e w5 ⟨rfl, rfl⟩) | fail)
    have hT := hT.out
    subst hT
    refine (puts4_ok A5.out.wr 0 none 0 0 0 false (List.replicate 32 0) v0 B32 HL.out (by have := HF.out; omega)).mono ?_
    rintro e w6 h6
    obtain ⟨rfl, h7⟩ := A5.out.wrote h6
    have h7 := hidp h7
    go_wp2
    go_ret
    rw [HF.out.1] at h7
    exact h7.out

set_option maxRecDepth 100000 in
set_option maxHeartbeats 1000000 in
theorem again4_er {w : World} {gr t : Nat} {p : Option Addr} {b o cap : Nat} {R : List Nat} {gw lim : Nat} {v : Value} {X : List Nat} (hr : Rd w gr t p b o cap R 0 0) (hw : Wr w gw lim v X 0) (hgr : gr < gw) (hb : b < gw) (x : Nat) (hx : x ≠ 0) (hp : pRaw 4 R = .er x) :
    Calls Try.prog 45 #[.pointer (some ⟨gr, 0, none⟩), .pointer (some ⟨gw, 0, none⟩), .int .i64 4] w (AgE w gr t b x) := by
  have HS := hidp (And.intro (show RdX w gr t b R 0 0 from ⟨p, o, cap, hr⟩) (And.intro hw (And.intro hgr hb)))
  have HM := hidp (fun (w1 : World) (A : RdX w1 gr t b R 0 0) => show b < w1.heap.size → Calls Try.prog 37 #[.pointer (some ⟨gr, 0, none⟩)] w1 fun e w' => e = .returned (.agg (bvs (List.replicate 4 0)).toArray) ∧ RdX w' gr t b [] x t ∧ Bex gr w1 w' from fun hbw => by obtain ⟨p, o, cap, h⟩ := A; exact mKey_er gr t p b o cap R x w1 h hbw hp)
  have HE := hidp (fun (w' : World) (A : RdX w' gr t b [] x t) => mEndX A x t (by unfold endE; rw [if_pos hx]))
  have HR := hidp (fun (w' : World) (A : RdX w' gr t b [] x t) => mRestX A)
  have q0 : ((x : Int) == 0) = false := by rw [beq_eq_false_iff_ne]; omega
  by_cases h4 : x = 4
  · subst h4
    clear hr hw hp hgr hb hx q0
    go_enter Try.func45, Try.ntmps45
    go_wp2_with (first | refine wpList_buildG (by kernel_rfl) 39 _ rfl (zT 4).toArray (by kernel_rfl) ?_ | (refine wpList_store_blk rfl 39 _ _ rfl w.heap.size (zT 4) _ 39 rfl rfl (Blk.new w (Array.toList _) _) (by kernel_rfl) rfl (by kernel_rfl) ?_; intro w1 hw1; have A1 := hidp (Ag.start HS.out.1 HS.out.2.1 HS.out.2.2.1 HS.out.2.2.2 hw1.out)) | fail)
    refine (HM.out _ A1.out.rd (by have := A1.out.hb; have := A1.out.wr.blk.lt; omega)).mono ?_
    rintro e w2 ⟨rfl, h2, hx2⟩
    have A2 := hidp (A1.out.read h2 hx2)
    have HSZ : Hid ((Try.prog.info? 36).map (·.size) = some (bvs (List.replicate 4 0)).toArray.size) := hidp (by rw [List.size_toArray, bvs_len, List.length_replicate]; kernel_rfl)
    have HTH : Hid (w2.there w.heap.size 35 (bvs (List.replicate 4 0)).toArray.size) := hidp (A2.out.box.there 35 _ (by rw [List.size_toArray, bvs_len, List.length_replicate]; unfold zT; rw [thL_len _ _ _ _ _ _ _ (by simp) (by simp)]; decide))
    clear h2 hx2 A1
    go_wp2_with (first | (with_reducible refine (?_ : wpList _ _ _ _ _ _); refine wpList_store_mid rfl 36 _ _ rfl w.heap.size 35 (bvs (List.replicate 4 0)).toArray rfl rfl HTH.out HSZ.out (bvs_one _) ?_) | fail)
    refine (HE.out _ (A2.out.sets 35 _).rd).mono ?_
    rintro e w3 ⟨rfl, hB3⟩
    have A3 := hidp ((A2.out.sets 35 _).below hB3)
    clear hB3 A2 HTH
    go_wp2_with (first | (go_at_call 29; have A4 := hidp (A3.out.below ((Below.refl _ w3).alloc (Nat.le_refl _) (.cells #[.int .i64 4, .int .i64 (t : Nat)] 55))); refine (HR.out _ A4.out.rd).mono ?_; rintro e w5 ⟨rfl, rfl⟩) | fail)
    go_ret
    exact ⟨rfl, (A3.out.below ((Below.refl _ w3).alloc (Nat.le_refl _) _)).rd, (A3.out.below ((Below.refl _ w3).alloc (Nat.le_refl _) _)).bel⟩
  · have q4 : ((x : Int) == 4) = false := by rw [beq_eq_false_iff_ne]; omega
    clear hr hw hp hgr hb hx h4
    go_enter Try.func45, Try.ntmps45
    go_wp2_with (first | refine wpList_buildG (by kernel_rfl) 39 _ rfl (zT 4).toArray (by kernel_rfl) ?_ | (refine wpList_store_blk rfl 39 _ _ rfl w.heap.size (zT 4) _ 39 rfl rfl (Blk.new w (Array.toList _) _) (by kernel_rfl) rfl (by kernel_rfl) ?_; intro w1 hw1; have A1 := hidp (Ag.start HS.out.1 HS.out.2.1 HS.out.2.2.1 HS.out.2.2.2 hw1.out)) | fail)
    refine (HM.out _ A1.out.rd (by have := A1.out.hb; have := A1.out.wr.blk.lt; omega)).mono ?_
    rintro e w2 ⟨rfl, h2, hx2⟩
    have A2 := hidp (A1.out.read h2 hx2)
    have HSZ : Hid ((Try.prog.info? 36).map (·.size) = some (bvs (List.replicate 4 0)).toArray.size) := hidp (by rw [List.size_toArray, bvs_len, List.length_replicate]; kernel_rfl)
    have HTH : Hid (w2.there w.heap.size 35 (bvs (List.replicate 4 0)).toArray.size) := hidp (A2.out.box.there 35 _ (by rw [List.size_toArray, bvs_len, List.length_replicate]; unfold zT; rw [thL_len _ _ _ _ _ _ _ (by simp) (by simp)]; decide))
    clear h2 hx2 A1
    go_wp2_with (first | (with_reducible refine (?_ : wpList _ _ _ _ _ _); refine wpList_store_mid rfl 36 _ _ rfl w.heap.size 35 (bvs (List.replicate 4 0)).toArray rfl rfl HTH.out HSZ.out (bvs_one _) ?_) | fail)
    refine (HE.out _ (A2.out.sets 35 _).rd).mono ?_
    rintro e w3 ⟨rfl, hB3⟩
    have A3 := hidp ((A2.out.sets 35 _).below hB3)
    clear hB3 A2 HTH
    go_wp2_with (first | fail)
    go_ret
    exact ⟨rfl, (A3.out.below ((Below.refl _ w3).alloc (Nat.le_refl _) _)).rd, (A3.out.below ((Below.refl _ w3).alloc (Nat.le_refl _) _)).bel⟩

end Go.Proofs.Ytlfmmmlheloloaa
