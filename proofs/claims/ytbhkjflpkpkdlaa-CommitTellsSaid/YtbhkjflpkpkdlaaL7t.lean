/-
  Plain: what is encoded of a commit is decoded as it was, and nothing else is.
-/
import Derived.Test.YtbhkjflpkpkdlaaL7s
namespace Go.Proofs.Ytbhkjflpkpkdlaa
open Go.RowKit Go.Lib

theorem wordB_dB (n : Nat) : wordB n = dB 8 n := by
  unfold wordB formW
  simp [List.range_succ, dB, Nat.div_div_eq_div_mul]
theorem valL_wordB {n : Nat} (h : n < 18446744073709551616) : valL (wordB n) = n := by
  rw [wordB_dB]
  exact dB_val 8 n (by omega)
theorem pWord_wordB {n : Nat} (h : n < 18446744073709551616) (Z : List Nat) : pWord (wordB n ++ Z) = .ok n 8 := by
  unfold pWord
  rw [if_neg (by rw [List.length_append, wordB_len]; omega), List.take_left' (wordB_len n), valL_wordB h]
theorem tF_cons : ∀ (i : Nat) (s : RS), tF (i + 1) s = (tV s :: (tF i (tN s)).1, (tF i (tN s)).2)
  | 0, s => rfl
  | i + 1, s => by
    have ih := tF_cons i s
    have e : tF (i + 1 + 1) s = ((tF (i + 1) s).1 ++ [tV (tF (i + 1) s).2], tN (tF (i + 1) s).2) := rfl
    rw [e, ih]
    rfl
structure EncT (v : Vt) : Prop where
  a : 0 ≤ v.a ∧ v.a ≤ 63
  s : v.s < 18446744073709551616
theorem tB_one (v : Vt) (h : EncT v) (t : Nat) (Z : List Nat) : tV ⟨t, tB v ++ Z, 0, 0⟩ = v ∧ tN ⟨t, tB v ++ Z, 0, 0⟩ = ⟨t + (tB v).length, Z, 0, 0⟩ := by
  have h0 : tB v ++ Z = nB v.a.toNat ++ (wordB v.s ++ Z) := by unfold tB; rw [List.append_assoc]
  have hn := pNum_nB (n := v.a.toNat) (by have := h.a; omega) (wordB v.s ++ Z)
  have hw := pWord_wordB h.s Z
  have e1 : rdV pNum 0 ⟨t, tB v ++ Z, 0, 0⟩ = v.a.toNat := by unfold rdV; simp only [h0, hn]; simp
  have e2 : rdN pNum ⟨t, tB v ++ Z, 0, 0⟩ = ⟨t + (dg v.a.toNat + 1), wordB v.s ++ Z, 0, 0⟩ := by
    unfold rdN
    simp only [h0, hn]
    rw [List.drop_left' (nB_len _)]
    simp
  have e3 : rdV pWord 0 ⟨t + (dg v.a.toNat + 1), wordB v.s ++ Z, 0, 0⟩ = v.s := by unfold rdV; simp only [hw]; simp
  have e4 : rdN pWord ⟨t + (dg v.a.toNat + 1), wordB v.s ++ Z, 0, 0⟩ = ⟨t + (dg v.a.toNat + 1) + 8, Z, 0, 0⟩ := by
    unfold rdN
    simp only [hw]
    rw [List.drop_left' (wordB_len _)]
    simp
  constructor
  · unfold tV
    rw [e1, e2, e3]
    obtain ⟨a, s⟩ := v
    congr 1
    have := h.a
    simp only at this ⊢
    omega
  · unfold tN
    rw [e2, e4]
    congr 1
    unfold tB
    rw [List.length_append, nB_len, wordB_len]
    omega
theorem tF_back : ∀ (l : List Vt) (t : Nat) (Y : List Nat), (∀ v ∈ l, EncT v) → tF l.length ⟨t, l.flatMap tB ++ Y, 0, 0⟩ = (l, ⟨t + (l.flatMap tB).length, Y, 0, 0⟩)
  | [], t, Y, _ => rfl
  | v :: l, t, Y, h => by
    have q := tB_one v (h v (by simp)) t (l.flatMap tB ++ Y)
    have ih := tF_back l (t + (tB v).length) Y (fun u hu => h u (by simp [hu]))
    have e : (v :: l).flatMap tB ++ Y = tB v ++ (l.flatMap tB ++ Y) := by rw [List.flatMap_cons, List.append_assoc]
    rw [List.length_cons, tF_cons, e, q.1, q.2, ih, List.flatMap_cons, List.length_append, ← Nat.add_assoc]
theorem encT_ok {h : Int} {l : List Vt} (hc : chkC h l = 0) (hk : ∀ v ∈ l, VtOk v) : ∀ v ∈ l, EncT v := fun v hv => ⟨(chkV_ok (chkC_ok hc).2.2).2.2 v hv, (hk v hv).s⟩
theorem encC_mid {h : Int} {p : List Nat} {l : List Vt} (hp : Bytes 32 p) (hc : chkC h l = 0) (hk : ∀ v ∈ l, VtOk v) (Y : List Nat) :
    cH (encC h p l ++ Y) = h ∧ cP (encC h p l ++ Y) = p ∧ cN (encC h p l ++ Y) = l.length ∧ tF l.length (cS3 (encC h p l ++ Y)) = (l, ⟨(encC h p l).length, Y, 0, 0⟩) := by
  have hl := chkC_ok hc
  have e0 : encC h p l ++ Y = nB h.toNat ++ (p ++ (nB l.length ++ (l.flatMap tB ++ Y))) := by unfold encC; simp only [List.append_assoc]
  have hn := pNum_nB (n := h.toNat) (by have := hl.1; omega) (p ++ (nB l.length ++ (l.flatMap tB ++ Y)))
  have hr : pRaw 32 (p ++ (nB l.length ++ (l.flatMap tB ++ Y))) = .ok p 32 := by
    unfold pRaw
    rw [if_neg (by rw [List.length_append, hp.1]; omega), List.take_left' hp.1]
  have hm := pNum_nB (n := l.length) (by have := hl.2.1; omega) (l.flatMap tB ++ Y)
  have e1 : cH (encC h p l ++ Y) = h := by
    unfold cH rdV rs0
    simp only [e0, hn]
    have := hl.1
    simp
    omega
  have s1 : cS1 (encC h p l ++ Y) = ⟨0 + (dg h.toNat + 1), p ++ (nB l.length ++ (l.flatMap tB ++ Y)), 0, 0⟩ := by
    unfold cS1 rdN rs0
    simp only [e0, hn]
    rw [List.drop_left' (nB_len _)]
    simp
  have e2 : cP (encC h p l ++ Y) = p := by
    unfold cP
    rw [s1]
    unfold rdV
    simp only [hr]
    simp
  have s2 : cS2 (encC h p l ++ Y) = ⟨0 + (dg h.toNat + 1) + 32, nB l.length ++ (l.flatMap tB ++ Y), 0, 0⟩ := by
    unfold cS2
    rw [s1]
    unfold rdN
    simp only [hr]
    rw [List.drop_left' hp.1]
    simp
  have e3 : cN (encC h p l ++ Y) = l.length := by
    unfold cN
    rw [s2]
    unfold rdV
    simp only [hm]
    simp
  have s3 : cS3 (encC h p l ++ Y) = ⟨0 + (dg h.toNat + 1) + 32 + (dg l.length + 1), l.flatMap tB ++ Y, 0, 0⟩ := by
    unfold cS3
    rw [s2]
    unfold rdN
    simp only [hm]
    rw [List.drop_left' (nB_len _)]
    simp
  refine ⟨e1, e2, e3, ?_⟩
  rw [s3, tF_back l _ Y (encT_ok hc hk)]
  congr 2
  unfold encC
  simp only [List.length_append, nB_len, hp.1]
  omega
theorem decC_back {h : Int} {p : List Nat} {l : List Vt} (hp : Bytes 32 p) (hc : chkC h l = 0) (hk : ∀ v ∈ l, VtOk v) : decC (encC h p l) = ⟨h, p, l, 0, 0⟩ := by
  obtain ⟨q1, q2, q3, q4⟩ := encC_mid hp hc hk []
  rw [List.append_nil] at q1 q2 q3 q4
  have hl := chkC_ok hc
  rw [decC_ok (by rw [q3]; omega) (by rw [q3, q4]; rfl) (by rw [q1, q3, q4]; exact hc), q1, q2, q3, q4]
theorem decC_more {h : Int} {p : List Nat} {l : List Vt} (hp : Bytes 32 p) (hc : chkC h l = 0) (hk : ∀ v ∈ l, VtOk v) {Y : List Nat} (hY : 0 < Y.length) : decC (encC h p l ++ Y) = dcE 4 ((encC h p l).length : Nat) := by
  obtain ⟨q1, q2, q3, q4⟩ := encC_mid hp hc hk Y
  have hl := chkC_ok hc
  have hE : endS ⟨(encC h p l).length, Y, 0, 0⟩ = (4, (encC h p l).length) := by unfold endS endE; simp [hY]
  rw [decC_end (by rw [q3]; omega) (by rw [q3, q4, hE]; exact (by decide : (4 : Nat) ≠ 0)), q3, q4, hE]
theorem tN_form {s : RS} (hb : ∀ x ∈ s.R, x < 256) (h : (tN s).e = 0) : s.e = 0 ∧ s.R = tB (tV s) ++ (tN s).R := by
  obtain ⟨h1, v1, n1, p1, q1, r1⟩ := rd_form (z := (0 : Nat)) (fun x hx => pWord_ne hx) h
  obtain ⟨h2, v2, n2, p2, q2, r2⟩ := rd_form (z := (0 : Nat)) (fun x hx => pNum_ne hx) h1
  refine ⟨h2, ?_⟩
  obtain ⟨dk, hd, hf, hn, hnl, hv⟩ := pNum_form hb p2
  have hdk := digs_dg hd (by omega)
  have hR1 : (rdN pNum s).R = s.R.drop n2 := by rw [r2]
  rw [hR1] at p1 r1
  obtain ⟨g1, g2, g3, g4⟩ := pWord_form (fun x hx => hb x (List.mem_of_mem_drop hx)) p1
  have e1 : tB (tV s) = nB v2 ++ wordB v1 := by
    unfold tB tV
    simp only
    rw [q2, q1]
    rfl
  have e2 : (tN s).R = (s.R.drop n2).drop n1 := by unfold tN; rw [r1]
  have e3 : nB v2 = s.R.take n2 := by rw [← hf, hdk, nB_num (by omega)]
  rw [e1, e2, e3, g1, List.append_assoc, List.take_append_drop, List.take_append_drop]
theorem tF_form {s : RS} (hb : ∀ x ∈ s.R, x < 256) : ∀ i, (tF i s).2.e = 0 → s.e = 0 ∧ s.R = (tF i s).1.flatMap tB ++ (tF i s).2.R
  | 0, h => ⟨h, rfl⟩
  | i + 1, h => by
    have q := tN_form (tF_ok hb i).1 h
    have ih := tF_form hb i q.1
    refine ⟨ih.1, ?_⟩
    show s.R = ((tF i s).1 ++ [tV (tF i s).2]).flatMap tB ++ (tN (tF i s).2).R
    rw [List.flatMap_append, List.flatMap_cons, List.flatMap_nil, List.append_nil, List.append_assoc, ← q.2]
    exact ih.2
/-- What is decoded is encoded as it was. -/
theorem decC_form {L : List Nat} (hb : ∀ x ∈ L, x < 256) (h : (decC L).e = 0) : (decC L).f = 0 ∧ chkC (decC L).h (decC L).l = 0 ∧ encC (decC L).h (decC L).p (decC L).l = L ∧ (∀ v ∈ (decC L).l, VtOk v) ∧ Bytes 32 (decC L).p := by
  by_cases h64 : 64 < cN L
  · rw [decC_long h64] at h; exact absurd h (by show ¬ ((4 : Nat) = 0); decide)
  · by_cases hE : (endS (tF (cN L) (cS3 L)).2).1 = 0
    · by_cases hc : chkC (cH L) (tF (cN L) (cS3 L)).1 = 0
      · rw [decC_ok h64 hE hc]
        refine ⟨rfl, hc, ?_, (tF_ok (cS_byte hb).2.2 _).2, cP_bytes hb⟩
        have q := endS_zero hE
        have f := tF_form (cS_byte hb).2.2 _ q.1
        obtain ⟨h3, v3, n3, p3, q3, r3⟩ := rd_form (z := (0 : Nat)) (s := cS2 L) (fun x hx => pNum_ne hx) f.1
        obtain ⟨h2, v2, n2, p2, q2, r2⟩ := rd_form (z := zh32) (s := cS1 L) (fun x hx => pRaw_ne hx) h3
        obtain ⟨h1, v1, n1, p1, q1, r1⟩ := rd_form (z := (0 : Nat)) (s := rs0 L) (fun x hx => pNum_ne hx) h2
        have R1 : (cS1 L).R = L.drop n1 := by unfold cS1; rw [r1]; rfl
        have R2 : (cS2 L).R = (L.drop n1).drop n2 := by unfold cS2; rw [r2, R1]
        have R3 : (cS3 L).R = ((L.drop n1).drop n2).drop n3 := by unfold cS3; rw [r3, R2]
        obtain ⟨dk1, hd1, hf1, hn1, hl1, hv1⟩ := pNum_form hb p1
        have hdk1 := digs_dg hd1 (by omega)
        rw [R2] at p3
        obtain ⟨dk3, hd3, hf3, hn3, hl3, hv3⟩ := pNum_form (fun x hx => hb x (List.mem_of_mem_drop (List.mem_of_mem_drop hx))) p3
        have hdk3 := digs_dg hd3 (by omega)
        rw [R1] at p2
        obtain ⟨rfl, rfl, _⟩ := pRaw_ok p2
        have e := f.2
        rw [q.2, List.append_nil, R3] at e
        unfold encC
        simp only
        rw [tF_len, ← e]
        have a1 : (cH L).toNat = v1 := by unfold cH; rw [q1]; rfl
        have a2 : cP L = (L.drop n1).take 32 := q2
        have a3 : cN L = v3 := q3
        rw [a1, a2, a3]
        rw [show nB v1 = L.take n1 from by rw [← hf1, hdk1, nB_num (by omega)], show nB v3 = ((L.drop n1).drop 32).take n3 from by rw [← hf3, hdk3, nB_num (by omega)]]
        rw [List.append_assoc, List.take_append_drop, List.append_assoc, List.take_append_drop, List.take_append_drop]
      · rw [decC_chk h64 hE hc] at h; exact absurd h hc
    · rw [decC_end h64 hE] at h; exact absurd h hE
theorem decC_in {L : List Nat} (hb : ∀ x ∈ L, x < 256) : (0 ≤ (decC L).f ∧ (decC L).f ≤ (L.length : Int)) ∧ ((decC L).e ≠ 0 → decC L = dcE (decC L).e (decC L).f) := by
  have i0 : Inn (rs0 L) L.length := ⟨by simp [rs0], by simp [rs0]⟩
  have i1 : Inn (cS1 L) L.length := i0.rdN (fun v n hp => by obtain ⟨_, _, _, _, h, _⟩ := pNum_form hb hp; exact h)
  have i2 : Inn (cS2 L) L.length := i1.rdN (fun v n hp => by obtain ⟨_, rfl, h⟩ := pRaw_ok hp; exact h)
  have i3 : Inn (cS3 L) L.length := i2.rdN (fun v n hp => by obtain ⟨_, _, _, _, h, _⟩ := pNum_form (cS_byte hb).2.1 hp; exact h)
  have it : ∀ i, Inn (tF i (cS3 L)).2 L.length := fun i => by
    induction i with
    | zero => exact i3
    | succ i ih =>
      have hbi := (tF_ok (cS_byte hb).2.2 i).1
      have h1 : Inn (rdN pNum (tF i (cS3 L)).2) L.length := ih.rdN (fun v n hp => by obtain ⟨_, _, _, _, h, _⟩ := pNum_form hbi hp; exact h)
      exact h1.rdN (fun v n hp => (pWord_form (rdN_byte hbi) hp).2.2.1)
  by_cases h64 : 64 < cN L
  · rw [decC_long h64]
    refine ⟨?_, fun _ => rfl⟩
    have := i2.r
    show 0 ≤ cA L ∧ cA L ≤ (L.length : Int)
    unfold cA
    omega
  · by_cases hE : (endS (tF (cN L) (cS3 L)).2).1 = 0
    · by_cases hc : chkC (cH L) (tF (cN L) (cS3 L)).1 = 0
      · rw [decC_ok h64 hE hc]; exact ⟨⟨Int.le_refl _, by show (0 : Int) ≤ _; omega⟩, fun h => absurd rfl h⟩
      · rw [decC_chk h64 hE hc]; exact ⟨⟨Int.le_refl _, by show (0 : Int) ≤ _; omega⟩, fun _ => rfl⟩
    · rw [decC_end h64 hE]
      refine ⟨?_, fun _ => rfl⟩
      have h1 := (it (cN L)).r
      have h2 := (it (cN L)).f
      have key : (endS (tF (cN L) (cS3 L)).2).2 ≤ L.length := by
        unfold endS endE
        split
        · exact h2
        · split
          · simp only; omega
          · exact Nat.zero_le _
      show 0 ≤ (((endS (tF (cN L) (cS3 L)).2).2 : Nat) : Int) ∧ (((endS (tF (cN L) (cS3 L)).2).2 : Nat) : Int) ≤ (L.length : Int)
      omega
theorem encC_byte {h : Int} {p : List Nat} {l : List Vt} (hp : Bytes 32 p) : ∀ x ∈ encC h p l, x < 256 := by
  intro x hx
  unfold encC at hx
  rcases List.mem_append.1 hx with hx | hx
  · rcases List.mem_append.1 hx with hx | hx
    · rcases List.mem_append.1 hx with hx | hx
      · exact nB_byte _ x hx
      · exact hp.2 x hx
    · exact nB_byte _ x hx
  · obtain ⟨v, _, hx⟩ := List.mem_flatMap.1 hx
    unfold tB at hx
    rcases List.mem_append.1 hx with hx | hx
    · exact nB_byte _ x hx
    · exact formW_byte _ _ x hx
/-- Cut off, it is none. -/
theorem decC_cut {h : Int} {p : List Nat} {l : List Vt} (hp : Bytes 32 p) (hc : chkC h l = 0) (hk : ∀ v ∈ l, VtOk v) {c : Nat} (hlt : c < (encC h p l).length) : (decC ((encC h p l).take c)).e ≠ 0 := by
  intro h0
  have hb2 : ∀ x ∈ (encC h p l).take c, x < 256 := fun x hx => encC_byte hp x (List.mem_of_mem_take hx)
  obtain ⟨_, h2, h3, h4, h5⟩ := decC_form hb2 h0
  have q := decC_more h5 h2 h4 (Y := (encC h p l).drop c) (by rw [List.length_drop]; omega)
  rw [h3, List.take_append_drop, decC_back hp hc hk] at q
  have := congrArg DC.e q
  simp [dcE] at this
theorem encC_len (h : Int) (p : List Nat) (l : List Vt) (hp : p.length = 32) (hl : l.length ≤ 64) : (encC h p l).length ≤ 1200 ∧ 0 < (encC h p l).length := by
  have h1 := flatB_len l
  have h2 := dg_le h.toNat
  have h3 := dg_le l.length
  unfold encC
  simp only [List.length_append, nB_len, hp]
  omega
theorem decC_ok' {L : List Nat} (hb : ∀ x ∈ L, x < 256) : (∀ v ∈ (decC L).l, VtOk v) ∧ Bytes 32 (decC L).p ∧ (decC L).l.length ≤ 64 := by
  by_cases h0 : (decC L).e = 0
  · obtain ⟨_, h2, _, h4, h5⟩ := decC_form hb h0
    exact ⟨h4, h5, (chkC_ok h2).2.1⟩
  · rw [(decC_in hb).2 h0]
    exact ⟨by simp [dcE], zh32_bytes, by simp [dcE]⟩
end Go.Proofs.Ytbhkjflpkpkdlaa
