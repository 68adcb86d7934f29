/-
  Plain: what is encoded is decoded as it was, and nothing else is.
-/
import Derived.Test.YtcmkmnidnapabaaGreatUb
namespace Go.Proofs.YtcmkmnidnapabaaGreat
open Go.RowKit Go.Lib

theorem decF_cons : ∀ (i : Nat) (s : RS), decF (i + 1) s = (decV s :: (decF i (decN s)).1, (decF i (decN s)).2)
  | 0, s => rfl
  | i + 1, s => by
    have ih := decF_cons i s
    have e : decF (i + 1 + 1) s = ((decF (i + 1) s).1 ++ [decV (decF (i + 1) s).2], decN (decF (i + 1) s).2) := rfl
    rw [e, ih]
    rfl
theorem kOf_kb {k : Nat} (h : k < 4294967296) : kOf (kb k) = k := (kd_sum k h).symm
structure Enc (v : Vd) : Prop where
  k : v.k < 4294967296
  p : 0 ≤ v.p ∧ v.p ≤ 4611686018427387904
theorem dec_one (v : Vd) (h : Enc v) (t : Nat) (Z : List Nat) : decV ⟨t, vB v ++ Z, 0, 0⟩ = v ∧ decN ⟨t, vB v ++ Z, 0, 0⟩ = ⟨t + (vB v).length, Z, 0, 0⟩ := by
  have h0 : vB v ++ Z = kb v.k ++ (nB v.p.toNat ++ Z) := by unfold vB; rw [List.append_assoc]
  have hl4 : (kb v.k).length = 4 := rfl
  have hp : pRaw 4 (kb v.k ++ (nB v.p.toNat ++ Z)) = .ok (kb v.k) 4 := by
    unfold pRaw
    rw [if_neg (by rw [List.length_append]; omega), List.take_left' hl4]
  have e1 : rdV (pRaw 4) (List.replicate 4 0) ⟨t, vB v ++ Z, 0, 0⟩ = kb v.k := by unfold rdV; simp only [h0, hp]; simp
  have e2 : rdN (pRaw 4) ⟨t, vB v ++ Z, 0, 0⟩ = ⟨t + 4, nB v.p.toNat ++ Z, 0, 0⟩ := by
    unfold rdN
    simp only [h0, hp]
    rw [List.drop_left' hl4]
    simp
  have hn := pNum_nB (n := v.p.toNat) (by have := h.p; omega) Z
  have e3 : rdV pNum 0 ⟨t + 4, nB v.p.toNat ++ Z, 0, 0⟩ = v.p.toNat := by unfold rdV; simp only [hn]; simp
  have e4 : rdN pNum ⟨t + 4, nB v.p.toNat ++ Z, 0, 0⟩ = ⟨t + 4 + (dg v.p.toNat + 1), Z, 0, 0⟩ := by
    unfold rdN
    simp only [hn]
    rw [List.drop_left' (nB_len _)]
    simp
  constructor
  · unfold decV
    rw [e1, e2, e3, kOf_kb h.k]
    obtain ⟨k, p⟩ := v
    congr 1
    have := h.p
    simp only at this ⊢
    omega
  · unfold decN
    rw [e2, e4]
    congr 1
    unfold vB
    rw [List.length_append, nB_len, hl4]
    omega
theorem decF_back : ∀ (l : List Vd) (t : Nat) (Y : List Nat), (∀ v ∈ l, Enc v) → decF l.length ⟨t, l.flatMap vB ++ Y, 0, 0⟩ = (l, ⟨t + (l.flatMap vB).length, Y, 0, 0⟩)
  | [], t, Y, _ => rfl
  | v :: l, t, Y, h => by
    have q := dec_one v (h v (by simp)) t (l.flatMap vB ++ Y)
    have ih := decF_back l (t + (vB v).length) Y (fun u hu => h u (by simp [hu]))
    have e : (v :: l).flatMap vB ++ Y = vB v ++ (l.flatMap vB ++ Y) := by rw [List.flatMap_cons, List.append_assoc]
    rw [List.length_cons, decF_cons, e, q.1, q.2, ih, List.flatMap_cons, List.length_append, ← Nat.add_assoc]
theorem enc_ok {l : List Vd} (h : chk l = 0) (hk : ∀ v ∈ l, VdOk v) : ∀ v ∈ l, Enc v := fun v hv => ⟨(hk v hv).k, by have := (chk_ok h).2.2.2 v hv; omega⟩
theorem encB_len (l : List Vd) : (encB l).length = dg l.length + 1 + (l.flatMap vB).length := by unfold encB; rw [List.length_append, nB_len]
theorem dec_mid {l : List Vd} (h : chk l = 0) (hk : ∀ v ∈ l, VdOk v) (Y : List Nat) : rdV pNum 0 (rs0 (encB l ++ Y)) = l.length ∧ decF l.length (rdN pNum (rs0 (encB l ++ Y))) = (l, ⟨(encB l).length, Y, 0, 0⟩) := by
  have hl := chk_ok h
  have e0 : encB l ++ Y = nB l.length ++ (l.flatMap vB ++ Y) := by unfold encB; rw [List.append_assoc]
  have hn := pNum_nB (n := l.length) (by omega) (l.flatMap vB ++ Y)
  constructor
  · unfold rdV rs0
    simp only [e0, hn]
    simp
  · have e2 : rdN pNum (rs0 (encB l ++ Y)) = ⟨0 + (dg l.length + 1), l.flatMap vB ++ Y, 0, 0⟩ := by
      unfold rdN rs0
      simp only [e0, hn]
      rw [List.drop_left' (nB_len _)]
      simp
    rw [e2, decF_back l _ Y (enc_ok h hk), encB_len, Nat.zero_add]
theorem decO_back {l : List Vd} (h : chk l = 0) (hk : ∀ v ∈ l, VdOk v) : decO (encB l) = (l, 0, 0) := by
  have q := dec_mid h hk []
  rw [List.append_nil] at q
  have hl := chk_ok h
  have e := decO_ok (L := encB l) (by rw [q.1]; omega) (by rw [q.1, q.2]; rfl) (by rw [q.1, q.2]; exact h)
  rw [e, q.1, q.2]
theorem decO_more {l : List Vd} (h : chk l = 0) (hk : ∀ v ∈ l, VdOk v) {Y : List Nat} (hY : 0 < Y.length) : decO (encB l ++ Y) = ([], 4, (encB l).length) := by
  have q := dec_mid h hk Y
  have hl := chk_ok h
  have hE : endS ⟨(encB l).length, Y, 0, 0⟩ = (4, (encB l).length) := by unfold endS endE; simp [hY]
  have e := decO_end (L := encB l ++ Y) (by rw [q.1]; omega) (by rw [q.1, q.2, hE]; exact (by decide : (4 : Nat) ≠ 0))
  rw [e, q.1, q.2, hE]
/-- A step that has no fault: what was there. -/
theorem rd_form {α : Type} {pr : List Nat → PR α} {z : α} {s : RS} (hne : ∀ x, pr s.R = .er x → x ≠ 0) (h : (rdN pr s).e = 0) : s.e = 0 ∧ ∃ v n, pr s.R = .ok v n ∧ rdV pr z s = v ∧ rdN pr s = ⟨s.t + n, s.R.drop n, 0, 0⟩ := by
  unfold rdN at h
  by_cases h0 : s.e = 0
  · refine ⟨h0, ?_⟩
    cases hp : pr s.R with
    | ok v n => exact ⟨v, n, rfl, by unfold rdV; simp [h0, hp], by unfold rdN; simp [h0, hp]⟩
    | er x =>
      simp only [h0, ne_eq, not_true_eq_false, if_false, hp] at h
      exact absurd h (hne x hp)
  · rw [if_pos h0] at h
    exact absurd h h0
theorem dec_form {s : RS} (hb : ∀ x ∈ s.R, x < 256) (h : (decN s).e = 0) : s.e = 0 ∧ s.R = vB (decV s) ++ (decN s).R := by
  obtain ⟨h1, v1, n1, p1, q1, r1⟩ := rd_form (z := (0 : Nat)) (fun x hx => pNum_ne hx) h
  obtain ⟨h2, v2, n2, p2, q2, r2⟩ := rd_form (z := List.replicate 4 0) (fun x hx => pRaw_ne hx) h1
  refine ⟨h2, ?_⟩
  obtain ⟨rfl, rfl, hl⟩ := pRaw_ok p2
  have hR1 : (rdN (pRaw 4) s).R = s.R.drop 4 := by rw [r2]
  rw [hR1] at p1 r1
  obtain ⟨dk, hd, hf, hn, hnl, hv⟩ := pNum_form (fun x hx => hb x (List.mem_of_mem_drop hx)) p1
  have hdk := digs_dg hd (by omega)
  have hB : Bytes 4 (s.R.take 4) := ⟨by rw [List.length_take]; omega, fun x hx => hb x (List.mem_of_mem_take hx)⟩
  have e1 : vB (decV s) = s.R.take 4 ++ nB v1 := by
    unfold vB decV
    simp only
    rw [q2, q1, (kb_kOf hB).1]
    rfl
  have e2 : (decN s).R = (s.R.drop 4).drop n1 := by unfold decN; rw [r1]
  have e3 : nB v1 = (s.R.drop 4).take n1 := by rw [← hf, hdk, nB_num (by omega)]
  rw [e1, e2, e3, List.append_assoc, List.take_append_drop, List.take_append_drop]
theorem decF_form {s : RS} (hb : ∀ x ∈ s.R, x < 256) : ∀ i, (decF i s).2.e = 0 → s.e = 0 ∧ s.R = (decF i s).1.flatMap vB ++ (decF i s).2.R
  | 0, h => ⟨h, rfl⟩
  | i + 1, h => by
    have q := dec_form (decF_ok hb i).1 h
    have ih := decF_form hb i q.1
    refine ⟨ih.1, ?_⟩
    show s.R = ((decF i s).1 ++ [decV (decF i s).2]).flatMap vB ++ (decN (decF i s).2).R
    rw [List.flatMap_append, List.flatMap_cons, List.flatMap_nil, List.append_nil, List.append_assoc, ← q.2]
    exact ih.2
theorem endS_zero {s : RS} (h : (endS s).1 = 0) : s.e = 0 ∧ s.R = [] := by
  unfold endS endE at h
  by_cases h0 : s.e = 0
  · refine ⟨h0, ?_⟩
    rw [if_neg (by simp [h0])] at h
    by_cases hl : 0 < s.R.length
    · rw [if_pos hl] at h; simp at h
    · exact List.eq_nil_of_length_eq_zero (by omega)
  · rw [if_pos h0] at h; exact absurd h h0
/-- What is decoded is encoded as it was. -/
theorem decO_form {L : List Nat} (hb : ∀ x ∈ L, x < 256) (h : (decO L).2.1 = 0) : (decO L).2.2 = 0 ∧ chk (decO L).1 = 0 ∧ encB (decO L).1 = L ∧ ∀ v ∈ (decO L).1, VdOk v := by
  by_cases h64 : 64 < rdV pNum 0 (rs0 L)
  · rw [decO_long h64] at h; simp at h
  · by_cases hE : (endS (decF (rdV pNum 0 (rs0 L)) (rdN pNum (rs0 L))).2).1 = 0
    · by_cases hc : chk (decF (rdV pNum 0 (rs0 L)) (rdN pNum (rs0 L))).1 = 0
      · rw [decO_ok h64 hE hc]
        refine ⟨rfl, hc, ?_, ?_⟩
        · have q := endS_zero hE
          have hb1 : ∀ x ∈ (rdN pNum (rs0 L)).R, x < 256 := rdN_byte hb
          have f := decF_form hb1 _ q.1
          obtain ⟨_, v, n, p1, q1, r1⟩ := rd_form (z := (0 : Nat)) (s := rs0 L) (fun x hx => pNum_ne hx) f.1
          obtain ⟨dk, hd, hf, hn, hnl, hv⟩ := pNum_form hb p1
          have hdk := digs_dg hd (by omega)
          have e := f.2
          rw [q.2, List.append_nil] at e
          unfold encB
          simp only
          rw [decF_len, ← e, q1, r1]
          show nB v ++ L.drop n = L
          rw [show nB v = L.take n from by rw [← hf, hdk, nB_num (by omega)]]
          exact List.take_append_drop n L
        · exact (decF_ok (rdN_byte hb) _).2
      · rw [decO_chk h64 hE hc] at h; exact absurd h hc
    · rw [decO_end h64 hE] at h; exact absurd h hE
structure Inn (s : RS) (N : Nat) : Prop where
  r : s.t + s.R.length ≤ N
  f : s.f ≤ N
theorem Inn.rdN {α : Type} {pr : List Nat → PR α} {s : RS} {N : Nat} (H : Inn s N) (hle : ∀ v n, pr s.R = .ok v n → n ≤ s.R.length) : Inn (rdN pr s) N := by
  have h1 := H.r
  have h2 := H.f
  unfold Go.Proofs.YtcmkmnidnapabaaGreat.rdN
  split
  · exact H
  · split
    · rename_i v n hp
      have := hle v n hp
      exact ⟨by simp only [List.length_drop]; omega, by simp⟩
    · exact ⟨by simp; omega, by simp only; omega⟩
theorem Inn.decF {s : RS} {N : Nat} (H : Inn s N) (hb : ∀ x ∈ s.R, x < 256) : ∀ i, Inn (decF i s).2 N
  | 0 => H
  | i + 1 => by
    have ih := Inn.decF H hb i
    have hbi := (decF_ok hb i).1
    have h1 : Inn (Go.Proofs.YtcmkmnidnapabaaGreat.rdN (pRaw 4) (Go.Proofs.YtcmkmnidnapabaaGreat.decF i s).2) N := ih.rdN (fun v n hp => by obtain ⟨_, rfl, h⟩ := pRaw_ok hp; exact h)
    exact h1.rdN (fun v n hp => by obtain ⟨_, _, _, _, h, _⟩ := pNum_form (rdN_byte hbi) hp; exact h)
theorem decO_in {L : List Nat} (hb : ∀ x ∈ L, x < 256) : (decO L).2.2 ≤ L.length ∧ ((decO L).2.1 ≠ 0 → (decO L).1 = []) := by
  by_cases h64 : 64 < rdV pNum 0 (rs0 L)
  · rw [decO_long h64]; exact ⟨Nat.zero_le _, fun _ => rfl⟩
  · by_cases hE : (endS (decF (rdV pNum 0 (rs0 L)) (rdN pNum (rs0 L))).2).1 = 0
    · by_cases hc : chk (decF (rdV pNum 0 (rs0 L)) (rdN pNum (rs0 L))).1 = 0
      · rw [decO_ok h64 hE hc]; exact ⟨Nat.zero_le _, fun h => absurd rfl h⟩
      · rw [decO_chk h64 hE hc]; exact ⟨Nat.zero_le _, fun _ => rfl⟩
    · rw [decO_end h64 hE]
      refine ⟨?_, fun _ => rfl⟩
      have i0 : Inn (rs0 L) L.length := ⟨by simp [rs0], by simp [rs0]⟩
      have i1 : Inn (rdN pNum (rs0 L)) L.length := i0.rdN (fun v n hp => by obtain ⟨_, _, _, _, h, _⟩ := pNum_form hb hp; exact h)
      have i2 := i1.decF (rdN_byte hb) (rdV pNum 0 (rs0 L))
      have h1 := i2.r
      have h2 := i2.f
      unfold endS endE
      split
      · exact h2
      · split
        · simp only; omega
        · exact Nat.zero_le _
/-- Cut off, it is none. -/
theorem decO_cut {l : List Vd} (h : chk l = 0) (hk : ∀ v ∈ l, VdOk v) {c : Nat} (hc : c < (encB l).length) (hb : ∀ x ∈ encB l, x < 256) : (decO ((encB l).take c)).2.1 ≠ 0 := by
  intro h0
  have hb2 : ∀ x ∈ (encB l).take c, x < 256 := fun x hx => hb x (List.mem_of_mem_take hx)
  obtain ⟨_, h2, h3, h4⟩ := decO_form hb2 h0
  have q := decO_more (l := (decO ((encB l).take c)).1) h2 h4 (Y := (encB l).drop c) (by rw [List.length_drop]; omega)
  rw [h3, List.take_append_drop, decO_back h hk] at q
  simp at q
theorem encB_byte (l : List Vd) : ∀ x ∈ encB l, x < 256 := by
  intro x hx
  unfold encB at hx
  rcases List.mem_append.1 hx with h | h
  · exact nB_byte _ x h
  · obtain ⟨v, _, h⟩ := List.mem_flatMap.1 h
    unfold vB at h
    rcases List.mem_append.1 h with h | h
    · exact (kb_bytes v.k).2 x h
    · exact nB_byte _ x h
end Go.Proofs.YtcmkmnidnapabaaGreat
