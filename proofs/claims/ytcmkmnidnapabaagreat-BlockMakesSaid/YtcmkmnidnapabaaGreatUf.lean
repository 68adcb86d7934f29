/-
  Plain: what is encoded is decoded as it was, and nothing else is.
-/
import Derived.Test.YtcmkmnidnapabaaGreatUb
namespace Go.Proofs.YtcmkmnidnapabaaGreat
open Go.RowKit Go.Lib

theorem decF_cons : ∀ (i : Nat) (s : RS), decF (i + 1) s = (decV s :: (decF i (decN s)).1, (decF i (decN s)).2)
  | 0, s => rfl
  | i + 1, s => by
    have ih := decF_cons i s
    have e : decF (i + 1 + 1) s = ((decF (i + 1) s).1 ++ [decV (decF (i + 1) s).2], decN (decF (i + 1) s).2) := rfl
    rw [e, ih]
    rfl
theorem kOf_kb {k : Nat} (h : k < 4294967296) : kOf (kb k) = k := (kd_sum k h).symm
structure Enc (v : Vd) : Prop where
  k : v.k < 4294967296
  p : 0 ≤ v.p ∧ v.p ≤ 4611686018427387904
theorem dec_one (v : Vd) (h : Enc v) (t : Nat) (Z : List Nat) : decV ⟨t, vB v ++ Z, 0, 0⟩ = v ∧ decN ⟨t, vB v ++ Z, 0, 0⟩ = ⟨t + (vB v).length, Z, 0, 0⟩ := by
  have h0 : vB v ++ Z = kb v.k ++ (nB v.p.toNat ++ Z) := by unfold vB; rw [List.append_assoc]
  have hl4 : (kb v.k).length = 4 := rfl
  have hp : pRaw 4 (kb v.k ++ (nB v.p.toNat ++ Z)) = .ok (kb v.k) 4 := by
    unfold pRaw
    rw [if_neg (by rw [List.length_append]; omega), List.take_left' hl4]
  have e1 : rdV (pRaw 4) (List.replicate 4 0) ⟨t, vB v ++ Z, 0, 0⟩ = kb v.k := by unfold rdV; simp only [h0, hp]; simp
  have e2 : rdN (pRaw 4) ⟨t, vB v ++ Z, 0, 0⟩ = ⟨t + 4, nB v.p.toNat ++ Z, 0, 0⟩ := by
    unfold rdN
    simp only [h0, hp]
    rw [List.drop_left' hl4]
    simp
  have hn := pNum_nB (n := v.p.toNat) (by have := h.p; omega) Z
  have e3 : rdV pNum 0 ⟨t + 4, nB v.p.toNat ++ Z, 0, 0⟩ = v.p.toNat := by unfold rdV; simp only [hn]; simp
  have e4 : rdN pNum ⟨t + 4, nB v.p.toNat ++ Z, 0, 0⟩ = ⟨t + 4 + (dg v.p.toNat + 1), Z, 0, 0⟩ := by
    unfold rdN
    simp only [hn]
    rw [List.drop_left' (nB_len _)]
    simp
  constructor
  · unfold decV
    rw [e1, e2, e3, kOf_kb h.k]
    obtain ⟨k, p⟩ := v
    congr 1
    have := h.p
    simp only at this ⊢
    omega
  · unfold decN
    rw [e2, e4]
    congr 1
    unfold vB
    rw [List.length_append, nB_len, hl4]
    omega
theorem decF_back : ∀ (l : List Vd) (t : Nat) (Y : List Nat), (∀ v ∈ l, Enc v) → decF l.length ⟨t, l.flatMap vB ++ Y, 0, 0⟩ = (l, ⟨t + (l.flatMap vB).length, Y, 0, 0⟩)
  | [], t, Y, _ => rfl
  | v :: l, t, Y, h => by
    have q := dec_one v (h v (by simp)) t (l.flatMap vB ++ Y)
    have ih := decF_back l (t + (vB v).length) Y (fun u hu => h u (by simp [hu]))
    have e : (v :: l).flatMap vB ++ Y = vB v ++ (l.flatMap vB ++ Y) := by rw [List.flatMap_cons, List.append_assoc]
    rw [List.length_cons, decF_cons, e, q.1, q.2, ih, List.flatMap_cons, List.length_append, ← Nat.add_assoc]
theorem enc_ok {l : List Vd} (h : chk l = 0) (hk : ∀ v ∈ l, VdOk v) : ∀ v ∈ l, Enc v := fun v hv => ⟨(hk v hv).k, by have := (chk_ok h).2.2.2 v hv; omega⟩
theorem encB_len (l : List Vd) : (encB l).length = dg l.length + 1 + (l.flatMap vB).length := by unfold encB; rw [List.length_append, nB_len]
theorem dec_mid {l : List Vd} (h : chk l = 0) (hk : ∀ v ∈ l, VdOk v) (Y : List Nat) : rdV pNum 0 (rs0 (encB l ++ Y)) = l.length ∧ decF l.length (rdN pNum (rs0 (encB l ++ Y))) = (l, ⟨(encB l).length, Y, 0, 0⟩) := by
  have hl := chk_ok h
  have e0 : encB l ++ Y = nB l.length ++ (l.flatMap vB ++ Y) := by unfold encB; rw [List.append_assoc]
  have hn := pNum_nB (n := l.length) (by omega) (l.flatMap vB ++ Y)
  constructor
  · unfold rdV rs0
    simp only [e0, hn]
    simp
  · have e2 : rdN pNum (rs0 (encB l ++ Y)) = ⟨0 + (dg l.length + 1), l.flatMap vB ++ Y, 0, 0⟩ := by
      unfold rdN rs0
      simp only [e0, hn]
      rw [List.drop_left' (nB_len _)]
      simp
    rw [e2, decF_back l _ Y (enc_ok h hk), encB_len, Nat.zero_add]
theorem decO_back {l : List Vd} (h : chk l = 0) (hk : ∀ v ∈ l, VdOk v) : decO (encB l) = (l, 0, 0) := by
  have q := dec_mid h hk []
  rw [List.append_nil] at q
  have hl := chk_ok h
  have e := decO_ok (L := encB l) (by rw [q.1]; omega) (by rw [q.1, q.2]; rfl) (by rw [q.1, q.2]; exact h)
  rw [e, q.1, q.2]
/-- A step that has no fault: what was there. -/
theorem rd_form {α : Type} {pr : List Nat → PR α} {z : α} {s : RS} (hne : ∀ x, pr s.R = .er x → x ≠ 0) (h : (rdN pr s).e = 0) : s.e = 0 ∧ ∃ v n, pr s.R = .ok v n ∧ rdV pr z s = v ∧ rdN pr s = ⟨s.t + n, s.R.drop n, 0, 0⟩ := by
  unfold rdN at h
  by_cases h0 : s.e = 0
  · refine ⟨h0, ?_⟩
    cases hp : pr s.R with
    | ok v n => exact ⟨v, n, rfl, by unfold rdV; simp [h0, hp], by unfold rdN; simp [h0, hp]⟩
    | er x =>
      simp only [h0, ne_eq, not_true_eq_false, if_false, hp] at h
      exact absurd h (hne x hp)
  · rw [if_pos h0] at h
    exact absurd h h0
theorem endS_zero {s : RS} (h : (endS s).1 = 0) : s.e = 0 ∧ s.R = [] := by
  unfold endS endE at h
  by_cases h0 : s.e = 0
  · refine ⟨h0, ?_⟩
    rw [if_neg (by simp [h0])] at h
    by_cases hl : 0 < s.R.length
    · rw [if_pos hl] at h; simp at h
    · exact List.eq_nil_of_length_eq_zero (by omega)
  · rw [if_pos h0] at h; exact absurd h h0
structure Inn (s : RS) (N : Nat) : Prop where
  r : s.t + s.R.length ≤ N
  f : s.f ≤ N
theorem Inn.rdN {α : Type} {pr : List Nat → PR α} {s : RS} {N : Nat} (H : Inn s N) (hle : ∀ v n, pr s.R = .ok v n → n ≤ s.R.length) : Inn (rdN pr s) N := by
  have h1 := H.r
  have h2 := H.f
  unfold Go.Proofs.YtcmkmnidnapabaaGreat.rdN
  split
  · exact H
  · split
    · rename_i v n hp
      have := hle v n hp
      exact ⟨by simp only [List.length_drop]; omega, by simp⟩
    · exact ⟨by simp; omega, by simp only; omega⟩
theorem Inn.decF {s : RS} {N : Nat} (H : Inn s N) (hb : ∀ x ∈ s.R, x < 256) : ∀ i, Inn (decF i s).2 N
  | 0 => H
  | i + 1 => by
    have ih := Inn.decF H hb i
    have hbi := (decF_ok hb i).1
    have h1 : Inn (Go.Proofs.YtcmkmnidnapabaaGreat.rdN (pRaw 4) (Go.Proofs.YtcmkmnidnapabaaGreat.decF i s).2) N := ih.rdN (fun v n hp => by obtain ⟨_, rfl, h⟩ := pRaw_ok hp; exact h)
    exact h1.rdN (fun v n hp => by obtain ⟨_, _, _, _, h, _⟩ := pNum_form (rdN_byte hbi) hp; exact h)
end Go.Proofs.YtcmkmnidnapabaaGreat
