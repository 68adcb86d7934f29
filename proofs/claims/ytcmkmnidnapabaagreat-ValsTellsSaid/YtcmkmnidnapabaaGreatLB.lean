/-
  Texts L6e, L6f, L6g, L6h, one behind the other.
-/
import Derived.Test.YtcmkmnidnapabaaGreatL6d
import Derived.Test.YtcmkmnidnapabaaGreatUf
import Derived.Test.YtcmkmnidnapabaaGreatUa
import Derived.Test.YtcmkmnidnapabaaGreatLh
import Derived.Test.YtcmkmnidnapabaaGreatUj
import Derived.Deep.RegionHeld3

/-! L6e: Header, plain: what is encoded is decoded as it was, and nothing else is. -/
namespace Go.Proofs.YtcmkmnidnapabaaGreat
open Go.RowKit Go.Lib

theorem rd_step {α : Type} {pr : List Nat → PR α} {z : α} {A Z : List Nat} {v : α} {t : Nat} (h : pr (A ++ Z) = .ok v A.length) :
    rdV pr z ⟨t, A ++ Z, 0, 0⟩ = v ∧ rdN pr ⟨t, A ++ Z, 0, 0⟩ = ⟨t + A.length, Z, 0, 0⟩ := by
  constructor
  · unfold rdV; simp only [h]; simp
  · unfold rdN
    simp only [h]
    rw [List.drop_left' rfl]
    simp
theorem rd_dead {α : Type} {pr : List Nat → PR α} {s : RS} (h : s.e ≠ 0) : rdN pr s = s := by unfold rdN; rw [if_pos h]
theorem cut_step {α : Type} {pr : List Nat → PR α} {A Z : List Nat} {m t : Nat} {v : α} (hok : ∀ Z, pr (A ++ Z) = .ok v A.length) (hcut : ∀ j, j < A.length → pr (A.take j) = .er 6) {s : RS}
    (h : s.e = 6 ∨ s = ⟨t, (A ++ Z).take m, 0, 0⟩) : (rdN pr s).e = 6 ∨ (A.length ≤ m ∧ rdN pr s = ⟨t + A.length, Z.take (m - A.length), 0, 0⟩) := by
  rcases h with h | rfl
  · left; rw [rd_dead (by omega)]; exact h
  · by_cases hm : A.length ≤ m
    · right
      refine ⟨hm, ?_⟩
      have e : (A ++ Z).take m = A ++ Z.take (m - A.length) := by rw [List.take_append, List.take_of_length_le hm]
      rw [e]
      exact (rd_step (z := v) (hok _)).2
    · left
      have e : (A ++ Z).take m = A.take m := by rw [List.take_append_of_le_length (by omega)]
      rw [e]
      unfold rdN
      simp only [hcut m (by omega)]
      simp
theorem strB_strL (s : ByteArray) : strB (strL s) = s := by
  obtain ⟨⟨l⟩⟩ := s
  show (⟨((l.map (·.toNat)).map UInt8.ofNat).toArray⟩ : ByteArray) = _
  rw [List.map_map]
  have e : (UInt8.ofNat ∘ fun x : UInt8 => x.toNat) = id := by funext x; simp
  rw [e, List.map_id]
theorem strL_byte (s : ByteArray) : ∀ x ∈ strL s, x < 256 := by
  intro x hx
  unfold strL at hx
  obtain ⟨u, _, rfl⟩ := List.mem_map.1 hx
  exact u.toNat_lt
theorem strL_inj {a b : ByteArray} (h : strL a = strL b) : a = b := by rw [← strB_strL a, h, strB_strL]
theorem strB_len (L : List Nat) : (strB L).size = L.length := strB_size L

theorem pText_ok {T : List Nat} {most : Nat} (h : T.length ≤ most) (hm : most < 65536) (Z : List Nat) : pText ((nB T.length ++ T) ++ Z) most = .ok T (nB T.length ++ T).length := by
  have hn := pNum_nB (n := T.length) (by omega) (T ++ Z)
  unfold pText pLen
  rw [List.append_assoc, hn]
  simp only
  rw [if_neg (by omega)]
  simp only
  rw [List.drop_left' (nB_len _), if_neg (by rw [List.length_append, List.length_append, nB_len]; omega), List.take_left' rfl, List.length_append, nB_len]
theorem pText_cut {T : List Nat} {most : Nat} (h : T.length ≤ most) (hm : most < 65536) {j : Nat} (hj : j < (nB T.length ++ T).length) : pText ((nB T.length ++ T).take j) most = .er 6 := by
  have hl := nB_len T.length
  rw [List.length_append, hl] at hj
  unfold pText pLen
  by_cases h1 : j < dg T.length + 1
  · rw [List.take_append_of_le_length (by omega), pNum_cut h1]
  · have e : (nB T.length ++ T).take j = nB T.length ++ T.take (j - (dg T.length + 1)) := by rw [List.take_append, List.take_of_length_le (by omega), hl]
    rw [e, pNum_nB (by omega)]
    simp only
    rw [if_neg (by omega)]
    simp only
    rw [if_pos (by rw [List.length_append, hl, List.length_take]; omega)]
theorem pRaw_app {A : List Nat} {m : Nat} (h : A.length = m) (Z : List Nat) : pRaw m (A ++ Z) = .ok A A.length := by
  unfold pRaw
  rw [if_neg (by rw [List.length_append]; omega), List.take_left' h, h]
theorem pRaw_cut {A : List Nat} {m : Nat} (h : A.length = m) {j : Nat} (hj : j < A.length) : pRaw m (A.take j) = .er 6 := by
  unfold pRaw
  rw [if_pos (by rw [List.length_take]; omega)]
theorem pNum_app {n : Nat} (h : n < 9223372036854775808) (Z : List Nat) : pNum (nB n ++ Z) = .ok n (nB n).length := by rw [pNum_nB h, nB_len]
theorem pNum_cut' {n j : Nat} (hj : j < (nB n).length) : pNum ((nB n).take j) = .er 6 := pNum_cut (by rw [nB_len] at hj; exact hj)

def e1 (x : Hdr) : List Nat := nB (strL x.s).length ++ strL x.s
theorem encH_eq (x : Hdr) (Y : List Nat) : encH x ++ Y = e1 x ++ (nB x.h.toNat ++ (nB x.t.toNat ++ (x.p ++ (x.v ++ (x.n ++ (x.a ++ Y)))))) := by
  unfold encH e1
  rw [strL_len, List.nil_append]
  simp only [List.append_assoc]
theorem encH_len {x : Hdr} : (encH x).length = (e1 x).length + (nB x.h.toNat).length + (nB x.t.toNat).length + x.p.length + x.v.length + x.n.length + x.a.length := by
  have q := encH_eq x []
  rw [List.append_nil, List.append_nil] at q
  rw [q]
  simp only [List.length_append]
  omega
structure HGood (x : Hdr) : Prop where
  ok : HdrOk x
  c : chkH x = 0
theorem HGood.s {x : Hdr} (h : HGood x) : (strL x.s).length ≤ 32 ∧ 1 ≤ (strL x.s).length := by rw [strL_len]; have := nmS_size (chkH_ok h.c).1; omega
theorem HGood.nh {x : Hdr} (h : HGood x) : ((x.h.toNat : Nat) : Int) = x.h ∧ x.h.toNat < 9223372036854775808 := by have := chkH_ok h.c; omega
theorem HGood.nt {x : Hdr} (h : HGood x) : ((x.t.toNat : Nat) : Int) = x.t ∧ x.t.toNat < 9223372036854775808 := by have := chkH_ok h.c; omega
theorem hread {x : Hdr} (h : HGood x) (Y : List Nat) : hS7 (encH x ++ Y) = ⟨(encH x).length, Y, 0, 0⟩ ∧ rdH (encH x ++ Y) = x := by
  have s0 : hS0 (encH x ++ Y) = ⟨0, e1 x ++ (nB x.h.toNat ++ (nB x.t.toNat ++ (x.p ++ (x.v ++ (x.n ++ (x.a ++ Y)))))), 0, 0⟩ := by unfold hS0 rs0; rw [encH_eq]
  have r1 := rd_step (pr := fun R => pText R 32) (z := []) (t := 0) (pText_ok (most := 32) h.s.1 (by decide) (nB x.h.toNat ++ (nB x.t.toNat ++ (x.p ++ (x.v ++ (x.n ++ (x.a ++ Y)))))))
  have e1' : nB (strL x.s).length ++ strL x.s = e1 x := rfl
  rw [e1'] at r1
  have s1 : hS1 (encH x ++ Y) = _ := (congrArg (rdN (fun R => pText R 32)) s0).trans r1.2
  have r2 := rd_step (z := (0 : Nat)) (t := 0 + (e1 x).length) (pNum_app h.nh.2 (nB x.t.toNat ++ (x.p ++ (x.v ++ (x.n ++ (x.a ++ Y))))))
  have s2 : hS2 (encH x ++ Y) = _ := (congrArg (rdN pNum) s1).trans r2.2
  have r3 := rd_step (z := (0 : Nat)) (t := 0 + (e1 x).length + (nB x.h.toNat).length) (pNum_app h.nt.2 (x.p ++ (x.v ++ (x.n ++ (x.a ++ Y)))))
  have s3 : hS3 (encH x ++ Y) = _ := (congrArg (rdN pNum) s2).trans r3.2
  have r4 := rd_step (z := z32) (t := 0 + (e1 x).length + (nB x.h.toNat).length + (nB x.t.toNat).length) (pRaw_app h.ok.p.1 (x.v ++ (x.n ++ (x.a ++ Y))))
  have s4 : hS4 (encH x ++ Y) = _ := (congrArg (rdN (pRaw 32)) s3).trans r4.2
  have r5 := rd_step (z := z32) (t := 0 + (e1 x).length + (nB x.h.toNat).length + (nB x.t.toNat).length + x.p.length) (pRaw_app h.ok.v.1 (x.n ++ (x.a ++ Y)))
  have s5 : hS5 (encH x ++ Y) = _ := (congrArg (rdN (pRaw 32)) s4).trans r5.2
  have r6 := rd_step (z := z32) (t := 0 + (e1 x).length + (nB x.h.toNat).length + (nB x.t.toNat).length + x.p.length + x.v.length) (pRaw_app h.ok.n.1 (x.a ++ Y))
  have s6 : hS6 (encH x ++ Y) = _ := (congrArg (rdN (pRaw 32)) s5).trans r6.2
  have r7 := rd_step (z := z32) (t := 0 + (e1 x).length + (nB x.h.toNat).length + (nB x.t.toNat).length + x.p.length + x.v.length + x.n.length) (pRaw_app h.ok.a.1 Y)
  have r7' := r7.1
  have s7 : hS7 (encH x ++ Y) = _ := (congrArg (rdN (pRaw 32)) s6).trans r7.2
  have e : 0 + (e1 x).length + (nB x.h.toNat).length + (nB x.t.toNat).length + x.p.length + x.v.length + x.n.length + x.a.length = (encH x).length := by rw [encH_len]; omega
  rw [e] at s7
  constructor
  · exact s7
  · clear s7 e r7
    unfold rdH
    rw [s0, s1, s2, s3, s4, s5, s6, r1.1, r2.1, r3.1, r4.1, r5.1, r6.1, r7', strB_strL, h.nh.1, h.nt.1]
theorem endS_nil (t : Nat) : endS ⟨t, [], 0, 0⟩ = (0, 0) := rfl
theorem decH_back {x : Hdr} (h : HGood x) : decH (encH x) = (x, 0, 0) := by
  have q := hread h []
  rw [List.append_nil] at q
  rw [decH_ok (by rw [q.1, endS_nil]) (by rw [q.2]; exact h.c), q.2]
theorem decH_more {x : Hdr} (h : HGood x) {Y : List Nat} (hY : 0 < Y.length) : decH (encH x ++ Y) = (hdr0, 4, (encH x).length) := by
  have q := hread h Y
  have hE : endS (hS7 (encH x ++ Y)) = (4, (encH x).length) := by rw [q.1]; unfold endS endE; simp [hY]
  rw [decH_end (by rw [hE]; exact (by decide : (4 : Nat) ≠ 0)), hE]
theorem decH_cut {x : Hdr} (h : HGood x) {m : Nat} (hm : m < (encH x).length) : ∃ y, decH ((encH x).take m) = (hdr0, 6, y) := by
  have hl := encH_len (x := x)
  have q := encH_eq x []
  rw [List.append_nil] at q
  have c0 : (hS0 ((encH x).take m)).e = 6 ∨ hS0 ((encH x).take m) = ⟨0, (e1 x ++ (nB x.h.toNat ++ (nB x.t.toNat ++ (x.p ++ (x.v ++ (x.n ++ (x.a ++ []))))))).take m, 0, 0⟩ := by
    right; unfold hS0 rs0; rw [q]
  have k6 : (hS7 ((encH x).take m)).e = 6 := by
    rcases cut_step (pr := fun R => pText R 32) (A := e1 x) (v := strL x.s) (fun Z => pText_ok (most := 32) h.s.1 (by decide) Z) (fun j hj => pText_cut (most := 32) h.s.1 (by decide) hj) c0 with d1 | ⟨l1, d1⟩
    · have e : hS1 ((encH x).take m) = rdN (fun R => pText R 32) (hS0 ((encH x).take m)) := rfl
      rw [← e] at d1
      unfold hS7 hS6 hS5 hS4 hS3 hS2
      simp only [rd_dead (s := hS1 ((encH x).take m)) (by omega)]
      exact d1
    rcases cut_step (A := nB x.h.toNat) (v := x.h.toNat) (fun Z => pNum_app h.nh.2 Z) (fun j hj => pNum_cut' hj) (s := hS1 ((encH x).take m)) (.inr d1) with d2 | ⟨l2, d2⟩
    · have e : hS2 ((encH x).take m) = rdN pNum (hS1 ((encH x).take m)) := rfl
      rw [← e] at d2
      unfold hS7 hS6 hS5 hS4 hS3
      simp only [rd_dead (s := hS2 ((encH x).take m)) (by omega)]
      exact d2
    rcases cut_step (A := nB x.t.toNat) (v := x.t.toNat) (fun Z => pNum_app h.nt.2 Z) (fun j hj => pNum_cut' hj) (s := hS2 ((encH x).take m)) (.inr d2) with d3 | ⟨l3, d3⟩
    · have e : hS3 ((encH x).take m) = rdN pNum (hS2 ((encH x).take m)) := rfl
      rw [← e] at d3
      unfold hS7 hS6 hS5 hS4
      simp only [rd_dead (s := hS3 ((encH x).take m)) (by omega)]
      exact d3
    rcases cut_step (A := x.p) (v := x.p) (fun Z => pRaw_app h.ok.p.1 Z) (fun j hj => pRaw_cut h.ok.p.1 hj) (s := hS3 ((encH x).take m)) (.inr d3) with d4 | ⟨l4, d4⟩
    · have e : hS4 ((encH x).take m) = rdN (pRaw 32) (hS3 ((encH x).take m)) := rfl
      rw [← e] at d4
      unfold hS7 hS6 hS5
      simp only [rd_dead (s := hS4 ((encH x).take m)) (by omega)]
      exact d4
    rcases cut_step (A := x.v) (v := x.v) (fun Z => pRaw_app h.ok.v.1 Z) (fun j hj => pRaw_cut h.ok.v.1 hj) (s := hS4 ((encH x).take m)) (.inr d4) with d5 | ⟨l5, d5⟩
    · have e : hS5 ((encH x).take m) = rdN (pRaw 32) (hS4 ((encH x).take m)) := rfl
      rw [← e] at d5
      unfold hS7 hS6
      simp only [rd_dead (s := hS5 ((encH x).take m)) (by omega)]
      exact d5
    rcases cut_step (A := x.n) (v := x.n) (fun Z => pRaw_app h.ok.n.1 Z) (fun j hj => pRaw_cut h.ok.n.1 hj) (s := hS5 ((encH x).take m)) (.inr d5) with d6 | ⟨l6, d6⟩
    · have e : hS6 ((encH x).take m) = rdN (pRaw 32) (hS5 ((encH x).take m)) := rfl
      rw [← e] at d6
      unfold hS7
      simp only [rd_dead (s := hS6 ((encH x).take m)) (by omega)]
      exact d6
    rcases cut_step (A := x.a) (v := x.a) (fun Z => pRaw_app h.ok.a.1 Z) (fun j hj => pRaw_cut h.ok.a.1 hj) (s := hS6 ((encH x).take m)) (.inr d6) with d7 | ⟨l7, d7⟩
    · exact d7
    · exfalso; omega
  have hE : (endS (hS7 ((encH x).take m))).1 = 6 := by unfold endS endE; rw [k6]; rfl
  refine ⟨(endS (hS7 ((encH x).take m))).2, ?_⟩
  rw [decH_end (by omega)]
  rw [← hE]
theorem encH_byte {x : Hdr} (h : HdrOk x) : ∀ y ∈ encH x, y < 256 := by
  intro y hy
  have q := encH_eq x []
  rw [List.append_nil, List.append_nil] at q
  rw [q] at hy
  unfold e1 at hy
  simp only [List.mem_append] at hy
  rcases hy with (hy | hy) | hy | hy | hy | hy | hy | hy
  · exact nB_byte _ y hy
  · exact strL_byte _ y hy
  · exact nB_byte _ y hy
  · exact nB_byte _ y hy
  · exact h.p.2 y hy
  · exact h.v.2 y hy
  · exact h.n.2 y hy
  · exact h.a.2 y hy
theorem encH_le {x : Hdr} (h : HGood x) : 131 ≤ (encH x).length ∧ (encH x).length ≤ 300 := by
  have q := encH_len (x := x)
  have h1 := dg_le x.h.toNat
  have h2 := dg_le x.t.toNat
  have h3 := dg_le (strL x.s).length
  have h4 := h.s
  have h5 : (e1 x).length = dg (strL x.s).length + 1 + (strL x.s).length := by unfold e1; rw [List.length_append, nB_len]
  have := nB_len x.h.toNat
  have := nB_len x.t.toNat
  have := h.ok.p.1
  have := h.ok.v.1
  have := h.ok.n.1
  have := h.ok.a.1
  omega
theorem encH_inj {x y : Hdr} (hx : HGood x) (hy : HGood y) (h : encH x = encH y) : x = y := by
  have q := decH_back hx
  rw [h, decH_back hy] at q
  exact (congrArg Prod.fst q).symm
theorem decH_form {L : List Nat} (hb : ∀ x ∈ L, x < 256) (h : (decH L).2.1 = 0) : (decH L).2.2 = 0 ∧ HGood (decH L).1 ∧ encH (decH L).1 = L := by
  by_cases hE : (endS (hS7 L)).1 = 0
  · by_cases hc : chkH (rdH L) = 0
    · rw [decH_ok hE hc]
      have hG : HGood (rdH L) := ⟨rdH_ok hb, hc⟩
      refine ⟨rfl, hG, ?_⟩
      have z7 := endS_zero hE
      obtain ⟨b0, b1, b2, b3, b4, b5, b6⟩ := hS_byte hb
      obtain ⟨z6, v7, n7, p7, q7, r7⟩ := rd_form (pr := pRaw 32) (z := z32) (s := hS6 L) (fun x hx => pRaw_ne hx) z7.1
      obtain ⟨z5, v6, n6, p6, q6, r6⟩ := rd_form (pr := pRaw 32) (z := z32) (s := hS5 L) (fun x hx => pRaw_ne hx) z6
      obtain ⟨z4, v5, n5, p5, q5, r5⟩ := rd_form (pr := pRaw 32) (z := z32) (s := hS4 L) (fun x hx => pRaw_ne hx) z5
      obtain ⟨z3, v4, n4, p4, q4, r4⟩ := rd_form (pr := pRaw 32) (z := z32) (s := hS3 L) (fun x hx => pRaw_ne hx) z4
      obtain ⟨z2, v3, n3, p3, q3, r3⟩ := rd_form (pr := pNum) (z := (0 : Nat)) (s := hS2 L) (fun x hx => pNum_ne hx) z3
      obtain ⟨z1, v2, n2, p2, q2, r2⟩ := rd_form (pr := pNum) (z := (0 : Nat)) (s := hS1 L) (fun x hx => pNum_ne hx) z2
      obtain ⟨z0, v1, n1, p1, q1, r1⟩ := rd_form (pr := fun R => pText R 32) (z := []) (s := hS0 L) (fun x hx => pText_ne hx) z1
      obtain ⟨dk1, hd1, hf1, hn1, hl1⟩ := pText_form b0 p1
      obtain ⟨dk2, hd2, hf2, hn2, hl2, hv2⟩ := pNum_form b1 p2
      obtain ⟨dk3, hd3, hf3, hn3, hl3, hv3⟩ := pNum_form b2 p3
      obtain ⟨rfl, rfl, hl4⟩ := pRaw_ok p4
      obtain ⟨rfl, rfl, hl5⟩ := pRaw_ok p5
      obtain ⟨rfl, rfl, hl6⟩ := pRaw_ok p6
      obtain ⟨rfl, rfl, hl7⟩ := pRaw_ok p7
      have hvb : ∀ x ∈ v1, x < 256 := fun x hx => by
        have : x ∈ (hS0 L).R.take n1 := by rw [← hf1]; exact List.mem_append_right _ hx
        exact b0 x (List.mem_of_mem_take this)
      have hs : strL (strB v1) = v1 := strL_strB hvb
      have hlen1 : v1.length ≤ 32 := by
        have := hG.s.1
        unfold rdH at this
        simp only at this
        rw [q1, hs] at this
        exact this
      have R0 : (hS0 L).R = L := rfl
      have t1 : nB v1.length ++ v1 = (hS0 L).R.take n1 := by rw [← hf1, digs_dg hd1 (by omega), nB_num (by omega)]
      have t2 : nB v2 = (hS1 L).R.take n2 := by rw [← hf2, digs_dg hd2 (by omega), nB_num (by omega)]
      have t3 : nB v3 = (hS2 L).R.take n3 := by rw [← hf3, digs_dg hd3 (by omega), nB_num (by omega)]
      have u1 : (hS1 L).R = (hS0 L).R.drop n1 := by unfold hS1; rw [r1]
      have u2 : (hS2 L).R = (hS1 L).R.drop n2 := by unfold hS2; rw [r2]
      have u3 : (hS3 L).R = (hS2 L).R.drop n3 := by unfold hS3; rw [r3]
      have u4 : (hS4 L).R = (hS3 L).R.drop 32 := by unfold hS4; rw [r4]
      have u5 : (hS5 L).R = (hS4 L).R.drop 32 := by unfold hS5; rw [r5]
      have u6 : (hS6 L).R = (hS5 L).R.drop 32 := by unfold hS6; rw [r6]
      have u7 : (hS7 L).R = (hS6 L).R.drop 32 := by unfold hS7; rw [r7]
      have q := encH_eq (rdH L) (hS7 L).R
      rw [z7.2, List.append_nil] at q
      rw [q]
      unfold e1 rdH
      simp only
      rw [q1, q2, q3, q4, q5, q6, q7, hs, Int.toNat_natCast, Int.toNat_natCast, t1, t2, t3, ← z7.2, u7, List.take_append_drop, u6, List.take_append_drop, u5, List.take_append_drop, u4, List.take_append_drop, u3, List.take_append_drop, u2, List.take_append_drop, u1, List.take_append_drop]
      rfl
    · rw [decH_chk hE hc] at h; exact absurd h hc
  · rw [decH_end hE] at h; exact absurd h hE
theorem decH_in {L : List Nat} (hb : ∀ x ∈ L, x < 256) : (decH L).2.2 ≤ L.length ∧ ((decH L).2.1 ≠ 0 → (decH L).1 = hdr0) := by
  by_cases hE : (endS (hS7 L)).1 = 0
  · by_cases hc : chkH (rdH L) = 0
    · rw [decH_ok hE hc]; exact ⟨Nat.zero_le _, fun h => absurd rfl h⟩
    · rw [decH_chk hE hc]; exact ⟨Nat.zero_le _, fun _ => rfl⟩
  · rw [decH_end hE]
    refine ⟨?_, fun _ => rfl⟩
    obtain ⟨b0, b1, b2, b3, b4, b5, b6⟩ := hS_byte hb
    have raw : ∀ {s : RS}, Inn s L.length → Inn (rdN (pRaw 32) s) L.length := fun H => H.rdN (fun v n hp => by obtain ⟨_, rfl, h⟩ := pRaw_ok hp; exact h)
    have i0 : Inn (hS0 L) L.length := ⟨by simp [hS0, rs0], by simp [hS0, rs0]⟩
    have i1 : Inn (hS1 L) L.length := i0.rdN (fun v n hp => by obtain ⟨_, _, _, _, h⟩ := pText_form b0 hp; exact h)
    have i2 : Inn (hS2 L) L.length := i1.rdN (fun v n hp => by obtain ⟨_, _, _, _, h, _⟩ := pNum_form b1 hp; exact h)
    have i3 : Inn (hS3 L) L.length := i2.rdN (fun v n hp => by obtain ⟨_, _, _, _, h, _⟩ := pNum_form b2 hp; exact h)
    have i7 : Inn (hS7 L) L.length := raw (raw (raw (raw i3)))
    have h1 := i7.r
    have h2 := i7.f
    unfold endS endE
    split
    · exact h2
    · split
      · simp only; omega
      · exact Nat.zero_le _
end Go.Proofs.YtcmkmnidnapabaaGreat

/-! L6f: Header: == of headers and faults. -/
namespace Go.Proofs.YtcmkmnidnapabaaGreat
set_option linter.unusedSimpArgs false
open Go.RowKit Go.Lib

theorem fields_hdr : (Tryz.prog.fieldsOf 79).toList.map (fun f => (f.type, f.offset, f.name == "_")) = [(9, 0, false), (3, 1, false), (3, 2, false), (39, 3, false), (39, 35, false), (39, 67, false), (39, 99, false)] := by kernel_rfl
theorem struct_hdr : Tryz.prog.underlying 79 = some (.struct (Tryz.prog.fieldsOf 79)) := by kernel_rfl
theorem part_hash (cs : List Value) (o : Nat) (w : World) : (part 39 cs.toArray o).run Tryz.prog w = .ok (.agg ((cs.drop o).take 32).toArray) w := by
  have hagg : (isAgg 39).run Tryz.prog w = .ok true w := by
    unfold isAgg
    rw [Sem.run_bind, run_underlying Tryz.underlying39 w]
    rfl
  have hs : (sizeOf 39).run Tryz.prog w = .ok 32 w := by
    obtain ⟨j, hj⟩ : ∃ j, Tryz.prog.info? 39 = some j := Option.isSome_iff_exists.1 (by kernel_rfl)
    have h1 : (Tryz.prog.info? 39).map (·.size) = some 32 := by kernel_rfl
    rw [hj] at h1
    simp only [Option.map_some, Option.some.injEq] at h1
    simp [sizeOf, typeInfo, hj, h1]
  simp [part, hagg, hs]
theorem part_one {T : TypeId} {d : TypeDesc} (hT : Tryz.prog.underlying T = some d) (hd : (match d with | .struct _ | .array _ _ => true | _ => false) = false) (cs : List Value) (o : Nat) (v : Value) (h : cs[o]? = some v) (w : World) : (part T cs.toArray o).run Tryz.prog w = .ok v w := by
  have hagg : (isAgg T).run Tryz.prog w = .ok false w := by
    unfold isAgg
    rw [Sem.run_bind, run_underlying hT w]
    cases d <;> simp_all
  simp [part, hagg, h]
theorem drop_p (x : Hdr) (hx : HdrOk x) : ((hC x).drop 3).take 32 = bvs x.p := List.take_left' (by rw [bvs_len, hx.p.1])
theorem drop_v (x : Hdr) (hx : HdrOk x) : ((hC x).drop 35).take 32 = bvs x.v := by
  have e : hC x = ([.string x.s, .int .i64 x.h, .int .i64 x.t] ++ bvs x.p) ++ (bvs x.v ++ (bvs x.n ++ bvs x.a)) := by unfold hC; simp
  rw [e, List.drop_left' (by simp [bvs_len, hx.p.1]), List.take_left' (by rw [bvs_len, hx.v.1])]
theorem drop_n (x : Hdr) (hx : HdrOk x) : ((hC x).drop 67).take 32 = bvs x.n := by
  have e : hC x = ([.string x.s, .int .i64 x.h, .int .i64 x.t] ++ bvs x.p ++ bvs x.v) ++ (bvs x.n ++ bvs x.a) := by unfold hC; simp
  rw [e, List.drop_left' (by simp [bvs_len, hx.p.1, hx.v.1]), List.take_left' (by rw [bvs_len, hx.n.1])]
theorem drop_a (x : Hdr) (hx : HdrOk x) : ((hC x).drop 99).take 32 = bvs x.a := by
  have e : hC x = ([.string x.s, .int .i64 x.h, .int .i64 x.t] ++ bvs x.p ++ bvs x.v ++ bvs x.n) ++ bvs x.a := by unfold hC; simp
  rw [e, List.drop_left' (by simp [bvs_len, hx.p.1, hx.v.1, hx.n.1]), List.take_of_length_le (by rw [bvs_len, hx.a.1]; omega)]
theorem str_eq (a b : ByteArray) : (a.toList == b.toList) = decide (a = b) := by
  rw [Bool.eq_iff_iff, beq_iff_eq, decide_eq_true_iff, ByteArray.toList_eq, ByteArray.toList_eq]
  constructor
  · intro h
    obtain ⟨⟨l⟩⟩ := a
    obtain ⟨⟨m⟩⟩ := b
    simp only at h
    rw [h]
  · rintro rfl; rfl
instance hdrDec : DecidableEq Hdr := fun x y => by
  obtain ⟨s, h, t, p, v, n, a⟩ := x
  obtain ⟨s', h', t', p', v', n', a'⟩ := y
  exact decidable_of_iff (s = s' ∧ h = h' ∧ t = t' ∧ p = p' ∧ v = v' ∧ n = n' ∧ a = a') (by simp)
set_option maxRecDepth 20000 in
set_option maxHeartbeats 1000000 in
theorem run_eqIn_hdr (d : Nat) (x y : Hdr) (hx : HdrOk x) (hy : HdrOk y) (w : World) : (Op.equalIn (d + 3) 79 (.agg (hC x).toArray) (.agg (hC y).toArray)).run Tryz.prog w = .ok (decide (x = y)) w := by
  rw [show d + 3 = (d + 2) + 1 from rfl, run_equalIn_agg w (d + 2) 79 _ _ struct_hdr (by kernel_rfl)]
  have hf := fields_hdr
  obtain ⟨f0, r0, h0, g0, k0⟩ := List.map_eq_cons_iff.1 hf
  obtain ⟨f1, r1, h1, g1, k1⟩ := List.map_eq_cons_iff.1 k0
  obtain ⟨f2, r2, h2, g2, k2⟩ := List.map_eq_cons_iff.1 k1
  obtain ⟨f3, r3, h3, g3, k3⟩ := List.map_eq_cons_iff.1 k2
  obtain ⟨f4, r4, h4, g4, k4⟩ := List.map_eq_cons_iff.1 k3
  obtain ⟨f5, r5, h5, g5, k5⟩ := List.map_eq_cons_iff.1 k4
  obtain ⟨f6, r6, h6, g6, k6⟩ := List.map_eq_cons_iff.1 k5
  obtain rfl := List.map_eq_nil_iff.1 k6
  rw [h0, h1, h2, h3, h4, h5, h6]
  simp only [Prod.mk.injEq, beq_eq_false_iff_ne] at g0 g1 g2 g3 g4 g5 g6
  obtain ⟨t0, o0, n0⟩ := g0
  obtain ⟨t1, o1, n1⟩ := g1
  obtain ⟨t2, o2, n2⟩ := g2
  obtain ⟨t3, o3, n3⟩ := g3
  obtain ⟨t4, o4, n4⟩ := g4
  obtain ⟨t5, o5, n5⟩ := g5
  obtain ⟨t6, o6, n6⟩ := g6
  have e : decide (x = y) = (decide (x.s = y.s) && ((x.h == y.h) && ((x.t == y.t) && (decide (x.p = y.p) && (decide (x.v = y.v) && (decide (x.n = y.n) && decide (x.a = y.a))))))) := by
    obtain ⟨s, h, t, p, v, n, a⟩ := x
    obtain ⟨s', h', t', p', v', n', a'⟩ := y
    rw [Bool.eq_iff_iff]
    simp
  rw [e]
  have p0 := fun (z : Hdr) w => part_one Tryz.underlying9 rfl (hC z) 0 _ (hC_0 z) w
  have p1 := fun (z : Hdr) w => part_one Tryz.underlying3 rfl (hC z) 1 _ (hC_1 z) w
  have p2 := fun (z : Hdr) w => part_one Tryz.underlying3 rfl (hC z) 2 _ (hC_2 z) w
  simp only [Op.eqFields, n0, t0, o0, ne_eq, not_false_eq_true, if_true, Sem.run_bind, p0, Result.andThen_ok, run_equalIn_string w (d + 1) 9 _ _ Tryz.underlying9, str_eq]
  cases decide (x.s = y.s)
  · rfl
  simp only [Op.eqFields, n1, t1, o1, ne_eq, not_false_eq_true, if_true, Bool.not_true, Bool.false_eq_true, if_false, Sem.run_bind, p1, Result.andThen_ok, run_equalIn_int w (d + 1) 3 .i64 .i64 _ _ Tryz.underlying3]
  cases (x.h == y.h)
  · rfl
  simp only [Op.eqFields, n2, t2, o2, ne_eq, not_false_eq_true, if_true, Bool.not_true, Bool.false_eq_true, if_false, Sem.run_bind, p2, Result.andThen_ok, run_equalIn_int w (d + 1) 3 .i64 .i64 _ _ Tryz.underlying3]
  cases (x.t == y.t)
  · rfl
  simp only [Op.eqFields, n3, t3, o3, ne_eq, not_false_eq_true, if_true, Bool.not_true, Bool.false_eq_true, if_false, Sem.run_bind, part_hash, drop_p x hx, drop_p y hy, Result.andThen_ok, run_equalIn_arr Tryz.underlying39 d x.p y.p hx.p.1 hy.p.1]
  cases decide (x.p = y.p)
  · rfl
  simp only [Op.eqFields, n4, t4, o4, ne_eq, not_false_eq_true, if_true, Bool.not_true, Bool.false_eq_true, if_false, Sem.run_bind, part_hash, drop_v x hx, drop_v y hy, Result.andThen_ok, run_equalIn_arr Tryz.underlying39 d x.v y.v hx.v.1 hy.v.1]
  cases decide (x.v = y.v)
  · rfl
  simp only [Op.eqFields, n5, t5, o5, ne_eq, not_false_eq_true, if_true, Bool.not_true, Bool.false_eq_true, if_false, Sem.run_bind, part_hash, drop_n x hx, drop_n y hy, Result.andThen_ok, run_equalIn_arr Tryz.underlying39 d x.n y.n hx.n.1 hy.n.1]
  cases decide (x.n = y.n)
  · rfl
  simp only [Op.eqFields, n6, t6, o6, ne_eq, not_false_eq_true, if_true, Bool.not_true, Bool.false_eq_true, if_false, Sem.run_bind, part_hash, drop_a x hx, drop_a y hy, Result.andThen_ok, run_equalIn_arr Tryz.underlying39 d x.a y.a hx.a.1 hy.a.1]
  cases decide (x.a = y.a) <;> rfl
set_option maxRecDepth 20000 in
theorem eqH (x y : Hdr) (hx : HdrOk x) (hy : HdrOk y) (w : World) : (binOp .eql 79 (.agg (hC x).toArray) (.agg (hC y).toArray)).run Tryz.prog w = .ok (.bool (decide (x = y))) w := by
  rw [run_eql_struct, run_eqIn_hdr 9997 x y hx hy]; rfl
set_option maxRecDepth 20000 in
theorem neH (x y : Hdr) (hx : HdrOk x) (hy : HdrOk y) (w : World) : (binOp .neq 79 (.agg (hC x).toArray) (.agg (hC y).toArray)).run Tryz.prog w = .ok (.bool (!decide (x = y))) w := by
  rw [run_neq_struct, run_eqIn_hdr 9997 x y hx hy]; rfl
theorem guard_hdr : Tryz.prog.eqGuardType Tryz.prog.depth 79 = false := by kernel_rfl
end Go.Proofs.YtcmkmnidnapabaaGreat

/-! L6g: Header: what the laws hold first: the chapter's header, some of its examples. -/
namespace Go.Proofs.YtcmkmnidnapabaaGreat
set_option linter.unusedSimpArgs false
open Go.RowKit Go.Lib

/-- All is as it was, and blocks hold what they hold. -/
def Kp (w : World) (l : List (Nat × List Value × TypeId)) (w' : World) : Prop := Below w.heap.size w w' ∧ ∀ x ∈ l, Blk w' x.1 x.2.1 x.2.2
theorem Kp.at {w w' : World} {l : List (Nat × List Value × TypeId)} (h : Kp w l w') (i : Nat) {b : Nat} {cs : List Value} {T : TypeId} (hi : l[i]? = some (b, cs, T)) : Blk w' b cs T := h.2 (b, cs, T) (List.mem_of_getElem? hi)
theorem Kp.step {w w1 w2 : World} {l : List (Nat × List Value × TypeId)} (h : Kp w l w1) (k : Below w1.heap.size w1 w2) : Kp w l w2 := ⟨h.1.trans (k.mono h.1.size), fun x hx => k.blk' (h.2 x hx)⟩
theorem Kp.drew {w w1 : World} {l : List (Nat × List Value × TypeId)} (h : Kp w l w1) : Kp w l w1.drew := ⟨h.1.drew, fun x hx => (h.2 x hx).drew⟩
theorem Kp.alloc {w w1 : World} {l : List (Nat × List Value × TypeId)} (h : Kp w l w1) (o : Obj) : Kp w l (w1.alloc o) := h.step ((Below.refl _ _).alloc (Nat.le_refl _) o)
theorem Kp.nil {w w1 : World} (h : Below w.heap.size w w1) : Kp w [] w1 := ⟨h, fun x hx => by cases hx⟩
theorem Kp.cons {w w1 : World} {l : List (Nat × List Value × TypeId)} (h : Kp w l w1) {b : Nat} {cs : List Value} {T : TypeId} (k : Blk w1 b cs T) : Kp w ((b, cs, T) :: l) w1 :=
  ⟨h.1, fun x hx => (List.mem_cons.1 hx).elim (fun e => e ▸ k) (h.2 x)⟩

def oneH : Hdr := ⟨⟨#[97]⟩, 1, 2, z32, z32, z32, z32⟩
theorem oneH_ok : HdrOk oneH := ⟨by decide, by decide, z32_bytes, z32_bytes, z32_bytes, z32_bytes⟩
theorem oneH_chk : chkH oneH = 0 := by decide +kernel
theorem oneH_good : HGood oneH := ⟨oneH_ok, oneH_chk⟩
theorem oneH_len : (encH oneH).length = 135 := by decide +kernel
/-- A header that was told is laid into its variable. -/
theorem lay_hdr {w w1 w2 : World} {x : Hdr} {o : Obj} (hB : Below w.heap.size w w1) (h : w2 = ((w1.alloc (.cells (hC hdr0).toArray 79)).alloc o).setRow w1.heap.size (hC x).toArray) :
    Below w.heap.size w w2 ∧ Blk w2 w1.heap.size (hC x) 79 := by
  have b1 := (But.refl w1.heap.size ((w1.alloc (.cells (hC hdr0).toArray 79)).alloc o)).setRow (hC x).toArray
  rw [← h] at b1
  refine ⟨((hB.alloc hB.size _).alloc (by have := hB.size; simp; omega) _).trans (b1.below hB.size), ?_⟩
  rw [h]
  exact ((Blk.new w1 (hC hdr0) _).alloc o).row
/-- What Decode tells lies in two variables: the walk's state behind it. -/
structure Laid (w w2 : World) (b : Nat) (x : Hdr) (e a : Nat) : Prop where
  kp : Kp w [(b, hC x, 79), (b + 1, [.int .i64 (e : Nat), .int .i64 (a : Nat)], 52)] w2
theorem Laid.mk1 {w w1 w2 : World} {x : Hdr} {f0 f1 : Value} (hB : Below w.heap.size w w1) (h : w2 = ((w1.alloc (.cells (hC hdr0).toArray 79)).alloc (.cells #[f0, f1] 52)).setRow w1.heap.size (hC x).toArray) :
    Below w.heap.size w w2 ∧ Blk w2 w1.heap.size (hC x) 79 ∧ Blk w2 (w1.heap.size + 1) [f0, f1] 52 := by
  have q := lay_hdr hB h
  refine ⟨q.1, q.2, ?_⟩
  rw [h]
  exact ((But.refl w1.heap.size _).setRow _).blk (Blk.new' _ _ _ _ (by simp)) (by omega)
theorem Laid.mk2 {w w2 : World} {b : Nat} {x : Hdr} {f0 f1 : Value} (hb : w.heap.size ≤ b) (h : Below w.heap.size w w2 ∧ Blk w2 b (hC x) 79 ∧ Blk w2 (b + 1) [f0, f1] 52) (e a : Nat) :
    Laid w ((w2.setCell ⟨b + 1, 0, none⟩ (.int .i64 (e : Nat))).setCell ⟨b + 1, 1, none⟩ (.int .i64 (a : Nat))) b x e a := by
  refine ⟨Kp.cons (Kp.cons (Kp.nil ?_) ?_) ?_⟩
  · exact (h.1.setCell (p := ⟨b + 1, 0, none⟩) (by show w.heap.size ≤ b + 1; omega) _).setCell (p := ⟨b + 1, 1, none⟩) (by show w.heap.size ≤ b + 1; omega) _
  · exact (h.2.2.set 0 _).set 1 _
  · exact (h.2.1.other _ _ (by show b ≠ b + 1; omega)).other _ _ (by show b ≠ b + 1; omega)
end Go.Proofs.YtcmkmnidnapabaaGreat

/-! L6h: Header: the walk of the law's awake. -/
namespace Go.Proofs.YtcmkmnidnapabaaGreat
set_option linter.unusedSimpArgs false
open Go.RowKit Go.Lib

/-- The chapter's header is encoded, and decoded again. -/
theorem enc_one (w : World) : Calls Tryz.prog 114 #[.agg (hC oneH).toArray] w fun e w' => (∃ p b cap, e = .returned (.tuple #[.slice p 135 cap, .int .i64 0]) ∧ w.heap.size ≤ b ∧ (p = none → cap = 0) ∧ Bs w' p b 0 (encH oneH) cap) ∧ Below w.heap.size w w' := by
  have q := hencode_ok oneH oneH_ok w oneH_chk
  unfold DoneP at q
  rw [oneH_len] at q
  exact q
theorem dec_oneH (p : Option Addr) (b c : Nat) (w : World) (h : Bs w p b 0 (encH oneH) c) : Calls Tryz.prog 130 #[.slice p 135 c] w fun e w' => e = .returned (.tuple #[.agg (hC oneH).toArray, .agg #[.int .i64 0, .int .i64 0]]) ∧ Below w.heap.size w w' := by
  have q := hdecode_any p b 0 c (encH oneH) w h (by rw [oneH_len]; decide)
  rw [oneH_len, decH_back oneH_good] at q
  exact q
theorem name_lit (s : ByteArray) (r : Bool) (h : nmS s = r) (w : World) : Calls Tryz.prog 276 #[.string s] w fun e w' => e = .returned (.bool r) ∧ Below w.heap.size w w' := h ▸ name_any s w
end Go.Proofs.YtcmkmnidnapabaaGreat
