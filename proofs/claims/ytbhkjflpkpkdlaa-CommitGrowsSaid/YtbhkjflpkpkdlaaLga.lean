/-
  CommitGrows, plain: votes taken off one list and laid into others, in whatever order.
-/
import Derived.Test.YtbhkjflpkpkdlaaL7z
import Derived.Test.YtbhkjflpkpkdlaaL7v
namespace Go.Proofs.Ytbhkjflpkpkdlaa

/-- No place twice. -/
def Dif (l : List Vt) : Prop := l.Pairwise (fun u v => u.a ≠ v.a)
theorem SortedT.dif {l : List Vt} (h : SortedT l) : Dif l := List.Pairwise.imp (fun h => by omega) h
theorem Dif.perm {l m : List Vt} (h : Dif l) (hp : l.Perm m) : Dif m := (hp.pairwise_iff (fun h => Ne.symm h)).1 h
theorem insV_cons (u : Vt) (l : List Vt) (v : Vt) : insV (u :: l) v = if u.a < v.a then u :: insV l v else v :: u :: l := by
  unfold insV
  by_cases h : u.a < v.a
  · rw [if_pos h, List.takeWhile_cons, List.dropWhile_cons, decide_eq_true h]
    rfl
  · rw [if_neg h, List.takeWhile_cons, List.dropWhile_cons, decide_eq_false h]
    rfl
theorem insV_nil (v : Vt) : insV [] v = [v] := rfl
theorem insV_perm (l : List Vt) (v : Vt) : (insV l v).Perm (v :: l) := by
  unfold insV
  refine List.perm_middle.trans ?_
  rw [List.takeWhile_append_dropWhile]
theorem insV_srt : ∀ {l : List Vt} {v : Vt}, SortedT l → (∀ u ∈ l, u.a ≠ v.a) → SortedT (insV l v)
  | [], v, _, _ => by rw [insV_nil]; exact List.pairwise_singleton _ _
  | u :: l, v, hs, h => by
    obtain ⟨h1, h2⟩ := List.pairwise_cons.1 hs
    rw [insV_cons]
    have hu := h u (by simp)
    by_cases hlt : u.a < v.a
    · rw [if_pos hlt]
      refine List.pairwise_cons.2 ⟨fun x hx => ?_, insV_srt h2 (fun x hx => h x (by simp [hx]))⟩
      rcases insV_mem hx with rfl | hx
      · exact hlt
      · exact h1 x hx
    · rw [if_neg hlt]
      refine List.pairwise_cons.2 ⟨fun x hx => ?_, hs⟩
      rcases List.mem_cons.1 hx with rfl | hx
      · omega
      · have := h1 x hx
        omega
theorem SortedT.ext {l m : List Vt} (h1 : SortedT l) (h2 : SortedT m) (hp : l.Perm m) : l = m :=
  List.Perm.eq_of_pairwise (fun a b _ _ (h : a.a < b.a) (k : b.a < a.a) => absurd h (by omega)) h1 h2 hp
theorem chkV_mk : ∀ {l : List Vt} {q : Int}, SortedT l → (∀ u ∈ l, q < u.a ∧ 0 ≤ u.a ∧ u.a ≤ 63) → chkV q l = 0
  | [], _, _, _ => rfl
  | u :: l, q, hs, h => by
    obtain ⟨h1, h2⟩ := List.pairwise_cons.1 hs
    obtain ⟨k1, k2, k3⟩ := h u (by simp)
    have e : nextV q u = 0 := by
      unfold nextV
      rw [if_neg (by omega), if_neg (by omega)]
    simp only [chkV]
    rw [if_pos e]
    exact chkV_mk h2 (fun x hx => ⟨h1 x hx, (h x (by simp [hx])).2⟩)
theorem ofT_self {l : List Vt} {v : Vt} (hd : Dif l) (hv : v ∈ l) : ofT l v.a = some v := by
  cases h : ofT l v.a with
  | none => exact absurd rfl (ofT_none h v hv)
  | some u =>
    obtain ⟨h1, h2⟩ := ofT_mem h
    congr 1
    obtain ⟨i, hi, ei⟩ := List.getElem_of_mem hv
    obtain ⟨j, hj, ej⟩ := List.getElem_of_mem h1
    subst ei ej
    rcases Nat.lt_trichotomy i j with hlt | rfl | hlt
    · exact absurd h2.symm (List.pairwise_iff_getElem.1 hd i j hi hj hlt)
    · rfl
    · exact absurd h2 (List.pairwise_iff_getElem.1 hd j i hj hi hlt)
theorem ofT_new {l : List Vt} {n : Int} (h : ∀ u ∈ l, u.a ≠ n) : ofT l n = none := by
  unfold ofT
  rw [List.find?_eq_none]
  intro x hx
  simpa using h x hx
theorem hasT_new {l : List Vt} {n : Int} (h : ∀ u ∈ l, u.a ≠ n) : hasT l n = false := by
  unfold hasT
  rw [List.any_eq_false]
  intro x hx
  simpa using h x hx
/-- Two lists apart, united: sorted, with just these. -/
theorem uni_perm : ∀ (x acc : List Vt), Dif (acc ++ x) → SortedT acc → ∃ r, uniV acc x = some r ∧ SortedT r ∧ r.Perm (acc ++ x)
  | [], acc, _, hs => ⟨acc, rfl, hs, by rw [List.append_nil]⟩
  | v :: x, acc, hd, hs => by
    have hne : ∀ u ∈ acc, u.a ≠ v.a := fun u hu => (List.pairwise_append.1 hd).2.2 u hu v (by simp)
    have hp : (insV acc v ++ x).Perm (acc ++ v :: x) := ((insV_perm acc v).append_right x).trans (List.perm_middle.symm)
    obtain ⟨r, h1, h2, h3⟩ := uni_perm x (insV acc v) (hd.perm hp.symm) (insV_srt hs hne)
    refine ⟨r, ?_, h2, h3.trans hp⟩
    simp only [uniV, stepU, ofT_new hne, Option.bind_some]
    exact h1
theorem uni_sub {L : List Vt} : ∀ (x : List Vt), (∀ u ∈ x, ofT L u.a = some u) → uniV L x = some L
  | [], _ => rfl
  | v :: x, h => by
    simp only [uniV, stepU, h v (by simp), if_true, Option.bind_some]
    exact uni_sub x (fun u hu => h u (by simp [hu]))
/-- What is kept from round to round. -/
structure Gw (L left all a b : List Vt) : Prop where
  perm : (left ++ all).Perm L
  part : (a ++ b).Perm all
  sall : SortedT all
  sa : SortedT a
  sb : SortedT b
theorem Gw.start (L : List Vt) : Gw L L [] [] [] := ⟨by rw [List.append_nil], by simp, List.Pairwise.nil, List.Pairwise.nil, List.Pairwise.nil⟩
theorem Gw.dif {L left all a b : List Vt} (H : Gw L left all a b) (hL : SortedT L) : Dif (left ++ all) := hL.dif.perm H.perm.symm
theorem Gw.fresh {L left all a b : List Vt} (H : Gw L left all a b) (hL : SortedT L) {v : Vt} (hv : v ∈ left) : ∀ u ∈ all, u.a ≠ v.a :=
  fun u hu => Ne.symm ((List.pairwise_append.1 (H.dif hL)).2.2 v hv u hu)
theorem Gw.ina {L left all a b : List Vt} (H : Gw L left all a b) {u : Vt} (hu : u ∈ a) : u ∈ all := H.part.subset (by simp [hu])
theorem Gw.inb {L left all a b : List Vt} (H : Gw L left all a b) {u : Vt} (hu : u ∈ b) : u ∈ all := H.part.subset (by simp [hu])
theorem Gw.inL {L left all a b : List Vt} (H : Gw L left all a b) {u : Vt} (hu : u ∈ all) : u ∈ L := H.perm.subset (by simp [hu])
theorem Gw.left {L left all a b : List Vt} (H : Gw L left all a b) {u : Vt} (hu : u ∈ left) : u ∈ L := H.perm.subset (by simp [hu])
theorem Gw.len {L left all a b : List Vt} (H : Gw L left all a b) : left.length + all.length = L.length ∧ a.length + b.length = all.length := by
  have h1 := H.perm.length_eq
  have h2 := H.part.length_eq
  simp only [List.length_append] at h1 h2
  exact ⟨h1, h2⟩
/-- A list without one of it. -/
def outT (l : List Vt) (i : Nat) : List Vt := l.take i ++ l.drop (i + 1)
theorem outT_perm {l : List Vt} {i : Nat} {v : Vt} (h : l[i]? = some v) : l.Perm (v :: outT l i) := by
  obtain ⟨hlt, rfl⟩ := List.getElem?_eq_some_iff.1 h
  conv => lhs; rw [← List.take_append_drop i l, List.drop_eq_getElem_cons hlt]
  exact List.perm_middle
theorem outT_len {l : List Vt} {i : Nat} (h : i < l.length) : (outT l i).length + 1 = l.length := by
  unfold outT
  rw [List.length_append, List.length_take, List.length_drop]
  omega
theorem Gw.nextA {L left all a b : List Vt} (H : Gw L left all a b) (hL : SortedT L) {i : Nat} {v : Vt} (hv : left[i]? = some v) : Gw L (outT left i) (insV all v) (insV a v) b := by
  have hf := H.fresh hL (List.mem_of_getElem? hv)
  refine ⟨?_, ?_, insV_srt H.sall hf, insV_srt H.sa (fun u hu => hf u (H.ina hu)), H.sb⟩
  · refine List.Perm.trans ?_ H.perm
    refine ((insV_perm all v).append_left (outT left i)).trans ?_
    refine List.perm_middle.trans ?_
    exact ((outT_perm hv).symm.append_right all)
  · refine ((insV_perm a v).append_right b).trans ?_
    exact (H.part.cons v).trans (insV_perm all v).symm
theorem Gw.nextB {L left all a b : List Vt} (H : Gw L left all a b) (hL : SortedT L) {i : Nat} {v : Vt} (hv : left[i]? = some v) : Gw L (outT left i) (insV all v) a (insV b v) := by
  have hf := H.fresh hL (List.mem_of_getElem? hv)
  refine ⟨?_, ?_, insV_srt H.sall hf, H.sa, insV_srt H.sb (fun u hu => hf u (H.inb hu))⟩
  · refine List.Perm.trans ?_ H.perm
    refine ((insV_perm all v).append_left (outT left i)).trans ?_
    refine List.perm_middle.trans ?_
    exact ((outT_perm hv).symm.append_right all)
  · refine ((insV_perm b v).append_left a).trans ?_
    exact List.perm_middle.trans ((H.part.cons v).trans (insV_perm all v).symm)
theorem chkC_mk {h : Int} {l : List Vt} (h1 : 1 ≤ h ∧ h ≤ 1073741824) (h2 : l.length ≤ 64) (h3 : SortedT l) (h4 : ∀ u ∈ l, 0 ≤ u.a ∧ u.a ≤ 63) : chkC h l = 0 := by
  unfold chkC
  rw [if_neg (by omega), if_neg (by omega)]
  exact chkV_mk h3 (fun u hu => ⟨by have := h4 u hu; omega, h4 u hu⟩)
theorem addO_in {h : Int} {p : List Nat} {l : List Vt} {v : Vt} (hc : chkC h l = 0) (hv : 0 ≤ v.a ∧ v.a ≤ 63) (hf : ∀ u ∈ l, u.a ≠ v.a) : addO h p l v = ⟨h, p, insV l v, 0⟩ := by
  have e : isP v.a = true := by unfold isP; rw [Bool.and_eq_true, decide_eq_true_eq, decide_eq_true_eq]; omega
  unfold addO
  rw [if_neg (by omega), if_neg (by rw [e]; simp), if_neg (by rw [hasT_new hf]; simp)]
theorem ofR_in {l : List Vt} {v : Vt} (hs : SortedT l) (hf : ∀ u ∈ l, u.a ≠ v.a) : ofR (insV l v) v.a = (v.s, true) := by
  unfold ofR
  rw [ofT_self (insV_srt hs hf).dif ((insV_perm l v).symm.subset (by simp))]
theorem joinO_in {h : Int} {p : List Nat} {x y r : List Vt} (hx : chkC h x = 0) (hy : chkC h y = 0) (hu : uniV [] (x ++ y) = some r) : joinO h p x h p y = ⟨h, p, r, 0⟩ := by
  have e : uniO x y = (r, 0) := by unfold uniO; rw [hu]
  unfold joinO
  rw [if_neg (by omega), if_neg (by omega), if_neg (by simp), e, if_neg (by simp)]
theorem sameR_ok (h : Int) (p : List Nat) (l : List Vt) : sameR ⟨h, p, l, 0⟩ h p l 0 = true := by
  unfold sameR
  rw [sameC_self]
  rfl
/-- At the end: each of the four joins. -/
theorem Gw.done {L all a b : List Vt} {h : Int} {p : List Nat} (H : Gw L [] all a b) (hc : chkC h L = 0) :
    all = L ∧ sameR (joinO h p a h p b) h p L 0 = true ∧ sameR (joinO h p b h p a) h p L 0 = true ∧ sameR (joinO h p L h p a) h p L 0 = true ∧ sameR (joinO h p a h p a) h p a 0 = true := by
  obtain ⟨c1, c2, c3⟩ := chkC_ok hc
  obtain ⟨s1, _, s3⟩ := chkV_ok c3
  have hL := SortedT.ext H.sall s1 (by simpa using H.perm)
  have hl := H.len
  have ca : chkC h a = 0 := chkC_mk c1 (by omega) H.sa (fun u hu => s3 u (H.inL (H.ina hu)))
  have cb : chkC h b = 0 := chkC_mk c1 (by omega) H.sb (fun u hu => s3 u (H.inL (H.inb hu)))
  have dab : Dif (a ++ b) := s1.dif.perm (by rw [← hL]; exact H.part.symm)
  have pba : (b ++ a).Perm L := (List.perm_append_comm).trans (by rw [← hL]; exact H.part)
  have u1 : uniV [] (a ++ b) = some L := by
    obtain ⟨r, h1, h2, h3⟩ := uni_perm (a ++ b) [] (by simpa using dab) List.Pairwise.nil
    rw [h1, SortedT.ext h2 s1 (h3.trans (by rw [← hL]; simpa using H.part))]
  have u2 : uniV [] (b ++ a) = some L := by
    obtain ⟨r, h1, h2, h3⟩ := uni_perm (b ++ a) [] (by simpa using s1.dif.perm pba.symm) List.Pairwise.nil
    rw [h1, SortedT.ext h2 s1 (h3.trans (by simpa using pba))]
  have u3 : uniV [] (L ++ a) = some L := by
    rw [uniV_append, uni_self L [] (by simpa using s1)]
    simp only [List.nil_append, Option.bind_some]
    exact uni_sub a (fun u hu => ofT_self s1.dif (H.inL (H.ina hu)))
  have u4 : uniV [] (a ++ a) = some a := by
    rw [uniV_append, uni_self a [] (by simpa using H.sa)]
    simp only [List.nil_append, Option.bind_some]
    exact uni_sub a (fun u hu => ofT_self H.sa.dif hu)
  exact ⟨hL, by rw [joinO_in ca cb u1]; exact sameR_ok _ _ _, by rw [joinO_in cb ca u2]; exact sameR_ok _ _ _, by rw [joinO_in hc ca u3]; exact sameR_ok _ _ _, by rw [joinO_in ca ca u4]; exact sameR_ok _ _ _⟩
end Go.Proofs.Ytbhkjflpkpkdlaa
