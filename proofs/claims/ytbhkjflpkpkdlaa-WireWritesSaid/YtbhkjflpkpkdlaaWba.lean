/-
  WireBack, plain: a thing's bytes, and what reading them does to a reader's plain state.
-/
import Derived.Test.YtbhkjflpkpkdlaaWrb
namespace Go.Proofs.Ytbhkjflpkpkdlaa
open Go.RowKit Go.Lib
set_option linter.unusedVariables false

/-- The bytes of a thing. -/
def formT (t : Tg) : List Nat :=
  if t.kd = 0 then nB t.n.toNat else if t.kd = 1 then nB t.L.length ++ t.L else if t.kd = 2 then nB t.L.length ++ t.L
  else if t.kd = 3 then t.h else if t.kd = 4 then t.k else if t.kd = 5 then wordB t.x else if t.kd = 6 then wordB (formN t.x) else if t.kd = 7 then [bN t.is] else []
/-- What reading it makes of the plain state. -/
def bkN (t : Tg) (s : RS) : RS :=
  if t.kd = 0 then rdN pNum s else if t.kd = 1 then rdN (fun R => pText R (t.L.length : Nat)) s else if t.kd = 2 then rdN (fun R => pText R (t.L.length : Nat)) s
  else if t.kd = 3 then rdN (pRaw 32) s else if t.kd = 4 then rdN (pRaw 4) s else if t.kd = 5 then rdN pWord s else if t.kd = 6 then rdN pPace s else if t.kd = 7 then rdN pBool s else s
/-- A thing that may be written. -/
structure TgF (t : Tg) : Prop where
  h : Bytes 32 t.h
  k : Bytes 4 t.k
  x : t.x < 18446744073709551616
  n : t.kd = 0 → 0 ≤ t.n ∧ t.n < 9223372036854775808
  L : t.L.length ≤ 300
theorem bk_step {α : Type} {pr : List Nat → PR α} {z : α} {A Z : List Nat} {v : α} {t : Nat} (h : pr (A ++ Z) = .ok v A.length) :
    rdV pr z ⟨t, A ++ Z, 0, 0⟩ = v ∧ rdN pr ⟨t, A ++ Z, 0, 0⟩ = ⟨t + A.length, Z, 0, 0⟩ := by
  constructor
  · unfold rdV; simp only [h]; simp
  · unfold rdN
    simp only [h]
    rw [List.drop_left' rfl]
    simp
theorem bText_ok {T : List Nat} (h : T.length < 65536) (Z : List Nat) : pText ((nB T.length ++ T) ++ Z) (T.length : Nat) = .ok T (nB T.length ++ T).length := by
  have hn := pNum_nB (n := T.length) (by omega) (T ++ Z)
  unfold pText pLen
  rw [List.append_assoc, hn]
  simp only
  rw [if_neg (by omega)]
  simp only
  rw [List.drop_left' (nB_len _), if_neg (by rw [List.length_append, List.length_append, nB_len]; omega), List.take_left' rfl, List.length_append, nB_len]
theorem bText_cut {T : List Nat} (h : T.length < 65536) {j : Nat} (hj : j < (nB T.length ++ T).length) : pText ((nB T.length ++ T).take j) (T.length : Nat) = .er 6 := by
  have hl := nB_len T.length
  rw [List.length_append, hl] at hj
  unfold pText pLen
  by_cases h1 : j < dg T.length + 1
  · rw [List.take_append_of_le_length (by omega), pNum_cut h1]
  · have e : (nB T.length ++ T).take j = nB T.length ++ T.take (j - (dg T.length + 1)) := by rw [List.take_append, List.take_of_length_le (by omega), hl]
    rw [e, pNum_nB (by omega)]
    simp only
    rw [if_neg (by omega)]
    simp only
    rw [if_pos (by rw [List.length_append, hl, List.length_take]; omega)]
theorem bRaw_ok {A : List Nat} {m : Nat} (h : A.length = m) (Z : List Nat) : pRaw m (A ++ Z) = .ok A A.length := by
  unfold pRaw
  rw [if_neg (by rw [List.length_append]; omega), List.take_left' h, h]
theorem bRaw_cut {A : List Nat} {m : Nat} (h : A.length = m) {j : Nat} (hj : j < A.length) : pRaw m (A.take j) = .er 6 := by
  unfold pRaw
  rw [if_pos (by rw [List.length_take]; omega)]
theorem bNum_ok {n : Nat} (h : n < 9223372036854775808) (Z : List Nat) : pNum (nB n ++ Z) = .ok n (nB n).length := by rw [pNum_nB h, nB_len]
theorem bNum_cut {n j : Nat} (hj : j < (nB n).length) : pNum ((nB n).take j) = .er 6 := pNum_cut (by rw [nB_len] at hj; exact hj)
theorem wordB_dB8 (n : Nat) : wordB n = dB 8 n := by
  unfold wordB formW
  simp [List.range_succ, dB, Nat.div_div_eq_div_mul]
theorem valW {n : Nat} (h : n < 18446744073709551616) : valL (wordB n) = n := by
  rw [wordB_dB8]
  exact dB_val 8 n (by omega)
theorem bWord_ok {n : Nat} (h : n < 18446744073709551616) (Z : List Nat) : pWord (wordB n ++ Z) = .ok n (wordB n).length := by
  unfold pWord
  rw [if_neg (by rw [List.length_append, wordB_len]; omega), List.take_left' (wordB_len n), valW h, wordB_len]
theorem bWord_cut {n j : Nat} (hj : j < (wordB n).length) : pWord ((wordB n).take j) = .er 6 := by
  rw [wordB_len] at hj
  unfold pWord
  rw [if_pos (by rw [List.length_take]; omega)]
theorem formN_two (x : Nat) : formN (formN x) = formN x := by
  cases h : nanB x
  · rw [formN_no h, formN_no h]
  · rw [formN_yes h]; decide
theorem bPace_ok {n : Nat} (h : n < 18446744073709551616) (Z : List Nat) : pPace (wordB (formN n) ++ Z) = .ok (formN n) (wordB (formN n)).length := by
  unfold pPace
  rw [if_neg (by rw [List.length_append, wordB_len]; omega), List.take_left' (wordB_len _), valW (formN_lt n h), if_pos (formN_two n), wordB_len]
theorem bPace_cut {n j : Nat} (hj : j < (wordB (formN n)).length) : pPace ((wordB (formN n)).take j) = .er 6 := by
  rw [wordB_len] at hj
  unfold pPace
  rw [if_pos (by rw [List.length_take]; omega)]
theorem bBool_ok (v : Bool) (Z : List Nat) : pBool ([bN v] ++ Z) = .ok v [bN v].length := by cases v <;> rfl
theorem bBool_cut {v : Bool} {j : Nat} (hj : j < [bN v].length) : pBool ([bN v].take j) = .er 6 := by
  have : j = 0 := by simp at hj; omega
  subst this; rfl
theorem formT_len {t : Tg} (H : TgF t) : (formT t).length ≤ 310 := by
  have hL := H.L
  have hd := dg_le t.L.length
  have hd2 := dg_le t.n.toNat
  have hh := H.h.1
  have hk := H.k.1
  unfold formT
  (repeat' split) <;> (try simp only [List.length_append, nB_len, wordB_len, List.length_cons, List.length_nil]) <;> omega
/-- A whole thing ahead of the reader. -/
theorem bk_ok {t : Tg} (H : TgF t) (n : Nat) (Z : List Nat) : bkN t ⟨n, formT t ++ Z, 0, 0⟩ = ⟨n + (formT t).length, Z, 0, 0⟩ := by
  have hL := H.L
  unfold bkN formT
  by_cases c0 : t.kd = 0
  · rw [if_pos c0, if_pos c0]; have := H.n c0; exact (bk_step (z := 0) (bNum_ok (by omega) Z)).2
  rw [if_neg c0, if_neg c0]
  by_cases c1 : t.kd = 1
  · rw [if_pos c1, if_pos c1]; exact (bk_step (z := []) (pr := fun R => pText R (t.L.length : Nat)) (bText_ok (by omega) Z)).2
  rw [if_neg c1, if_neg c1]
  by_cases c2 : t.kd = 2
  · rw [if_pos c2, if_pos c2]; exact (bk_step (z := []) (pr := fun R => pText R (t.L.length : Nat)) (bText_ok (by omega) Z)).2
  rw [if_neg c2, if_neg c2]
  by_cases c3 : t.kd = 3
  · rw [if_pos c3, if_pos c3]; exact (bk_step (z := []) (bRaw_ok H.h.1 Z)).2
  rw [if_neg c3, if_neg c3]
  by_cases c4 : t.kd = 4
  · rw [if_pos c4, if_pos c4]; exact (bk_step (z := []) (bRaw_ok H.k.1 Z)).2
  rw [if_neg c4, if_neg c4]
  by_cases c5 : t.kd = 5
  · rw [if_pos c5, if_pos c5]; exact (bk_step (z := 0) (bWord_ok H.x Z)).2
  rw [if_neg c5, if_neg c5]
  by_cases c6 : t.kd = 6
  · rw [if_pos c6, if_pos c6]; exact (bk_step (z := 0) (bPace_ok H.x Z)).2
  rw [if_neg c6, if_neg c6]
  by_cases c7 : t.kd = 7
  · rw [if_pos c7, if_pos c7]; exact (bk_step (z := false) (bBool_ok t.is Z)).2
  rw [if_neg c7, if_neg c7]
  rfl
/-- The reader of bytes cut off at m: it has a fault, or Y is still ahead, cut off. -/
def CutS (n m : Nat) (Y : List Nat) (s : RS) : Prop := (s.e = 6 ∧ s.f ≤ m ∧ s.R = []) ∨ (n ≤ m ∧ s = ⟨n, Y.take (m - n), 0, 0⟩)
theorem cut_any {α : Type} {pr : List Nat → PR α} {A Z : List Nat} {n m : Nat} {v : α} {s : RS} (hok : ∀ Z, pr (A ++ Z) = .ok v A.length) (hcut : ∀ j, j < A.length → pr (A.take j) = .er 6)
    (h : CutS n m (A ++ Z) s) : CutS (n + A.length) m Z (rdN pr s) := by
  rcases h with h | ⟨hn, rfl⟩
  · left
    have e : rdN pr s = s := by unfold rdN; rw [if_pos (by omega)]
    rw [e]; exact h
  · by_cases hm : A.length ≤ m - n
    · right
      refine ⟨by omega, ?_⟩
      have e : (A ++ Z).take (m - n) = A ++ Z.take (m - n - A.length) := by rw [List.take_append, List.take_of_length_le hm]
      rw [e, (bk_step (z := v) (hok _)).2, show m - (n + A.length) = m - n - A.length by omega]
    · left
      have e : (A ++ Z).take (m - n) = A.take (m - n) := by rw [List.take_append_of_le_length (by omega)]
      rw [e]
      unfold rdN
      simp only [hcut (m - n) (by omega)]
      refine ⟨by simp, ?_, by simp⟩
      simpa using hn
theorem bk_cut {t : Tg} (H : TgF t) {n m : Nat} {Z : List Nat} {s : RS} (h : CutS n m (formT t ++ Z) s) : CutS (n + (formT t).length) m Z (bkN t s) := by
  have hL := H.L
  revert h
  unfold bkN formT
  by_cases c0 : t.kd = 0
  · rw [if_pos c0, if_pos c0]; have := H.n c0; exact cut_any (fun Z => bNum_ok (by omega) Z) (fun j hj => bNum_cut hj)
  rw [if_neg c0, if_neg c0]
  by_cases c1 : t.kd = 1
  · rw [if_pos c1, if_pos c1]; exact cut_any (pr := fun R => pText R (t.L.length : Nat)) (fun Z => bText_ok (by omega) Z) (fun j hj => bText_cut (by omega) hj)
  rw [if_neg c1, if_neg c1]
  by_cases c2 : t.kd = 2
  · rw [if_pos c2, if_pos c2]; exact cut_any (pr := fun R => pText R (t.L.length : Nat)) (fun Z => bText_ok (by omega) Z) (fun j hj => bText_cut (by omega) hj)
  rw [if_neg c2, if_neg c2]
  by_cases c3 : t.kd = 3
  · rw [if_pos c3, if_pos c3]; exact cut_any (fun Z => bRaw_ok H.h.1 Z) (fun j hj => bRaw_cut H.h.1 hj)
  rw [if_neg c3, if_neg c3]
  by_cases c4 : t.kd = 4
  · rw [if_pos c4, if_pos c4]; exact cut_any (fun Z => bRaw_ok H.k.1 Z) (fun j hj => bRaw_cut H.k.1 hj)
  rw [if_neg c4, if_neg c4]
  by_cases c5 : t.kd = 5
  · rw [if_pos c5, if_pos c5]; exact cut_any (fun Z => bWord_ok H.x Z) (fun j hj => bWord_cut hj)
  rw [if_neg c5, if_neg c5]
  by_cases c6 : t.kd = 6
  · rw [if_pos c6, if_pos c6]; exact cut_any (fun Z => bPace_ok H.x Z) (fun j hj => bPace_cut hj)
  rw [if_neg c6, if_neg c6]
  by_cases c7 : t.kd = 7
  · rw [if_pos c7, if_pos c7]; exact cut_any (fun Z => bBool_ok t.is Z) (fun j hj => bBool_cut hj)
  rw [if_neg c7, if_neg c7]
  intro h; simpa using h
/-- The bytes of things. -/
def fmT (l : List Tg) : List Nat := l.flatMap formT
theorem fmT_at {l : List Tg} {i : Nat} {t : Tg} (h : l[i]? = some t) : fmT (l.take (i + 1)) = fmT (l.take i) ++ formT t ∧ fmT (l.drop i) = formT t ++ fmT (l.drop (i + 1)) := by
  obtain ⟨hi, rfl⟩ := List.getElem?_eq_some_iff.1 h
  constructor
  · unfold fmT
    rw [List.take_succ_eq_append_getElem hi, List.flatMap_append]
    simp
  · unfold fmT
    rw [List.drop_eq_getElem_cons hi, List.flatMap_cons]
theorem fmT_len {l : List Tg} (H : ∀ t ∈ l, TgF t) : (fmT l).length ≤ 310 * l.length := by
  induction l with
  | nil => simp [fmT]
  | cons t l ih =>
    have h1 := formT_len (H t (by simp))
    have h2 := ih (fun t ht => H t (by simp [ht]))
    unfold fmT at h2 ⊢
    rw [List.flatMap_cons, List.length_append, List.length_cons]
    omega
theorem fmT_byte {l : List Tg} (H : ∀ t ∈ l, TgF t ∧ ∀ x ∈ t.L, x < 256) : ∀ x ∈ fmT l, x < 256 := by
  intro x hx
  unfold fmT at hx
  obtain ⟨t, ht, hx⟩ := List.mem_flatMap.1 hx
  obtain ⟨h1, h2⟩ := H t ht
  revert hx
  unfold formT
  (repeat' split) <;> intro hx
  · exact nB_byte _ x hx
  · rcases List.mem_append.1 hx with h | h
    · exact nB_byte _ x h
    · exact h2 x h
  · rcases List.mem_append.1 hx with h | h
    · exact nB_byte _ x h
    · exact h2 x h
  · exact h1.h.2 x hx
  · exact h1.k.2 x hx
  · exact formW_byte _ _ x hx
  · exact formW_byte _ _ x hx
  · simp only [List.mem_singleton] at hx; subst hx; cases t.is <;> decide
  · cases hx
end Go.Proofs.Ytbhkjflpkpkdlaa
