/-
  Contracts: a cursor's number, length; Text, Word, Bool's way of reading.
-/
import Derived.Test.YtlfmmmlheloloaaJc
namespace Go.Proofs.Ytlfmmmlheloloaa
open Go.RowKit Go.Lib Go.Maps

/-- What is read: a value and how many bytes it has, or an error. -/
inductive PR (α : Type) where
  | ok (v : α) (n : Nat)
  | er (x : Nat)
instance badN.dec (L : List Nat) : Decidable (badN L) := inferInstanceAs (Decidable (_ ∨ _))
def pNum : List Nat → PR Nat
  | [] => .er 6
  | k :: R => if 8 < k then .er 5 else if R.length < k then .er 6 else if badN (R.take k) then .er 5 else .ok (valL (R.take k)) (k + 1)
theorem pNum_cons (k : Nat) (R : List Nat) : pNum (k :: R) = if 8 < k then .er 5 else if R.length < k then .er 6 else if badN (R.take k) then .er 5 else .ok (valL (R.take k)) (k + 1) := rfl
/-- A cursor, wherever its bytes lie. -/
def CuX (w : World) (c t b : Nat) (R : List Nat) (c0 : Nat) : Prop := ∃ p o cap, cap ≤ c0 ∧ Cu w c t p b o cap R
theorem Bex.bex {g : Nat} {w w1 w2 : World} (h : Bex g w w1) (k : Bex g w1 w2) : Bex g w w2 := h.trans k

theorem number_ok (c t : Nat) (p : Option Addr) (b o cap : Nat) (R : List Nat) (v n : Nat) (w : World) (H : Cu w c t p b o cap R) (hp : pNum R = .ok v n) :
    Calls Try.prog 96 #[.pointer (some ⟨c, 0, none⟩)] w fun e w' => e = .returned (.int .i64 (v : Nat)) ∧ CuX w' c (t + n) b (R.drop n) cap ∧ Bex c w w' := by
  match R, hp, H with
  | k :: R', hp, H =>
    rw [pNum_cons] at hp
    by_cases h1 : 8 < k
    · rw [if_pos h1] at hp; cases hp
    rw [if_neg h1] at hp
    by_cases h2 : R'.length < k
    · rw [if_pos h2] at hp; cases hp
    rw [if_neg h2] at hp
    by_cases h3 : badN (R'.take k)
    · rw [if_pos h3] at hp; cases hp
    rw [if_neg h3] at hp
    cases hp
    have HH := hidp H
    have H1 := hidp h1
    have H2 := hidp h2
    have H3 := hidp h3
    clear H h1 h2 h3
    go_enter Try.func96, Try.ntmps96
    go_wp2_with fail
    refine takeLead_ok c t p b o cap (k :: R') 1 w HH.out (by simp) _ (fun w1 a1 a2 a3 => (leadOf_ok p b o cap k w1 a2 (by have := H1.out; omega)).mono ?_)
    rintro e w' ⟨rfl, rfl⟩
    refine .inl ⟨_, rfl, ?_⟩
    have A1 := hidp a1
    have A3 := hidp a3
    clear a1 a2 a3
    go_wp2_with fail
    refine takeNum_ok c (t + 1) _ b _ _ R' k w1 A1.out (by have := H2.out; omega) _ (fun w2 a1 a2 a3 => ?_)
    have hl : (R'.take k).length = k := by rw [List.length_take]; have := H2.out; omega
    have q := numOf_ok _ b _ _ (R'.take k) w2 a2 (by rw [hl]; have := H1.out; omega) H3.out
    rw [hl] at q
    refine q.mono ?_
    rintro e w' ⟨rfl, rfl⟩
    refine .inl ⟨_, rfl, ?_⟩
    have B1 := hidp a1
    have B3 := hidp (A3.out.bex a3)
    clear a1 a2 a3 q hl
    go_wp2
    go_ret
    have hcu : Cu w2 c (t + (k + 1)) _ b _ _ (R'.drop k) := (show t + 1 + k = t + (k + 1) by omega) ▸ B1.out
    exact ⟨rfl, ⟨_, _, _, Nat.le_trans (Nat.sub_le _ _) (Nat.sub_le _ _), hcu⟩, B3.out⟩

theorem number_er (c t : Nat) (p : Option Addr) (b o cap : Nat) (R : List Nat) (x : Nat) (w : World) (H : Cu w c t p b o cap R) (hp : pNum R = .er x) :
    Calls Try.prog 96 #[.pointer (some ⟨c, 0, none⟩)] w fun e w' => e = .panicked (brk x) ∧ Bex c w w' := by
  match R, hp, H with
  | [], hp, H =>
    cases hp
    have HH := hidp H
    clear H
    go_enter Try.func96, Try.ntmps96
    go_wp2_with fail
    refine (takeLead_short c t p b o cap [] 1 w HH.out (by simp)).mono ?_
    rintro e w' ⟨rfl, hB⟩
    exact ⟨rfl, rfl, Bex.of_below hB⟩
  | k :: R', hp, H =>
    rw [pNum_cons] at hp
    have HH := hidp H
    by_cases h1 : 8 < k
    · rw [if_pos h1] at hp; cases hp
      have H1 := hidp h1
      clear H h1
      go_enter Try.func96, Try.ntmps96
      go_wp2_with fail
      refine takeLead_ok c t p b o cap (k :: R') 1 w HH.out (by simp) _ (fun w1 a1 a2 a3 => (leadOf_bad p b o cap k w1 a2 H1.out).mono ?_)
      rintro e w' ⟨rfl, rfl⟩
      exact .inr ⟨_, rfl, rfl, rfl, a3⟩
    rw [if_neg h1] at hp
    have H1 := hidp h1
    by_cases h2 : R'.length < k
    · rw [if_pos h2] at hp; cases hp
      have H2 := hidp h2
      clear H h1 h2
      go_enter Try.func96, Try.ntmps96
      go_wp2_with fail
      refine takeLead_ok c t p b o cap (k :: R') 1 w HH.out (by simp) _ (fun w1 a1 a2 a3 => (leadOf_ok p b o cap k w1 a2 (by have := H1.out; omega)).mono ?_)
      rintro e w' ⟨rfl, rfl⟩
      refine .inl ⟨_, rfl, ?_⟩
      have A1 := hidp a1
      have A3 := hidp a3
      clear a1 a2 a3
      go_wp2_with fail
      refine (takeNum_short c (t + 1) _ b _ _ R' k w1 A1.out H2.out).mono ?_
      rintro e w' ⟨rfl, hB⟩
      exact ⟨rfl, rfl, A3.out.bex (Bex.of_below hB)⟩
    rw [if_neg h2] at hp
    have H2 := hidp h2
    by_cases h3 : badN (R'.take k)
    · rw [if_pos h3] at hp; cases hp
      have H3 := hidp h3
      clear H h1 h2 h3
      go_enter Try.func96, Try.ntmps96
      go_wp2_with fail
      refine takeLead_ok c t p b o cap (k :: R') 1 w HH.out (by simp) _ (fun w1 a1 a2 a3 => (leadOf_ok p b o cap k w1 a2 (by have := H1.out; omega)).mono ?_)
      rintro e w' ⟨rfl, rfl⟩
      refine .inl ⟨_, rfl, ?_⟩
      have A1 := hidp a1
      have A3 := hidp a3
      clear a1 a2 a3
      go_wp2_with fail
      refine takeNum_ok c (t + 1) _ b _ _ R' k w1 A1.out (by have := H2.out; omega) _ (fun w2 a1 a2 a3 => ?_)
      have hl : (R'.take k).length = k := by rw [List.length_take]; have := H2.out; omega
      have q := numOf_bad _ b _ _ (R'.take k) w2 a2 (by rw [hl]; have := H1.out; omega) H3.out
      rw [hl] at q
      refine q.mono ?_
      rintro e w' ⟨rfl, rfl⟩
      exact .inr ⟨_, rfl, rfl, rfl, A3.out.bex a3⟩
    · rw [if_neg h3] at hp; cases hp
end Go.Proofs.Ytlfmmmlheloloaa
