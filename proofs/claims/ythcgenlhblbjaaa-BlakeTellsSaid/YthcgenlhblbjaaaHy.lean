/-
  Contracts: the answer's digit, Compare, Read, Text.
-/
import Derived.Test.YthcgenlhblbjaaaHv
import Derived.Test.YthcgenlhblbjaaaHs
import Derived.Deep.QuietTactic
namespace Go.Proofs.Ythcgenlhblbjaaa
open Go.RowKit Go.Lib

theorem digit_any (c : Nat) (w : World) (hc : c < 256) :
    Calls Try.prog 34 #[.int .u8 (c : Nat)] w fun e w' => e = .returned (.int .u8 (hexV c : Nat)) ∧ w' = w := by
  by_cases h1 : 48 ≤ c ∧ c ≤ 57
  · have e : hexV c = c - 48 := by unfold hexV; rw [if_pos h1]
    rw [e, show ((c - 48 : Nat) : Int) = (c : Int) - 48 by omega]
    have a1 : (48 : Int) ≤ c := by omega
    have a2 : (c : Int) ≤ 57 := by omega
    clear e h1
    go_enter Try.func34, Try.ntmps34
    go_wp2
    go_ret
    exact ⟨rfl, rfl⟩
  · by_cases h2 : 97 ≤ c ∧ c ≤ 102
    · have e : hexV c = c - 87 := by unfold hexV; rw [if_neg h1, if_pos h2]
      rw [e, show ((c - 87 : Nat) : Int) = (c : Int) - 97 + 10 by omega]
      have a1 : (97 : Int) ≤ c := by omega
      have a2 : (c : Int) ≤ 102 := by omega
      clear e h1 h2
      go_enter Try.func34, Try.ntmps34
      go_wp2
      go_ret
      exact ⟨rfl, rfl⟩
    · have e : hexV c = 16 := by unfold hexV; rw [if_neg h1, if_neg h2]
      rw [e]
      clear e
      rcases (show c < 48 ∨ (57 < c ∧ c < 97) ∨ 102 < c by omega) with h | ⟨h, h'⟩ | h
      all_goals clear h1 h2
      all_goals go_enter Try.func34, Try.ntmps34
      all_goals go_wp2
      all_goals go_ret
      all_goals exact ⟨rfl, rfl⟩

theorem cmp_at : ∀ (a b : List Nat) (i : Nat), i < a.length → i < b.length → a.take i = b.take i → cmpL a b = if a.getD i 0 < b.getD i 0 then -1 else if b.getD i 0 < a.getD i 0 then 1 else cmpL (a.drop (i + 1)) (b.drop (i + 1))
  | [], _, i, h, _, _ => absurd h (by simp)
  | _ :: _, [], i, _, h, _ => absurd h (by simp)
  | x :: a, y :: b, 0, _, _, _ => rfl
  | x :: a, y :: b, i + 1, h1, h2, h3 => by
    simp only [List.take_succ_cons, List.cons.injEq] at h3
    have ih := cmp_at a b i (by simpa using h1) (by simpa using h2) h3.2
    rw [cmpL_cons, if_neg (by omega), if_neg (by omega), ih]
    rfl

set_option maxHeartbeats 2000000 in
theorem refCompare_any (a b : List Nat) (w : World) (ha : Bytes 32 a) (hb : Bytes 32 b) :
    Calls Try.prog 19 #[.agg (bvs a).toArray, .agg (bvs b).toArray] w fun e w' => e = .returned (.int .i64 (cmpL a b)) ∧ Below w.heap.size w w' := by
  have HA := hidp ha
  have HB := hidp hb
  have h0 : Hid (Blk ((w.alloc (.cells (bvs a).toArray 26)).alloc (.cells (bvs b).toArray 26)) w.heap.size (bvs a) 26 ∧ Blk ((w.alloc (.cells (bvs a).toArray 26)).alloc (.cells (bvs b).toArray 26)) (w.heap.size + 1) (bvs b) 26 ∧ Below w.heap.size w ((w.alloc (.cells (bvs a).toArray 26)).alloc (.cells (bvs b).toArray 26))) :=
    hidp ⟨(Blk.new w _ _).alloc _, Blk.new' _ _ _ _ (by simp), ((Below.refl _ w).alloc (Nat.le_refl _) _).alloc (by simp) _⟩
  clear ha hb
  go_enter Try.func19, Try.ntmps19
  go_wp2
  go_loopw [5] (fun x wr => ∃ i : Nat, i ≤ 32 ∧ x = .int .i64 i ∧ Hid (a.take i = b.take i ∧ Blk wr w.heap.size (bvs a) 26 ∧ Blk wr (w.heap.size + 1) (bvs b) 26 ∧ Below w.heap.size w wr)) (fun x _ => 32 - (RowKit.intOf x).toNat)
  case atStart => exact ⟨0, by omega, rfl, rfl, h0.out.1, h0.out.2.1, h0.out.2.2⟩
  case round =>
    obtain ⟨i, hi, rfl, hr⟩ := hrel
    clear h0
    by_cases h : i < 32
    · have ca := (hr.out.2.1.cell i).trans (bvs_get (by rw [HA.out.1]; exact h))
      have cb := (hr.out.2.2.1.cell i).trans (bvs_get (by rw [HB.out.1]; exact h))
      have hcmp := cmp_at a b i (by rw [HA.out.1]; exact h) (by rw [HB.out.1]; exact h) hr.out.1
      have hnext : a.getD i 0 = b.getD i 0 → a.take (i + 1) = b.take (i + 1) := by
        intro e
        have h1 : i < a.length := by rw [HA.out.1]; exact h
        have h2 : i < b.length := by rw [HB.out.1]; exact h
        rw [List.take_add_one, List.take_add_one, hr.out.1, List.getElem?_eq_getElem h1, List.getElem?_eq_getElem h2]
        rw [List.getD_eq_getElem?_getD, List.getD_eq_getElem?_getD, List.getElem?_eq_getElem h1, List.getElem?_eq_getElem h2] at e
        have e2 : a[i] = b[i] := e
        rw [e2]
      generalize a.getD i 0 = x at ca hcmp hnext
      generalize b.getD i 0 = y at cb hcmp hnext
      have hlt : (i : Int) < 32 := by omega
      have HC := hidp hcmp
      have HNX := hidp hnext
      have HI := hidp h
      clear hcmp hnext h
      rcases (show x < y ∨ y < x ∨ x = y by omega) with hxy | hxy | hxy
      · have t1 : decide ((x : Int) < (y : Int)) = true := decide_eq_true (by omega)
        go_wp2
        go_quiet (fail)
        go_wp2
        go_ret
        exact ⟨ret_int (by rw [HC.out, if_pos hxy]), hr.out.2.2.2.drewN _⟩
      · have t1 : decide ((x : Int) < (y : Int)) = false := decide_eq_false (by omega)
        have t2 : decide ((y : Int) < (x : Int)) = true := decide_eq_true (by omega)
        go_wp2
        go_quiet (fail)
        go_wp2
        go_quiet (fail)
        go_wp2
        go_ret
        exact ⟨ret_int (by rw [HC.out, if_neg (by omega), if_pos hxy]), by first | exact (hr.out.2.2.2.drewN _).drewN _ | exact hr.out.2.2.2.drewN _⟩
      · have HN2 := hidp (HNX.out hxy)
        clear HNX
        subst hxy
        go_wp2
        go_quiet (fail)
        go_wp2
        go_quiet (fail)
        go_wp2
        exact ⟨⟨i + 1, by have := HI.out; omega, by go_num, hidp ⟨HN2.out, hr.out.2.1.drewN _, hr.out.2.2.1.drewN _, hr.out.2.2.2.drewN _⟩⟩, by have := HI.out; simp [RowKit.intOf]; omega⟩
    · obtain rfl : i = 32 := by omega
      have he : a = b := by
        have := hr.out.1
        rwa [List.take_of_length_le (by rw [HA.out.1]; exact Nat.le_refl _), List.take_of_length_le (by rw [HB.out.1]; exact Nat.le_refl _)] at this
      have hz := hidp ((cmp_zero a b).2 he)
      clear he
      go_wp2
      go_ret
      exact ⟨ret_int hz.out.symm, hr.out.2.2.2⟩
end Go.Proofs.Ythcgenlhblbjaaa
