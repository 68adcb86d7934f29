/-
  Contracts: cmp.Or over a short list; wide's Cmp.
-/
import Derived.Test.YtbldmenaaedffaaWc
import Derived.StillTailTactics
namespace Go.Proofs.Ytbldmenaaedffaa
open Go.RowKit

/-- A cell of the newest block. -/
theorem cell_at (w : World) (cs : List Value) (T b k : Nat) (hb : b = w.heap.size) : (w.alloc (.cells cs.toArray T)).cell? ⟨b, k, none⟩ = cs[k]? := by
  subst hb
  have h : (w.alloc (.cells cs.toArray T)).heap[w.heap.size]? = some (.cells cs.toArray T) := by
    show (w.heap.push _)[w.heap.size]? = _
    simp
  simp only [World.cell?, h]
  simp
theorem cell_at_drew (w : World) (cs : List Value) (T b k : Nat) (hb : b = w.heap.size) : (w.alloc (.cells cs.toArray T)).drew.cell? ⟨b, k, none⟩ = cs[k]? := cell_at w cs T b k hb

/-- The first number that is not 0. -/
def firstNZ : List Int → Int
  | [] => 0
  | x :: r => if x = 0 then firstNZ r else x
theorem firstNZ_drop_zero (zs : List Int) (k : Nat) (hk : k < zs.length) (h : zs[k]?.getD 0 = 0) : firstNZ (zs.drop k) = firstNZ (zs.drop (k + 1)) := by
  rw [List.drop_eq_getElem_cons hk, firstNZ, if_pos]
  rw [List.getElem?_eq_getElem hk] at h; exact h
theorem firstNZ_drop_nz (zs : List Int) (k : Nat) (hk : k < zs.length) (h : ¬ zs[k]?.getD 0 = 0) : firstNZ (zs.drop k) = zs[k]?.getD 0 := by
  rw [List.drop_eq_getElem_cons hk, firstNZ]
  rw [List.getElem?_eq_getElem hk] at h ⊢
  exact if_neg h

set_option maxHeartbeats 400000 in
theorem Or_any (b n : Nat) (zs : List Int) (w : World) (hn : zs.length = n) (hb : n ≤ 1000) (hc : ∀ k, k < n → w.cell? ⟨b, k, none⟩ = some (.int .i64 (zs[k]?.getD 0))) :
    Calls Try.prog 44 #[.slice (some ⟨b, 0, none⟩) n n] w fun e w' => e = .returned (.int .i64 (firstNZ zs)) ∧ w = w' := by
  have HN := hidp hn; clear hn
  go_enter Try.func44, Try.ntmps44
  go_wp2
  go_loop [8] (fun i => ∃ k : Nat, k ≤ n ∧ i = .int .i64 k ∧ Hid (firstNZ zs = firstNZ (zs.drop k))) (fun i => n - (intOf i).toNat)
  case atStart => exact ⟨0, Nat.zero_le _, rfl, rfl⟩
  case round =>
    obtain ⟨k, hk, rfl, hr⟩ := hrel
    by_cases hlt : k < n
    · have h1 := hc k hlt
      have Hc := hidp hc; clear hc
      by_cases hz : zs[k]?.getD 0 = 0
      · have HZ := hidp hz
        rw [hz] at h1
        clear hz
        go_wp2
        go_round
        case rel => exact ⟨k + 1, by omega, by go_num, hr.out.trans (firstNZ_drop_zero zs k (by rw [HN.out]; exact hlt) HZ.out)⟩
        case measure => simp [intOf]; omega
      · go_wp2
        go_ret
        exact ⟨ret_int (by rw [hr.out]; exact (firstNZ_drop_nz zs k (by rw [HN.out]; exact hlt) hz).symm), rfl⟩
    · clear hc
      go_wp2
      go_ret
      exact ⟨ret_int (by rw [hr.out, List.drop_eq_nil_of_le (by rw [HN.out]; omega)]; rfl), rfl⟩

theorem Compare_still (a b : Int) (w : World) :
    Calls Try.prog 45 #[.int .u64 a, .int .u64 b] w fun e w' => e = .returned (.int .i64 (cmpI a b)) ∧ w' = w :=
  (Compare_any a b w).mono fun _ _ ⟨h, k⟩ => ⟨h, k.symm⟩

theorem firstNZ_cmp (a b : Nat) : firstNZ [cmpI (hiw a) (hiw b), cmpI (low a) (low b)] = cmpI a b := by
  rw [cmp_lex a b]
  unfold firstNZ firstNZ firstNZ cmpI
  repeat' split
  all_goals omega

set_option maxHeartbeats 400000 in
theorem Cmp_any (a b : Nat) (w : World) :
    Calls Try.prog 20 #[wv a, wv b] w fun e w' => e = .returned (.int .i64 (cmpI a b)) ∧ Below w.heap.size w w' := by
  rw [← firstNZ_cmp]
  go_enter Try.func20, Try.ntmps20
  go_wp2
  refine wp_region_still_tail 10 (by kernel_rfl) (by kernel_rfl) ?_
  simp only [List.take_succ_cons, List.take_zero, List.drop_succ_cons, List.drop_zero]
  change wpStill _ _ (World.drew _) _ _ _
  repeat (first | still_step | still_call (Compare_still _ _ _))
  refine wpStill_nil ?_
  change wpList _ _ _ _ _ (World.drew _)
  go_wp2_with fail
  refine (Or_any _ 2 [cmpI (hiw a) (hiw b), cmpI (low a) (low b)] _ rfl (by omega) ?_).mono ?_
  · intro k hk
    have : k = 0 ∨ k = 1 := by omega
    rw [cell_at_drew _ _ _ _ _ (by simp)]
    rcases this with rfl | rfl <;> rfl
  · rintro e w' ⟨rfl, rfl⟩
    go_wp2
    go_ret
    exact ⟨rfl, by (repeat' (first | (with_reducible exact Below.refl _ _) | (with_reducible refine Below.alloc ?_ ?_ _) | (with_reducible refine Below.drew ?_) | (with_reducible refine Below.drewN ?_ _) | (with_reducible refine Below.setCell ?_ ?_ _) | go_size))⟩
end Go.Proofs.Ytbldmenaaedffaa
