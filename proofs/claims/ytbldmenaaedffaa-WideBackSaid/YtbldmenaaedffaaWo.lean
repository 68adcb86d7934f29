/-
  Contracts: the digits of a wide, from the last one on.
-/
import Derived.Test.YtbldmenaaedffaaWn
import Derived.Test.YtbldmenaaedffaaRng
import Derived.OwnWalkIn
import Derived.TacticsInMore
import Derived.LoopNIn
import Derived.LoopIn
import Derived.Shelf.RegionOpen
namespace Go.Proofs.Ytbldmenaaedffaa
open Go.RowKit Go.Shelf
attribute [local go_sem] Oper.semAt_some

/-- The digits of a number, the last one first, as bytes. -/
def dgt (a : Nat) : Nat := 48 + m10 a
def revDig (a : Nat) : List Nat := if a < 10 then [dgt a] else dgt a :: revDig (d10 a)
termination_by a
decreasing_by simp [d10]; omega
theorem revDig_lt {a : Nat} (h : a < 10) : revDig a = [dgt a] := by
  rw [revDig, if_pos h]
theorem revDig_ge {a : Nat} (h : ¬ a < 10) : revDig a = dgt a :: revDig (d10 a) := by
  rw [revDig, if_neg h]
theorem d10_zero {a : Nat} : d10 a = 0 ↔ a < 10 := by unfold d10; omega
/-- What a block of two words holds. -/
def boxN (w : World) (b : Nat) : Nat := match w.cell? ⟨b, 0, none⟩, w.cell? ⟨b, 1, none⟩ with
  | some (.int _ h), some (.int _ l) => h.toNat * B64 + l.toNat
  | _, _ => 0
theorem boxN_blk {w : World} {b r : Nat} {T : TypeId} (h : Blk w b [.int .u64 (hiw r), .int .u64 (low r)] T) : boxN w b = r := by
  unfold boxN
  rw [h.cell 0, h.cell 1]
  show ((hiw r : Nat) : Int).toNat * B64 + ((low r : Nat) : Int).toNat = r
  rw [Int.toNat_natCast, Int.toNat_natCast]; exact hilow r

theorem revDig_len (k : Nat) : ∀ a, a < 10 ^ (k + 1) → (revDig a).length ≤ k + 1 := by
  induction k with
  | zero => intro a h; rw [revDig_lt (by simpa using h)]; simp
  | succ k ih =>
    intro a h
    by_cases h1 : a < 10
    · rw [revDig_lt h1]; simp
    · rw [revDig_ge h1, List.length_cons]
      have h2 : d10 a < 10 ^ (k + 1) := by
        unfold d10
        rw [Nat.div_lt_iff_lt_mul (by omega), ← Nat.pow_succ]; exact h
      have := ih _ h2
      omega
theorem revDig_39 {a : Nat} (h : a < W128) : (revDig a).length ≤ 39 := revDig_len 38 a (Nat.lt_of_lt_of_le h (by decide))
theorem d10_lt {a : Nat} (h : ¬ a < 10) : d10 a < a := by unfold d10; omega
theorem d10_le (a : Nat) : d10 a ≤ a := by unfold d10; omega
theorem u8_48 (r : Nat) : ((48 : Int) + ((m10 r : Nat) : Int)) % 256 = ((dgt r : Nat) : Int) := by
  have := m10_lt r
  unfold dgt; omega
theorem wide_zero {x : Nat} : (hiw x = 0 ∧ low x = 0) ↔ x = 0 := by
  constructor
  · intro h; have := hilow x; rw [h.1, h.2] at this; omega
  · intro h; subst h; decide

set_option maxHeartbeats 1000000 in
set_option maxRecDepth 100000 in
theorem digits1_iter (b a : Nat) (w : World) (ha : a < W128) (hb : Blk w b [.int .u64 (hiw a), .int .u64 (low a)] 24) :
    Iter Try.prog 59 #[.pointer (some ⟨b, 0, none⟩)] (fun x : Nat => #[.int .u8 x]) (fun c => c = b) (fun W W' => W'.heap[b]? = W.heap[b]?) (fun xs => xs = revDig a) 64 w := by
  intro n l J W hW hF hY h0
  have hbW := hb.below hW hb.lt
  have HA := hidp ha; have HBW := hidp hbW; clear ha hb hbW
  refine callsIn_of_wp Try.func59 rfl trivial ?_ rfl
  simp only [Try.ntmps59, List.size_toArray, List.length_cons, List.length_nil, Nat.reduceAdd, Nat.reduceSub, Array.replicate_succ, Array.replicate_zero, List.push_toArray, List.append_toArray, List.nil_append, List.cons_append]
  gi_wp2
  gi_loopw [3] (fun _ wr => ∃ (r : Nat) (pre : List Nat), Hid (r ≤ a ∧ pre ++ revDig r = revDig a ∧ pre.length + (revDig r).length ≤ 64 ∧ J pre wr ∧ Blk wr b [.int .u64 (hiw r), .int .u64 (low r)] 24)) (fun _ wr => boxN wr b)
  case atStart => exact ⟨a, [], Nat.le_refl _, rfl, by have := revDig_39 HA.out; simp; omega, h0, HBW.out⟩
  case round =>
    obtain ⟨r, pre, hr⟩ := hrel
    have hrW : r < W128 := Nat.lt_of_le_of_lt hr.out.1 HA.out
    have hbr := hr.out.2.2.2.2
    have c0 := hbr.cell 0
    have c1 := hbr.cell 1
    simp only [List.getElem?_cons_zero, List.getElem?_cons_succ] at c0 c1
    have HRW := hidp hrW; have HBR := hidp hbr; clear hrW hbr
    gi_wp2_with fail
    refine ⟨trivial, fun h => by simp [Fence.wide] at h, ?_⟩
    refine (callsIn_wide.2 (split_any r wr HRW.out)).mono ?_
    rintro e w1 ⟨rfl, hB1⟩
    have hJ1 := hF.more _ _ _ hr.out.2.2.2.1 hB1
    have hJ2 := hF.cell _ _ b 0 (.int .u64 (hiw (d10 r))) rfl hJ1
    have hJ3 := hF.cell _ _ b 1 (.int .u64 (low (d10 r))) rfl hJ2
    have hb1 := HBR.out.below hB1 HBR.out.lt
    have hlen : pre.length < 64 := by
      have h1 := hr.out.2.2.1
      have h2 : 0 < (revDig r).length := by rw [revDig]; split <;> simp
      omega
    obtain ⟨fn, tmps, assign, body, hy, hR⟩ := hY pre (dgt r) _ hJ3 hlen
    have k0 := hb1.cell 0
    have k1 := hb1.cell 1
    have q0 := hb1.free 0
    have q1 := hb1.free 1
    simp only [List.getElem?_cons_zero, List.getElem?_cons_succ] at k0 k1
    have e8 := u8_48 r
    have B1 := hidp hb1; have HJ3 := hidp hJ3
    clear hJ1 hJ2 hJ3 hb1 c0 c1
    gi_wp2
    refine ⟨fun h => by simp [Fence.wide] at h, ?_⟩
    refine hR.mono ?_
    rintro e W2 ⟨rfl, hJ4, hk⟩
    have hb2 : Blk W2 b [.int .u64 (hiw (d10 r)), .int .u64 (low (d10 r))] 24 := hk.trans ((B1.out.set 0 _).set 1 _)
    have k0 := hb2.cell 0
    have k1 := hb2.cell 1
    simp only [List.getElem?_cons_zero, List.getElem?_cons_succ] at k0 k1
    have B2 := hidp hb2; have HJ4 := hidp hJ4; clear hb2 hJ4 hk
    by_cases h10 : r < 10
    · have hz := wide_zero.2 (d10_zero.2 h10)
      have z1 := hz.1
      have z2 := hz.2
      rw [z1] at k0; rw [z2] at k1
      have k0' : W2.cell? ⟨b, 0, none⟩ = some (.int .u64 0) := k0
      have k1' : W2.cell? ⟨b, 1, none⟩ = some (.int .u64 0) := k1
      clear hz z1 z2 k0 k1
      gi_wp2
      go_returns
      exact ⟨⟨_, rfl⟩, pre ++ [dgt r], by rw [← hr.out.2.1, revDig_lt h10], HJ4.out⟩
    · have hlast : (∃ (r : Nat) (pre : List Nat), Hid (r ≤ a ∧ pre ++ revDig r = revDig a ∧ pre.length + (revDig r).length ≤ 64 ∧ J pre W2 ∧ Blk W2 b [.int .u64 (hiw r), .int .u64 (low r)] 24)) ∧ boxN W2 b < boxN wr b := by
        have h1 := hr.out.2.1
        have h2 := hr.out.2.2.1
        rw [revDig_ge h10] at h1 h2
        rw [List.length_cons] at h2
        exact ⟨⟨d10 r, pre ++ [dgt r], Nat.le_trans (d10_le r) hr.out.1, by rw [← h1]; simp, by simp; omega, HJ4.out, B2.out⟩, by rw [boxN_blk B2.out, boxN_blk HBR.out]; exact d10_lt h10⟩
      have HLAST := hidp hlast; clear hlast
      gi_wp2
      all_goals first | exact HLAST.out | exact absurd (d10_zero.1 (wide_zero.1 ⟨‹_›, ‹_›⟩)) h10
end Go.Proofs.Ytbldmenaaedffaa
