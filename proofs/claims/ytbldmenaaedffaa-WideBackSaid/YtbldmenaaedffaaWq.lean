/-
  Contracts: slices.Reverse over bytes (the shelf's, at this program's numbers); Text of package wide.
-/
import Derived.Shelf.SlicesE.Reverse
import Derived.Lib.OwnBridge
import Derived.Lib.SlBytesRow
import Derived.Test.YtbldmenaaedffaaWp
namespace Go.Proofs.Ytbldmenaaedffaa
open Go.RowKit Go.Shelf Go.Lib Go.Sort

def revRen : Go.Shelf.Ren := ⟨fun | 35 => 52 | n => n, fun | 22 => 68 | 23 => 5 | 3 => 3 | 4 => 4 | n => n, fun | n => n⟩
theorem revLays : Go.Proofs.SlLaysE.n35 Try.prog revRen := {
  mixed := by kernel_rfl
  f35 := ⟨Try.f52.name, by kernel_rfl, Try.func52.trans (congrArg some (by kernel_rfl))⟩
  t0 := Try.underlying0
  a0 := Try.isAgg0
  z0 := Try.sizeOf0
  v0 := Try.zeroValue0
  t3 := Try.underlying3
  a3 := Try.isAgg3
  z3 := Try.sizeOf3
  v3 := Try.zeroValue3
  t4 := Try.underlying4
  a4 := Try.isAgg4
  z4 := Try.sizeOf4
  v4 := Try.zeroValue4
  t22 := Try.underlying68
  a22 := Try.isAgg68
  z22 := Try.sizeOf68
  v22 := Try.zeroValue68
  a23 := Try.isAgg5
  z23 := Try.sizeOf5 }
/-- The decimal digits of a number, as a string. -/
def textOf (a : Nat) : ByteArray := ⟨((revDig a).reverse.map UInt8.ofNat).toArray⟩
theorem revDig_byte (a : Nat) : ∀ x ∈ revDig a, x < 256 := by
  induction a using Nat.strongRecOn with
  | _ a ih =>
    have hd : dgt a < 256 := by have := m10_lt a; unfold dgt; omega
    intro x hx
    by_cases h : a < 10
    · rw [revDig_lt h, List.mem_singleton] at hx; omega
    · rw [revDig_ge h, List.mem_cons] at hx
      rcases hx with rfl | hx
      · exact hd
      · exact ih _ (d10_lt h) x hx
theorem revDig_ne (a : Nat) : revDig a ≠ [] := by
  rw [revDig]; split <;> simp
theorem textOf_size (a : Nat) : (textOf a).size = (revDig a).length := by
  simp [textOf, ByteArray.size]
theorem bytes_row {w : World} {base g cap : Nat} {a : Nat} (h : w.ownsRow base 5 1 (.slice (some ⟨g, 0, none⟩) (revDig a).length cap) (revDig a).length ((revDig a).reverse.map encB)) : Bytes w g 0 (textOf a) := by
  obtain ⟨g', cap', he, _, _, _, _, hl, hH⟩ := holds_of_ownsRow (enc := encB) h (by simp)
  injection he with he _ _
  injection he with he
  injection he with he
  subst he
  intro i hi
  rw [textOf_size] at hi
  have hi2 : i < (revDig a).reverse.length := by simpa using hi
  have h1 := (hH i (by simpa using hi)).1
  rw [h1]
  congr 1
  have h3 : (revDig a).reverse.toArray[i]! = (revDig a).reverse[i] := by simp [getElem!_pos, hi]
  rw [h3]
  have h4 : (textOf a)[i]'(by rw [textOf_size]; exact hi) = UInt8.ofNat ((revDig a).reverse[i]) := by
    show (((revDig a).reverse.map UInt8.ofNat).toArray)[i]'(by simpa using hi) = _
    simp
  rw [h4]
  have h5 := revDig_byte a _ (List.mem_reverse.1 (List.getElem_mem hi2))
  rw [UInt8.toNat_ofNat_of_lt' h5]

set_option maxHeartbeats 400000 in
theorem Text_any (a : Nat) (w : World) (ha : a < W128) :
    Calls Try.prog 29 #[wv a] w fun e w' => e = .returned (.string (textOf a)) ∧ Below w.heap.size w w' := by
  have HA := hidp ha; clear ha
  go_enter Try.func29, Try.ntmps29
  go_wp2_with fail
  refine (digits_any a _).mono ?_
  rintro e w1 ⟨rfl, hw1⟩
  subst hw1
  go_wp2_with fail
  refine (digits_collected a (w.heap.size + 1) _ HA.out (Blk.new' _ [.int .u64 (hiw a), .int .u64 (low a)] _ _ (by simp))).mono ?_
  rintro e w2 ⟨v, rfl, h2⟩
  have hvn : v ≠ .slice none 0 0 := by
    intro e
    have h := h2.out.1.2
    rcases h with ⟨_, h⟩ | ⟨_, _, _, h, _⟩
    · exact revDig_ne a (List.eq_nil_of_length_eq_zero h)
    · rw [e] at h; cases h
  obtain ⟨g, cap, rfl, hg, hgs, hcap, hcm, hl, hH⟩ := holds_of_ownsRow (enc := encB) h2.out.1 hvn
  have HH := hidp hH
  clear hH
  go_wp2_with fail
  refine (AnyE.slices_Reverse revLays encB (fun _ => rfl) g 0 cap (revDig a) _ HH.out (by have := revDig_39 HA.out; omega)).mono ?_
  rintro e w3 ⟨rfl, q, hw3⟩
  have hr := ownsRow_putRow (q := q) (k := (revDig a).length) (ys := (revDig a).reverse) h2.out.1 (by simp) (Nat.le_refl _)
  rw [← hw3, List.take_of_length_le (by simp)] at hr
  have hB3 := below_putRow (enc := encB) (q := q) (d := (revDig a).reverse.toArray) (Below.refl (w.heap.size + 1) w2) (show w.heap.size + 1 ≤ g by simp at hg; omega)
  rw [← hw3] at hB3
  have hcv := run_convert_whole (P := Try.prog) w3 68 5 9 Try.underlying68 Try.underlying5 Try.underlying9 g 0 (textOf a) (bytes_row hr) cap
  rw [textOf_size] at hcv
  have HB3 := hidp hB3
  clear hw3 hr hB3
  go_wp2
  go_ret
  refine ⟨rfl, ?_⟩
  have h3 := h2.out.2
  (repeat' (first | (with_reducible exact Below.refl _ _) | (with_reducible refine Below.alloc ?_ ?_ _) | (with_reducible refine Below.drew ?_) | (with_reducible refine Below.drewN ?_ _) | (with_reducible refine Below.setCell ?_ ?_ _) | (with_reducible refine Below.trans ?_ (Below.mono (h3) ?_)) | (with_reducible refine Below.trans ?_ (Below.mono (HB3.out) ?_)) | go_size | (have i0_ := (h3).size; (try simp at i0_); (try simp); omega) | (have i0_ := (h3).size; (try simp at i0_); have i1_ := (HB3.out).size; (try simp at i1_); (try simp); omega)))
end Go.Proofs.Ytbldmenaaedffaa
