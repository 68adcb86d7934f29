/-
  Bytes that came in as a slice, and parts of them.
-/
import Derived.Test.YthcgenlhblbjaaaIc
import Derived.Test.YthcgenlhblbjaaaIr
import Derived.DataReads
import Derived.DataElems
namespace Go.Proofs.Ythcgenlhblbjaaa
open Go.RowKit Go.Lib

structure ByS (w : World) (a : Option Addr) (cap : Nat) (L : List Nat) : Prop where
  byte : ∀ x ∈ L, x < 256
  le : L.length ≤ cap
  none : a = none → cap = 0
  cell : ∀ x, a = some x → ∀ i, i < L.length → w.cell? (x.add i) = some (.int .u8 (L.getD i 0 : Nat))
theorem ByS.of_row {w : World} {a : Option Addr} {len cap : Nat} {zs : List Int} (h : IsRow .u8 w a len cap zs) : ∃ L : List Nat, L.length = len ∧ ByS w a cap L := by
  refine ⟨(zs.take len).map Int.toNat, by rw [List.length_map, List.length_take]; have := h.le; omega, ?_⟩
  rcases h with ⟨rfl, rfl, rfl, rfl⟩ | ⟨x, rfl, h2, h3, h4, h5, h6⟩
  · exact ⟨by simp, by simp, fun _ => rfl, fun x hx => by cases hx⟩
  · have hz : ∀ n ∈ zs, 0 ≤ n ∧ n ≤ 255 := fun n hn => by
      have q : IntKind.u8.min ≤ n ∧ n ≤ IntKind.u8.max := by simpa [Lit.wf] using h6 n hn
      exact q
    refine ⟨fun y hy => ?_, by rw [List.length_map, List.length_take]; omega, (fun h => by cases h), fun y hy i hi => ?_⟩
    · obtain ⟨n, hn, rfl⟩ := List.mem_map.1 hy
      have := hz n (List.mem_of_mem_take hn)
      omega
    · cases hy
      rw [List.length_map, List.length_take] at hi
      rw [h5 i (by omega)]
      have e1 : zs.getD i 0 = zs[i]'(by omega) := by rw [List.getD_eq_getElem?_getD, List.getElem?_eq_getElem (by omega)]; rfl
      have e2 : ((zs.take len).map Int.toNat).getD i 0 = (zs[i]'(by omega)).toNat := by
        rw [List.getD_eq_getElem?_getD, List.getElem?_map, List.getElem?_take_of_lt (by omega), List.getElem?_eq_getElem (by omega)]; rfl
      rw [e1, e2, Int.toNat_of_nonneg (hz _ (List.getElem_mem _)).1]
theorem ByS.below {w w' : World} {a : Option Addr} {cap : Nat} {L : List Nat} (h : ByS w a cap L) (hB : Below w.heap.size w w') : ByS w' a cap L :=
  ⟨h.byte, h.le, h.none, fun x hx i hi => (hB.cell (cell_lt (h.cell x hx i hi))).trans (h.cell x hx i hi)⟩
theorem getD_take {L : List Nat} {k i : Nat} (h : i < k) : (L.take k).getD i 0 = L.getD i 0 := by
  rw [List.getD_eq_getElem?_getD, List.getD_eq_getElem?_getD, List.getElem?_take_of_lt h]
theorem ByS.bsl {w : World} {a : Option Addr} {cap : Nat} {L : List Nat} (h : ByS w a cap L) (k : Nat) (hk : k ≤ L.length) : ∃ bb bo, Bsl w a bb bo (L.take k) cap := by
  have hl : (L.take k).length = k := by rw [List.length_take]; omega
  by_cases h0 : 0 < k
  · cases ha : a with
    | none =>
      have h1 := h.none ha
      have h2 := h.le
      omega
    | some x =>
      have hc := h.cell x ha
      have hsp : x.spot = .none := by
        have h1 := World.cell?_spot (hc 0 (by omega))
        simpa [Addr.add] using h1
      have hlt : x.block < w.heap.size := by
        have h1 := cell_lt (hc 0 (by omega))
        simpa [Addr.add] using h1
      obtain ⟨bb, bo, sp⟩ := x
      simp only at hsp hlt
      subst hsp
      refine ⟨bb, bo, ⟨fun y hy => h.byte y (List.mem_of_mem_take hy), by have := h.le; omega, fun _ => ⟨rfl, hlt⟩, fun i hi => ?_⟩⟩
      rw [hl] at hi
      have h1 := hc i (by omega)
      rw [getD_take hi, ← h1]
      congr 1
      unfold Addr.add
      split
      · rename_i hi0; rw [hi0]; rfl
      · rfl
  · exact ⟨0, 0, ⟨fun y hy => h.byte y (List.mem_of_mem_take hy), by have := h.le; omega, fun h1 => by omega, fun i hi => by omega⟩⟩

theorem elem_bytes : Try.prog.elem 22 = 5 := by kernel_rfl
theorem run_size_byte (w : World) : (sizeOf 5).run Try.prog w = .ok 1 w := by kernel_rfl
theorem under_bytes : Try.prog.underlying 22 = some (.slice (Try.prog.elem 22)) := by kernel_rfl
/-- A part's address. -/
def partA (a : Option Addr) (cap k : Nat) : Option Addr := if cap = k then a else a.map (·.add k)
theorem run_part_lh (a : Option Addr) (len cap k n k2 : Nat) (e : k2 = k + n) (h : k2 ≤ cap) (w : World) : (Instr.sliceAt 22 (.slice a len cap) (some (.int .i64 (k : Int))) (some (.int .i64 (k2 : Int))) none).run Try.prog w = .ok (.slice (partA a cap k) n (cap - k)) w := by
  rw [run_sliceAt_slice (h := under_bytes), run_slice_lh (ht := under_bytes) (l := (k : Int)) (h := (k2 : Int)) (h0 := by omega) (h1 := by omega) (h2 := by omega), elem_bytes, run_size_byte]
  simp only [Result.andThen_ok, sliced, Nat.mul_one]
  rw [show (k2 : Int).toNat - (k : Int).toNat = n by omega, show (k : Int).toNat = k by omega]
  rfl
theorem run_part_h (a : Option Addr) (len cap n : Nat) (h : n ≤ cap) (w : World) : (Instr.sliceAt 22 (.slice a len cap) none (some (.int .i64 (n : Int))) none).run Try.prog w = .ok (.slice a n cap) w := by
  rw [run_sliceAt_slice (h := under_bytes), run_slice_h (ht := under_bytes) (h := (n : Int)) (h0 := by omega) (h2 := by omega), elem_bytes, run_size_byte]
  simp only [Result.andThen_ok, sliced, Nat.sub_zero]
  rw [show (n : Int).toNat = n by omega]
  congr 2
  split
  · rfl
  · cases a <;> rfl

/-- A part is copied. -/
theorem copy_part {w : World} {a : Option Addr} {cap : Nat} {L : List Nat} (h : ByS w a cap L) (k n : Nat) (hk : k + n ≤ L.length) (hl : L.length ≤ 1000) :
    Calls Try.prog 26 #[.slice (partA a cap k) n (cap - k)] w fun e w' => (∃ p cap', e = .returned (.slice p n cap') ∧ OwnB w.heap.size w' p ((L.drop k).take n) cap') ∧ Below w.heap.size w w' := by
  have hn : ((L.drop k).take n).length = n := by rw [List.length_take, List.length_drop]; omega
  unfold partA
  cases ha : a with
  | none =>
    have h1 := h.none ha
    have h2 := h.le
    obtain rfl : n = 0 := by omega
    have e : (if cap = k then (none : Option Addr) else (none : Option Addr).map (·.add k)) = none := by split <;> rfl
    rw [e, h1, Nat.zero_sub, List.take_zero]
    exact copy_none w
  | some x =>
    obtain ⟨y, hy, hc⟩ : ∃ y, (if cap = k then some x else (some x).map (·.add k)) = some y ∧ (0 < n → y = x.add k) := by
      split
      · exact ⟨x, rfl, fun h0 => by have := h.le; omega⟩
      · exact ⟨x.add k, rfl, fun _ => rfl⟩
    rw [hy]
    have q := copy_any ((L.drop k).take n) y (cap - k) w (fun j v hj => ?_) (by omega)
    · rw [hn] at q; exact q
    · have hj1 : j < n := by
        rcases Nat.lt_or_ge j n with h1 | h1
        · exact h1
        · rw [List.getElem?_eq_none (by rw [bvs_len]; omega)] at hj; cases hj
      rw [hc (by omega), Addr.add_add, h.cell x ha (k + j) (by omega), ← hj, bvs_get (by omega), getD_take hj1]
      rw [show (L.drop k).getD j 0 = L.getD (k + j) 0 by rw [List.getD_eq_getElem?_getD, List.getD_eq_getElem?_getD, List.getElem?_drop]]
theorem sum_part {w : World} {a : Option Addr} {cap : Nat} {L : List Nat} (h : ByS w a cap L) (k : Nat) (hk : k ≤ L.length) (hl : L.length ≤ 1000) :
    Calls Try.prog 11 #[.slice a k cap] w fun e w' => e = .returned (.agg (bvs (hashL (L.take k))).toArray) ∧ Below w.heap.size w w' := by
  obtain ⟨bb, bo, hb⟩ := h.bsl k hk
  have hn : (L.take k).length = k := by rw [List.length_take]; omega
  have q := sum_any (L.take k) a bb bo cap w hb (by omega)
  rw [hn] at q
  exact q
theorem take_part (L : List Nat) (k n : Nat) : L.take k ++ (L.drop k).take n = L.take (k + n) := (List.take_add).symm
theorem OwnB.bsl' {B : Nat} {w : World} {p : Option Addr} {bs : List Nat} {cap g : Nat} (h : OwnB B w p bs cap) (hb : ∀ x ∈ bs, x < 256) (hg : g < B) : ∃ bb, Bsl w p bb 0 bs cap ∧ bb ≠ g := by
  obtain ⟨bb, h1, h2⟩ := h.bsl hb
  by_cases h0 : 0 < bs.length
  · exact ⟨bb, h1, by have := h2 h0; omega⟩
  · exact ⟨g + 1, ⟨h1.byte, h1.le, fun h3 => absurd h3 h0, fun i hi => absurd hi (by omega)⟩, by omega⟩
theorem OwnB.bex {B g : Nat} {w w' : World} {p : Option Addr} {bs : List Nat} {cap : Nat} (h : OwnB B w p bs cap) (hx : Bex g w w') (hg : g < B) : OwnB B w' p bs cap :=
  ⟨h.1, fun h0 => by obtain ⟨c, rest, h1, h2, h3⟩ := h.2 h0; exact ⟨c, rest, h1, h2, hx.blk h3 (by omega)⟩⟩
end Go.Proofs.Ythcgenlhblbjaaa
