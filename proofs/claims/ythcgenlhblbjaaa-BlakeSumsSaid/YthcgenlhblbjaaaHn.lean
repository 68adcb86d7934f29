/-
  Contract: the text of a hash.
-/
import Derived.Test.YthcgenlhblbjaaaHl
import Derived.Lib.SlBytesRow
namespace Go.Proofs.Ythcgenlhblbjaaa
open Go.RowKit Go.Lib

/-- Bytes as a text. -/
def toB (l : List Nat) : ByteArray := ⟨(l.map UInt8.ofNat).toArray⟩
theorem toB_size (l : List Nat) : (toB l).size = l.length := by
  show ((l.map UInt8.ofNat).toArray).size = _
  simp
theorem toB_get {l : List Nat} (hl : ∀ x ∈ l, x < 256) {i : Nat} (h : i < (toB l).size) : ((toB l)[i]'h).toNat = l.getD i 0 := by
  have h2 : i < l.length := by rw [← toB_size l]; exact h
  have h3 : i < (toB l).data.toList.length := by simpa using h
  have e : (toB l)[i]'h = ((toB l).data.toList)[i]'h3 := rfl
  have e2 : (toB l).data.toList = l.map UInt8.ofNat := by unfold toB; simp
  have e3 : ((toB l).data.toList)[i]? = some (UInt8.ofNat (l[i]'h2)) := by rw [e2, List.getElem?_map, List.getElem?_eq_getElem h2]; rfl
  have e4 : ((toB l).data.toList)[i]'h3 = UInt8.ofNat (l[i]'h2) := by rw [List.getElem?_eq_getElem h3] at e3; exact Option.some.inj e3
  rw [e, e4, List.getD_eq_getElem?_getD, List.getElem?_eq_getElem h2, UInt8.toNat_ofNat_of_lt' (hl _ (List.getElem_mem _))]
  rfl
/-- Two digits for each byte. -/
def digT (h : List Nat) (j : Nat) : Nat := if j % 2 = 0 then hexC (h.getD (j / 2) 0 / 16) else hexC (h.getD (j / 2) 0 % 16)
def partT (h : List Nat) (i : Nat) : List Nat := (List.range 64).map fun j => if j < 2 * i then digT h j else 0
def textL (h : List Nat) : List Nat := (List.range 64).map (digT h)
def textB (h : List Nat) : ByteArray := toB (textL h)
theorem textL_len (h : List Nat) : (textL h).length = 64 := by unfold textL; simp
theorem partT_len (h : List Nat) (i : Nat) : (partT h i).length = 64 := by unfold partT; simp
theorem partT_zero (h : List Nat) : partT h 0 = List.replicate 64 0 := by unfold partT; rfl
theorem partT_all (h : List Nat) : partT h 32 = textL h := by
  unfold partT textL
  apply List.map_congr_left
  intro j hj
  have : j < 64 := by simpa using hj
  rw [if_pos (by omega)]
theorem partT_set (h : List Nat) {i : Nat} (hi : i < 32) : ((partT h i).set (2 * i) (hexC (h.getD i 0 / 16))).set (2 * i + 1) (hexC (h.getD i 0 % 16)) = partT h (i + 1) := by
  apply List.ext_getElem?
  intro n
  simp only [List.getElem?_set, List.length_set, partT_len]
  unfold partT
  simp only [List.getElem?_map]
  by_cases hn : n < 64
  · rw [List.getElem?_range hn]
    simp only [Option.map_some]
    by_cases h1 : 2 * i + 1 = n
    · subst h1
      rw [if_pos rfl, if_pos (by omega), if_pos (by omega)]
      unfold digT
      rw [if_neg (by omega), show (2 * i + 1) / 2 = i by omega]
    · rw [if_neg h1]
      by_cases h0 : 2 * i = n
      · subst h0
        rw [if_pos rfl, if_pos (by omega), if_pos (by omega)]
        unfold digT
        rw [if_pos (by omega), show 2 * i / 2 = i by omega]
      · rw [if_neg h0]
        by_cases hl : n < 2 * i
        · rw [if_pos hl, if_pos (by omega)]
        · rw [if_neg hl, if_neg (by omega)]
  · have e : (List.range 64)[n]? = none := List.getElem?_eq_none (by simp; omega)
    rw [if_neg (by omega), if_neg (by omega), e]; rfl
theorem digT_lt {h : List Nat} (hb : ∀ x ∈ h, x < 256) (j : Nat) : digT h j < 128 := by
  have hx : h.getD (j / 2) 0 < 256 := by
    rw [List.getD_eq_getElem?_getD]
    cases hi : h[j / 2]? with
    | none => show 0 < 256; decide
    | some x => exact hb x (List.mem_of_getElem? hi)
  unfold digT
  split
  · exact hexC_lt (by omega)
  · exact hexC_lt (by omega)
theorem textL_lt {h : List Nat} (hb : ∀ x ∈ h, x < 256) : ∀ x ∈ textL h, x < 128 := by
  intro x hx
  simp only [textL, List.mem_map] at hx
  obtain ⟨j, _, rfl⟩ := hx
  exact digT_lt hb j

def digS : ByteArray := ⟨#[48, 49, 50, 51, 52, 53, 54, 55, 56, 57, 97, 98, 99, 100, 101, 102]⟩
theorem run_dig (d : Nat) (h : d < 16) (w : World) : (Instr.index 9 (.string digS) (.int .u8 d)).run Try.prog w = .ok (.int .u8 ((hexC d : Nat) : Int)) w := by
  have h1 : d = 0 ∨ d = 1 ∨ d = 2 ∨ d = 3 ∨ d = 4 ∨ d = 5 ∨ d = 6 ∨ d = 7 ∨ d = 8 ∨ d = 9 ∨ d = 10 ∨ d = 11 ∨ d = 12 ∨ d = 13 ∨ d = 14 ∨ d = 15 := by omega
  rcases h1 with rfl | rfl | rfl | rfl | rfl | rfl | rfl | rfl | rfl | rfl | rfl | rfl | rfl | rfl | rfl | rfl <;> (show _ = _; kernel_rfl)
theorem run_index_cells {T e : TypeId} {n : Nat} {d : TypeDesc} (hT : Try.prog.underlying T = some (.array n e)) (he : Try.prog.underlying e = some d) (hd : (match d with | .struct _ | .array _ _ => false | _ => true) = true) (hs : (Try.prog.info? e).map (·.size) = some 1)
    (cs : List Value) (i : Nat) (hi : i < n) (v : Value) (hv : cs[i]? = some v) (w : World) : (Instr.index T (.agg cs.toArray) (.int .i64 (i : Nat))).run Try.prog w = .ok v w := by
  cases hq : Try.prog.info? e with
  | none => simp [hq] at hs
  | some j =>
    have hj : j.size = 1 := by simpa [hq] using hs
    have hagg : (isAgg e).run Try.prog w = .ok false w := by
      unfold isAgg
      rw [Sem.run_bind, run_underlying he w]
      cases d <;> simp_all
    simp [Instr.index, asIntOf, run_underlying hT, sizeOf, typeInfo, hq, hj, part, hagg, hv]
    intro hle; omega

set_option maxRecDepth 20000 in
set_option maxHeartbeats 8000000 in
theorem text_any (h : List Nat) (w : World) (hh : Bytes 32 h) :
    Calls Try.prog 16 #[.agg (bvs h).toArray] w fun e w' => e = .returned (.string (textB h)) ∧ Below w.heap.size w w' := by
  have HH := hidp hh
  have hb0 := hidp (Blk.new w (bvs h) 26)
  have hl : Hid ((bvs h).length = 32) := hidp (by rw [bvs_len]; exact hh.1)
  have hb1 := hidp (hb0.out.alloc (.cells (bvs (List.replicate 64 0)).toArray 41))
  clear hh
  go_enter Try.func16, Try.ntmps16
  go_wp2_with (refine wpList_load_blk rfl 26 _ rfl w.heap.size (bvs h) 26 rfl hb1.out _ Try.underlying26 rfl (by rw [hl.out]; kernel_rfl) ?_)
  go_loopw [7] (fun x wr => ∃ i : Nat, i ≤ 32 ∧ x = .int .i64 i ∧ Hid (Blk wr (w.heap.size + 1) (bvs (partT h i)) 41 ∧ Below w.heap.size w wr)) (fun x _ => 32 - (RowKit.intOf x).toNat)
  case atStart => exact ⟨0, by omega, rfl, by rw [partT_zero]; exact Blk.new' (w.alloc (.cells (bvs h).toArray 26)) (bvs (List.replicate 64 0)) 41 _ (by simp), by (repeat' (first | (with_reducible exact Below.refl _ _) | (with_reducible refine Below.alloc ?_ ?_ _) | (with_reducible refine Below.drew ?_) | (with_reducible refine Below.drewN ?_ _) | (with_reducible refine Below.setCell ?_ ?_ _) | go_size))⟩
  case round =>
    obtain ⟨i, hi, rfl, hr⟩ := hrel
    by_cases h32 : i < 32
    · have hix := run_index_cells (T := 26) (e := 5) (n := 32) Try.underlying26 Try.underlying5 rfl (by kernel_rfl) (bvs h) i h32 _ (bvs_get (by rw [HH.out.1]; exact h32))
      have hx := HH.out.get i
      have hset := partT_set h h32
      generalize h.getD i 0 = x at hix hx hset
      have hsh : (x : Int) / 16 = ((x / 16 : Nat) : Int) := by omega
      have han : bits .and .u8 (x : Int) 15 = ((x % 16 : Nat) : Int) := by
        have q := u8_and15 (x := (x : Int)) (by omega) (by omega)
        rw [q]; omega
      have d1 := run_dig (x / 16) (by omega)
      have d2 := run_dig (x % 16) (by omega)
      have HX := hidp hset
      obtain ⟨va, ha⟩ : ∃ v, wr.cell? ⟨w.heap.size + 1, 2 * i, none⟩ = some v := ⟨_, (hr.out.1.cell _).trans (List.getElem?_eq_getElem (by rw [bvs_len, partT_len]; omega))⟩
      obtain ⟨vb, hb⟩ : ∃ v, wr.cell? ⟨w.heap.size + 1, 2 * i + 1, none⟩ = some v := ⟨_, (hr.out.1.cell _).trans (List.getElem?_eq_getElem (by rw [bvs_len, partT_len]; omega))⟩
      have fa := hr.out.1.free (2 * i)
      have fb := hr.out.1.free (2 * i + 1)
      have b1 : (2 : Int) * (i : Int) < 64 := by omega
      have b2 : (2 : Int) * (i : Int) + 1 < 64 := by omega
      have t1 : ((2 : Int) * (i : Int)).toNat = 2 * i := by omega
      have t2 : ((2 : Int) * (i : Int) + 1).toNat = 2 * i + 1 := by omega
      generalize hda : x / 16 = da at hsh d1 HX
      generalize hdb : x % 16 = db at han d2 HX
      have h32 := hidp h32
      clear hset hx hda hdb hl hb0 hb1
      unfold digS at d1 d2
      go_wp2
      refine ⟨⟨i + 1, by have := h32.out; omega, by go_num, hidp ⟨?_, ?_⟩⟩, by have := h32.out; simp [RowKit.intOf]; omega⟩
      · rw [← HX.out, ← bvs_set, ← bvs_set]
        exact (hr.out.1.set _ _).set _ _
      · exact (hr.out.2.setCell (p := ⟨w.heap.size + 1, _, none⟩) (by simp) _).setCell (p := ⟨w.heap.size + 1, _, none⟩) (by simp) _
    · obtain rfl : i = 32 := by omega
      have hcv := run_convert_whole (P := Try.prog) wr 22 5 9 Try.underlying22 Try.underlying5 Try.underlying9 (w.heap.size + 1) 0 (textB h) (by
        intro j hj
        have hj2 : j < 64 := by rw [← textL_len h, ← toB_size]; exact hj
        have e := toB_get (fun x hx => Nat.lt_trans (textL_lt HH.out.2 x hx) (by decide)) hj
        show wr.cell? ⟨w.heap.size + 1, 0 + j, none⟩ = _
        rw [Nat.zero_add, hr.out.1.cell j, partT_all, bvs_get (by rw [textL_len]; exact hj2), ← e]; rfl) 64
      have hsz : (textB h).size = 64 := by unfold textB; rw [toB_size, textL_len]
      rw [hsz] at hcv
      clear hl hb0 hb1
      go_wp2
      go_ret
      exact ⟨rfl, hr.out.2⟩
end Go.Proofs.Ythcgenlhblbjaaa
