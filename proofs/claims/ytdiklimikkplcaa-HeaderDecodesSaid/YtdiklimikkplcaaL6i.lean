/-
  Header: a text so many times; zeros behind a row; the plain facts of the chapter's examples.
-/
import Derived.Test.YtdiklimikkplcaaL6h
import Derived.Lib.AppendZerosOnto
namespace Go.Proofs.Ytdiklimikkplcaa
open Go.RowKit Go.Lib

theorem strB_app (a b : List Nat) : strB a ++ strB b = strB (a ++ b) := by
  unfold strB
  rw [List.map_append]
  apply ByteArray.ext
  simp
theorem strB_a : (⟨#[97]⟩ : ByteArray) = strB [97] := rfl
set_option maxRecDepth 100000 in
set_option maxHeartbeats 1000000 in
theorem times_any (n : Nat) (hn : n ≤ 100) (w : World) : Calls Try.prog 52 #[.string ⟨#[97]⟩, .int .i64 n] w fun e w' => e = .returned (.string (strB (List.replicate n 97))) ∧ Below w.heap.size w w' := by
  go_enter Try.func52, Try.ntmps52
  go_wp2
  go_loopw [5, 6] (fun s x wr => ∃ i : Nat, i ≤ n ∧ s = .string (strB (List.replicate i 97)) ∧ x = .int .i64 i ∧ wr = w) (fun _ x _ => n - (Go.RowKit.intOf x).toNat)
  case atStart => exact ⟨0, Nat.zero_le _, rfl, rfl, rfl⟩
  case round =>
    obtain ⟨i, hi, rfl, rfl, rfl⟩ := hrel
    by_cases hlt : i < n
    · have hadd := run_string_add_sum (P := Try.prog) (strB (List.replicate i 97)) ⟨#[97]⟩ (by rw [strB_size, List.length_replicate]; show i + 1 ≤ _; omega) (w := wr)
      rw [strB_a, strB_app, ← List.replicate_succ'] at hadd
      rw [← strB_a] at hadd
      generalize strB (List.replicate i 97) = S at hadd ⊢
      generalize hT : strB (List.replicate (i + 1) 97) = T at hadd
      have hTT := hidp hT
      clear hT
      go_wp2
      go_roundw
      case rel => exact ⟨i + 1, by omega, by rw [hTT.out], by rw [show ((i + 1 : Nat) : Int) = (i : Int) + 1 by omega], trivial⟩
      case measure => simp [Go.RowKit.intOf]; omega
    · obtain rfl : i = n := by omega
      go_wp2
      go_ret
      exact ⟨rfl, Below.refl _ _⟩
def lowL : List Nat := [1, 1, 97, 0, 1, 2] ++ List.replicate 128 0
theorem zeroCells_get (n i : Nat) (h : i < n) : (Builtin.zeroCells #[.int .u8 0] n)[i]? = some (.int .u8 ((0 : Nat) : Int)) := by
  have e : i % 1 = 0 := Nat.mod_one i
  simp [Builtin.zeroCells, h, e]
theorem zeroCells_size (n : Nat) : (Builtin.zeroCells #[.int .u8 0] n).size = n := by unfold Builtin.zeroCells; simp
theorem lowL_get : ∀ j, j < 134 → lowL.getD j 0 = if j < 6 then [1, 1, 97, 0, 1, 2].getD j 0 else 0 := by decide +kernel
set_option maxRecDepth 100000 in
theorem wpList_low {ops : Array Oper} {rest : List Oper} {o : Oper} {a : Act} {w : World} {Q : Exit → Act → World → Prop} (hgd : o.guard = none) (s x : Operand) (B : Nat)
    (ho : o.op = .call { callee := .builtin .append, args := #[s, x], argTypes := #[32, 3] }) (hs : a.eval s = .slice (some ⟨B, 0, none⟩) 6 6) (hx : a.eval x = .int .i64 128)
    (hb : Blk w B (bvs [1, 1, 97, 0, 1, 2]) 5)
    (h : ∀ p b c w', Hid (Below w.heap.size w w' ∧ Bs w' p b 0 lowL c) → wpList Try.prog ops Q rest (a.put o.dst (.slice p 134 c)) w') : wpList Try.prog ops Q (o :: rest) a w := by
  obtain ⟨i, hi, hz, hs1, hb1⟩ := info_parts info_byte
  have hold : (Builtin.firstCells i.size 6 (.slice (some ⟨B, 0, none⟩) 6 6)).run Try.prog w.drew = .ok (bvs [1, 1, 97, 0, 1, 2]).toArray w.drew :=
    run_firstCells_some (w := w.drew) i.size 6 ⟨B, 0, none⟩ 6 6 (bvs [1, 1, 97, 0, 1, 2]) (by rw [hs1]; rfl) (fun j v hj => by
      have q := hb.drew.cell j
      have e : (⟨B, 0, none⟩ : Addr).add j = ⟨B, j, none⟩ := by by_cases hj0 : j = 0 <;> simp [Addr.add, hj0]
      rw [e, q]; exact hj)
  have q := run_append_grow_zeros (P := Try.prog) w 32 3 o.type 5 i (.int .u8 0) .i64 .i64 Try.underlying32 Try.underlying3 hi hz (some ⟨B, 0, none⟩) 6 6 (bvs [1, 1, 97, 0, 1, 2]) hold 128 (by decide) (by rw [hs1]; decide) (by decide) (by decide) (by rw [hb1]; decide) (by rw [hb1]; decide +kernel)
  refine wpList_append_run w hgd s x _ _ ho _ _ hs hx _ _ q (h _ w.heap.size _ _ (hidp ⟨?_, ?_⟩))
  · exact ((Below.refl w.heap.size w).drew).alloc (by exact Nat.le_refl _) _
  · have hg : grownCap w 134 6 5 ≥ 134 := grownCap_ge w 134 6 5
    have hlow : lowL.length = 134 := by decide +kernel
    refine ⟨by decide +kernel, by rw [hlow]; exact hg, fun _ => ⟨rfl, by simp⟩, fun j hj => ?_⟩
    rw [Nat.zero_add]
    rw [hlow] at hj
    have e1 := heap_alloc_new w.drew (.cells ((bvs [1, 1, 97, 0, 1, 2]).toArray ++ Builtin.zeroCells (Value.int .u8 0).cells 128 ++ Builtin.zeroCells (Value.int .u8 0).cells (grownCap w (6 + 128) 6 5 - (6 + 128))) 5)
    have e2 : w.drew.heap.size = w.heap.size := rfl
    rw [e2] at e1
    have e3 : (Value.int .u8 0).cells = #[.int .u8 0] := rfl
    simp only [World.cell?, e1]
    rw [e3, lowL_get j hj]
    have z1 : (bvs [1, 1, 97, 0, 1, 2]).toArray.size = 6 := rfl
    have z2 := zeroCells_size 128
    rw [Array.getElem?_append_left (by rw [Array.size_append, z1, z2]; exact hj)]
    by_cases h6 : j < 6
    · rw [Array.getElem?_append_left (by rw [z1]; exact h6), if_pos h6, List.getElem?_toArray]
      exact bvs_get h6
    · rw [Array.getElem?_append_right (by rw [z1]; omega), z1, if_neg h6]
      exact zeroCells_get 128 (j - 6) (by omega)
theorem low_dec : decH lowL = (hdr0, 3, 0) := by
  have h : (decH lowL).2 = (3, 0) := by decide +kernel
  have q := (decH_in (L := lowL) (by decide +kernel)).2 (by rw [h]; decide)
  rw [← q, ← h]
theorem cut_dec : decH ((encH oneH).take 134) = (hdr0, 6, 103) := by
  have h : (decH ((encH oneH).take 134)).2 = (6, 103) := by decide +kernel
  have q := (decH_in (L := (encH oneH).take 134) (fun x hx => encH_byte oneH_ok x (List.mem_of_mem_take hx))).2 (by rw [h]; decide)
  rw [← q, ← h]
theorem take6 : (encH oneH).take 6 = [1, 1, 97, 1, 1, 1] := by decide +kernel
def xH : Hdr := { oneH with h := 0 }
def yH : Hdr := { oneH with s := ⟨#[65]⟩, h := 0 }
def zHd : Hdr := { oneH with t := -1 }
theorem xH_ok : HdrOk xH := ⟨by decide, by decide, z32_bytes, z32_bytes, z32_bytes, z32_bytes⟩
theorem yH_ok : HdrOk yH := ⟨by decide, by decide, z32_bytes, z32_bytes, z32_bytes, z32_bytes⟩
theorem zHd_ok : HdrOk zHd := ⟨by decide, by decide, z32_bytes, z32_bytes, z32_bytes, z32_bytes⟩
theorem xH_chk : chkH xH = 3 := by decide +kernel
theorem yH_chk : chkH yH = 5 := by decide +kernel
theorem zHd_chk : chkH zHd = 3 := by decide +kernel
theorem nm0 : nmS ⟨#[]⟩ = false := by decide +kernel
theorem nm33 : nmS (strB (List.replicate 33 97)) = false := by decide +kernel
theorem nm32 : nmS (strB (List.replicate 32 97)) = true := by decide +kernel
end Go.Proofs.Ytdiklimikkplcaa
