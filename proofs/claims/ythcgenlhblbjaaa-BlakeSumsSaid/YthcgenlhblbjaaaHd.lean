/-
  Contracts: the words of a block.
-/
import Derived.Test.YthcgenlhblbjaaaHb
import Derived.Deep.QuietTactic
import Derived.Deep.MidRow
import Derived.Laws.CopyOwn
namespace Go.Proofs.Ythcgenlhblbjaaa
open Go.RowKit

theorem or_wordL {a b : Nat} (ha : a < 4294967296) (hb : b < 4294967296) : bits .or .u32 (a : Int) (b : Int) = ((a ||| b : Nat) : Int) := or_word ha hb
theorem or_step {a b k c : Nat} (hb : b < 2 ^ k) (hc : a * 2 ^ k = c) : b ||| c = c + b := by
  subst hc; rw [Nat.or_comm, or_add hb]
theorem or_bytes {x0 x1 x2 x3 : Nat} (h0 : x0 < 256) (h1 : x1 < 256) (h2 : x2 < 256) (h3 : x3 < 256) :
    bits .or .u32 (bits .or .u32 (bits .or .u32 (x0 : Int) ((x1 : Int) * 256 % 4294967296)) ((x2 : Int) * 65536 % 4294967296)) ((x3 : Int) * 16777216 % 4294967296) = ((x0 + 256 * x1 + 65536 * x2 + 16777216 * x3 : Nat) : Int) := by
  have e1 : ((x1 : Int) * 256 % 4294967296) = ((x1 * 256 : Nat) : Int) := by omega
  have e2 : ((x2 : Int) * 65536 % 4294967296) = ((x2 * 65536 : Nat) : Int) := by omega
  have e3 : ((x3 : Int) * 16777216 % 4294967296) = ((x3 * 16777216 : Nat) : Int) := by omega
  have s1 : x0 ||| x1 * 256 = x1 * 256 + x0 := or_step (a := x1) (k := 8) h0 rfl
  have s2 : (x1 * 256 + x0) ||| x2 * 65536 = x2 * 65536 + (x1 * 256 + x0) := or_step (a := x2) (k := 16) (by show _ < 65536; omega) rfl
  have s3 : (x2 * 65536 + (x1 * 256 + x0)) ||| x3 * 16777216 = x3 * 16777216 + (x2 * 65536 + (x1 * 256 + x0)) := or_step (a := x3) (k := 24) (by show _ < 16777216; omega) rfl
  have t1 := or_wordL (a := x0) (b := x1 * 256) (by omega) (by omega)
  have t2 := or_wordL (a := x1 * 256 + x0) (b := x2 * 65536) (by omega) (by omega)
  have t3 := or_wordL (a := x2 * 65536 + (x1 * 256 + x0)) (b := x3 * 16777216) (by omega) (by omega)
  rw [s1] at t1; rw [s2] at t2; rw [s3] at t3
  rw [e1, e2, e3, t1, t2, t3]
  omega

theorem word_any (b o c : Nat) (x0 x1 x2 x3 : Nat) (w : World) (h0 : w.cell? ⟨b, o, none⟩ = some (.int .u8 (x0 : Nat))) (h1 : w.cell? ⟨b, o + 1, none⟩ = some (.int .u8 (x1 : Nat))) (h2 : w.cell? ⟨b, o + 2, none⟩ = some (.int .u8 (x2 : Nat))) (h3 : w.cell? ⟨b, o + 3, none⟩ = some (.int .u8 (x3 : Nat)))
    (l0 : x0 < 256) (l1 : x1 < 256) (l2 : x2 < 256) (l3 : x3 < 256) :
    Calls Try.prog 51 #[.slice (some ⟨b, o, none⟩) 4 c] w fun e w' => e = .returned (.int .u32 (x0 + 256 * x1 + 65536 * x2 + 16777216 * x3 : Nat)) ∧ ∃ n, w' = w.drewN n := by
  have hr := hidp (or_bytes l0 l1 l2 l3)
  have s0 : (x0 : Int) % 4294967296 = x0 := by omega
  have s1 : (x1 : Int) % 4294967296 = x1 := by omega
  have s2 : (x2 : Int) % 4294967296 = x2 := by omega
  have s3 : (x3 : Int) % 4294967296 = x3 := by omega
  clear l0 l1 l2 l3
  go_enter Try.func51, Try.ntmps51
  go_wp2
  go_quiet (fail)
  go_wp2
  go_ret
  exact ⟨ret_int hr.out, _, rfl⟩

def bvs (v : List Nat) : List Value := v.map fun x => Value.int .u8 (x : Nat)
theorem bvs_get {v : List Nat} {i : Nat} (h : i < v.length) : (bvs v)[i]? = some (.int .u8 (v.getD i 0 : Nat)) := by
  unfold bvs
  rw [List.getElem?_map, List.getD_eq_getElem?_getD, List.getElem?_eq_getElem h]; rfl
theorem bvs_set (v : List Nat) (i x : Nat) : (bvs v).set i (.int .u8 (x : Nat)) = bvs (v.set i x) := by unfold bvs; rw [List.map_set]
/-- Bytes: n of them. -/
def Bytes (n : Nat) (v : List Nat) : Prop := v.length = n ∧ ∀ x ∈ v, x < 256
theorem Bytes.get {n : Nat} {v : List Nat} (h : Bytes n v) (i : Nat) : v.getD i 0 < 256 := by
  rw [List.getD_eq_getElem?_getD]
  cases hi : v[i]? with
  | none => show 0 < 256; decide
  | some x => exact h.2 x (List.mem_of_getElem? hi)
/-- The words of the first i fours of a block. -/
def partW (bl : List Nat) (i : Nat) : List Nat := (List.range 16).map fun j => if j < i then wordL bl j else 0
theorem partW_len (bl : List Nat) (i : Nat) : (partW bl i).length = 16 := by unfold partW; simp
theorem partW_zero (bl : List Nat) : partW bl 0 = List.replicate 16 0 := by unfold partW; rfl
theorem partW_all (bl : List Nat) : partW bl 16 = wordsL bl := by
  unfold partW wordsL
  apply List.map_congr_left
  intro j hj
  rw [if_pos (by simpa using hj)]
theorem partW_set (bl : List Nat) {i : Nat} (hi : i < 16) : (partW bl i).set i (wordL bl i) = partW bl (i + 1) := by
  apply List.ext_getElem?
  intro n
  unfold partW
  rw [List.getElem?_set]
  by_cases h : i = n
  · subst h; simp [hi]
  · simp only [h, if_false, List.getElem?_map]
    by_cases hn : n < 16
    · simp only [List.getElem?_range, hn, Option.map_some]
      by_cases h2 : n < i
      · rw [if_pos h2, if_pos (by omega)]
      · rw [if_neg h2, if_neg (by omega)]
    · rw [List.getElem?_eq_none (by simp; omega)]; rfl

theorem wpList_load_blk {P : Program} {ops : Array Oper} {rest : List Oper} {o : Oper} {a : Act} {w : World} {Q : Exit → Act → World → Prop} (hgd : o.guard = none) (ty : TypeId) (x : Operand) (ho : o.op = .load ty x)
    (b : Nat) (cs : List Value) (T : TypeId) (hx : a.eval x = .pointer (some ⟨b, 0, none⟩)) (hb : Blk w b cs T) (d : TypeDesc)
    (hu : P.underlying ty = some d) (hd : (match d with | .struct _ | .array _ _ => true | _ => false) = true) (hi : (P.info? ty).map (·.size) = some cs.length)
    (h : wpList P ops Q rest (a.put o.dst (.agg cs.toArray)) w) : wpList P ops Q (o :: rest) a w :=
  wpList_load_row hgd ty x ho b hx T cs.toArray (0, 0) d hb hu hd (by simpa using hi) h
theorem wpList_store_blk {P : Program} {ops : Array Oper} {rest : List Oper} {o : Oper} {a : Act} {w : World} {Q : Exit → Act → World → Prop} (hgd : o.guard = none) (ty : TypeId) (x y : Operand) (ho : o.op = .store ty x y)
    (b : Nat) (cs old : List Value) (T : TypeId) (hx : a.eval x = .pointer (some ⟨b, 0, none⟩)) (hy : a.eval y = .agg cs.toArray) (hb : Blk w b old T)
    (hi : (P.info? ty).map (·.size) = some cs.length) (ho2 : old.length = cs.length) (h1 : cs.toArray.all (·.oneCell') = true)
    (h : ∀ w', Hid (w' = w.setRow b cs.toArray) → wpList P ops Q rest (a.put o.dst undef) w') : wpList P ops Q (o :: rest) a w :=
  wpList_store_row hgd ty x y ho b cs.toArray hx hy T old.toArray hb (by simpa using hi) (by simpa using ho2) h1 (h _ (hidp rfl))
theorem Blk.row {w : World} {b : Nat} {old cs : List Value} {T : TypeId} (h : Blk w b old T) : Blk (w.setRow b cs.toArray) b cs T := setRow_heap w b _ _ T (0, 0) h
theorem But.setRow {b : Nat} {w1 w2 : World} (h : But b w1 w2) (cs : Array Value) : But b w1 (w2.setRow b cs) :=
  h.trans ⟨rfl, rfl, rfl, by simp [World.setRow], fun i hi => setRow_other _ _ _ _ hi⟩
theorem wvs_one (v : List Nat) : (wvs v).toArray.all (·.oneCell') = true := by
  rw [Array.all_eq_true_iff_forall_mem]
  intro x hx
  simp only [wvs, List.mem_toArray, List.mem_map] at hx
  obtain ⟨n, _, rfl⟩ := hx; rfl
theorem bvs_one (v : List Nat) : (bvs v).toArray.all (·.oneCell') = true := by
  rw [Array.all_eq_true_iff_forall_mem]
  intro x hx
  simp only [bvs, List.mem_toArray, List.mem_map] at hx
  obtain ⟨n, _, rfl⟩ := hx; rfl
theorem wvs_len (v : List Nat) : (wvs v).length = v.length := by unfold wvs; simp
theorem bvs_len (v : List Nat) : (bvs v).length = v.length := by unfold bvs; simp
theorem wordsL_len (b : List Nat) : (wordsL b).length = 16 := by unfold wordsL; simp

theorem run_slice_arr {P : Program} {t e : TypeId} {n : Nat} (ht : P.underlying t = some (.array n e)) (he : (P.info? e).map (·.size) = some 1) (g o : Nat) {l h : Nat} (h1 : l ≤ h) (h2 : h ≤ n) (h3 : l < n) (w : World) :
    (Instr.sliceAt t (.pointer (some ⟨g, o, none⟩)) (some (.int .i64 (l : Int))) (some (.int .i64 (h : Int))) none).run P w = .ok (.slice (some ⟨g, o + l, none⟩) (h - l) (n - l)) w := by
  have e1 : P.arrayLen t = n := by simp [Program.arrayLen, ht]
  have e2 : P.elem t = e := by simp [Program.elem, ht]
  rw [run_sliceAt_array_lh (P := P) w t ⟨g, o, none⟩ (by rw [e1, e2]; exact ht) .i64 .i64 (l : Int) (h : Int) (by omega) (by omega) (by rw [e1]; omega), e1, e2]
  cases hq : P.info? e with
  | none => simp [hq] at he
  | some i =>
    have hs : i.size = 1 := by simpa [hq] using he
    have hz : (sizeOf e).run P w = .ok 1 w := by simp [sizeOf, typeInfo, hq, hs]
    have hne : n ≠ l := by omega
    simp [hz, slicedAt, Result.andThen, hne, Addr.add_mid]

/-- A block of bytes lies in block g from offset o on. -/
def BytesAt (w : World) (g o : Nat) (bl : List Nat) : Prop := ∀ i, i < bl.length → w.cell? ⟨g, o + i, none⟩ = some (.int .u8 (bl.getD i 0 : Nat))

set_option maxHeartbeats 2000000 in
theorem wordsOf_any (g o : Nat) (bl : List Nat) (w : World) (hg : g < w.heap.size) (hb : Bytes 64 bl) (hw : BytesAt w g o bl) :
    Calls Try.prog 47 #[.pointer (some ⟨g, o, none⟩)] w fun e w' => e = .returned (.agg (wvs (wordsL bl)).toArray) ∧ Below w.heap.size w w' := by
  have HG := hidp hg
  have HB := hidp hb
  have HW := hidp hw
  clear hg hb hw
  go_enter Try.func47, Try.ntmps47
  go_wp2
  go_loopw [5] (fun x wr => ∃ i : Nat, i ≤ 16 ∧ x = .int .i64 i ∧ Hid (Blk wr (w.heap.size + 1) (wvs (partW bl i)) 66 ∧ Blk wr w.heap.size (wvs (List.replicate 16 0)) 66 ∧ Below w.heap.size w wr)) (fun x _ => 16 - (intOf x).toNat)
  case atStart =>
    refine ⟨0, by omega, rfl, ?_, ?_, by (repeat' (first | (with_reducible exact Below.refl _ _) | (with_reducible refine Below.alloc ?_ ?_ _) | (with_reducible refine Below.drew ?_) | (with_reducible refine Below.drewN ?_ _) | (with_reducible refine Below.setCell ?_ ?_ _) | go_size))⟩
    · rw [partW_zero]; exact Blk.new' _ (wvs (List.replicate 16 0)) _ _ (by simp)
    · exact (Blk.new w (wvs (List.replicate 16 0)) _).alloc _
  case round =>
    obtain ⟨i, hi, rfl, hr⟩ := hrel
    by_cases h : i < 16
    · have hsl := run_slice_arr (P := Try.prog) (t := 41) (e := 5) (n := 64) Try.underlying41 (by kernel_rfl) g o (l := 4 * i) (h := 4 * i + 4) (by omega) (by omega) (by omega)
      rw [show 4 * i + 4 - 4 * i = 4 by omega] at hsl
      have q : ∀ k, k < 64 → wr.cell? ⟨g, o + k, none⟩ = some (.int .u8 (bl.getD k 0 : Nat)) := fun k hk => (hr.out.2.2.cell (p := ⟨g, o + k, none⟩) HG.out).trans (HW.out k (HB.out.1.symm ▸ hk))
      have c0 := q (4 * i) (by omega)
      have c1 := q (4 * i + 1) (by omega)
      have c2 := q (4 * i + 2) (by omega)
      have c3 := q (4 * i + 3) (by omega)
      have HC := hidp (word_any g (o + 4 * i) (64 - 4 * i) _ _ _ _ wr c0 c1 c2 c3 (HB.out.get _) (HB.out.get _) (HB.out.get _) (HB.out.get _))
      clear q c0 c1 c2 c3
      have hlt : (i : Int) < 16 := by omega
      have hcell := (hr.out.1.cell i).trans (wvs_get (by rw [partW_len]; exact h))
      have hfree := hr.out.1.free i
      have hI := hidp h
      clear h
      simp only [Int.natCast_mul, Int.natCast_add, Int.cast_ofNat_Int] at hsl
      go_wp2_with (go_at_call 51; refine HC.out.mono ?_; rintro e w1 ⟨rfl, n, rfl⟩)
      refine ⟨⟨i + 1, by omega, by go_num, ?_, ?_, ?_⟩, by simp [intOf]; omega⟩
      · rw [← partW_set bl hI.out]
        exact wvs_set _ _ _ ▸ hr.out.1.set i _
      · exact (hr.out.2.1.drewN n).other _ _ (by simp)
      · exact (hr.out.2.2.drewN n).setCell (by simp) _
    · obtain rfl : i = 16 := by omega
      have b1 := hidp hr.out.1
      have b0 := hidp hr.out.2.1
      go_wp2_with (first | refine wpList_load_blk rfl 66 _ rfl _ _ _ rfl b1.out _ Try.underlying66 rfl (by rw [wvs_len, partW_len]; kernel_rfl) ?_ | (refine wpList_store_blk rfl 66 _ _ rfl _ _ _ _ rfl rfl b0.out (by rw [wvs_len, partW_len]; kernel_rfl) (by rw [wvs_len, wvs_len, partW_len]; rfl) (wvs_one _) ?_; intro w2 hw2))
      have b2 : Blk w2 w.heap.size (wvs (wordsL bl)) 66 := by rw [hw2.out, ← partW_all]; exact b0.out.row
      refine bodyPost_ret (v := .agg (wvs (wordsL bl)).toArray) ?_ rfl ⟨rfl, ?_⟩
      · exact results_cell_row Try.results47 _ _ w.heap.size 66 _ (0, 0) _ rfl b2 Try.underlying66 rfl (by rw [List.size_toArray, wvs_len, wordsL_len]; kernel_rfl)
      · rw [hw2.out]; exact below_setRow hr.out.2.2 (Nat.le_refl _) _
end Go.Proofs.Ythcgenlhblbjaaa
