/-
  Texts Ja, Xa, Jb, one behind the other.
-/
import Derived.Test.YtcmkmnidnapabaaGreatRows
import Derived.Test.YtcmkmnidnapabaaGreatIr
import Derived.WalkKit
import Derived.WalkSpells
import Derived.WalkLawsBesides
import Derived.StillTailTactics
import Derived.BigQuiet
import Derived.Deep.QuietTactic
import Derived.Deep.MidRow
import Derived.Great.BuildSlice
import Derived.Laws.CopyOwn
import Derived.Laws.AppendOwnNone
import Derived.Maps.AppendAt
import Derived.DataReads
import Derived.OwnWalk
import Derived.ArgAppend
import Derived.DataElems

/-! Ja: Small laws, as those of layer 3's texts: arrays known whole, parts of slices, bytes that came in. -/
namespace Go.Proofs.YtcmkmnidnapabaaGreat
open Go.RowKit Go.Lib Go.Maps

theorem btrans {w w1 w2 : World} (h : Below w.heap.size w w1) (k : Below w1.heap.size w1 w2) : Below w.heap.size w w2 := h.trans (k.mono h.size)
theorem ret_int {k : IntKind} {a b : Int} (h : a = b) : Ending.returned (.int k a) = .returned (.int k b) := by rw [h]
theorem ret_bool {a b : Bool} (h : a = b) : Ending.returned (.bool a) = .returned (.bool b) := by rw [h]
/-- A region whose head only reads and whose tail is forced: the world behind its draw has a name. -/
theorem region_tail {P : Program} {id : Nat} {Q : Exit → Act → World → Prop} {a : Act} {w : World} {l : List Oper} (n : Nat) (hm : P.follows .mixedOrders = true) (hB : Region.lexTailB .any l.toArray n = true)
    (h : ∀ wd : World, Hid (wd = w.drew) → wpStill P l.toArray wd (fun a' => wpList P l.toArray Q (l.drop n) a' wd) (l.take n) a) : (Code.region id l.toArray true).wp P Q a w :=
  wp_region_still_tail n hm hB (h w.drew (hidp rfl))
theorem or_add {a b k : Nat} (hb : b < 2 ^ k) : a * 2 ^ k ||| b = a * 2 ^ k + b := by
  rw [Nat.mul_comm a (2 ^ k)]
  exact (Nat.two_pow_add_eq_or_of_lt hb a).symm
def bvs (v : List Nat) : List Value := v.map fun x => Value.int .u8 (x : Nat)
theorem bvs_get {v : List Nat} {i : Nat} (h : i < v.length) : (bvs v)[i]? = some (.int .u8 (v.getD i 0 : Nat)) := by
  unfold bvs
  rw [List.getElem?_map, List.getD_eq_getElem?_getD, List.getElem?_eq_getElem h]; rfl
theorem bvs_set (v : List Nat) (i x : Nat) : (bvs v).set i (.int .u8 (x : Nat)) = bvs (v.set i x) := by unfold bvs; rw [List.map_set]
/-- Bytes: n of them. -/
def Bytes (n : Nat) (v : List Nat) : Prop := v.length = n ∧ ∀ x ∈ v, x < 256
theorem Bytes.get {n : Nat} {v : List Nat} (h : Bytes n v) (i : Nat) : v.getD i 0 < 256 := by
  rw [List.getD_eq_getElem?_getD]
  cases hi : v[i]? with
  | none => show 0 < 256; decide
  | some x => exact h.2 x (List.mem_of_getElem? hi)
theorem wpList_load_blk {P : Program} {ops : Array Oper} {rest : List Oper} {o : Oper} {a : Act} {w : World} {Q : Exit → Act → World → Prop} (hgd : o.guard = none) (ty : TypeId) (x : Operand) (ho : o.op = .load ty x)
    (b : Nat) (cs : List Value) (T : TypeId) (hx : a.eval x = .pointer (some ⟨b, 0, none⟩)) (hb : Blk w b cs T) (d : TypeDesc)
    (hu : P.underlying ty = some d) (hd : (match d with | .struct _ | .array _ _ => true | _ => false) = true) (hi : (P.info? ty).map (·.size) = some cs.length)
    (h : wpList P ops Q rest (a.put o.dst (.agg cs.toArray)) w) : wpList P ops Q (o :: rest) a w :=
  wpList_load_row hgd ty x ho b hx T cs.toArray (0, 0) d hb hu hd (by simpa using hi) h
theorem wpList_store_blk {P : Program} {ops : Array Oper} {rest : List Oper} {o : Oper} {a : Act} {w : World} {Q : Exit → Act → World → Prop} (hgd : o.guard = none) (ty : TypeId) (x y : Operand) (ho : o.op = .store ty x y)
    (b : Nat) (cs old : List Value) (T : TypeId) (hx : a.eval x = .pointer (some ⟨b, 0, none⟩)) (hy : a.eval y = .agg cs.toArray) (hb : Blk w b old T)
    (hi : (P.info? ty).map (·.size) = some cs.length) (ho2 : old.length = cs.length) (h1 : cs.toArray.all (·.oneCell') = true)
    (h : ∀ w', Hid (w' = w.setRow b cs.toArray) → wpList P ops Q rest (a.put o.dst undef) w') : wpList P ops Q (o :: rest) a w :=
  wpList_store_row hgd ty x y ho b cs.toArray hx hy T old.toArray hb (by simpa using hi) (by simpa using ho2) h1 (h _ (hidp rfl))
theorem Blk.row {w : World} {b : Nat} {old cs : List Value} {T : TypeId} (h : Blk w b old T) : Blk (w.setRow b cs.toArray) b cs T := setRow_heap w b _ _ T (0, 0) h
theorem But.setRow {b : Nat} {w1 w2 : World} (h : But b w1 w2) (cs : Array Value) : But b w1 (w2.setRow b cs) :=
  h.trans ⟨rfl, rfl, rfl, by simp [World.setRow], fun i hi => setRow_other _ _ _ _ hi⟩
theorem bvs_one (v : List Nat) : (bvs v).toArray.all (·.oneCell') = true := by
  rw [Array.all_eq_true_iff_forall_mem]
  intro x hx
  simp only [bvs, List.mem_toArray, List.mem_map] at hx
  obtain ⟨n, _, rfl⟩ := hx; rfl
theorem bvs_len (v : List Nat) : (bvs v).length = v.length := by unfold bvs; simp
theorem run_slice_arr {P : Program} {t e : TypeId} {n : Nat} (ht : P.underlying t = some (.array n e)) (he : (P.info? e).map (·.size) = some 1) (g o : Nat) {l h : Nat} (h1 : l ≤ h) (h2 : h ≤ n) (h3 : l < n) (w : World) :
    (Instr.sliceAt t (.pointer (some ⟨g, o, none⟩)) (some (.int .i64 (l : Int))) (some (.int .i64 (h : Int))) none).run P w = .ok (.slice (some ⟨g, o + l, none⟩) (h - l) (n - l)) w := by
  have e1 : P.arrayLen t = n := by simp [Program.arrayLen, ht]
  have e2 : P.elem t = e := by simp [Program.elem, ht]
  rw [run_sliceAt_array_lh (P := P) w t ⟨g, o, none⟩ (by rw [e1, e2]; exact ht) .i64 .i64 (l : Int) (h : Int) (by omega) (by omega) (by rw [e1]; omega), e1, e2]
  cases hq : P.info? e with
  | none => simp [hq] at he
  | some i =>
    have hs : i.size = 1 := by simpa [hq] using he
    have hz : (sizeOf e).run P w = .ok 1 w := by simp [sizeOf, typeInfo, hq, hs]
    have hne : n ≠ l := by omega
    simp [hz, slicedAt, Result.andThen, hne, Addr.add_mid]
/-- A block of bytes lies in block g from offset o on. -/
def BytesAt (w : World) (g o : Nat) (bl : List Nat) : Prop := ∀ i, i < bl.length → w.cell? ⟨g, o + i, none⟩ = some (.int .u8 (bl.getD i 0 : Nat))
/-- A world that is as another one but for block g and new blocks. -/
structure Bex (g : Nat) (w w' : World) : Prop where
  os : w'.os = w.os
  tape : w'.tape = w.tape
  output : w'.output = w.output
  size : w.heap.size ≤ w'.heap.size
  block : ∀ k, k < w.heap.size → k ≠ g → w'.heap[k]? = w.heap[k]?
theorem Bex.refl (g : Nat) (w : World) : Bex g w w := ⟨rfl, rfl, rfl, Nat.le_refl _, fun _ _ _ => rfl⟩
theorem Bex.trans {g : Nat} {w1 w2 w3 : World} (h : Bex g w1 w2) (k : Bex g w2 w3) : Bex g w1 w3 :=
  ⟨k.os.trans h.os, k.tape.trans h.tape, k.output.trans h.output, Nat.le_trans h.size k.size, fun i hi hne => (k.block i (Nat.lt_of_lt_of_le hi h.size) hne).trans (h.block i hi hne)⟩
theorem Bex.of_below {g : Nat} {w w' : World} (h : Below w.heap.size w w') : Bex g w w' := ⟨h.os, h.tape, h.output, h.size, fun k hk _ => h.block k hk⟩
theorem Bex.of_but {g : Nat} {w w' : World} (h : But g w w') : Bex g w w' := ⟨h.os, h.tape, h.output, Nat.le_of_eq h.size.symm, fun k _ hne => h.block k hne⟩
theorem Bex.drew {g : Nat} {w w' : World} (h : Bex g w w') : Bex g w w'.drew := ⟨h.os, h.tape, h.output, h.size, h.block⟩
theorem Bex.drewN {g : Nat} {w w' : World} (h : Bex g w w') (n : Nat) : Bex g w (w'.drewN n) := ⟨h.os, h.tape, h.output, h.size, h.block⟩
theorem Bex.alloc {g : Nat} {w w' : World} (h : Bex g w w') (o : Obj) : Bex g w (w'.alloc o) :=
  ⟨h.os, h.tape, h.output, by have := h.size; simp; omega, fun k hk hne => (Below.heap_alloc w' o k (Nat.lt_of_lt_of_le hk h.size)).trans (h.block k hk hne)⟩
theorem Bex.setCell {g : Nat} {w w' : World} (h : Bex g w w') (k : Nat) (v : Value) : Bex g w (w'.setCell ⟨g, k, none⟩ v) := h.trans (Bex.of_but ((But.refl g w').setCell k v))
theorem Bex.butNew {g c : Nat} {w w1 w2 : World} (h : Bex g w w1) (k : But c w1 w2) (hc : w.heap.size ≤ c) : Bex g w w2 :=
  ⟨k.os.trans h.os, k.tape.trans h.tape, k.output.trans h.output, by rw [k.size]; exact h.size, fun i hi hne => (k.block i (by omega)).trans (h.block i hi hne)⟩
theorem Bex.blk {g c : Nat} {w w' : World} {cs : List Value} {T : TypeId} (h : Bex g w w') (hc : Blk w c cs T) (hne : c ≠ g) : Blk w' c cs T := (h.block c hc.lt hne).trans hc
theorem Bex.below {g B : Nat} {w w' : World} (h : Bex g w w') (hg : B ≤ g) (hB : B ≤ w.heap.size) : Below B w w' :=
  ⟨h.os, h.tape, h.output, h.size, fun k hk => h.block k (by omega) (by omega)⟩
theorem w64 (n : Int) (h : -9223372036854775808 ≤ n ∧ n ≤ 9223372036854775807) : wrap64 n = n := by unfold wrap64; omega
theorem run_sliceAt_all {P : Program} {t e : TypeId} {n : Nat} (ht : P.underlying t = some (.array n e)) (he : (P.info? e).map (·.size) = some 1) (hn : 0 < n) (g o : Nat) (w : World) :
    (Instr.sliceAt t (.pointer (some ⟨g, o, none⟩)) none none none).run P w = .ok (.slice (some ⟨g, o, none⟩) n n) w := by
  have e1 : P.arrayLen t = n := by simp [Program.arrayLen, ht]
  have e2 : P.elem t = e := by simp [Program.elem, ht]
  rw [run_sliceAt_array_all (P := P) w t ⟨g, o, none⟩ (by rw [e1, e2]; exact ht), e1, e2]
  cases hq : P.info? e with
  | none => simp [hq] at he
  | some i =>
    have hs : i.size = 1 := by simpa [hq] using he
    have hz : (sizeOf e).run P w = .ok 1 w := by simp [sizeOf, typeInfo, hq, hs]
    have hne : n ≠ 0 := by omega
    simp [hz, slicedAt, Result.andThen, hne, Addr.add_mid]
theorem bvs_oneL (v : List Nat) : ∀ x ∈ bvs v, x.oneCell' = true := by
  intro x hx
  simp only [bvs, List.mem_map] at hx
  obtain ⟨n, _, rfl⟩ := hx; rfl
/-- A slice of bytes that lies in block bb (whatever it is, where it has none). -/
structure Bsl (w : World) (p : Option Addr) (bb bo : Nat) (bs : List Nat) (cap : Nat) : Prop where
  byte : ∀ x ∈ bs, x < 256
  le : bs.length ≤ cap
  ptr : 0 < bs.length → p = some ⟨bb, bo, none⟩ ∧ bb < w.heap.size
  here : BytesAt w bb bo bs
theorem run_slice_arr_l {P : Program} {t e : TypeId} {n : Nat} (ht : P.underlying t = some (.array n e)) (he : (P.info? e).map (·.size) = some 1) (g o : Nat) {l : Nat} (h3 : l < n) (w : World) :
    (Instr.sliceAt t (.pointer (some ⟨g, o, none⟩)) (some (.int .i64 (l : Int))) none none).run P w = .ok (.slice (some ⟨g, o + l, none⟩) (n - l) (n - l)) w := by
  have e1 : P.arrayLen t = n := by simp [Program.arrayLen, ht]
  have e2 : P.elem t = e := by simp [Program.elem, ht]
  rw [run_sliceAt_array_l (P := P) w t ⟨g, o, none⟩ (by rw [e1, e2]; exact ht) .i64 (l : Int) (by omega) (by rw [e1]; omega), e1, e2]
  cases hq : P.info? e with
  | none => simp [hq] at he
  | some i =>
    have hs : i.size = 1 := by simpa [hq] using he
    have hz : (sizeOf e).run P w = .ok 1 w := by simp [sizeOf, typeInfo, hq, hs]
    have hne : n ≠ l := by omega
    simp [hz, slicedAt, Result.andThen, hne, Addr.add_mid]
theorem info_byte : (Tryz.prog.info? 5).map (fun i => (i.zero, i.size, i.bytes)) = some (some (.int .u8 0), 1, 1) := by kernel_rfl
theorem info_parts {t : TypeId} {z : Value} {n m : Nat} (h : (Tryz.prog.info? t).map (fun i => (i.zero, i.size, i.bytes)) = some (some z, n, m)) : ∃ i, Tryz.prog.info? t = some i ∧ i.zero = some z ∧ i.size = n ∧ i.bytes = m := by
  cases hq : Tryz.prog.info? t with
  | none => simp [hq] at h
  | some i =>
    simp [hq] at h
    exact ⟨i, rfl, h.1, h.2.1, h.2.2⟩
theorem own_nothing (w : World) : (w.alloc (.cells #[] 5)).ownsRow w.heap.size 5 1 (.slice (some ⟨w.heap.size, 0, none⟩) 0 0) 0 [] :=
  ⟨rfl, .inr ⟨w.heap.size, 0, #[], rfl, Nat.le_refl _, heap_alloc_new w _, by decide, by decide, rfl, rfl⟩⟩
/-- A slice of bytes in a row of its own that may be written. -/
def OwnB (B : Nat) (w : World) (p : Option Addr) (bs : List Nat) (cap : Nat) : Prop :=
  bs.length ≤ cap ∧ (0 < bs.length → ∃ g rest, p = some ⟨g, 0, none⟩ ∧ B ≤ g ∧ Blk w g (bvs bs ++ rest) 5)
theorem OwnB.of {B : Nat} {w : World} {v : Value} {bs : List Nat} (h : w.ownsRow B 5 1 v (0 + bs.length) ([] ++ bvs bs)) : ∃ p cap, v = .slice p bs.length cap ∧ OwnB B w p bs cap := by
  rw [Nat.zero_add, List.nil_append] at h
  rcases h.2 with ⟨h1, h2⟩ | ⟨g, cap, cur, h1, h2, h3, h4, _, _, h7⟩
  · exact ⟨none, 0, by rw [h1, h2], by omega, fun h0 => absurd h2 (by omega)⟩
  · refine ⟨some ⟨g, 0, none⟩, cap, h1, h4, fun _ => ⟨g, cur.toList.drop bs.length, rfl, h2, ?_⟩⟩
    rw [Nat.mul_one] at h7
    unfold Blk
    rw [h3, ← h7, List.take_append_drop]
structure ByS (w : World) (a : Option Addr) (cap : Nat) (L : List Nat) : Prop where
  byte : ∀ x ∈ L, x < 256
  le : L.length ≤ cap
  none : a = none → cap = 0
  cell : ∀ x, a = some x → ∀ i, i < L.length → w.cell? (x.add i) = some (.int .u8 (L.getD i 0 : Nat))
theorem ByS.below {w w' : World} {a : Option Addr} {cap : Nat} {L : List Nat} (h : ByS w a cap L) (hB : Below w.heap.size w w') : ByS w' a cap L :=
  ⟨h.byte, h.le, h.none, fun x hx i hi => (hB.cell (cell_lt (h.cell x hx i hi))).trans (h.cell x hx i hi)⟩
theorem getD_take {L : List Nat} {k i : Nat} (h : i < k) : (L.take k).getD i 0 = L.getD i 0 := by
  rw [List.getD_eq_getElem?_getD, List.getD_eq_getElem?_getD, List.getElem?_take_of_lt h]
theorem ByS.bsl {w : World} {a : Option Addr} {cap : Nat} {L : List Nat} (h : ByS w a cap L) (k : Nat) (hk : k ≤ L.length) : ∃ bb bo, Bsl w a bb bo (L.take k) cap := by
  have hl : (L.take k).length = k := by rw [List.length_take]; omega
  by_cases h0 : 0 < k
  · cases ha : a with
    | none =>
      have h1 := h.none ha
      have h2 := h.le
      omega
    | some x =>
      have hc := h.cell x ha
      have hsp : x.spot = .none := by
        have h1 := World.cell?_spot (hc 0 (by omega))
        simpa [Addr.add] using h1
      have hlt : x.block < w.heap.size := by
        have h1 := cell_lt (hc 0 (by omega))
        simpa [Addr.add] using h1
      obtain ⟨bb, bo, sp⟩ := x
      simp only at hsp hlt
      subst hsp
      refine ⟨bb, bo, ⟨fun y hy => h.byte y (List.mem_of_mem_take hy), by have := h.le; omega, fun _ => ⟨rfl, hlt⟩, fun i hi => ?_⟩⟩
      rw [hl] at hi
      have h1 := hc i (by omega)
      rw [getD_take hi, ← h1]
      congr 1
      unfold Addr.add
      split
      · rename_i hi0; rw [hi0]; rfl
      · rfl
  · exact ⟨0, 0, ⟨fun y hy => h.byte y (List.mem_of_mem_take hy), by have := h.le; omega, fun h1 => by omega, fun i hi => by omega⟩⟩
theorem elem_bytes : Tryz.prog.elem 35 = 5 := by kernel_rfl
theorem run_size_byte (w : World) : (sizeOf 5).run Tryz.prog w = .ok 1 w := by kernel_rfl
theorem under_bytes : Tryz.prog.underlying 35 = some (.slice (Tryz.prog.elem 35)) := by kernel_rfl
/-- A part's address. -/
def partA (a : Option Addr) (cap k : Nat) : Option Addr := if cap = k then a else a.map (·.add k)
theorem run_part_lh (a : Option Addr) (len cap k n k2 : Nat) (e : k2 = k + n) (h : k2 ≤ cap) (w : World) : (Instr.sliceAt 35 (.slice a len cap) (some (.int .i64 (k : Int))) (some (.int .i64 (k2 : Int))) none).run Tryz.prog w = .ok (.slice (partA a cap k) n (cap - k)) w := by
  rw [run_sliceAt_slice (h := under_bytes), run_slice_lh (ht := under_bytes) (l := (k : Int)) (h := (k2 : Int)) (h0 := by omega) (h1 := by omega) (h2 := by omega), elem_bytes, run_size_byte]
  simp only [Result.andThen_ok, sliced, Nat.mul_one]
  rw [show (k2 : Int).toNat - (k : Int).toNat = n by omega, show (k : Int).toNat = k by omega]
  rfl
theorem run_part_h (a : Option Addr) (len cap n : Nat) (h : n ≤ cap) (w : World) : (Instr.sliceAt 35 (.slice a len cap) none (some (.int .i64 (n : Int))) none).run Tryz.prog w = .ok (.slice a n cap) w := by
  rw [run_sliceAt_slice (h := under_bytes), run_slice_h (ht := under_bytes) (h := (n : Int)) (h0 := by omega) (h2 := by omega), elem_bytes, run_size_byte]
  simp only [Result.andThen_ok, sliced, Nat.sub_zero]
  rw [show (n : Int).toNat = n by omega]
  congr 2
  split
  · rfl
  · cases a <;> rfl
/-- Bytes that came in are hung onto a row of one's own. -/
theorem wpList_append_byS {ops : Array Oper} {rest : List Oper} {o : Oper} {a : Act} {w : World} {Q : Exit → Act → World → Prop} (hgd : o.guard = none) (s x : Operand)
    (ho : o.op = .call { callee := .builtin .append, args := #[s, x], argTypes := #[35, 35] }) (base n : Nat) (xs : List Value) (v : Value) (hs : a.eval s = v)
    (hown : w.ownsRow base 5 1 v n xs) (p : Option Addr) (cap : Nat) (L : List Nat) (hx : a.eval x = .slice p L.length cap) (hb : ByS w p cap L) (hn : n + L.length ≤ 4000000) (hbase : base ≤ w.heap.size)
    (h : ∀ v' w', w'.ownsRow base 5 1 v' (n + L.length) (xs ++ bvs L) → w.grownBy w' v.ownBlock → wpList Tryz.prog ops Q rest (a.put o.dst v') w') : wpList Tryz.prog ops Q (o :: rest) a w := by
  obtain ⟨i0, hi, hz0, hz1, hz2⟩ := info_parts info_byte
  cases hp : p with
  | none =>
    have h1 := hb.none hp
    have h2 := hb.le
    have hL : L = [] := List.eq_nil_of_length_eq_zero (by omega)
    subst hL
    refine wpList_append_own_none hgd s x 35 ho base 5 i0 1 Tryz.underlying35 hi v n xs hs hown (by rw [hx, hp, h1]; rfl) ?_
    exact h v w (by simpa [bvs] using hown) ⟨rfl, rfl, rfl, Nat.le_refl _, fun _ _ _ => rfl⟩
  | some y =>
    exact wpList_append_own _ hgd s x 35 ho base 5 i0 (.int .u8 0) 1 1 Tryz.underlying35 hi hz0 hz1 hz2 rfl (by decide) v n xs hs hown y L.length cap (bvs L) (by rw [hx, hp]) (by rw [bvs_len, Nat.mul_one])
      (fun j u hj => by
        have hj1 : j < L.length := by
          rcases Nat.lt_or_ge j L.length with h1 | h1
          · exact h1
          · rw [List.getElem?_eq_none (by rw [bvs_len]; exact h1)] at hj; cases hj
        rw [hb.cell y hp j hj1, ← hj, bvs_get hj1]) (bvs_oneL _) (by unfold maxLen; omega) (by omega) hbase (fun v' w' h1 h2 _ => h v' w' h1 h2)
/-- A whole array is loaded in a region's head that only reads. -/
theorem wpStill_load_blk {P : Program} {ops : Array Oper} {w : World} {Q : Act → Prop} {a : Act} {o : Oper} {rest : List Oper} (hgd : o.guard = none) (ty : TypeId) (x : Operand) (ho : o.op = .load ty x)
    (b : Nat) (cs : List Value) (T : TypeId) (hx : a.eval x = .pointer (some ⟨b, 0, none⟩)) (hb : Blk w b cs T) (d : TypeDesc) (hu : P.underlying ty = some d) (hd : d.isRow = true) (hi : (P.info? ty).map (·.size) = some cs.length)
    (h : wpStill P ops w Q rest (a.put o.dst (.agg cs.toArray))) : wpStill P ops w Q (o :: rest) a := by
  have hw : Region.wanted o (yielded ops a.tmps) = true := by unfold Region.wanted; rw [hgd]
  have hl := run_loadVar_mid (P := P) w b 0 ty cs d (fun j v hj => by rw [Nat.zero_add]; exact (hb.cell j).trans hj) hu hd hi
  refine wpStill_step (fun K hK => ?_)
  rw [if_pos hw]
  unfold Oper.still execOp
  simp only [ho, hx, Instr.loadAt, Instr.sureAddr, Sem.run_bind, Sem.run_pure, Result.andThen_ok, hl, Oper.stillUpon]
  exact ⟨trivial, hK _ h⟩

end Go.Proofs.YtcmkmnidnapabaaGreat

/-! Xa: Two small laws on worlds. -/
namespace Go.Proofs.YtcmkmnidnapabaaGreat
open Go.RowKit
theorem _root_.Go.RowKit.Below.blk' {w w' : World} {b : Nat} {cs : List Value} {T : TypeId} (h : Below w.heap.size w w') (hb : Blk w b cs T) : Blk w' b cs T := hb.below h hb.lt
theorem _root_.Go.RowKit.Below.atNew {w w1 w2 : World} (h : Below w.heap.size w w1) (hx : Bex w.heap.size w1 w2) : Below w.heap.size w w2 :=
  h.trans (hx.below (Nat.le_refl _) h.size)
end Go.Proofs.YtcmkmnidnapabaaGreat

/-! Jb: Contracts of what is made of bytes: wordOf, leadOf, numOf, boolOf. -/
namespace Go.Proofs.YtcmkmnidnapabaaGreat
open Go.RowKit Go.Lib Go.Maps

/-- The number of bytes, the highest first. -/
def valL (L : List Nat) : Nat := L.foldl (fun n d => n * 256 + d) 0
theorem valL_snoc (L : List Nat) (d : Nat) : valL (L ++ [d]) = valL L * 256 + d := by unfold valL; rw [List.foldl_append]; rfl
theorem valL_lt {L : List Nat} (h : ∀ x ∈ L, x < 256) : valL L < 256 ^ L.length := by
  have key : ∀ (L : List Nat) (n m : Nat), (∀ x ∈ L, x < 256) → n < 256 ^ m → L.foldl (fun n d => n * 256 + d) n < 256 ^ (m + L.length) := by
    intro L
    induction L with
    | nil => intro n m _ h; simpa using h
    | cons a L ih =>
      intro n m hb h
      have ha := hb a (by simp)
      rw [List.foldl_cons, List.length_cons, show m + (L.length + 1) = (m + 1) + L.length by omega]
      refine ih _ _ (fun x hx => hb x (by simp [hx])) ?_
      rw [Nat.pow_succ]; omega
  have := key L 0 0 h (by simp)
  rw [Nat.zero_add] at this
  exact this
theorem take_succ_get {L : List Nat} {k : Nat} (h : k < L.length) : L.take (k + 1) = L.take k ++ [L.getD k 0] := by
  rw [List.take_add_one, List.getElem?_eq_getElem h, List.getD_eq_getElem?_getD, List.getElem?_eq_getElem h]
  rfl
theorem valL_step {L : List Nat} {k : Nat} (h : k < L.length) : valL (L.take (k + 1)) = valL (L.take k) * 256 + L.getD k 0 := by rw [take_succ_get h, valL_snoc]
theorem valL_take_lt {L : List Nat} (h : ∀ x ∈ L, x < 256) {k : Nat} (hk : k < L.length) (h8 : L.length ≤ 8) : valL (L.take k) < 72057594037927936 := by
  have h1 := valL_lt (L := L.take k) (fun x hx => h x (List.mem_of_mem_take hx))
  have h2 : (L.take k).length ≤ 7 := by rw [List.length_take]; omega
  have h3 : 256 ^ (L.take k).length ≤ 256 ^ 7 := Nat.pow_le_pow_right (by decide) h2
  omega
theorem valL_word {L : List Nat} (h : ∀ x ∈ L, x < 256) (h8 : L.length ≤ 8) : valL L < 18446744073709551616 := by
  have h1 := valL_lt h
  have h3 : 256 ^ L.length ≤ 256 ^ 8 := Nat.pow_le_pow_right (by decide) h8
  omega

/-- Bytes lie in memory behind a slice. -/
structure Bs (w : World) (p : Option Addr) (b o : Nat) (L : List Nat) (cap : Nat) : Prop where
  byte : ∀ x ∈ L, x < 256
  le : L.length ≤ cap
  ptr : 0 < cap → p = some ⟨b, o, none⟩ ∧ b < w.heap.size
  here : BytesAt w b o L
theorem Bs.below {w w' : World} {p : Option Addr} {b o cap : Nat} {L : List Nat} (h : Bs w p b o L cap) (hB : Below w.heap.size w w') : Bs w' p b o L cap :=
  ⟨h.byte, h.le, fun h0 => ⟨(h.ptr h0).1, Nat.lt_of_lt_of_le (h.ptr h0).2 hB.size⟩, fun i hi => (hB.cell (p := ⟨b, o + i, none⟩) (h.ptr (by have := h.le; omega)).2).trans (h.here i hi)⟩
theorem Bs.drewN {w : World} {p : Option Addr} {b o cap : Nat} {L : List Nat} (h : Bs w p b o L cap) (n : Nat) : Bs (w.drewN n) p b o L cap := ⟨h.byte, h.le, h.ptr, h.here⟩
theorem Bs.cell {w : World} {p : Option Addr} {b o cap : Nat} {L : List Nat} (h : Bs w p b o L cap) {i : Nat} (hi : i < L.length) : w.cell? ⟨b, o + i, none⟩ = some (.int .u8 (L.getD i 0 : Nat)) := h.here i hi
theorem Bs.get {w : World} {p : Option Addr} {b o cap : Nat} {L : List Nat} (h : Bs w p b o L cap) (i : Nat) : L.getD i 0 < 256 := by
  rw [List.getD_eq_getElem?_getD]
  cases hi : L[i]? with
  | none => show 0 < 256; decide
  | some x => exact h.byte x (List.mem_of_getElem? hi)

set_option maxHeartbeats 1000000 in
theorem wordOf_any (p : Option Addr) (b o cap : Nat) (L : List Nat) (w : World) (h : Bs w p b o L cap) (h8 : L.length ≤ 8) :
    Calls Tryz.prog 228 #[.slice p L.length cap] w fun e w' => e = .returned (.int .u64 (valL L : Nat)) ∧ w = w' := by
  by_cases h0 : 0 < L.length
  · obtain ⟨rfl, hlt⟩ := h.ptr (by have := h.le; omega)
    have H := hidp h
    have H8 := hidp h8
    clear h h8 hlt h0
    go_enter Tryz.func228, Tryz.ntmps228
    go_wp2
    go_loopw [3, 8] (fun x i wr => ∃ k : Nat, k ≤ L.length ∧ i = .int .i64 k ∧ x = .int .u64 (valL (L.take k) : Nat) ∧ w = wr) (fun _ i _ => L.length - (Go.RowKit.intOf i).toNat)
    case atStart => exact ⟨0, by omega, rfl, rfl, rfl⟩
    case round =>
      obtain ⟨k, hk, rfl, rfl, rfl⟩ := hrel
      by_cases hlt : k < L.length
      · have hc := H.out.cell hlt
        have hd := H.out.get k
        have hv := valL_take_lt H.out.byte hlt H8.out
        have hs := hidp (valL_step hlt)
        have hor := bits_or_u64_nat (valL (L.take k) * 256) (L.getD k 0) (by omega) (by omega)
        have h256 := or_add (a := valL (L.take k)) (b := L.getD k 0) (k := 8) hd
        rw [show (2 : Nat) ^ 8 = 256 from rfl] at h256
        generalize L.getD k 0 = d at hc hd hs hor h256
        generalize valL (L.take k) = v at hv hs hor h256
        have hnew : Hid (bits .or .u64 ((v : Int) * 256) (d : Int) = ((valL (L.take (k + 1)) : Nat) : Int)) := hidp (by
          rw [show (v : Int) * 256 = ((v * 256 : Nat) : Int) by omega, hor, h256, hs.out])
        have hsh : IntKind.u64.wrap ((v : Int) * 256) = (v : Int) * 256 := by rw [IntKind.wrap_u64]; omega
        have hsh2 : (v : Int) * 256 % 18446744073709551616 = (v : Int) * 256 := by omega
        have hl8 := H8.out
        clear hor h256 hs hv
        go_wp2
        exact ⟨⟨k + 1, by omega, by go_num, by rw [hnew.out], trivial⟩, by simp [Go.RowKit.intOf]; omega⟩
      · obtain rfl : k = L.length := by omega
        go_wp2
        go_ret
        exact ⟨by simp, rfl⟩
  · obtain rfl : L = [] := List.eq_nil_of_length_eq_zero (by omega)
    clear h h8 h0
    go_enter Tryz.func228, Tryz.ntmps228
    go_wp2
    go_loopw [3, 8] (fun x i wr => i = .int .i64 0 ∧ x = .int .u64 0 ∧ w = wr) (fun _ _ _ => 0)
    case atStart => exact ⟨rfl, rfl, rfl⟩
    case round =>
      obtain ⟨rfl, rfl, rfl⟩ := hrel
      go_wp2
      go_ret
      exact ⟨rfl, rfl⟩

/-- What a panic carries that ends an element. -/
def brk (x : Nat) : List PanicEntry := [{ v := .iface 296 (.int .i64 (x : Nat)), recovered := false }]

theorem leadOf_ok (p : Option Addr) (b o cap x : Nat) (w : World) (h : Bs w p b o [x] cap) (h8 : x ≤ 8) :
    Calls Tryz.prog 219 #[.slice p 1 cap] w fun e w' => e = .returned (.int .i64 (x : Nat)) ∧ w = w' := by
  obtain ⟨rfl, hlt⟩ := h.ptr (by have := h.le; simp at this; omega)
  have hc : w.cell? ⟨b, o, none⟩ = some (.int .u8 (x : Nat)) := h.cell (i := 0) (by simp)
  have hx : ((8 : Int) < (x : Int)) = False := by simp; omega
  have hx2 : (x : Int) ≤ 8 := by omega
  clear h hlt h8
  go_enter Tryz.func219, Tryz.ntmps219
  go_wp2
  go_ret
  exact ⟨rfl, rfl⟩
theorem leadOf_bad (p : Option Addr) (b o cap x : Nat) (w : World) (h : Bs w p b o [x] cap) (h8 : 8 < x) :
    Calls Tryz.prog 219 #[.slice p 1 cap] w fun e w' => e = .panicked (brk 5) ∧ w = w' := by
  obtain ⟨rfl, hlt⟩ := h.ptr (by have := h.le; simp at this; omega)
  have hc : w.cell? ⟨b, o, none⟩ = some (.int .u8 (x : Nat)) := h.cell (i := 0) (by simp)
  have hx2 : decide ((8 : Int) < (x : Int)) = true := decide_eq_true (by omega)
  clear h hlt h8
  go_enter Tryz.func219, Tryz.ntmps219
  go_wp2
  exact ⟨rfl, rfl, rfl⟩

/-- Is a number's first digit 0, or the number too great? -/
def badN (L : List Nat) : Prop := (0 < L.length ∧ L.getD 0 0 = 0) ∨ 9223372036854775807 < valL L
def maxI : Nat := 9223372036854775807
theorem numOf_ok (p : Option Addr) (b o cap : Nat) (L : List Nat) (w : World) (h : Bs w p b o L cap) (h8 : L.length ≤ 8) (hb : ¬ badN L) :
    Calls Tryz.prog 220 #[.slice p L.length cap] w fun e w' => e = .returned (.int .i64 (valL L : Nat)) ∧ w = w' := by
  have hw := hidp (wordOf_any p b o cap L w h h8)
  have hv : valL L ≤ 9223372036854775807 := Nat.le_of_not_lt fun h1 => hb (.inr h1)
  have hgt : decide ((9223372036854775807 : Int) < ((valL L : Nat) : Int)) = false := decide_eq_false (by omega)
  have hcv : wrap64 ((valL L : Nat) : Int) = ((valL L : Nat) : Int) := by unfold wrap64; omega
  have hcv2 : IntKind.i64.wrap ((valL L : Nat) : Int) = ((valL L : Nat) : Int) := by rw [IntKind.wrap_i64]; omega
  by_cases h0 : 0 < L.length
  · obtain ⟨rfl, hlt⟩ := h.ptr (by have := h.le; omega)
    have hc : w.cell? ⟨b, o, none⟩ = some (.int .u8 (L.getD 0 0 : Nat)) := h.cell (i := 0) h0
    have hd : (((L.getD 0 0 : Nat) : Int) == 0) = false := by
      rw [beq_eq_false_iff_ne]
      intro h1; exact hb (.inl ⟨h0, by omega⟩)
    have hl : (0 : Int) < (L.length : Int) := by omega
    have hl2 : 0 < L.length := h0
    generalize L.getD 0 0 = d at hc hd
    generalize valL L = v at hw hgt hcv hcv2
    clear h hlt hb hv
    go_enter Tryz.func220, Tryz.ntmps220
    go_wp2_with (go_at_call 228; refine hw.out.mono ?_; rintro e w1 ⟨rfl, rfl⟩)
    go_ret
    exact ⟨rfl, rfl⟩
  · have hl : decide ((0 : Int) < (L.length : Int)) = false := decide_eq_false (by omega)
    have hl2 : ¬ 0 < L.length := h0
    generalize valL L = v at hw hgt hcv hcv2
    clear h hb hv h0
    go_enter Tryz.func220, Tryz.ntmps220
    go_wp2_with (go_at_call 228; refine hw.out.mono ?_; rintro e w1 ⟨rfl, rfl⟩)
    go_ret
    exact ⟨rfl, rfl⟩
theorem numOf_bad (p : Option Addr) (b o cap : Nat) (L : List Nat) (w : World) (h : Bs w p b o L cap) (h8 : L.length ≤ 8) (hb : badN L) :
    Calls Tryz.prog 220 #[.slice p L.length cap] w fun e w' => e = .panicked (brk 5) ∧ w = w' := by
  have hw := hidp (wordOf_any p b o cap L w h h8)
  have h0 : 0 < L.length := by
    rcases hb with hb | hb
    · exact hb.1
    · rcases Nat.eq_zero_or_pos L.length with h1 | h1
      · rw [List.eq_nil_of_length_eq_zero h1] at hb
        exact absurd hb (by decide)
      · exact h1
  obtain ⟨rfl, hlt⟩ := h.ptr (by have := h.le; omega)
  have hc : w.cell? ⟨b, o, none⟩ = some (.int .u8 (L.getD 0 0 : Nat)) := h.cell (i := 0) h0
  have hl : (0 : Int) < (L.length : Int) := by omega
  by_cases hz : L.getD 0 0 = 0
  · have hd : (((L.getD 0 0 : Nat) : Int) == 0) = true := by rw [beq_iff_eq]; omega
    generalize L.getD 0 0 = d at hc hd
    generalize valL L = v at hw
    clear h hlt hb hz
    go_enter Tryz.func220, Tryz.ntmps220
    go_wp2_with (go_at_call 228; refine hw.out.mono ?_; rintro e w1 ⟨rfl, rfl⟩)
    exact ⟨rfl, rfl, rfl⟩
  · have hd : (((L.getD 0 0 : Nat) : Int) == 0) = false := by rw [beq_eq_false_iff_ne]; omega
    have hv : 9223372036854775807 < valL L := by
      rcases hb with hb | hb
      · exact absurd hb.2 hz
      · exact hb
    have hgt : decide ((9223372036854775807 : Int) < ((valL L : Nat) : Int)) = true := decide_eq_true (by omega)
    generalize L.getD 0 0 = d at hc hd
    generalize valL L = v at hw hgt
    clear h hlt hb hz hv
    go_enter Tryz.func220, Tryz.ntmps220
    go_wp2_with (go_at_call 228; refine hw.out.mono ?_; rintro e w1 ⟨rfl, rfl⟩)
    exact ⟨rfl, rfl, rfl⟩

end Go.Proofs.YtcmkmnidnapabaaGreat
