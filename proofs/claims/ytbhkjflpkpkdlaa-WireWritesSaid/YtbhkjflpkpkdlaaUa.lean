/-
  Texts Va, Vb, Vc, Xb, Vd, one behind the other.
-/
import Derived.Test.YtbhkjflpkpkdlaaQa
import Derived.Lib.Bytealg
import Derived.Lib.BytesEntry
import Derived.Laws.StructEq

/-! Va: Keys as numbers, validators; which of two keys is less. -/
namespace Go.Proofs.Ytbhkjflpkpkdlaa
open Go.RowKit Go.Lib

/-- A key's byte. -/
def kd (k i : Nat) : Nat := k / 256 ^ i % 256
theorem kd_lt (k i : Nat) : kd k i < 256 := Nat.mod_lt _ (by decide)
/-- A key's bytes. -/
def kb (k : Nat) : List Nat := [kd k 3, kd k 2, kd k 1, kd k 0]
theorem kb_bytes (k : Nat) : Bytes 4 (kb k) := ⟨rfl, by
  intro x hx
  simp only [kb, List.mem_cons, List.not_mem_nil, or_false] at hx
  rcases hx with rfl | rfl | rfl | rfl <;> exact kd_lt _ _⟩
/-- A validator: a key, below 2^32, and a power. -/
structure Vd where
  k : Nat
  p : Int
  deriving DecidableEq
structure VdOk (v : Vd) : Prop where
  k : v.k < 4294967296
  p : -9223372036854775808 ≤ v.p ∧ v.p ≤ 9223372036854775807
/-- Its cells. -/
def vL (v : Vd) : List Value := [.int .u8 (kd (v).k 3 : Nat), .int .u8 (kd (v).k 2 : Nat), .int .u8 (kd (v).k 1 : Nat), .int .u8 (kd (v).k 0 : Nat), .int .i64 (v).p]
def cmpK (a b : Nat) : Int := if a < b then -1 else if b < a then 1 else 0
theorem kd_sum (k : Nat) (h : k < 4294967296) : k = kd k 3 * 16777216 + kd k 2 * 65536 + kd k 1 * 256 + kd k 0 := by
  unfold kd
  simp only [Nat.reducePow]
  omega
def cmpL : List Nat → List Nat → Int
  | [], [] => 0
  | [], _ :: _ => -1
  | _ :: _, [] => 1
  | a :: r, b :: q => if a < b then -1 else if b < a then 1 else cmpL r q
theorem cmp_key (a b : Nat) (ha : a < 4294967296) (hb : b < 4294967296) : cmpL (kb a) (kb b) = cmpK a b := by
  have h1 := kd_sum a ha
  have h2 := kd_sum b hb
  have a0 := kd_lt a 0; have a1 := kd_lt a 1; have a2 := kd_lt a 2
  have b0 := kd_lt b 0; have b1 := kd_lt b 1; have b2 := kd_lt b 2
  unfold kb cmpK
  simp only [cmpL]
  generalize kd a 3 = x3 at *; generalize kd a 2 = x2 at *; generalize kd a 1 = x1 at *; generalize kd a 0 = x0 at *
  generalize kd b 3 = y3 at *; generalize kd b 2 = y2 at *; generalize kd b 1 = y1 at *; generalize kd b 0 = y0 at *
  subst h1 h2
  (repeat' split) <;> first | rfl | omega
theorem kb_inj {a b : Nat} (ha : a < 4294967296) (hb : b < 4294967296) (h : kb a = kb b) : a = b := by
  have h1 := kd_sum a ha
  have h2 := kd_sum b hb
  simp only [kb, List.cons.injEq, and_true] at h
  rw [h1, h2, h.1, h.2.1, h.2.2.1, h.2.2.2]
/-- The key of four bytes. -/
def kOf (X : List Nat) : Nat := X.getD 0 0 * 16777216 + X.getD 1 0 * 65536 + X.getD 2 0 * 256 + X.getD 3 0
theorem kb_kOf {X : List Nat} (h : Bytes 4 X) : kb (kOf X) = X ∧ kOf X < 4294967296 := by
  obtain ⟨hl, hb⟩ := h
  match X, hl with
  | [a, b, c, d], _ =>
    have h0 := hb a (by simp); have h1 := hb b (by simp); have h2 := hb c (by simp); have h3 := hb d (by simp)
    have e : kOf [a, b, c, d] = a * 16777216 + b * 65536 + c * 256 + d := rfl
    rw [e]
    unfold kb kd
    simp only [Nat.reducePow]
    refine ⟨?_, by omega⟩
    rw [show (a * 16777216 + b * 65536 + c * 256 + d) / 16777216 % 256 = a by omega, show (a * 16777216 + b * 65536 + c * 256 + d) / 65536 % 256 = b by omega, show (a * 16777216 + b * 65536 + c * 256 + d) / 256 % 256 = c by omega, show (a * 16777216 + b * 65536 + c * 256 + d) / 1 % 256 = d by omega]

theorem ofNat_lt {a b : Nat} (ha : a < 256) (hb : b < 256) : (UInt8.ofNat a < UInt8.ofNat b) ↔ a < b := by
  rw [UInt8.lt_iff_toNat_lt, UInt8.toNat_ofNat_of_lt' ha, UInt8.toNat_ofNat_of_lt' hb]
theorem cmp_bytes : ∀ (a b : List Nat), (∀ x ∈ a, x < 256) → (∀ x ∈ b, x < 256) → compareBytes (a.map UInt8.ofNat) (b.map UInt8.ofNat) = cmpL a b
  | [], [], _, _ => rfl
  | [], _ :: _, _, _ => rfl
  | _ :: _, [], _, _ => rfl
  | x :: a, y :: b, ha, hb => by
    have h1 := ofNat_lt (ha x (by simp)) (hb y (by simp))
    have h2 := ofNat_lt (hb y (by simp)) (ha x (by simp))
    have ih := cmp_bytes a b (fun z hz => ha z (by simp [hz])) (fun z hz => hb z (by simp [hz]))
    simp only [List.map_cons, compareBytes, cmpL, ih, h1, h2]
def toBy (v : List Nat) : ByteArray := ⟨(v.map UInt8.ofNat).toArray⟩
theorem run_bytesOfB (v : List Nat) (b cap : Nat) (w : World) (hw : BytesAt w b 0 v) : (Extern.Bytes.bytesOf (.slice (some ⟨b, 0, none⟩) v.length cap)).run Try.prog w = .ok (toBy v) w := by
  have h := run_loadBytesX (P := Try.prog) w (v.map fun x : Nat => (x : Int)) ⟨b, 0, none⟩ .empty (fun j x hj => by
    rw [List.getElem?_map] at hj
    have hjl : j < v.length := by
      rcases Nat.lt_or_ge j v.length with h1 | h1
      · exact h1
      · rw [List.getElem?_eq_none h1] at hj; cases hj
    have e := hw j hjl
    rw [Nat.zero_add] at e
    rw [Addr.add_mid, Nat.zero_add, e]
    rw [List.getElem?_eq_getElem hjl] at hj
    rw [List.getD_eq_getElem?_getD, List.getElem?_eq_getElem hjl]
    simp only [Option.map_some, Option.some.injEq] at hj
    rw [← hj]; rfl)
  rw [List.length_map] at h
  show (Extern.Bytes.loadBytes ⟨b, 0, none⟩ v.length .empty).run Try.prog w = _
  rw [h]
  congr 1
  apply ByteArray.ext
  unfold toBy
  simp [Lib.bytesOf]
theorem run_compareB (a b : List Nat) (ba bb ca cb : Nat) (w : World) (ha : ∀ x ∈ a, x < 256) (hb : ∀ x ∈ b, x < 256) (wa : BytesAt w ba 0 a) (wb : BytesAt w bb 0 b) :
    (callFunc 207 #[.slice (some ⟨ba, 0, none⟩) a.length ca, .slice (some ⟨bb, 0, none⟩) b.length cb]).run Try.prog w = .ok (.value (.int .i64 (cmpL a b))) w := by
  rw [run_callFunc_extern Try.func207 (by kernel_rfl) (by kernel_rfl) (by kernel_rfl) (e := Extern.BytealgCompare.compare) (by kernel_rfl)]
  have h1 := run_bytesOfB a ba ca w wa
  have h2 := run_bytesOfB b bb cb w wb
  have hc : Extern.BytealgCompare.cmp (toBy a) (toBy b) = cmpL a b := by
    rw [cmp_eq, ← cmp_bytes a b ha hb]
    congr 1 <;> simp [toBy]
  have h3 : (Extern.BytealgCompare.compare #[.slice (some ⟨ba, 0, none⟩) a.length ca, .slice (some ⟨bb, 0, none⟩) b.length cb]).run Try.prog w = .ok (.int .i64 (cmpL a b)) w := by
    change Sem.run Try.prog (do pure (goInt (Extern.BytealgCompare.cmp (← Extern.Bytes.bytesOf (.slice (some ⟨ba, 0, none⟩) a.length ca)) (← Extern.Bytes.bytesOf (.slice (some ⟨bb, 0, none⟩) b.length cb))))) w = _
    simp only [Sem.run_bind, Sem.run_pure, Result.andThen, h1, h2]
    rw [hc]; rfl
  simp [h3, Result.andThen]
theorem bcompare_any (a b : List Nat) (ba bb ca cb : Nat) (w : World) (ha : ∀ x ∈ a, x < 256) (hb : ∀ x ∈ b, x < 256) (wa : BytesAt w ba 0 a) (wb : BytesAt w bb 0 b) :
    Calls Try.prog 182 #[.slice (some ⟨ba, 0, none⟩) a.length ca, .slice (some ⟨bb, 0, none⟩) b.length cb] w fun e w' => e = .returned (.int .i64 (cmpL a b)) ∧ w' = w := by
  have hr := run_compareB a b ba bb ca cb w ha hb wa wb
  clear ha hb wa wb
  go_enter Try.func182, Try.ntmps182
  go_wp2
  go_ret
  exact ⟨rfl, rfl⟩

end Go.Proofs.Ytbhkjflpkpkdlaa

/-! Vb: What is wrong with the next validator of a list. -/
namespace Go.Proofs.Ytbhkjflpkpkdlaa
open Go.RowKit Go.Lib

def nextE (q : Option Nat) (v : Vd) (least : Int) : Nat :=
  if (match q with | none => false | some x => decide (v.k ≤ x)) = true then 9 else if v.p < least ∨ 4611686018427387904 < v.p then 3 else 0
theorem cmpK_le {a b : Nat} : cmpK a b ≤ 0 ↔ a ≤ b := by unfold cmpK; split <;> (try split) <;> omega
end Go.Proofs.Ytbhkjflpkpkdlaa

/-! Vc: Rows of validators; whether a list is a set. -/
namespace Go.Proofs.Ytbhkjflpkpkdlaa
open Go.RowKit Go.Lib

/-- A slice of validators. -/
structure Vs (w : World) (a : Option Addr) (b o cap : Nat) (l : List Vd) : Prop where
  ok : ∀ v ∈ l, VdOk v
  le : l.length ≤ cap
  ptr : 0 < cap → a = some ⟨b, o, none⟩ ∧ b < w.heap.size
  cell : ∀ i v, l[i]? = some v → ∀ j c, (vL v)[j]? = some c → w.cell? ⟨b, o + i * 5 + j, none⟩ = some c
theorem Vs.below {w w' : World} {a : Option Addr} {b o cap : Nat} {l : List Vd} (h : Vs w a b o cap l) (hB : Below w.heap.size w w') : Vs w' a b o cap l :=
  ⟨h.ok, h.le, fun h0 => ⟨(h.ptr h0).1, Nat.lt_of_lt_of_le (h.ptr h0).2 hB.size⟩, fun i v hi j c hc => (hB.cell (cell_lt (h.cell i v hi j c hc))).trans (h.cell i v hi j c hc)⟩
theorem Vs.bex {g : Nat} {w w' : World} {a : Option Addr} {b o cap : Nat} {l : List Vd} (h : Vs w a b o cap l) (hB : Bex g w w') (hne : 0 < cap → g ≠ b) : Vs w' a b o cap l :=
  ⟨h.ok, h.le, fun h0 => ⟨(h.ptr h0).1, Nat.lt_of_lt_of_le (h.ptr h0).2 hB.size⟩, fun i v hi j c hc => by
    have h0 : 0 < cap := by
      have h1 := h.le
      have h2 := (List.getElem?_eq_some_iff.1 hi).1
      omega
    have hc0 := h.cell i v hi j c hc
    rw [← hc0]
    unfold World.cell?
    simp only
    rw [hB.block b (h.ptr h0).2 (fun e => hne h0 e.symm)]⟩
theorem Vs.at {w : World} {a : Option Addr} {b o cap : Nat} {l : List Vd} (h : Vs w a b o cap l) {i : Nat} (hi : i < l.length) :
    ∃ v, l[i]? = some v ∧ VdOk v ∧ a = some ⟨b, o, none⟩ ∧ b < w.heap.size ∧ (w.cell? ⟨b, o + i * 5, none⟩ = some (.int .u8 (kd v.k 3 : Nat)) ∧ w.cell? ⟨b, o + i * 5 + 1, none⟩ = some (.int .u8 (kd v.k 2 : Nat)) ∧ w.cell? ⟨b, o + i * 5 + 2, none⟩ = some (.int .u8 (kd v.k 1 : Nat)) ∧ w.cell? ⟨b, o + i * 5 + 3, none⟩ = some (.int .u8 (kd v.k 0 : Nat)) ∧ w.cell? ⟨b, o + i * 5 + 4, none⟩ = some (.int .i64 v.p)) := by
  have hv := List.getElem?_eq_getElem hi
  have h0 : 0 < cap := by have := h.le; omega
  refine ⟨l[i], hv, h.ok _ (List.getElem_mem hi), (h.ptr h0).1, (h.ptr h0).2, h.cell i _ hv 0 _ rfl, h.cell i _ hv 1 _ rfl, h.cell i _ hv 2 _ rfl, h.cell i _ hv 3 _ rfl, h.cell i _ hv 4 _ rfl⟩

def chkFrom (least : Int) : Option Nat → List Vd → Nat
  | _, [] => 0
  | q, v :: r => if nextE q v least = 0 then chkFrom least (some v.k) r else nextE q v least
def chk (l : List Vd) : Nat := if l.length = 0 then 6 else if 64 < l.length then 4 else chkFrom 1 none l
theorem nextE_cases (q : Option Nat) (v : Vd) (least : Int) : nextE q v least = 9 ∨ nextE q v least = 3 ∨ nextE q v least = 0 := by unfold nextE; (repeat' split) <;> simp
theorem w64_nat {n : Nat} (h : n ≤ 1000000) : wrap64 ((n : Int) + 1) = ((n + 1 : Nat) : Int) := by rw [w64 _ (by omega)]; omega

end Go.Proofs.Ytbhkjflpkpkdlaa

/-! Xb: == of arrays of bytes, whatever their length; of hashes, keys. -/
namespace Go.Proofs.Ytbhkjflpkpkdlaa
open Go.RowKit Go.Lib

theorem run_part_byte (v : List Nat) (i : Nat) (hi : i < v.length) (w : World) : (part 5 (bvs v).toArray i).run Try.prog w = .ok (.int .u8 (v.getD i 0 : Nat)) w := by
  have hagg : (isAgg 5).run Try.prog w = .ok false w := by
    unfold isAgg
    rw [Sem.run_bind, run_underlying Try.underlying5 w]
    rfl
  have hg : (bvs v).toArray[i]? = some (.int .u8 (v.getD i 0 : Nat)) := by rw [List.getElem?_toArray]; exact bvs_get hi
  simp [part, hagg, hg]
set_option maxRecDepth 20000 in
theorem run_equalIn_arr {T : TypeId} {n : Nat} (hT : Try.prog.underlying T = some (.array n 5)) (d : Nat) (a b : List Nat) (ha : a.length = n) (hb : b.length = n) (w : World) : (Op.equalIn (d + 2) T (.agg (bvs a).toArray) (.agg (bvs b).toArray)).run Try.prog w = .ok (decide (a = b)) w := by
  have hs : (sizeOf 5).run Try.prog w = .ok 1 w := by
    obtain ⟨j, hj⟩ : ∃ j, Try.prog.info? 5 = some j := Option.isSome_iff_exists.1 (by kernel_rfl)
    have h1 : (Try.prog.info? 5).map (·.size) = some 1 := by kernel_rfl
    rw [hj] at h1
    simp only [Option.map_some, Option.some.injEq] at h1
    simp [sizeOf, typeInfo, hj, h1]
  have hall : decide (a = b) = (List.range' 0 n 1).all (fun i => a.getD i 0 == b.getD i 0) := by
    rw [Bool.eq_iff_iff, decide_eq_true_eq, List.all_eq_true]
    constructor
    · rintro rfl i _; exact beq_self_eq_true _
    · intro h
      apply List.ext_getElem (by omega)
      intro i h1 h2
      have := h i (by simp; omega)
      rw [beq_iff_eq, List.getD_eq_getElem?_getD, List.getD_eq_getElem?_getD, List.getElem?_eq_getElem h1, List.getElem?_eq_getElem h2] at this
      exact this
  rw [hall, Op.equalIn]
  simp only [Sem.run_bind, run_underlying hT, Result.andThen_ok, hs]
  simp only [Std.Legacy.Range.forIn_eq_forIn_range', Std.Legacy.Range.size, Nat.mul_one, Nat.sub_zero, Nat.add_one_sub_one, Nat.div_one]
  have hl : ∀ i ∈ List.range' 0 n 1, i < n := by intro i hi; simp at hi; omega
  generalize List.range' 0 n 1 = l at hl
  induction l with
  | nil => simp
  | cons i l ih =>
    have h1 := run_part_byte a i (by rw [ha]; exact hl i (by simp)) w
    have h2 := run_part_byte b i (by rw [hb]; exact hl i (by simp)) w
    have h3 : (Op.equalIn (d + 1) 5 (.int .u8 (a.getD i 0 : Nat)) (.int .u8 (b.getD i 0 : Nat))).run Try.prog w = .ok (a.getD i 0 == b.getD i 0) w := by
      rw [run_equalIn_int w d 5 .u8 .u8 _ _ Try.underlying5]
      congr 1
      rw [Bool.eq_iff_iff, beq_iff_eq, beq_iff_eq]; omega
    simp only [List.forIn_cons, Sem.run_bind, h1, h2, h3, Result.andThen_ok, List.all_cons]
    cases a.getD i 0 == b.getD i 0
    · simp
    · simp only [Bool.not_true, Bool.false_eq_true, if_false, Sem.run_pure, Result.andThen_ok, Bool.true_and]
      exact ih (fun j hj => hl j (by simp [hj]))

theorem run_eql_hash (a b : List Nat) (ha : a.length = 32) (hb : b.length = 32) (w : World) : (binOp .eql 34 (.agg (bvs a).toArray) (.agg (bvs b).toArray)).run Try.prog w = .ok (.bool (decide (a = b))) w := by
  rw [run_eql_struct, run_equalIn_arr Try.underlying34 9998 a b ha hb]; rfl
theorem run_eql_key (a b : List Nat) (ha : a.length = 4) (hb : b.length = 4) (w : World) : (binOp .eql 36 (.agg (bvs a).toArray) (.agg (bvs b).toArray)).run Try.prog w = .ok (.bool (decide (a = b))) w := by
  rw [run_eql_struct, run_equalIn_arr Try.underlying36 9998 a b ha hb]; rfl
theorem guard_hash : Try.prog.eqGuardType Try.prog.depth 34 = false := by kernel_rfl
theorem guard_key : Try.prog.eqGuardType Try.prog.depth 36 = false := by kernel_rfl
end Go.Proofs.Ytbhkjflpkpkdlaa

/-! Vd: == of validators; the first one with a key. -/
namespace Go.Proofs.Ytbhkjflpkpkdlaa
open Go.RowKit Go.Lib

theorem fields_val : (Try.prog.fieldsOf 142).toList.map (fun f => (f.type, f.offset, f.name == "_")) = [(36, 0, false), (3, 4, false)] := by kernel_rfl
theorem struct_val : Try.prog.underlying 142 = some (.struct (Try.prog.fieldsOf 142)) := by kernel_rfl
theorem part_key (a b c d e : Value) (w : World) : (part 36 #[a, b, c, d, e] 0).run Try.prog w = .ok (.agg #[a, b, c, d]) w := by kernel_rfl
theorem part_pow (a b c d e : Value) (w : World) : (part 3 #[a, b, c, d, e] 4).run Try.prog w = .ok e w := by kernel_rfl
theorem kc_bvs (k : Nat) : (Value.agg #[.int .u8 (kd k 3 : Nat), .int .u8 (kd k 2 : Nat), .int .u8 (kd k 1 : Nat), .int .u8 (kd k 0 : Nat)]) = .agg (bvs (kb k)).toArray := rfl
set_option maxRecDepth 20000 in
theorem run_eqIn_key (d a b : Nat) (ha : a < 4294967296) (hb : b < 4294967296) (w : World) : (Op.equalIn (d + 2) 36 (.agg #[.int .u8 (kd a 3 : Nat), .int .u8 (kd a 2 : Nat), .int .u8 (kd a 1 : Nat), .int .u8 (kd a 0 : Nat)]) (.agg #[.int .u8 (kd b 3 : Nat), .int .u8 (kd b 2 : Nat), .int .u8 (kd b 1 : Nat), .int .u8 (kd b 0 : Nat)])).run Try.prog w = .ok (decide (a = b)) w := by
  rw [kc_bvs, kc_bvs, run_equalIn_arr Try.underlying36 d (kb a) (kb b) rfl rfl]
  congr 1
  rw [decide_eq_decide]
  exact ⟨kb_inj ha hb, fun h => by rw [h]⟩
set_option maxRecDepth 20000 in
theorem run_eq_key (a b : Nat) (ha : a < 4294967296) (hb : b < 4294967296) (w : World) : (binOp .eql 36 (.agg #[.int .u8 (kd a 3 : Nat), .int .u8 (kd a 2 : Nat), .int .u8 (kd a 1 : Nat), .int .u8 (kd a 0 : Nat)]) (.agg #[.int .u8 (kd b 3 : Nat), .int .u8 (kd b 2 : Nat), .int .u8 (kd b 1 : Nat), .int .u8 (kd b 0 : Nat)])).run Try.prog w = .ok (.bool (decide (a = b))) w := by
  rw [run_eql_struct, run_eqIn_key 9998 a b ha hb]; rfl
set_option maxRecDepth 20000 in
theorem run_eqIn_val (d : Nat) (u v : Vd) (hu : u.k < 4294967296) (hv : v.k < 4294967296) (w : World) : (Op.equalIn (d + 3) 142 (.agg #[.int .u8 (kd (u).k 3 : Nat), .int .u8 (kd (u).k 2 : Nat), .int .u8 (kd (u).k 1 : Nat), .int .u8 (kd (u).k 0 : Nat), .int .i64 (u).p]) (.agg #[.int .u8 (kd (v).k 3 : Nat), .int .u8 (kd (v).k 2 : Nat), .int .u8 (kd (v).k 1 : Nat), .int .u8 (kd (v).k 0 : Nat), .int .i64 (v).p])).run Try.prog w = .ok (decide (u = v)) w := by
  rw [show d + 3 = (d + 2) + 1 from rfl, run_equalIn_agg w (d + 2) 142 _ _ struct_val (by kernel_rfl)]
  have hf := fields_val
  obtain ⟨f0, r, h0, h1, h2⟩ := List.map_eq_cons_iff.1 hf
  obtain ⟨f1, r', h3, h4, h5⟩ := List.map_eq_cons_iff.1 h2
  obtain rfl := List.map_eq_nil_iff.1 h5
  rw [h0, h3]
  simp only [Prod.mk.injEq, beq_eq_false_iff_ne] at h1 h4
  obtain ⟨t0, o0, n0⟩ := h1
  obtain ⟨t1, o1, n1⟩ := h4
  have e : decide (u = v) = (decide (u.k = v.k) && (u.p == v.p)) := by
    obtain ⟨a, b⟩ := u
    obtain ⟨c, d⟩ := v
    simp only [Vd.mk.injEq]
    by_cases h : a = c <;> by_cases h' : b = d <;> simp [h, h']
  rw [e]
  simp only [Op.eqFields, n0, n1, t0, t1, o0, o1, ne_eq, not_false_eq_true, if_true, Sem.run_bind, part_key, Result.andThen_ok, run_eqIn_key d u.k v.k hu hv]
  cases decide (u.k = v.k)
  · rfl
  · simp only [Bool.not_true, Bool.false_eq_true, if_false, Sem.run_bind, part_pow, Result.andThen_ok, run_equalIn_int w (d + 1) 3 .i64 .i64 _ _ Try.underlying3]
    cases (u.p == v.p) <;> rfl
set_option maxRecDepth 20000 in
theorem run_eq_val (u v : Vd) (hu : u.k < 4294967296) (hv : v.k < 4294967296) (w : World) : (binOp .eql 142 (.agg #[.int .u8 (kd (u).k 3 : Nat), .int .u8 (kd (u).k 2 : Nat), .int .u8 (kd (u).k 1 : Nat), .int .u8 (kd (u).k 0 : Nat), .int .i64 (u).p]) (.agg #[.int .u8 (kd (v).k 3 : Nat), .int .u8 (kd (v).k 2 : Nat), .int .u8 (kd (v).k 1 : Nat), .int .u8 (kd (v).k 0 : Nat), .int .i64 (v).p])).run Try.prog w = .ok (.bool (decide (u = v))) w := by
  rw [run_eql_struct, run_eqIn_val 9997 u v hu hv]; rfl
theorem guard_val : Try.prog.eqGuardType Try.prog.depth 142 = false := by kernel_rfl

/-- The place of the first one with a key. -/
def fnd (l : List Vd) (k : Nat) : Option Nat := l.findIdx? (fun v => v.k == k)
def fndI (l : List Vd) (k : Nat) : Int := match fnd l k with | some i => (i : Nat) | none => -1
theorem fnd_hit {l : List Vd} {k i : Nat} {v : Vd} (hv : l[i]? = some v) (hk : v.k = k) (h : ∀ j u, j < i → l[j]? = some u → u.k ≠ k) : fnd l k = some i := by
  obtain ⟨hlt, rfl⟩ := List.getElem?_eq_some_iff.1 hv
  unfold fnd
  rw [List.findIdx?_eq_some_iff_getElem]
  refine ⟨hlt, by simpa using hk, fun j hj => ?_⟩
  have := h j _ hj (List.getElem?_eq_getElem (by omega))
  simpa using this
theorem fnd_miss {l : List Vd} {k : Nat} (h : ∀ j u, j < l.length → l[j]? = some u → u.k ≠ k) : fnd l k = none := by
  unfold fnd
  rw [List.findIdx?_eq_none_iff]
  intro x hx
  obtain ⟨j, hj, rfl⟩ := List.getElem_of_mem hx
  have := h j _ hj (List.getElem?_eq_getElem hj)
  simpa using this
end Go.Proofs.Ytbhkjflpkpkdlaa
