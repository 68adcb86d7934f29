/-
  Texts Va, Vb, Vc, Xb, Vd, one behind the other.
-/
import Derived.Test.YtcmkmnidnapabaaGreatQa
import Derived.Lib.Bytealg
import Derived.Lib.BytesEntry
import Derived.Laws.StructEq

/-! Va: Keys as numbers, validators; which of two keys is less. -/
namespace Go.Proofs.YtcmkmnidnapabaaGreat
open Go.RowKit Go.Lib

/-- A key's byte. -/
def kd (k i : Nat) : Nat := k / 256 ^ i % 256
theorem kd_lt (k i : Nat) : kd k i < 256 := Nat.mod_lt _ (by decide)
/-- A key's bytes. -/
def kb (k : Nat) : List Nat := [kd k 3, kd k 2, kd k 1, kd k 0]
theorem kb_bytes (k : Nat) : Bytes 4 (kb k) := ⟨rfl, by
  intro x hx
  simp only [kb, List.mem_cons, List.not_mem_nil, or_false] at hx
  rcases hx with rfl | rfl | rfl | rfl <;> exact kd_lt _ _⟩
/-- A validator: a key, below 2^32, and a power. -/
structure Vd where
  k : Nat
  p : Int
  deriving DecidableEq
structure VdOk (v : Vd) : Prop where
  k : v.k < 4294967296
  p : -9223372036854775808 ≤ v.p ∧ v.p ≤ 9223372036854775807
/-- Its cells. -/
def vL (v : Vd) : List Value := [.int .u8 (kd (v).k 3 : Nat), .int .u8 (kd (v).k 2 : Nat), .int .u8 (kd (v).k 1 : Nat), .int .u8 (kd (v).k 0 : Nat), .int .i64 (v).p]
def cmpK (a b : Nat) : Int := if a < b then -1 else if b < a then 1 else 0
theorem kd_sum (k : Nat) (h : k < 4294967296) : k = kd k 3 * 16777216 + kd k 2 * 65536 + kd k 1 * 256 + kd k 0 := by
  unfold kd
  simp only [Nat.reducePow]
  omega
def cmpL : List Nat → List Nat → Int
  | [], [] => 0
  | [], _ :: _ => -1
  | _ :: _, [] => 1
  | a :: r, b :: q => if a < b then -1 else if b < a then 1 else cmpL r q
theorem cmp_key (a b : Nat) (ha : a < 4294967296) (hb : b < 4294967296) : cmpL (kb a) (kb b) = cmpK a b := by
  have h1 := kd_sum a ha
  have h2 := kd_sum b hb
  have a0 := kd_lt a 0; have a1 := kd_lt a 1; have a2 := kd_lt a 2
  have b0 := kd_lt b 0; have b1 := kd_lt b 1; have b2 := kd_lt b 2
  unfold kb cmpK
  simp only [cmpL]
  generalize kd a 3 = x3 at *; generalize kd a 2 = x2 at *; generalize kd a 1 = x1 at *; generalize kd a 0 = x0 at *
  generalize kd b 3 = y3 at *; generalize kd b 2 = y2 at *; generalize kd b 1 = y1 at *; generalize kd b 0 = y0 at *
  subst h1 h2
  (repeat' split) <;> first | rfl | omega
theorem kb_inj {a b : Nat} (ha : a < 4294967296) (hb : b < 4294967296) (h : kb a = kb b) : a = b := by
  have h1 := kd_sum a ha
  have h2 := kd_sum b hb
  simp only [kb, List.cons.injEq, and_true] at h
  rw [h1, h2, h.1, h.2.1, h.2.2.1, h.2.2.2]
/-- The key of four bytes. -/
def kOf (X : List Nat) : Nat := X.getD 0 0 * 16777216 + X.getD 1 0 * 65536 + X.getD 2 0 * 256 + X.getD 3 0
theorem kb_kOf {X : List Nat} (h : Bytes 4 X) : kb (kOf X) = X ∧ kOf X < 4294967296 := by
  obtain ⟨hl, hb⟩ := h
  match X, hl with
  | [a, b, c, d], _ =>
    have h0 := hb a (by simp); have h1 := hb b (by simp); have h2 := hb c (by simp); have h3 := hb d (by simp)
    have e : kOf [a, b, c, d] = a * 16777216 + b * 65536 + c * 256 + d := rfl
    rw [e]
    unfold kb kd
    simp only [Nat.reducePow]
    refine ⟨?_, by omega⟩
    rw [show (a * 16777216 + b * 65536 + c * 256 + d) / 16777216 % 256 = a by omega, show (a * 16777216 + b * 65536 + c * 256 + d) / 65536 % 256 = b by omega, show (a * 16777216 + b * 65536 + c * 256 + d) / 256 % 256 = c by omega, show (a * 16777216 + b * 65536 + c * 256 + d) / 1 % 256 = d by omega]

theorem ofNat_lt {a b : Nat} (ha : a < 256) (hb : b < 256) : (UInt8.ofNat a < UInt8.ofNat b) ↔ a < b := by
  rw [UInt8.lt_iff_toNat_lt, UInt8.toNat_ofNat_of_lt' ha, UInt8.toNat_ofNat_of_lt' hb]
theorem cmp_bytes : ∀ (a b : List Nat), (∀ x ∈ a, x < 256) → (∀ x ∈ b, x < 256) → compareBytes (a.map UInt8.ofNat) (b.map UInt8.ofNat) = cmpL a b
  | [], [], _, _ => rfl
  | [], _ :: _, _, _ => rfl
  | _ :: _, [], _, _ => rfl
  | x :: a, y :: b, ha, hb => by
    have h1 := ofNat_lt (ha x (by simp)) (hb y (by simp))
    have h2 := ofNat_lt (hb y (by simp)) (ha x (by simp))
    have ih := cmp_bytes a b (fun z hz => ha z (by simp [hz])) (fun z hz => hb z (by simp [hz]))
    simp only [List.map_cons, compareBytes, cmpL, ih, h1, h2]
def toBy (v : List Nat) : ByteArray := ⟨(v.map UInt8.ofNat).toArray⟩
theorem run_bytesOfB (v : List Nat) (b cap : Nat) (w : World) (hw : BytesAt w b 0 v) : (Extern.Bytes.bytesOf (.slice (some ⟨b, 0, none⟩) v.length cap)).run Tryz.prog w = .ok (toBy v) w := by
  have h := run_loadBytesX (P := Tryz.prog) w (v.map fun x : Nat => (x : Int)) ⟨b, 0, none⟩ .empty (fun j x hj => by
    rw [List.getElem?_map] at hj
    have hjl : j < v.length := by
      rcases Nat.lt_or_ge j v.length with h1 | h1
      · exact h1
      · rw [List.getElem?_eq_none h1] at hj; cases hj
    have e := hw j hjl
    rw [Nat.zero_add] at e
    rw [Addr.add_mid, Nat.zero_add, e]
    rw [List.getElem?_eq_getElem hjl] at hj
    rw [List.getD_eq_getElem?_getD, List.getElem?_eq_getElem hjl]
    simp only [Option.map_some, Option.some.injEq] at hj
    rw [← hj]; rfl)
  rw [List.length_map] at h
  show (Extern.Bytes.loadBytes ⟨b, 0, none⟩ v.length .empty).run Tryz.prog w = _
  rw [h]
  congr 1
  apply ByteArray.ext
  unfold toBy
  simp [Lib.bytesOf]
theorem run_compareB (a b : List Nat) (ba bb ca cb : Nat) (w : World) (ha : ∀ x ∈ a, x < 256) (hb : ∀ x ∈ b, x < 256) (wa : BytesAt w ba 0 a) (wb : BytesAt w bb 0 b) :
    (callFunc 229 #[.slice (some ⟨ba, 0, none⟩) a.length ca, .slice (some ⟨bb, 0, none⟩) b.length cb]).run Tryz.prog w = .ok (.value (.int .i64 (cmpL a b))) w := by
  rw [run_callFunc_extern Tryz.func229 (by kernel_rfl) (by kernel_rfl) (by kernel_rfl) (e := Extern.BytealgCompare.compare) (by kernel_rfl)]
  have h1 := run_bytesOfB a ba ca w wa
  have h2 := run_bytesOfB b bb cb w wb
  have hc : Extern.BytealgCompare.cmp (toBy a) (toBy b) = cmpL a b := by
    rw [cmp_eq, ← cmp_bytes a b ha hb]
    congr 1 <;> simp [toBy]
  have h3 : (Extern.BytealgCompare.compare #[.slice (some ⟨ba, 0, none⟩) a.length ca, .slice (some ⟨bb, 0, none⟩) b.length cb]).run Tryz.prog w = .ok (.int .i64 (cmpL a b)) w := by
    change Sem.run Tryz.prog (do pure (goInt (Extern.BytealgCompare.cmp (← Extern.Bytes.bytesOf (.slice (some ⟨ba, 0, none⟩) a.length ca)) (← Extern.Bytes.bytesOf (.slice (some ⟨bb, 0, none⟩) b.length cb))))) w = _
    simp only [Sem.run_bind, Sem.run_pure, Result.andThen, h1, h2]
    rw [hc]; rfl
  simp [h3, Result.andThen]
theorem bcompare_any (a b : List Nat) (ba bb ca cb : Nat) (w : World) (ha : ∀ x ∈ a, x < 256) (hb : ∀ x ∈ b, x < 256) (wa : BytesAt w ba 0 a) (wb : BytesAt w bb 0 b) :
    Calls Tryz.prog 167 #[.slice (some ⟨ba, 0, none⟩) a.length ca, .slice (some ⟨bb, 0, none⟩) b.length cb] w fun e w' => e = .returned (.int .i64 (cmpL a b)) ∧ w' = w := by
  have hr := run_compareB a b ba bb ca cb w ha hb wa wb
  clear ha hb wa wb
  go_enter Tryz.func167, Tryz.ntmps167
  go_wp2
  go_ret
  exact ⟨rfl, rfl⟩

set_option maxRecDepth 20000 in
theorem compare_any (a b : Nat) (w : World) (ha : a < 4294967296) (hb : b < 4294967296) :
    Calls Tryz.prog 160 #[.agg #[.int .u8 (kd a 3 : Nat), .int .u8 (kd a 2 : Nat), .int .u8 (kd a 1 : Nat), .int .u8 (kd a 0 : Nat)], .agg #[.int .u8 (kd b 3 : Nat), .int .u8 (kd b 2 : Nat), .int .u8 (kd b 1 : Nat), .int .u8 (kd b 0 : Nat)]] w fun e w' => e = .returned (.int .i64 (cmpK a b)) ∧ Below w.heap.size w w' := by
  have w2a : Blk ((w.alloc (.cells (bvs (kb a)).toArray 24)).alloc (.cells (bvs (kb b)).toArray 24)).drew w.heap.size (bvs (kb a)) 24 := ((Blk.new w _ _).alloc _).drew
  have w2b : Blk ((w.alloc (.cells (bvs (kb a)).toArray 24)).alloc (.cells (bvs (kb b)).toArray 24)).drew (w.heap.size + 1) (bvs (kb b)) 24 := (Blk.new' _ _ _ _ (by simp)).drew
  have hbel : Below w.heap.size w ((w.alloc (.cells (bvs (kb a)).toArray 24)).alloc (.cells (bvs (kb b)).toArray 24)).drew := (((Below.refl _ w).alloc (Nat.le_refl _) _).alloc (by simp) _).drew
  have HC := fun wd (hwd : wd = ((w.alloc (.cells (bvs (kb a)).toArray 24)).alloc (.cells (bvs (kb b)).toArray 24)).drew) => bcompare_any (kb a) (kb b) w.heap.size (w.heap.size + 1) 4 4 wd (kb_bytes a).2 (kb_bytes b).2 (fun i hi => by rw [hwd, Nat.zero_add]; exact (w2a.cell i).trans (bvs_get hi)) (fun i hi => by rw [hwd, Nat.zero_add]; exact (w2b.cell i).trans (bvs_get hi))
  rw [(kb_bytes a).1, (kb_bytes b).1, cmp_key a b ha hb] at HC
  have HC := hidp HC
  have hbel := hidp hbel
  clear w2a w2b ha hb
  go_enter Tryz.func160, Tryz.ntmps160
  go_wp2
  refine region_tail 2 (by kernel_rfl) (by kernel_rfl) ?_
  intro wd hwd
  simp only [List.take_succ_cons, List.take_zero, List.drop_succ_cons, List.drop_zero]
  repeat still_step
  try refine wpStill_nil ?_
  go_wp2_with (go_at_call 167; refine (HC.out wd hwd.out).mono ?_; rintro e wx ⟨rfl, rfl⟩)
  go_ret
  exact ⟨rfl, hwd.out ▸ hbel.out⟩
end Go.Proofs.YtcmkmnidnapabaaGreat

/-! Vb: What is wrong with the next validator of a list. -/
namespace Go.Proofs.YtcmkmnidnapabaaGreat
open Go.RowKit Go.Lib

/-- The way up: nothing yet, or the key of the one before. -/
def Asc (w : World) (g : Nat) : Option Nat → Prop
  | none => Blk w g [.int .u8 0, .int .u8 0, .int .u8 0, .int .u8 0, .bool false] 125
  | some k => Blk w g [.int .u8 (kd k 3 : Nat), .int .u8 (kd k 2 : Nat), .int .u8 (kd k 1 : Nat), .int .u8 (kd k 0 : Nat), .bool true] 125
def nextE (q : Option Nat) (v : Vd) (least : Int) : Nat :=
  if (match q with | none => false | some x => decide (v.k ≤ x)) = true then 9 else if v.p < least ∨ 4611686018427387904 < v.p then 3 else 0
theorem Asc.below {w w' : World} {g : Nat} {q : Option Nat} (h : Asc w g q) (hB : Below w.heap.size w w') : Asc w' g q := by
  cases q with
  | none => exact Below.blk' hB h
  | some k => exact Below.blk' hB h
theorem Asc.lt {w : World} {g : Nat} {q : Option Nat} (h : Asc w g q) : g < w.heap.size := by
  cases q with
  | none => exact Blk.lt h
  | some k => exact Blk.lt h

set_option maxRecDepth 20000 in
set_option maxHeartbeats 1000000 in
theorem next_first {w : World} {g : Nat} (v : Vd) (least : Int) (h1 h2 : Bool) (e1 : decide (v.p < least) = h1) (e2 : decide ((4611686018427387904 : Int) < v.p) = h2) (H : Asc w g none) :
    Calls Tryz.prog 86 #[.pointer (some ⟨g, 0, none⟩), .agg #[.int .u8 (kd (v).k 3 : Nat), .int .u8 (kd (v).k 2 : Nat), .int .u8 (kd (v).k 1 : Nat), .int .u8 (kd (v).k 0 : Nat), .int .i64 (v).p], .int .i64 least] w fun e w' => e = .returned (.int .i64 (if h1 || h2 then 3 else 0)) ∧ Asc w' g (some v.k) ∧ Bex g w w' := by
  have H : Blk w g [.int .u8 0, .int .u8 0, .int .u8 0, .int .u8 0, .bool false] 125 := H
  have hlt := H.lt
  have cc := hidp (fun k => H.cell k)
  have c0 : w.cell? ⟨g, 0, none⟩ = some (.int .u8 0) := cc.out 0
  have c1 : w.cell? ⟨g, 1, none⟩ = some (.int .u8 0) := cc.out 1
  have c2 : w.cell? ⟨g, 2, none⟩ = some (.int .u8 0) := cc.out 2
  have c3 : w.cell? ⟨g, 3, none⟩ = some (.int .u8 0) := cc.out 3
  have c4 : w.cell? ⟨g, 4, none⟩ = some (.bool false) := cc.out 4
  have f0 := H.free 0
  have f1 := H.free 1
  have f2 := H.free 2
  have f3 := H.free 3
  have f4 := H.free 4
  have H := hidp H
  clear cc
  go_enter Tryz.func86, Tryz.ntmps86
  go_wp2_with fail
  go_quiet (fail)
  go_wp2_with fail
  all_goals
    go_ret
    exact ⟨rfl, ((((((H.out.alloc _).drewN _).set 0 _).set 1 _).set 2 _).set 3 _).set 4 _, (((((((Bex.refl g w).alloc _).drewN _).setCell 0 _).setCell 1 _).setCell 2 _).setCell 3 _).setCell 4 _⟩

/-- What the walk is told of the way up and of the box of a validator. -/
theorem nextF {W : World} {g x k : Nat} {v : Vd} (hg : Blk W g [.int .u8 (kd k 3 : Nat), .int .u8 (kd k 2 : Nat), .int .u8 (kd k 1 : Nat), .int .u8 (kd k 0 : Nat), .bool true] 125) (hx : Blk W x [.int .u8 (kd (v).k 3 : Nat), .int .u8 (kd (v).k 2 : Nat), .int .u8 (kd (v).k 1 : Nat), .int .u8 (kd (v).k 0 : Nat), .int .i64 (v).p] 111) :
    (W.cell? ⟨g, 0, none⟩ = some (.int .u8 (kd k 3 : Nat)) ∧ W.cell? ⟨g, 1, none⟩ = some (.int .u8 (kd k 2 : Nat)) ∧ W.cell? ⟨g, 2, none⟩ = some (.int .u8 (kd k 1 : Nat)) ∧ W.cell? ⟨g, 3, none⟩ = some (.int .u8 (kd k 0 : Nat)) ∧ W.cell? ⟨g, 4, none⟩ = some (.bool true)) ∧
    (W.frozen? ⟨g, 0, none⟩ = false ∧ W.frozen? ⟨g, 1, none⟩ = false ∧ W.frozen? ⟨g, 2, none⟩ = false ∧ W.frozen? ⟨g, 3, none⟩ = false ∧ W.frozen? ⟨g, 4, none⟩ = false) ∧
    (W.cell? ⟨x, 0, none⟩ = some (.int .u8 (kd v.k 3 : Nat)) ∧ W.cell? ⟨x, 1, none⟩ = some (.int .u8 (kd v.k 2 : Nat)) ∧ W.cell? ⟨x, 2, none⟩ = some (.int .u8 (kd v.k 1 : Nat)) ∧ W.cell? ⟨x, 3, none⟩ = some (.int .u8 (kd v.k 0 : Nat)) ∧ W.cell? ⟨x, 4, none⟩ = some (.int .i64 v.p)) :=
  ⟨⟨hg.cell 0, hg.cell 1, hg.cell 2, hg.cell 3, hg.cell 4⟩, ⟨hg.free 0, hg.free 1, hg.free 2, hg.free 3, hg.free 4⟩, ⟨hx.cell 0, hx.cell 1, hx.cell 2, hx.cell 3, hx.cell 4⟩⟩
set_option maxRecDepth 20000 in
set_option maxHeartbeats 1000000 in
theorem next_more {w : World} {g : Nat} (k : Nat) (v : Vd) (least : Int) (hk : k < 4294967296) (hv : v.k < 4294967296) (h0 h1 h2 : Bool) (e0 : decide (cmpK v.k k ≤ 0) = h0) (e1 : decide (v.p < least) = h1) (e2 : decide ((4611686018427387904 : Int) < v.p) = h2) (H : Asc w g (some k)) :
    Calls Tryz.prog 86 #[.pointer (some ⟨g, 0, none⟩), .agg #[.int .u8 (kd (v).k 3 : Nat), .int .u8 (kd (v).k 2 : Nat), .int .u8 (kd (v).k 1 : Nat), .int .u8 (kd (v).k 0 : Nat), .int .i64 (v).p], .int .i64 least] w fun e w' => e = .returned (.int .i64 (if h0 then 9 else if h1 || h2 then 3 else 0)) ∧ (h0 = false → Asc w' g (some v.k)) ∧ Bex g w w' := by
  have H : Blk w g [.int .u8 (kd k 3 : Nat), .int .u8 (kd k 2 : Nat), .int .u8 (kd k 1 : Nat), .int .u8 (kd k 0 : Nat), .bool true] 125 := H
  have hlt := H.lt
  have H := hidp H
  have HC := hidp (fun W => compare_any v.k k W hv hk)
  clear hk hv
  generalize cmpK v.k k = z at *
  go_enter Tryz.func86, Tryz.ntmps86
  go_wp2_with fail
  refine region_tail 11 (by kernel_rfl) (by kernel_rfl) ?_
  intro wd hwd
  have hg : Blk wd g [.int .u8 (kd k 3 : Nat), .int .u8 (kd k 2 : Nat), .int .u8 (kd k 1 : Nat), .int .u8 (kd k 0 : Nat), .bool true] 125 := by rw [hwd.out]; exact (H.out.alloc _).drew
  have hx : Blk wd w.heap.size [.int .u8 (kd (v).k 3 : Nat), .int .u8 (kd (v).k 2 : Nat), .int .u8 (kd (v).k 1 : Nat), .int .u8 (kd (v).k 0 : Nat), .int .i64 (v).p] 111 := by rw [hwd.out]; exact (Blk.new w _ _).drew
  have hB := hidp (show Bex g w wd by rw [hwd.out]; exact ((Bex.refl g w).alloc _).drew)
  clear hwd
  obtain ⟨⟨c0, c1, c2, c3, c4⟩, _, ⟨d0, d1, d2, d3, d4⟩⟩ := nextF hg hx
  have hg := hidp hg
  have hx := hidp hx
  simp only [List.take_succ_cons, List.take_zero, List.drop_succ_cons, List.drop_zero]
  repeat still_step
  try refine wpStill_nil ?_
  clear c0 c1 c2 c3 c4 d0 d1 d2 d3 d4
  go_wp2_with fail
  refine (HC.out wd).mono ?_
  rintro e w2 ⟨rfl, hb⟩
  have hg2 := hb.blk' hg.out
  obtain ⟨⟨c0, c1, c2, c3, c4⟩, ⟨f0, f1, f2, f3, f4⟩, ⟨d0, d1, d2, d3, d4⟩⟩ := nextF hg2 (hb.blk' hx.out)
  have hB2 := hidp (hB.out.trans (Bex.of_below hb))
  replace hg2 := hidp hg2
  clear hb hB
  cases h0 <;> cases h1 <;> cases h2
  all_goals
    go_wp2_with fail
    go_ret
    first
      | exact ⟨rfl, fun h => by cases h, hB2.out⟩
      | exact ⟨rfl, hB2.out⟩
      | exact ⟨rfl, trivial, hB2.out⟩
      | exact ⟨rfl, ((((hg2.out.set 0 _).set 1 _).set 2 _).set 3 _).set 4 _, ((((hB2.out.setCell 0 _).setCell 1 _).setCell 2 _).setCell 3 _).setCell 4 _⟩
theorem cmpK_le {a b : Nat} : cmpK a b ≤ 0 ↔ a ≤ b := by unfold cmpK; split <;> (try split) <;> omega
/-- The next one, whatever came before. -/
theorem next_w {w : World} {g : Nat} (q : Option Nat) (v : Vd) (least : Int) (hq : ∀ x, q = some x → x < 4294967296) (hv : v.k < 4294967296) (H : Asc w g q) :
    Calls Tryz.prog 86 #[.pointer (some ⟨g, 0, none⟩), .agg #[.int .u8 (kd (v).k 3 : Nat), .int .u8 (kd (v).k 2 : Nat), .int .u8 (kd (v).k 1 : Nat), .int .u8 (kd (v).k 0 : Nat), .int .i64 (v).p], .int .i64 least] w fun e w' => e = .returned (.int .i64 (nextE q v least : Nat)) ∧ (nextE q v least ≠ 9 → Asc w' g (some v.k)) ∧ Bex g w w' := by
  have key : ∀ a b : Bool, (if (a || b) = true then (3 : Int) else 0) = ((if a = true ∨ b = true then 3 else 0 : Nat) : Int) := by decide
  cases q with
  | none =>
    refine (next_first v least _ _ rfl rfl H).mono ?_
    rintro e w' ⟨rfl, h1, h2⟩
    have e1 : nextE none v least = if v.p < least ∨ 4611686018427387904 < v.p then 3 else 0 := rfl
    refine ⟨?_, fun _ => h1, h2⟩
    rw [e1, key]
    simp only [decide_eq_true_eq]
  | some k =>
    refine (next_more k v least (hq k rfl) hv _ _ _ rfl rfl rfl H).mono ?_
    rintro e w' ⟨rfl, h1, h2⟩
    by_cases h0 : v.k ≤ k
    · have e1 : nextE (some k) v least = 9 := by unfold nextE; simp [h0]
      rw [e1]
      refine ⟨?_, fun h => absurd rfl h, h2⟩
      rw [if_pos (by simp [cmpK_le, h0])]; rfl
    · have e1 : nextE (some k) v least = if v.p < least ∨ 4611686018427387904 < v.p then 3 else 0 := by unfold nextE; simp [h0]
      refine ⟨?_, fun _ => h1 (by simp [cmpK_le, h0]), h2⟩
      rw [e1, if_neg (by simp [cmpK_le, h0]), key]
      simp only [decide_eq_true_eq]
end Go.Proofs.YtcmkmnidnapabaaGreat

/-! Vc: Rows of validators; whether a list is a set. -/
namespace Go.Proofs.YtcmkmnidnapabaaGreat
open Go.RowKit Go.Lib

/-- A slice of validators. -/
structure Vs (w : World) (a : Option Addr) (b o cap : Nat) (l : List Vd) : Prop where
  ok : ∀ v ∈ l, VdOk v
  le : l.length ≤ cap
  ptr : 0 < cap → a = some ⟨b, o, none⟩ ∧ b < w.heap.size
  cell : ∀ i v, l[i]? = some v → ∀ j c, (vL v)[j]? = some c → w.cell? ⟨b, o + i * 5 + j, none⟩ = some c
theorem Vs.below {w w' : World} {a : Option Addr} {b o cap : Nat} {l : List Vd} (h : Vs w a b o cap l) (hB : Below w.heap.size w w') : Vs w' a b o cap l :=
  ⟨h.ok, h.le, fun h0 => ⟨(h.ptr h0).1, Nat.lt_of_lt_of_le (h.ptr h0).2 hB.size⟩, fun i v hi j c hc => (hB.cell (cell_lt (h.cell i v hi j c hc))).trans (h.cell i v hi j c hc)⟩
theorem Vs.bex {g : Nat} {w w' : World} {a : Option Addr} {b o cap : Nat} {l : List Vd} (h : Vs w a b o cap l) (hB : Bex g w w') (hne : 0 < cap → g ≠ b) : Vs w' a b o cap l :=
  ⟨h.ok, h.le, fun h0 => ⟨(h.ptr h0).1, Nat.lt_of_lt_of_le (h.ptr h0).2 hB.size⟩, fun i v hi j c hc => by
    have h0 : 0 < cap := by
      have h1 := h.le
      have h2 := (List.getElem?_eq_some_iff.1 hi).1
      omega
    have hc0 := h.cell i v hi j c hc
    rw [← hc0]
    unfold World.cell?
    simp only
    rw [hB.block b (h.ptr h0).2 (fun e => hne h0 e.symm)]⟩
theorem Vs.at {w : World} {a : Option Addr} {b o cap : Nat} {l : List Vd} (h : Vs w a b o cap l) {i : Nat} (hi : i < l.length) :
    ∃ v, l[i]? = some v ∧ VdOk v ∧ a = some ⟨b, o, none⟩ ∧ b < w.heap.size ∧ (w.cell? ⟨b, o + i * 5, none⟩ = some (.int .u8 (kd v.k 3 : Nat)) ∧ w.cell? ⟨b, o + i * 5 + 1, none⟩ = some (.int .u8 (kd v.k 2 : Nat)) ∧ w.cell? ⟨b, o + i * 5 + 2, none⟩ = some (.int .u8 (kd v.k 1 : Nat)) ∧ w.cell? ⟨b, o + i * 5 + 3, none⟩ = some (.int .u8 (kd v.k 0 : Nat)) ∧ w.cell? ⟨b, o + i * 5 + 4, none⟩ = some (.int .i64 v.p)) := by
  have hv := List.getElem?_eq_getElem hi
  have h0 : 0 < cap := by have := h.le; omega
  refine ⟨l[i], hv, h.ok _ (List.getElem_mem hi), (h.ptr h0).1, (h.ptr h0).2, h.cell i _ hv 0 _ rfl, h.cell i _ hv 1 _ rfl, h.cell i _ hv 2 _ rfl, h.cell i _ hv 3 _ rfl, h.cell i _ hv 4 _ rfl⟩

def chkFrom (least : Int) : Option Nat → List Vd → Nat
  | _, [] => 0
  | q, v :: r => if nextE q v least = 0 then chkFrom least (some v.k) r else nextE q v least
def chk (l : List Vd) : Nat := if l.length = 0 then 6 else if 64 < l.length then 4 else chkFrom 1 none l
/-- What is kept from round to round. -/
structure ChkI (w wr : World) (g i : Nat) (l : List Vd) (least : Int) (q : Option Nat) : Prop where
  asc : Asc wr g q
  bel : Below w.heap.size w wr
  hg : w.heap.size ≤ g
  hq : ∀ x, q = some x → x < 4294967296
  e : chkFrom least none l = chkFrom least q (l.drop i)
theorem ChkI.next {w wr w' : World} {g i : Nat} {l : List Vd} {least : Int} {q : Option Nat} {v : Vd} (H : ChkI w wr g i l least q) (hv : l[i]? = some v) (hk : v.k < 4294967296) {o : Obj} (h0 : nextE q v least = 0) (ha : Asc w' g (some v.k)) (hx : Bex g (wr.alloc o) w') : ChkI w w' g (i + 1) l least (some v.k) := by
  refine ⟨ha, (H.bel.alloc (by have := H.bel.size; omega) o).trans (hx.below H.hg (by have := H.bel.size; simp; omega)), H.hg, fun x hx => by cases hx; exact hk, ?_⟩
  rw [H.e]
  obtain ⟨hlt, rfl⟩ := List.getElem?_eq_some_iff.1 hv
  rw [List.drop_eq_getElem_cons hlt]
  simp only [chkFrom, h0, if_true]
theorem ChkI.fail {w wr w' : World} {g i : Nat} {l : List Vd} {least : Int} {q : Option Nat} {v : Vd} (H : ChkI w wr g i l least q) (hv : l[i]? = some v) {o : Obj} (h0 : nextE q v least ≠ 0) (hx : Bex g (wr.alloc o) w') : chkFrom least none l = nextE q v least ∧ Below w.heap.size w w' := by
  refine ⟨?_, (H.bel.alloc (by have := H.bel.size; omega) o).trans (hx.below H.hg (by have := H.bel.size; simp; omega))⟩
  rw [H.e]
  obtain ⟨hlt, rfl⟩ := List.getElem?_eq_some_iff.1 hv
  rw [List.drop_eq_getElem_cons hlt]
  simp only [chkFrom]
  rw [if_neg h0]
theorem ChkI.last {w wr : World} {g i : Nat} {l : List Vd} {least : Int} {q : Option Nat} (H : ChkI w wr g i l least q) (hi : l.length ≤ i) : chkFrom least none l = 0 := by
  rw [H.e, List.drop_eq_nil_of_le hi]
  cases q <;> rfl
theorem w64_nat {n : Nat} (h : n ≤ 1000000) : wrap64 ((n : Int) + 1) = ((n + 1 : Nat) : Int) := by rw [w64 _ (by omega)]; omega

set_option maxRecDepth 20000 in
set_option maxHeartbeats 1000000 in
theorem check_any (a : Option Addr) (b o cap : Nat) (l : List Vd) (w : World) (h : Vs w a b o cap l) :
    Calls Tryz.prog 25 #[.slice a l.length cap] w fun e w' => e = .returned (.int .i64 (chk l : Nat)) ∧ Below w.heap.size w w' := by
  by_cases h6 : l.length = 0
  · have ht : (((l.length : Nat) : Int) == 0) = true := by simp [h6]
    have e : chk l = 6 := by unfold chk; simp [h6]
    rw [e]
    clear h h6 e
    go_enter Tryz.func25, Tryz.ntmps25
    go_wp2
    go_ret
    exact ⟨rfl, Below.refl _ _⟩
  by_cases h4 : 64 < l.length
  · have ht : (((l.length : Nat) : Int) == 0) = false := by rw [beq_eq_false_iff_ne]; omega
    have ht2 : decide ((64 : Int) < ((l.length : Nat) : Int)) = true := decide_eq_true (by omega)
    have e : chk l = 4 := by unfold chk; simp [h6, h4]
    rw [e]
    clear h h6 h4 e
    go_enter Tryz.func25, Tryz.ntmps25
    go_wp2
    go_ret
    exact ⟨rfl, Below.refl _ _⟩
  have ht : (((l.length : Nat) : Int) == 0) = false := by rw [beq_eq_false_iff_ne]; omega
  have ht2 : decide ((64 : Int) < ((l.length : Nat) : Int)) = false := decide_eq_false (by omega)
  have e : chk l = chkFrom 1 none l := by unfold chk; rw [if_neg h6, if_neg h4]
  rw [e]
  have H := hidp h
  have H4 := hidp h4
  have H0 : Hid (ChkI w (w.alloc (.cells #[.int .u8 0, .int .u8 0, .int .u8 0, .int .u8 0, .bool false] 125)) w.heap.size 0 l 1 none) := hidp ⟨Blk.new w [.int .u8 0, .int .u8 0, .int .u8 0, .int .u8 0, .bool false] _, (Below.refl _ w).alloc (Nat.le_refl _) _, Nat.le_refl _, (fun x h => by cases h), by rw [List.drop_zero]⟩
  clear h h6 h4 e
  go_enter Tryz.func25, Tryz.ntmps25
  go_wp2_with fail
  go_loopw [15] (fun x wr => ∃ i : Nat, ∃ q, i ≤ l.length ∧ x = .int .i64 i ∧ Hid (ChkI w wr w.heap.size i l 1 q)) (fun x _ => l.length - (Go.RowKit.intOf x).toNat)
  case atStart => exact ⟨0, none, by omega, rfl, H0⟩
  case round =>
    obtain ⟨i, q, hi, rfl, hr⟩ := hrel
    clear H0 ht ht2
    by_cases hlt : i < l.length
    · obtain ⟨v, hv, hok, rfl, hbl, c0, c1, c2, c3, c4⟩ := (H.out.below hr.out.bel).at hlt
      have HV := hidp hv
      have HK := hidp (And.intro hlt hok)
      have hadd := w64_nat (n := i) (by have := H4.out; omega)
      clear hv hok
      go_wp2_with fail
      refine (next_w q v 1 hr.out.hq HK.out.2.k (hr.out.asc.below ((Below.refl _ wr).alloc (Nat.le_refl _) _))).mono ?_
      rintro e w2 ⟨rfl, ha, hx⟩
      by_cases h0 : nextE q v 1 = 0
      · have H2 := hidp (hr.out.next HV.out HK.out.2.k h0 (ha (by omega)) hx)
        rw [h0]
        clear ha hx hr
        go_wp2_with fail
        rw [hadd]
        exact ⟨⟨i + 1, _, by have := HK.out.1; omega, rfl, H2⟩, by have h1 := HK.out.1; show l.length - ((i + 1 : Nat) : Int).toNat < l.length - ((i : Nat) : Int).toNat; omega⟩
      · obtain ⟨h1, h2⟩ := hr.out.fail HV.out h0 hx
        have hn : (((nextE q v 1 : Nat) : Int) != 0) = true := by rw [bne_iff_ne]; omega
        replace h2 := hidp (And.intro h1 h2)
        clear ha hx hr h0 h1
        generalize nextE q v 1 = n at *
        go_wp2_with fail
        go_ret
        exact ⟨by rw [h2.out.1]; rfl, h2.out.2⟩
    · have hl := hr.out.last (by omega)
      have hb := hidp (And.intro hl hr.out.bel)
      obtain rfl : i = l.length := by omega
      clear hr hl hlt
      go_wp2_with fail
      go_ret
      exact ⟨by rw [hb.out.1]; rfl, hb.out.2⟩
end Go.Proofs.YtcmkmnidnapabaaGreat

/-! Xb: == of arrays of bytes, whatever their length; of hashes, keys. -/
namespace Go.Proofs.YtcmkmnidnapabaaGreat
open Go.RowKit Go.Lib

theorem run_part_byte (v : List Nat) (i : Nat) (hi : i < v.length) (w : World) : (part 5 (bvs v).toArray i).run Tryz.prog w = .ok (.int .u8 (v.getD i 0 : Nat)) w := by
  have hagg : (isAgg 5).run Tryz.prog w = .ok false w := by
    unfold isAgg
    rw [Sem.run_bind, run_underlying Tryz.underlying5 w]
    rfl
  have hg : (bvs v).toArray[i]? = some (.int .u8 (v.getD i 0 : Nat)) := by rw [List.getElem?_toArray]; exact bvs_get hi
  simp [part, hagg, hg]
set_option maxRecDepth 20000 in
theorem run_equalIn_arr {T : TypeId} {n : Nat} (hT : Tryz.prog.underlying T = some (.array n 5)) (d : Nat) (a b : List Nat) (ha : a.length = n) (hb : b.length = n) (w : World) : (Op.equalIn (d + 2) T (.agg (bvs a).toArray) (.agg (bvs b).toArray)).run Tryz.prog w = .ok (decide (a = b)) w := by
  have hs : (sizeOf 5).run Tryz.prog w = .ok 1 w := by
    obtain ⟨j, hj⟩ : ∃ j, Tryz.prog.info? 5 = some j := Option.isSome_iff_exists.1 (by kernel_rfl)
    have h1 : (Tryz.prog.info? 5).map (·.size) = some 1 := by kernel_rfl
    rw [hj] at h1
    simp only [Option.map_some, Option.some.injEq] at h1
    simp [sizeOf, typeInfo, hj, h1]
  have hall : decide (a = b) = (List.range' 0 n 1).all (fun i => a.getD i 0 == b.getD i 0) := by
    rw [Bool.eq_iff_iff, decide_eq_true_eq, List.all_eq_true]
    constructor
    · rintro rfl i _; exact beq_self_eq_true _
    · intro h
      apply List.ext_getElem (by omega)
      intro i h1 h2
      have := h i (by simp; omega)
      rw [beq_iff_eq, List.getD_eq_getElem?_getD, List.getD_eq_getElem?_getD, List.getElem?_eq_getElem h1, List.getElem?_eq_getElem h2] at this
      exact this
  rw [hall, Op.equalIn]
  simp only [Sem.run_bind, run_underlying hT, Result.andThen_ok, hs]
  simp only [Std.Legacy.Range.forIn_eq_forIn_range', Std.Legacy.Range.size, Nat.mul_one, Nat.sub_zero, Nat.add_one_sub_one, Nat.div_one]
  have hl : ∀ i ∈ List.range' 0 n 1, i < n := by intro i hi; simp at hi; omega
  generalize List.range' 0 n 1 = l at hl
  induction l with
  | nil => simp
  | cons i l ih =>
    have h1 := run_part_byte a i (by rw [ha]; exact hl i (by simp)) w
    have h2 := run_part_byte b i (by rw [hb]; exact hl i (by simp)) w
    have h3 : (Op.equalIn (d + 1) 5 (.int .u8 (a.getD i 0 : Nat)) (.int .u8 (b.getD i 0 : Nat))).run Tryz.prog w = .ok (a.getD i 0 == b.getD i 0) w := by
      rw [run_equalIn_int w d 5 .u8 .u8 _ _ Tryz.underlying5]
      congr 1
      rw [Bool.eq_iff_iff, beq_iff_eq, beq_iff_eq]; omega
    simp only [List.forIn_cons, Sem.run_bind, h1, h2, h3, Result.andThen_ok, List.all_cons]
    cases a.getD i 0 == b.getD i 0
    · simp
    · simp only [Bool.not_true, Bool.false_eq_true, if_false, Sem.run_pure, Result.andThen_ok, Bool.true_and]
      exact ih (fun j hj => hl j (by simp [hj]))

theorem run_eql_hash (a b : List Nat) (ha : a.length = 32) (hb : b.length = 32) (w : World) : (binOp .eql 39 (.agg (bvs a).toArray) (.agg (bvs b).toArray)).run Tryz.prog w = .ok (.bool (decide (a = b))) w := by
  rw [run_eql_struct, run_equalIn_arr Tryz.underlying39 9998 a b ha hb]; rfl
theorem guard_hash : Tryz.prog.eqGuardType Tryz.prog.depth 39 = false := by kernel_rfl
end Go.Proofs.YtcmkmnidnapabaaGreat

/-! Vd: == of validators; the first one with a key. -/
namespace Go.Proofs.YtcmkmnidnapabaaGreat
open Go.RowKit Go.Lib

theorem fields_val : (Tryz.prog.fieldsOf 111).toList.map (fun f => (f.type, f.offset, f.name == "_")) = [(24, 0, false), (3, 4, false)] := by kernel_rfl
theorem struct_val : Tryz.prog.underlying 111 = some (.struct (Tryz.prog.fieldsOf 111)) := by kernel_rfl
theorem part_key (a b c d e : Value) (w : World) : (part 24 #[a, b, c, d, e] 0).run Tryz.prog w = .ok (.agg #[a, b, c, d]) w := by kernel_rfl
theorem part_pow (a b c d e : Value) (w : World) : (part 3 #[a, b, c, d, e] 4).run Tryz.prog w = .ok e w := by kernel_rfl
theorem kc_bvs (k : Nat) : (Value.agg #[.int .u8 (kd k 3 : Nat), .int .u8 (kd k 2 : Nat), .int .u8 (kd k 1 : Nat), .int .u8 (kd k 0 : Nat)]) = .agg (bvs (kb k)).toArray := rfl
set_option maxRecDepth 20000 in
theorem run_eqIn_key (d a b : Nat) (ha : a < 4294967296) (hb : b < 4294967296) (w : World) : (Op.equalIn (d + 2) 24 (.agg #[.int .u8 (kd a 3 : Nat), .int .u8 (kd a 2 : Nat), .int .u8 (kd a 1 : Nat), .int .u8 (kd a 0 : Nat)]) (.agg #[.int .u8 (kd b 3 : Nat), .int .u8 (kd b 2 : Nat), .int .u8 (kd b 1 : Nat), .int .u8 (kd b 0 : Nat)])).run Tryz.prog w = .ok (decide (a = b)) w := by
  rw [kc_bvs, kc_bvs, run_equalIn_arr Tryz.underlying24 d (kb a) (kb b) rfl rfl]
  congr 1
  rw [decide_eq_decide]
  exact ⟨kb_inj ha hb, fun h => by rw [h]⟩
set_option maxRecDepth 20000 in
theorem run_eqIn_val (d : Nat) (u v : Vd) (hu : u.k < 4294967296) (hv : v.k < 4294967296) (w : World) : (Op.equalIn (d + 3) 111 (.agg #[.int .u8 (kd (u).k 3 : Nat), .int .u8 (kd (u).k 2 : Nat), .int .u8 (kd (u).k 1 : Nat), .int .u8 (kd (u).k 0 : Nat), .int .i64 (u).p]) (.agg #[.int .u8 (kd (v).k 3 : Nat), .int .u8 (kd (v).k 2 : Nat), .int .u8 (kd (v).k 1 : Nat), .int .u8 (kd (v).k 0 : Nat), .int .i64 (v).p])).run Tryz.prog w = .ok (decide (u = v)) w := by
  rw [show d + 3 = (d + 2) + 1 from rfl, run_equalIn_agg w (d + 2) 111 _ _ struct_val (by kernel_rfl)]
  have hf := fields_val
  obtain ⟨f0, r, h0, h1, h2⟩ := List.map_eq_cons_iff.1 hf
  obtain ⟨f1, r', h3, h4, h5⟩ := List.map_eq_cons_iff.1 h2
  obtain rfl := List.map_eq_nil_iff.1 h5
  rw [h0, h3]
  simp only [Prod.mk.injEq, beq_eq_false_iff_ne] at h1 h4
  obtain ⟨t0, o0, n0⟩ := h1
  obtain ⟨t1, o1, n1⟩ := h4
  have e : decide (u = v) = (decide (u.k = v.k) && (u.p == v.p)) := by
    obtain ⟨a, b⟩ := u
    obtain ⟨c, d⟩ := v
    simp only [Vd.mk.injEq]
    by_cases h : a = c <;> by_cases h' : b = d <;> simp [h, h']
  rw [e]
  simp only [Op.eqFields, n0, n1, t0, t1, o0, o1, ne_eq, not_false_eq_true, if_true, Sem.run_bind, part_key, Result.andThen_ok, run_eqIn_key d u.k v.k hu hv]
  cases decide (u.k = v.k)
  · rfl
  · simp only [Bool.not_true, Bool.false_eq_true, if_false, Sem.run_bind, part_pow, Result.andThen_ok, run_equalIn_int w (d + 1) 3 .i64 .i64 _ _ Tryz.underlying3]
    cases (u.p == v.p) <;> rfl
set_option maxRecDepth 20000 in
theorem run_eq_val (u v : Vd) (hu : u.k < 4294967296) (hv : v.k < 4294967296) (w : World) : (binOp .eql 111 (.agg #[.int .u8 (kd (u).k 3 : Nat), .int .u8 (kd (u).k 2 : Nat), .int .u8 (kd (u).k 1 : Nat), .int .u8 (kd (u).k 0 : Nat), .int .i64 (u).p]) (.agg #[.int .u8 (kd (v).k 3 : Nat), .int .u8 (kd (v).k 2 : Nat), .int .u8 (kd (v).k 1 : Nat), .int .u8 (kd (v).k 0 : Nat), .int .i64 (v).p])).run Tryz.prog w = .ok (.bool (decide (u = v))) w := by
  rw [run_eql_struct, run_eqIn_val 9997 u v hu hv]; rfl
theorem guard_val : Tryz.prog.eqGuardType Tryz.prog.depth 111 = false := by kernel_rfl

/-- The place of the first one with a key. -/
def fnd (l : List Vd) (k : Nat) : Option Nat := l.findIdx? (fun v => v.k == k)
def fndI (l : List Vd) (k : Nat) : Int := match fnd l k with | some i => (i : Nat) | none => -1
end Go.Proofs.YtcmkmnidnapabaaGreat
