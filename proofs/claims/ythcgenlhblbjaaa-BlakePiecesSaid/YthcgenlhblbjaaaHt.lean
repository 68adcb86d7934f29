/-
  Contract: which of two hashes is less.
-/
import Derived.Test.YthcgenlhblbjaaaHn
import Derived.Lib.Bytealg
import Derived.Lib.BytesEntry
namespace Go.Proofs.Ythcgenlhblbjaaa
open Go.RowKit Go.Lib

def cmpL : List Nat → List Nat → Int
  | [], [] => 0
  | [], _ :: _ => -1
  | _ :: _, [] => 1
  | a :: r, b :: q => if a < b then -1 else if b < a then 1 else cmpL r q
theorem ofNat_lt {a b : Nat} (ha : a < 256) (hb : b < 256) : (UInt8.ofNat a < UInt8.ofNat b) ↔ a < b := by
  rw [UInt8.lt_iff_toNat_lt, UInt8.toNat_ofNat_of_lt' ha, UInt8.toNat_ofNat_of_lt' hb]
theorem cmp_bytes : ∀ (a b : List Nat), (∀ x ∈ a, x < 256) → (∀ x ∈ b, x < 256) → compareBytes (a.map UInt8.ofNat) (b.map UInt8.ofNat) = cmpL a b
  | [], [], _, _ => rfl
  | [], _ :: _, _, _ => rfl
  | _ :: _, [], _, _ => rfl
  | x :: a, y :: b, ha, hb => by
    have h1 := ofNat_lt (ha x (by simp)) (hb y (by simp))
    have h2 := ofNat_lt (hb y (by simp)) (ha x (by simp))
    have ih := cmp_bytes a b (fun z hz => ha z (by simp [hz])) (fun z hz => hb z (by simp [hz]))
    simp only [List.map_cons, compareBytes, cmpL, ih, h1, h2]
theorem run_bytesOf (v : List Nat) (b cap : Nat) (w : World) (hw : BytesAt w b 0 v) : (Extern.Bytes.bytesOf (.slice (some ⟨b, 0, none⟩) v.length cap)).run Try.prog w = .ok (toB v) w := by
  have h := run_loadBytesX (P := Try.prog) w (v.map fun x : Nat => (x : Int)) ⟨b, 0, none⟩ .empty (fun j x hj => by
    rw [List.getElem?_map] at hj
    have hjl : j < v.length := by
      rcases Nat.lt_or_ge j v.length with h1 | h1
      · exact h1
      · rw [List.getElem?_eq_none h1] at hj; cases hj
    have e := hw j hjl
    rw [Nat.zero_add] at e
    rw [Addr.add_mid, Nat.zero_add, e]
    rw [List.getElem?_eq_getElem hjl] at hj
    rw [List.getD_eq_getElem?_getD, List.getElem?_eq_getElem hjl]
    simp only [Option.map_some, Option.some.injEq] at hj
    rw [← hj]; rfl)
  rw [List.length_map] at h
  show (Extern.Bytes.loadBytes ⟨b, 0, none⟩ v.length .empty).run Try.prog w = _
  rw [h]
  congr 1
  apply ByteArray.ext
  unfold toB
  simp [Lib.bytesOf]
theorem run_compare (a b : List Nat) (ba bb ca cb : Nat) (w : World) (ha : ∀ x ∈ a, x < 256) (hb : ∀ x ∈ b, x < 256) (wa : BytesAt w ba 0 a) (wb : BytesAt w bb 0 b) :
    (callFunc 45 #[.slice (some ⟨ba, 0, none⟩) a.length ca, .slice (some ⟨bb, 0, none⟩) b.length cb]).run Try.prog w = .ok (.value (.int .i64 (cmpL a b))) w := by
  rw [run_callFunc_extern Try.func45 (by kernel_rfl) (by kernel_rfl) (by kernel_rfl) (e := Extern.BytealgCompare.compare) (by kernel_rfl)]
  have h1 := run_bytesOf a ba ca w wa
  have h2 := run_bytesOf b bb cb w wb
  have hc : Extern.BytealgCompare.cmp (toB a) (toB b) = cmpL a b := by
    rw [cmp_eq, ← cmp_bytes a b ha hb]
    congr 1 <;> simp [toB]
  have h3 : (Extern.BytealgCompare.compare #[.slice (some ⟨ba, 0, none⟩) a.length ca, .slice (some ⟨bb, 0, none⟩) b.length cb]).run Try.prog w = .ok (.int .i64 (cmpL a b)) w := by
    change Sem.run Try.prog (do pure (goInt (Extern.BytealgCompare.cmp (← Extern.Bytes.bytesOf (.slice (some ⟨ba, 0, none⟩) a.length ca)) (← Extern.Bytes.bytesOf (.slice (some ⟨bb, 0, none⟩) b.length cb))))) w = _
    simp only [Sem.run_bind, Sem.run_pure, Result.andThen, h1, h2]
    rw [hc]; rfl
  simp [h3, Result.andThen]

theorem bcompare_any (a b : List Nat) (ba bb ca cb : Nat) (w : World) (ha : ∀ x ∈ a, x < 256) (hb : ∀ x ∈ b, x < 256) (wa : BytesAt w ba 0 a) (wb : BytesAt w bb 0 b) :
    Calls Try.prog 35 #[.slice (some ⟨ba, 0, none⟩) a.length ca, .slice (some ⟨bb, 0, none⟩) b.length cb] w fun e w' => e = .returned (.int .i64 (cmpL a b)) ∧ w' = w := by
  have hr := run_compare a b ba bb ca cb w ha hb wa wb
  clear ha hb wa wb
  go_enter Try.func35, Try.ntmps35
  go_wp2
  go_ret
  exact ⟨rfl, rfl⟩

set_option maxRecDepth 20000 in
set_option maxHeartbeats 2000000 in
theorem compare_any (a b : List Nat) (w : World) (ha : Bytes 32 a) (hb : Bytes 32 b) :
    Calls Try.prog 18 #[.agg (bvs a).toArray, .agg (bvs b).toArray] w fun e w' => e = .returned (.int .i64 (cmpL a b)) ∧ Below w.heap.size w w' := by
  have w2a : Blk ((w.alloc (.cells (bvs a).toArray 26)).alloc (.cells (bvs b).toArray 26)).drew w.heap.size (bvs a) 26 := ((Blk.new w _ _).alloc _).drew
  have w2b : Blk ((w.alloc (.cells (bvs a).toArray 26)).alloc (.cells (bvs b).toArray 26)).drew (w.heap.size + 1) (bvs b) 26 := (Blk.new' _ _ _ _ (by simp)).drew
  have hbel : Below w.heap.size w ((w.alloc (.cells (bvs a).toArray 26)).alloc (.cells (bvs b).toArray 26)).drew := (((Below.refl _ w).alloc (Nat.le_refl _) _).alloc (by simp) _).drew
  have HC := fun wd (hwd : wd = ((w.alloc (.cells (bvs a).toArray 26)).alloc (.cells (bvs b).toArray 26)).drew) => bcompare_any a b w.heap.size (w.heap.size + 1) 32 32 wd ha.2 hb.2 (fun i hi => by rw [hwd, Nat.zero_add]; exact (w2a.cell i).trans (bvs_get hi)) (fun i hi => by rw [hwd, Nat.zero_add]; exact (w2b.cell i).trans (bvs_get hi))
  rw [ha.1, hb.1] at HC
  have HC := hidp HC
  have hbel := hidp hbel
  clear w2a w2b ha hb
  go_enter Try.func18, Try.ntmps18
  go_wp2
  refine region_tail 2 (by kernel_rfl) (by kernel_rfl) ?_
  intro wd hwd
  simp only [List.take_succ_cons, List.take_zero, List.drop_succ_cons, List.drop_zero]
  repeat still_step
  try refine wpStill_nil ?_
  go_wp2_with (go_at_call 35; refine (HC.out wd hwd.out).mono ?_; rintro e wx ⟨rfl, rfl⟩)
  go_ret
  exact ⟨rfl, hwd.out ▸ hbel.out⟩
end Go.Proofs.Ythcgenlhblbjaaa
