/-
  Texts Jr, Js, Jt, Jy, Ju, one behind the other.
-/
import Derived.Test.YtcmkmnidnapabaaGreatQe

/-! Jr: The walk of landfalllaw04's WireKnown. -/
namespace Go.Proofs.YtcmkmnidnapabaaGreat
open Go.RowKit Go.Lib Go.Maps

theorem RdX.below {w w' : World} {g t b : Nat} {R : List Nat} {e f : Nat} (H : RdX w g t b R e f) (hB : Below w.heap.size w w') : RdX w' g t b R e f := by
  obtain ⟨p, o, c, h⟩ := H
  exact ⟨p, o, c, h.below hB⟩
theorem RdX.bex {c : Nat} {w w' : World} {g t b : Nat} {R : List Nat} {e f : Nat} (H : RdX w g t b R e f) (hx : Bex c w w') (hg : g ≠ c) (hb : c ≠ b) : RdX w' g t b R e f := by
  obtain ⟨p, o, k, h⟩ := H
  exact ⟨p, o, k, h.bex hx hg (fun _ => hb)⟩
theorem RdX.lt {w : World} {g t b : Nat} {R : List Nat} {e f : Nat} (H : RdX w g t b R e f) (h0 : 0 < R.length) : g < w.heap.size ∧ b < w.heap.size := by
  obtain ⟨p, o, k, h⟩ := H
  exact ⟨h.blk.lt, (h.bs.ptr (by have := h.bs.le; omega)).2⟩
end Go.Proofs.YtcmkmnidnapabaaGreat

/-! Js: Contracts: writers that nobody made. -/
namespace Go.Proofs.YtcmkmnidnapabaaGreat
open Go.RowKit Go.Lib Go.Maps

/-- A writer that nobody made. -/
def BadW (w : World) (x : Value) : Prop := x = .pointer none ∨ ∃ g, x = .pointer (some ⟨g, 0, none⟩) ∧ w.cell? ⟨g, 0, none⟩ = some (.pointer none)
theorem BadW.below {w w' : World} {x : Value} (h : BadW w x) (hB : Below w.heap.size w w') : BadW w' x := by
  rcases h with h | ⟨g, h, hc⟩
  · exact .inl h
  · exact .inr ⟨g, h, (hB.cell (cell_lt hc)).trans hc⟩
/-- What a method of a writer that nobody made tells. -/
def BadP (w : World) (e : Ending) (w' : World) : Prop := e = .returned (.int .i64 1) ∧ Below w.heap.size w w'
end Go.Proofs.YtcmkmnidnapabaaGreat

/-! Jt: Contracts: writers and readers that nobody made. -/
namespace Go.Proofs.YtcmkmnidnapabaaGreat
open Go.RowKit Go.Lib Go.Maps

/-! Readers that nobody made. -/
def BadR (w : World) (x : Value) : Prop := x = .pointer none ∨ ∃ g, x = .pointer (some ⟨g, 0, none⟩) ∧ w.cell? ⟨g, 0, none⟩ = some (.pointer none)
theorem BadR.below {w w' : World} {x : Value} (h : BadR w x) (hB : Below w.heap.size w w') : BadR w' x := by
  rcases h with h | ⟨g, h, hc⟩
  · exact .inl h
  · exact .inr ⟨g, h, (hB.cell (cell_lt hc)).trans hc⟩
end Go.Proofs.YtcmkmnidnapabaaGreat

/-! Jy: Contracts: a valid writer's Hash, Key, Pace. -/
namespace Go.Proofs.YtcmkmnidnapabaaGreat
open Go.RowKit Go.Lib Go.Maps

set_option maxRecDepth 20000 in
theorem wHash_ok {w : World} {g lim : Nat} {v : Value} {L : List Nat} (H : Wr w g lim v L 0) (a : List Nat) (ha : Bytes 32 a) (hs : L.length + 32 ≤ lim) :
    Calls Tryz.prog 106 #[.pointer (some ⟨g, 0, none⟩), .agg (bvs a).toArray] w (PutP w g lim v (L ++ a)) := by
  have HH := hidp H
  have HS := hidp hs
  have HA := hidp ha
  have hsl := fun w' => run_sliceAt_all (P := Tryz.prog) (t := 39) (e := 5) (n := 32) Tryz.underlying39 (by kernel_rfl) (by decide) w.heap.size 0 w'
  clear H hs ha
  go_enter Tryz.func106, Tryz.ntmps106
  go_wp2_with fail
  have hpc := new_piece w a HA.out.2 39 (.cells #[.slice (some ⟨w.heap.size, 0, none⟩) 32 32] 35)
  rw [HA.out.1] at hpc
  refine (put1 HH.out (((Below.refl _ w).alloc (Nat.le_refl _) _).alloc (by simp) _) hpc (fun _ => Nat.le_refl _) (fun h => by cases h) (by simp) (by rw [HA.out.1]; exact Blk.new' _ _ _ _ (by simp)) (by rw [HA.out.1]; exact HS.out) _).mono ?_
  rintro e w2 ⟨rfl, h⟩
  replace h := hidp h
  clear hpc
  go_wp2
  go_ret
  exact ⟨rfl, h.out⟩

set_option maxRecDepth 20000 in
theorem wKey_ok {w : World} {g lim : Nat} {v : Value} {L : List Nat} (H : Wr w g lim v L 0) (a : List Nat) (ha : Bytes 4 a) (hs : L.length + 4 ≤ lim) :
    Calls Tryz.prog 78 #[.pointer (some ⟨g, 0, none⟩), .agg (bvs a).toArray] w (PutP w g lim v (L ++ a)) := by
  have HH := hidp H
  have HS := hidp hs
  have HA := hidp ha
  have hsl := fun w' => run_sliceAt_all (P := Tryz.prog) (t := 24) (e := 5) (n := 4) Tryz.underlying24 (by kernel_rfl) (by decide) w.heap.size 0 w'
  clear H hs ha
  go_enter Tryz.func78, Tryz.ntmps78
  go_wp2_with fail
  have hpc := new_piece w a HA.out.2 24 (.cells #[.slice (some ⟨w.heap.size, 0, none⟩) 4 4] 35)
  rw [HA.out.1] at hpc
  refine (put1 HH.out (((Below.refl _ w).alloc (Nat.le_refl _) _).alloc (by simp) _) hpc (fun _ => Nat.le_refl _) (fun h => by cases h) (by simp) (by rw [HA.out.1]; exact Blk.new' _ _ _ _ (by simp)) (by rw [HA.out.1]; exact HS.out) _).mono ?_
  rintro e w2 ⟨rfl, h⟩
  replace h := hidp h
  clear hpc
  go_wp2
  go_ret
  exact ⟨rfl, h.out⟩

end Go.Proofs.YtcmkmnidnapabaaGreat

/-! Ju: Contracts: readers that nobody made: Hash, Key, Rest, End; puts of a writer that nobody made. -/
namespace Go.Proofs.YtcmkmnidnapabaaGreat
open Go.RowKit Go.Lib Go.Maps
/-! A thing. -/
def thL (kind n : Int) (p : Option Addr) (len cap : Nat) (h k : List Nat) (x : Nat) (is : Bool) : List Value := .int .i64 kind :: .int .i64 n :: .slice p len cap :: (bvs h ++ (bvs k ++ [.int .u64 (x : Nat), .bool is]))
end Go.Proofs.YtcmkmnidnapabaaGreat
