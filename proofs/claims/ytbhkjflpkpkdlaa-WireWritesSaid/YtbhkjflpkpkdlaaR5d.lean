/-
  The reference of layer 5: Decode.
-/
import Derived.Test.YtbhkjflpkpkdlaaTr
import Derived.Test.YtbhkjflpkpkdlaaRb
namespace Go.Proofs.Ytbhkjflpkpkdlaa
set_option linter.unusedSimpArgs false
open Go.RowKit Go.Lib Go.Maps

theorem list_four {α : Type} {X : List α} (h : X.length = 4) : ∃ a b c d, X = [a, b, c, d] := by
  match X, h with
  | [a, b, c, d], _ => exact ⟨a, b, c, d, rfl⟩
theorem key_val {s : RS} {V : List Nat} (hV : V = rdV (pRaw 4) (List.replicate 4 0) s) (hb : Bytes 4 V) : (Value.agg #[.int .u8 (kd (decV s).k 3 : Nat), .int .u8 (kd (decV s).k 2 : Nat), .int .u8 (kd (decV s).k 1 : Nat), .int .u8 (kd (decV s).k 0 : Nat)]) = .agg (bvs V).toArray := by
  have q := (kb_kOf hb).1
  have e : (Value.agg #[.int .u8 (kd (decV s).k 3 : Nat), .int .u8 (kd (decV s).k 2 : Nat), .int .u8 (kd (decV s).k 1 : Nat), .int .u8 (kd (decV s).k 0 : Nat)]) = .agg (bvs (kb (kOf (rdV (pRaw 4) (List.replicate 4 0) s)))).toArray := rfl
  rw [e, ← hV, q]
theorem zero4 : Bytes 4 (List.replicate 4 0) := ⟨rfl, fun x hx => by rw [List.eq_of_mem_replicate hx]; decide⟩
theorem RdQ.drew {w : World} {g b : Nat} {s : RS} (H : RdQ w g b s) : RdQ w.drew g b s := H.below (Below.refl _ w).drew
theorem endS_zero {s : RS} {y : Nat} (h : endS s = (0, y)) : y = 0 := by
  unfold endS endE at h
  split at h
  · rename_i he
    simp only [Prod.mk.injEq] at h
    omega
  · split at h
    · simp at h
    · simp only [Prod.mk.injEq] at h
      omega
theorem rdN_byte5 {α : Type} {pr : List Nat → PR α} {s : RS} (h : ∀ x ∈ s.R, x < 256) : ∀ x ∈ (rdN pr s).R, x < 256 := by
  unfold rdN
  split
  · exact h
  · split
    · exact fun x hx => h x (List.mem_of_mem_drop hx)
    · exact fun x hx => by cases hx
theorem refKeyN {w : World} {g b : Nat} {s : RS} (H : RdQ w g b s) :
    Calls Try.prog 93 #[.pointer (some ⟨g, 0, none⟩)] w fun e w' => e = .returned (.agg #[.int .u8 (kd (decV s).k 3 : Nat), .int .u8 (kd (decV s).k 2 : Nat), .int .u8 (kd (decV s).k 1 : Nat), .int .u8 (kd (decV s).k 0 : Nat)]) ∧ RdQ w' g b (rdN (pRaw 4) s) ∧ Bex g w w' := by
  have HH := H
  obtain ⟨p, cap, B, t, h1, h2, h3⟩ := H.q
  by_cases he : s.e = 0
  · obtain ⟨hf, hR, ht⟩ := h3 he
    rw [he] at h1
    have hl := h1.le
    by_cases hn : s.R.length < 4
    · have e1 : rdV (pRaw 4) (List.replicate 4 0) s = List.replicate 4 0 := by unfold rdV pRaw; rw [if_neg (by omega), if_pos hn]
      have e2 : rdN (pRaw 4) s = ⟨s.t, [], 6, s.t⟩ := by unfold rdN pRaw; rw [if_neg (by omega), if_pos hn]
      refine (refKey_short g p b cap B t s.f w h1 (by rw [← hR, List.length_drop] at hn; omega) h2).mono ?_
      rintro e w' ⟨rfl, h5, h6⟩
      rw [e2, key_val e1.symm zero4]
      rw [ht] at h5
      exact ⟨rfl, ⟨p, cap, B, s.t, h5, h2, fun h => by cases h⟩, h6⟩
    · have e1 : rdV (pRaw 4) (List.replicate 4 0) s = s.R.take 4 := by unfold rdV pRaw; rw [if_neg (by omega), if_neg hn]
      have e2 : rdN (pRaw 4) s = ⟨s.t + 4, s.R.drop 4, 0, 0⟩ := by unfold rdN pRaw; rw [if_neg (by omega), if_neg hn]
      have hlen : t + 4 ≤ B.length := by rw [← hR, List.length_drop] at hn; omega
      obtain ⟨x0, x1, x2, x3, hX⟩ := list_four (X := s.R.take 4) (by rw [List.length_take]; omega)
      obtain ⟨rfl, _⟩ := h1.bs.ptr (by have := h1.bs.le; omega)
      rw [hf] at h1
      refine (refKey_ok g b cap B t 0 x0 x1 x2 x3 w h1 hlen h2 (by rw [hR]; exact hX)).mono ?_
      rintro e w' ⟨rfl, h5, h6⟩
      have hb4 : Bytes 4 (s.R.take 4) := ⟨by rw [hX]; rfl, fun x hx => HH.byte he x (List.mem_of_mem_take hx)⟩
      rw [e2, key_val e1.symm hb4, hX]
      exact ⟨rfl, ⟨_, cap, B, t + 4, h5, h2, fun _ => ⟨rfl, by rw [← List.drop_drop, hR], by rw [ht]⟩⟩, h6⟩
  · have e1 : rdV (pRaw 4) (List.replicate 4 0) s = List.replicate 4 0 := by unfold rdV; rw [if_pos he]
    have e2 : rdN (pRaw 4) s = s := by unfold rdN; rw [if_pos he]
    refine (refKey_dead g p b cap B t s.e s.f w h1 he).mono ?_
    rintro e w' ⟨rfl, h5⟩
    rw [e2, key_val e1.symm zero4]
    exact ⟨rfl, HH.below h5, Bex.of_below h5⟩
theorem refNew5 (p : Option Addr) (cap : Nat) (L : List Nat) (w : World) (h : ByS w p cap L) (hn : L.length ≤ 3000000) :
    Calls Try.prog 23 #[.slice p L.length cap] w fun e w' => ∃ g b, e = .returned (.pointer (some ⟨g, 0, none⟩)) ∧ w.heap.size ≤ g ∧ b < w'.heap.size ∧ RdQ w' g b (rs0 L) ∧ Below w.heap.size w w' := by
  refine (refNewReader_any p cap L w h hn).mono ?_
  rintro e w' ⟨g, q, b, c, h1, h2, h3, h4, h5⟩
  by_cases hc : 0 < c
  · exact ⟨g, b, h1, h2, (h4.bs.ptr hc).2, ⟨q, c, L, 0, h4, by omega, fun _ => ⟨rfl, rfl, rfl⟩⟩, h5⟩
  · have hL : L = [] := List.eq_nil_of_length_eq_zero (by have := h4.bs.le; omega)
    subst hL
    exact ⟨g, g, h1, h2, h4.blk.lt, ⟨q, c, [], 0, ⟨h4.blk, ⟨h4.bs.byte, h4.bs.le, fun h => absurd h hc, fun i hi => absurd hi (by simp)⟩, fun h => absurd h hc, h4.le⟩, by simp, fun _ => ⟨rfl, rfl, rfl⟩⟩, h5⟩
theorem strB_sz (most : Int) (s : RS) (hL : s.R.length ≤ 4000000) : (strB (rdV (fun R => pText R most) [] s)).size ≤ 4000000 := by
  rw [strB_size]
  by_cases he : s.e = 0
  · cases hp : pText s.R most with
    | ok v n =>
      rw [rdV_ok (pr := fun R => pText R most) he hp]
      unfold pText at hp
      split at hp
      · cases hp
      · split at hp
        · cases hp
        · cases hp
          rw [List.length_take, List.length_drop]; omega
    | er x => rw [rdV_er (pr := fun R => pText R most) he hp]; simp
  · unfold rdV; rw [if_pos he]; simp
/-- What stands from round to round. -/
structure DecQ (w wr : World) (B g b n i : Nat) (s : RS) (v : Value) : Prop where
  rd : RdQ wr g b (decF i s).2
  res : Blk wr w.heap.size [.int .i64 0, .int .i64 0] 55
  hr : w.heap.size < g
  own : OwnV wr B v (decF i s).1
  bel : Below w.heap.size w wr
  hg : w.heap.size ≤ g
  gB : g < B
  bB : b < B
  wB : B ≤ wr.heap.size
  wwB : w.heap.size ≤ B
theorem DecQ.next {w wr w4 w5 w6 w7 : World} {B g b n i : Nat} {s : RS} {v v' : Value} {o : Obj} (H : DecQ w wr B g b n i s v)
    (h4 : RdQ w4 g b (rdN (pRaw 4) (decF i s).2) ∧ Bex g wr w4) (h45 : Below w4.heap.size w4 w5) (h6 : RdQ w6 g b (decN (decF i s).2) ∧ Bex g w5 w6)
    (ho : w7.ownsRow B 142 5 v' ((decF i s).1.length + 1) ((decF i s).1.flatMap vL ++ vL (decV (decF i s).2))) (hg : Below B (w6.alloc o) w7) : DecQ w w7 B g b n (i + 1) s v' := by
  have z4 := h4.2.size
  have z5 := h45.size
  have z6 := h6.2.size
  have b67 : Below B w6 w7 := ((Below.refl B w6).alloc (by have := H.wB; omega) o).trans hg
  have hx : Bex g wr w6 := (h4.2.trans (Bex.of_below h45)).trans h6.2
  refine ⟨h6.1.lower b67 H.gB H.bB, (hx.blk H.res (by have := H.hr; omega)).below b67 (by have := H.hr; have := H.gB; omega), H.hr, OwnV.snoc ho, (H.bel.trans (hx.below H.hg H.bel.size)).trans (b67.mono H.wwB), H.hg, H.gB, H.bB, ?_, H.wwB⟩
  have := b67.size
  have := H.wB
  omega
theorem DecQ.own6 {w wr w4 w5 w6 : World} {B g b n i : Nat} {s : RS} {v : Value} (H : DecQ w wr B g b n i s v) (h4 : Bex g wr w4) (h45 : Below w4.heap.size w4 w5) (h6 : Bex g w5 w6) (o : Obj) :
    (w6.alloc o).ownsRow B 142 5 v (decF i s).1.length ((decF i s).1.flatMap vL) ∧ B ≤ (w6.alloc o).heap.size := by
  have z4 := h4.size
  have z5 := h45.size
  have z6 := h6.size
  refine ⟨(((H.own.bex h4 H.gB).below h45).bex h6 H.gB).below ((Below.refl _ w6).alloc (Nat.le_refl _) o), ?_⟩
  have := H.wB
  simp
  omega
end Go.Proofs.Ytbhkjflpkpkdlaa
