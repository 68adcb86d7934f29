/-
  Texts Kd, Ke, Kf, Kg, one behind the other.
-/
import Derived.Test.YtcmkmnidnapabaaGreatKc
import Derived.Lib.ConvBytes

/-! Kd: Contracts: again, of bytes. -/
namespace Go.Proofs.YtcmkmnidnapabaaGreat
open Go.RowKit Go.Lib Go.Maps
end Go.Proofs.YtcmkmnidnapabaaGreat

/-! Ke: Contracts: again, of hashes and keys. -/
namespace Go.Proofs.YtcmkmnidnapabaaGreat
open Go.RowKit Go.Lib Go.Maps
/-- Cells laid from a place on. -/
def setsL : List Value → Nat → List Value → List Value
  | cs, _, [] => cs
  | cs, o, v :: r => setsL (cs.set o v) (o + 1) r
theorem Blk.sets {b : Nat} {T : TypeId} : ∀ (vs : List Value) (o : Nat) (w : World) (cs : List Value), Blk w b cs T → Blk (w.setCells b o vs) b (setsL cs o vs) T
  | [], _, _, _, h => h
  | v :: r, o, _, _, h => Blk.sets r (o + 1) _ _ (h.set o v)
theorem Bex.sets (b : Nat) : ∀ (vs : List Value) (o : Nat) (w : World), Bex b w (w.setCells b o vs)
  | [], _, w => Bex.refl b w
  | v :: r, o, w => ((Bex.refl b w).setCell o v).trans (Bex.sets b r (o + 1) _)
theorem setsL_mid : ∀ (V A B C : List Value), B.length = V.length → setsL (A ++ (B ++ C)) A.length V = A ++ (V ++ C)
  | [], A, B, C, h => by
    have : B = [] := List.eq_nil_of_length_eq_zero h
    subst this
    rfl
  | v :: r, A, [], C, h => by simp at h
  | v :: r, A, x :: B, C, h => by
    have q := setsL_mid r (A ++ [v]) B C (by simpa using h)
    simp only [List.append_assoc, List.length_append, List.length_cons, List.length_nil, List.cons_append, List.nil_append] at q
    simp only [setsL, List.cons_append]
    rw [List.set_append_right _ _ (Nat.le_refl _), Nat.sub_self, List.set_cons_zero]
    exact q
theorem setsL_h {h : List Nat} (hh : h.length = 32) : setsL (zT 3) 3 (bvs h) = thL 3 0 none 0 0 h (List.replicate 4 0) 0 false := by
  have q := setsL_mid (bvs h) [.int .i64 3, .int .i64 0, .slice none 0 0] (bvs (List.replicate 32 0)) (bvs (List.replicate 4 0) ++ [.int .u64 ((0 : Nat) : Int), .bool false]) (by rw [bvs_len, bvs_len, hh]; rfl)
  exact q
theorem setsL_k {k : List Nat} (hk : k.length = 4) : setsL (zT 4) 35 (bvs k) = thL 4 0 none 0 0 (List.replicate 32 0) k 0 false := by
  have q := setsL_mid (bvs k) ([.int .i64 4, .int .i64 0, .slice none 0 0] ++ bvs (List.replicate 32 0)) (bvs (List.replicate 4 0)) [.int .u64 ((0 : Nat) : Int), .bool false] (by rw [bvs_len, bvs_len, hk]; rfl)
  simp only [List.append_assoc] at q
  exact q
theorem Blk.there {w : World} {b : Nat} {cs : List Value} {T : TypeId} (h : Blk w b cs T) (o n : Nat) (hn : o + n ≤ cs.length) : w.there b o n := fun j hj =>
  ⟨by rw [h.cell (o + j), List.getElem?_eq_getElem (by omega)]; rfl, h.free (o + j)⟩
end Go.Proofs.YtcmkmnidnapabaaGreat

/-! Kf: Contracts: again, of texts. -/
namespace Go.Proofs.YtcmkmnidnapabaaGreat
open Go.RowKit Go.Lib Go.Maps
end Go.Proofs.YtcmkmnidnapabaaGreat

/-! Kg: Contracts: Pick, a reader of any bytes, again of any kind. -/
namespace Go.Proofs.YtcmkmnidnapabaaGreat
open Go.RowKit Go.Lib Go.Maps

theorem Pick_any (x : Int) (n : Nat) (w : World) (hn : 0 < n) (hn2 : n ≤ 1000) :
    Calls Tryz.prog 46 #[.int .i64 x, .int .i64 n] w fun e w' => (∃ r : Nat, r < n ∧ e = .returned (.int .i64 r)) ∧ w' = w := by
  have hm := Int.tmod_lt_of_pos x (show (0 : Int) < (n : Int) by omega)
  have hm2 : -(n : Int) < x.tmod n := by
    have h1 := Int.tmod_lt_of_pos (-x) (show (0 : Int) < (n : Int) by omega)
    rw [Int.neg_tmod] at h1
    omega
  have hz : ((n : Int) == 0) = false := by rw [beq_eq_false_iff_ne]; omega
  have hle : decide ((n : Int) ≤ 0) = false := decide_eq_false (by omega)
  have hnz : ¬ (n : Int) = 0 := by omega
  generalize hr : x.tmod (n : Int) = r at hm hm2
  by_cases h0 : r < 0
  · have ht : decide (r < 0) = true := decide_eq_true h0
    have hw : wrap64 (r + n) = r + n := w64 _ (by omega)
    have hw0 : wrap64 r = r := w64 _ (by omega)
    have HH := hidp (And.intro hm (And.intro hm2 h0))
    clear hm hm2 h0
    go_enter Tryz.func46, Tryz.ntmps46
    go_wp2
    go_ret
    exact ⟨⟨(r + n).toNat, by have := HH.out; omega, ret_int (by have := HH.out; omega)⟩, rfl⟩
  · have ht : decide (r < 0) = false := decide_eq_false h0
    have hw0 : wrap64 r = r := w64 _ (by omega)
    have HH := hidp (And.intro hm (And.intro hm2 h0))
    clear hm hm2 h0
    go_enter Tryz.func46, Tryz.ntmps46
    go_wp2
    go_ret
    exact ⟨⟨r.toNat, by have := HH.out; omega, ret_int (by have := HH.out; omega)⟩, rfl⟩

theorem pNum_ne {R : List Nat} {x : Nat} (h : pNum R = .er x) : x ≠ 0 := by
  cases R with
  | nil => cases h; decide
  | cons k R =>
    rw [pNum_cons] at h
    split at h
    · cases h; decide
    split at h
    · cases h; decide
    split at h
    · cases h; decide
    · cases h
theorem pText_ne {R : List Nat} {most : Int} {x : Nat} (h : pText R most = .er x) : x ≠ 0 := by
  unfold pText pLen at h
  cases hn : pNum R with
  | er y => rw [hn] at h; cases h; exact pNum_ne hn
  | ok v n =>
    rw [hn] at h
    simp only at h
    split at h
    · rename_i hq
      cases h
      split at hq
      · cases hq; decide
      · cases hq
    · split at h
      · cases h; decide
      · cases h
theorem pWord_ne {R : List Nat} {x : Nat} (h : pWord R = .er x) : x ≠ 0 := by
  unfold pWord at h
  split at h
  · cases h; decide
  · cases h
theorem pPace_ne {R : List Nat} {x : Nat} (h : pPace R = .er x) : x ≠ 0 := by
  unfold pPace at h
  split at h
  · cases h; decide
  split at h
  · cases h
  · cases h; decide
theorem pBool_ne {R : List Nat} {x : Nat} (h : pBool R = .er x) : x ≠ 0 := by
  cases R with
  | nil => cases h; decide
  | cons k R =>
    rw [pBool_cons] at h
    split at h
    · cases h; decide
    · cases h
theorem newReader_any (p : Option Addr) (b o cap : Nat) (L : List Nat) (w : World) (h : Bs w p b o L cap) (hn : L.length ≤ 4000000) :
    Calls Tryz.prog 88 #[.slice p L.length cap] w fun e w' => ∃ g b', e = .returned (.pointer (some ⟨g, 0, none⟩)) ∧ w.heap.size ≤ g ∧ b' < w'.heap.size ∧ RdX w' g 0 b' L 0 0 ∧ Below w.heap.size w w' := by
  have HC := hidp (clone_any p b o cap L w h hn)
  have HN := hidp hn
  clear h hn
  go_enter Tryz.func88, Tryz.ntmps88
  go_wp2_with (go_at_call 152; refine HC.out.mono ?_; rintro e w1 ⟨⟨v, rfl, p, b, cap', rfl, hb, hp, hs⟩, hB⟩; have hX := hidp (And.intro hb (And.intro hp (And.intro hs hB))); clear hb hp hs hB)
  go_ret
  have hB2 : Below w1.heap.size w1 (w1.alloc (.cells #[.pointer (some ⟨w1.heap.size, 0, none⟩), .int .i64 (0 : Nat), .slice p L.length cap', .int .i64 (0 : Nat), .int .i64 (0 : Nat)] 215)) := (Below.refl _ w1).alloc (Nat.le_refl _) _
  have hs2 := hX.out.2.2.1.below hB2
  by_cases h0 : 0 < cap'
  · exact ⟨w1.heap.size, b, rfl, hX.out.2.2.2.size, by have := (hX.out.2.2.1.ptr h0).2; simp; omega, ⟨p, 0, cap', Blk.new w1 [.pointer (some ⟨w1.heap.size, 0, none⟩), .int .i64 (0 : Nat), .slice p L.length cap', .int .i64 (0 : Nat), .int .i64 (0 : Nat)] _, hs2, fun h0 => by have := (hX.out.2.2.1.ptr h0).2; omega, by have := HN.out; omega⟩, btrans hX.out.2.2.2 hB2⟩
  · exact ⟨w1.heap.size, w1.heap.size, rfl, hX.out.2.2.2.size, by simp, ⟨p, 0, cap', Blk.new w1 [.pointer (some ⟨w1.heap.size, 0, none⟩), .int .i64 (0 : Nat), .slice p L.length cap', .int .i64 (0 : Nat), .int .i64 (0 : Nat)] _, ⟨hs2.byte, hs2.le, fun h => absurd h h0, fun i hi => absurd hi (by have := hs2.le; omega)⟩, fun h => absurd h h0, by have := HN.out; omega⟩, btrans hX.out.2.2.2 hB2⟩
end Go.Proofs.YtcmkmnidnapabaaGreat
