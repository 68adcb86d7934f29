/-
  Texts Ov, Ic, Id, one behind the other.
-/
import Derived.Test.YtcmkmnidnapabaaGreatQh
import Derived.Maps.AppendAt
import Derived.Test.YtcmkmnidnapabaaGreatH3
import Derived.Test.YtcmkmnidnapabaaGreatIr
import Derived.DataReads
import Derived.DataElems

/-! Ov: OverBytes. -/
namespace Go.Proofs.YtcmkmnidnapabaaGreat
open Go.RowKit Go.Lib Go.Maps

theorem OwnB.bsl {B : Nat} {w : World} {p : Option Addr} {bs : List Nat} {cap : Nat} (h : OwnB B w p bs cap) (hb : ∀ x ∈ bs, x < 256) : ∃ bb, Bsl w p bb 0 bs cap ∧ (0 < bs.length → B ≤ bb) := by
  by_cases h0 : 0 < bs.length
  · obtain ⟨g, rest, h1, h2, h3⟩ := h.2 h0
    refine ⟨g, ⟨hb, h.1, fun _ => ⟨h1, h3.lt⟩, fun i hi => ?_⟩, fun _ => h2⟩
    rw [Nat.zero_add, h3.cell i, List.getElem?_append_left (by rw [bvs_len]; exact hi)]
    exact bvs_get hi
  · exact ⟨0, ⟨hb, h.1, fun h1 => absurd h1 h0, fun i hi => absurd hi (by omega)⟩, fun h1 => absurd h1 h0⟩

/-! The part is written over. -/
def ivB (v : List Int) : List Value := v.map (Value.int .u8 ·)
theorem ivs_len (v : List Int) : (ivB v).length = v.length := by unfold ivB; simp
theorem ivs_get {v : List Int} {i : Nat} (h : i < v.length) : (ivB v)[i]? = some (.int .u8 (v.getD i 0)) := by
  unfold ivB
  rw [List.getElem?_map, List.getElem?_eq_getElem h, List.getD_eq_getElem?_getD, List.getElem?_eq_getElem h]
  rfl
theorem ivs_of (bs : List Nat) : bvs bs = ivB (bs.map fun x : Nat => (x : Int)) := by unfold bvs ivB; rw [List.map_map]; rfl
theorem ivs_set (v : List Int) (rest : List Value) (k : Nat) (x : Int) (h : k < v.length) : (ivB v ++ rest).set k (.int .u8 x) = ivB (v.set k x) ++ rest := by
  rw [List.set_append_left _ _ (by rw [ivs_len]; exact h)]
  unfold ivB
  rw [List.map_set]
theorem over_step {g k : Nat} {wr : World} {vs : List Int} {rest : List Value} (x : Int) (h : Blk wr g (ivB vs ++ rest) 5) (hk : k < vs.length) : Blk (wr.setCell ⟨g, k, none⟩ (.int .u8 x)) g (ivB (vs.set k x) ++ rest) 5 := by
  rw [← ivs_set vs rest k x hk]; exact h.set _ _
set_option maxHeartbeats 2000000 in
theorem over_but (B : Nat) (bs : List Nat) (p : Option Addr) (cap : Nat) (w : World) (ho : OwnB B w p bs cap) (hn : bs.length ≤ 3000) :
    Calls Tryz.prog 27 #[.slice p bs.length cap] w fun e w' => e = .returned (.tuple #[]) ∧ ((∃ g rest, p = some ⟨g, 0, none⟩ ∧ B ≤ g ∧ Blk w g (bvs bs ++ rest) 5 ∧ But g w w') ∨ w' = w) := by
  by_cases h0 : 0 < bs.length
  · obtain ⟨g, rest, rfl, hB, hblk⟩ := ho.2 h0
    have HN := hidp (And.intro hn (And.intro hB ho.1))
    have HW := hidp hblk
    clear ho h0 hn hB hblk
    go_enter Tryz.func27, Tryz.ntmps27
    go_wp2
    go_loopw [2] (fun i wr => ∃ k : Nat, k ≤ bs.length ∧ i = .int .i64 k ∧ Hid (∃ cs : List Int, cs.length = bs.length ∧ Blk wr g (ivB cs ++ rest) 5 ∧ But g w wr)) (fun i _ => bs.length - (Go.RowKit.intOf i).toNat)
    case atStart => exact ⟨0, by omega, rfl, hidp ⟨bs.map fun x : Nat => (x : Int), by simp, by rw [← ivs_of]; exact HW.out, But.refl g w⟩⟩
    case round =>
      obtain ⟨k, hk, rfl, hr⟩ := hrel
      by_cases hlt : k < bs.length
      · obtain ⟨cs, hl, hb, hbt⟩ := hr.out
        have hc : wr.cell? ⟨g, k, none⟩ = some (.int .u8 (cs.getD k 0)) := by rw [hb.cell k, List.getElem?_append_left (by rw [ivs_len]; omega)]; exact ivs_get (by omega)
        have hf := hb.free k
        have hn1 := HN.out.1
        have hb := hidp (And.intro hb (And.intro hl hbt))
        generalize cs.getD k 0 = z at hc
        clear hl hbt
        go_wp2
        refine ⟨⟨k + 1, by omega, by go_num, hidp ⟨_, ?_, over_step _ hb.out.1 (by rw [hb.out.2.1]; exact hlt), hb.out.2.2.setCell _ _⟩⟩, ?_⟩
        · rw [List.length_set]; exact hb.out.2.1
        · simp [Go.RowKit.intOf]; omega
      · obtain rfl : k = bs.length := by omega
        go_wp2
        go_end0
        obtain ⟨cs, _, _, hbt⟩ := hr.out
        exact ⟨rfl, .inl ⟨g, rest, rfl, HN.out.2.1, HW.out, hbt⟩⟩
  · have h1 : bs.length = 0 := by omega
    rw [h1]
    clear ho hn h0
    go_enter Tryz.func27, Tryz.ntmps27
    go_wp2
    go_loopw [2] (fun i wr => i = .int .i64 0 ∧ wr = w) (fun _ _ => 0)
    case atStart => exact ⟨rfl, rfl⟩
    case round =>
      obtain ⟨rfl, rfl⟩ := hrel
      go_wp2
      go_end0
      exact ⟨rfl, .inr rfl⟩
theorem over_any (B : Nat) (bs : List Nat) (p : Option Addr) (cap : Nat) (w : World) (ho : OwnB B w p bs cap) (hn : bs.length ≤ 3000) :
    Calls Tryz.prog 27 #[.slice p bs.length cap] w fun e w' => e = .returned (.tuple #[]) ∧ Below B w w' := by
  refine (over_but B bs p cap w ho hn).mono ?_
  rintro e w' ⟨rfl, ⟨g, rest, _, hB, _, hb⟩ | rfl⟩
  · exact ⟨rfl, hb.below hB⟩
  · exact ⟨rfl, Below.refl _ _⟩
end Go.Proofs.YtcmkmnidnapabaaGreat

/-! Ic: Contracts of package landfallkit: Pick, CopyBytes, OverBytes. -/
namespace Go.Proofs.YtcmkmnidnapabaaGreat
open Go.RowKit Go.Lib Go.Maps

set_option maxHeartbeats 2000000 in
theorem copy_any (bs : List Nat) (ad : Addr) (cap : Nat) (w : World) (hsrc : ∀ j v, (bvs bs)[j]? = some v → w.cell? (ad.add j) = some v) (hn : bs.length ≤ 1000) :
    Calls Tryz.prog 67 #[.slice (some ad) bs.length cap] w fun e w' => (∃ p cap', e = .returned (.slice p bs.length cap') ∧ OwnB w.heap.size w' p bs cap') ∧ Below w.heap.size w w' := by
  obtain ⟨i0, hi, hz0, hz1, hz2⟩ := info_parts info_byte
  have HS2 : Hid (∀ j v, (bvs bs)[j]? = some v → (w.alloc (.cells #[] 5)).cell? (ad.add j) = some v) := hidp (fun j v h => by have h1 := hsrc j v h; rw [World.cell?_alloc_lt _ _ _ (World.block_lt_of_cell? w _ h1)]; exact h1)
  have HN := hidp hn
  have hown := hidp (own_nothing w)
  have hB : Hid (Below w.heap.size w (w.alloc (.cells #[] 5))) := hidp ((Below.refl _ w).alloc (Nat.le_refl _) _)
  clear hsrc hn
  go_enter Tryz.func67, Tryz.ntmps67
  go_wp2_with (at_builtin; refine wpList_append_own _ rfl _ _ 35 rfl w.heap.size 5 i0 (.int .u8 0) 1 1 Tryz.underlying35 hi hz0 hz1 hz2 rfl (by decide) _ _ _ rfl hown.out ad bs.length cap (bvs bs) rfl (by rw [bvs_len, Nat.mul_one]) HS2.out (bvs_oneL _) (by have := HN.out; unfold maxLen; omega) (by have := HN.out; omega) (by simp) ?_; intro v' w1 hown' hgrow _)
  obtain ⟨p, c, rfl, ho⟩ := OwnB.of hown'
  have hB1 := hB.out.grown hgrow (by simp) (fun j hj => (hown.out.lt j hj).1)
  go_ret
  exact ⟨⟨p, c, rfl, ho⟩, hB1⟩
set_option maxHeartbeats 2000000 in
theorem copy_none (w : World) :
    Calls Tryz.prog 67 #[.slice none 0 0] w fun e w' => (∃ p cap', e = .returned (.slice p 0 cap') ∧ OwnB w.heap.size w' p [] cap') ∧ Below w.heap.size w w' := by
  obtain ⟨i0, hi, hz0, hz1, hz2⟩ := info_parts info_byte
  have hown := hidp (own_nothing w)
  have hB : Hid (Below w.heap.size w (w.alloc (.cells #[] 5))) := hidp ((Below.refl _ w).alloc (Nat.le_refl _) _)
  go_enter Tryz.func67, Tryz.ntmps67
  go_wp2
  go_ret
  exact ⟨⟨_, _, rfl, by simp, fun h => absurd h (by simp)⟩, hB.out⟩

end Go.Proofs.YtcmkmnidnapabaaGreat

/-! Id: Bytes that came in as a slice, and parts of them. -/
namespace Go.Proofs.YtcmkmnidnapabaaGreat
open Go.RowKit Go.Lib

/-- A part is copied. -/
theorem copy_part {w : World} {a : Option Addr} {cap : Nat} {L : List Nat} (h : ByS w a cap L) (k n : Nat) (hk : k + n ≤ L.length) (hl : L.length ≤ 1000) :
    Calls Tryz.prog 67 #[.slice (partA a cap k) n (cap - k)] w fun e w' => (∃ p cap', e = .returned (.slice p n cap') ∧ OwnB w.heap.size w' p ((L.drop k).take n) cap') ∧ Below w.heap.size w w' := by
  have hn : ((L.drop k).take n).length = n := by rw [List.length_take, List.length_drop]; omega
  unfold partA
  cases ha : a with
  | none =>
    have h1 := h.none ha
    have h2 := h.le
    obtain rfl : n = 0 := by omega
    have e : (if cap = k then (none : Option Addr) else (none : Option Addr).map (·.add k)) = none := by split <;> rfl
    rw [e, h1, Nat.zero_sub, List.take_zero]
    exact copy_none w
  | some x =>
    obtain ⟨y, hy, hc⟩ : ∃ y, (if cap = k then some x else (some x).map (·.add k)) = some y ∧ (0 < n → y = x.add k) := by
      split
      · exact ⟨x, rfl, fun h0 => by have := h.le; omega⟩
      · exact ⟨x.add k, rfl, fun _ => rfl⟩
    rw [hy]
    have q := copy_any ((L.drop k).take n) y (cap - k) w (fun j v hj => ?_) (by omega)
    · rw [hn] at q; exact q
    · have hj1 : j < n := by
        rcases Nat.lt_or_ge j n with h1 | h1
        · exact h1
        · rw [List.getElem?_eq_none (by rw [bvs_len]; omega)] at hj; cases hj
      rw [hc (by omega), Addr.add_add, h.cell x ha (k + j) (by omega), ← hj, bvs_get (by omega), getD_take hj1]
      rw [show (L.drop k).getD j 0 = L.getD (k + j) 0 by rw [List.getD_eq_getElem?_getD, List.getD_eq_getElem?_getD, List.getElem?_drop]]
theorem sum_part {w : World} {a : Option Addr} {cap : Nat} {L : List Nat} (h : ByS w a cap L) (k : Nat) (hk : k ≤ L.length) (hl : L.length ≤ 1000) :
    Calls Tryz.prog 84 #[.slice a k cap] w fun e w' => e = .returned (.agg (bvs (hashL (L.take k))).toArray) ∧ Below w.heap.size w w' := by
  obtain ⟨bb, bo, hb⟩ := h.bsl k hk
  have hn : (L.take k).length = k := by rw [List.length_take]; omega
  have q := sum_any (L.take k) a bb bo cap w hb (by omega)
  rw [hn] at q
  exact q
theorem take_part (L : List Nat) (k n : Nat) : L.take k ++ (L.drop k).take n = L.take (k + n) := (List.take_add).symm
theorem OwnB.bsl' {B : Nat} {w : World} {p : Option Addr} {bs : List Nat} {cap g : Nat} (h : OwnB B w p bs cap) (hb : ∀ x ∈ bs, x < 256) (hg : g < B) : ∃ bb, Bsl w p bb 0 bs cap ∧ bb ≠ g := by
  obtain ⟨bb, h1, h2⟩ := h.bsl hb
  by_cases h0 : 0 < bs.length
  · exact ⟨bb, h1, by have := h2 h0; omega⟩
  · exact ⟨g + 1, ⟨h1.byte, h1.le, fun h3 => absurd h3 h0, fun i hi => absurd hi (by omega)⟩, by omega⟩
theorem OwnB.bex {B g : Nat} {w w' : World} {p : Option Addr} {bs : List Nat} {cap : Nat} (h : OwnB B w p bs cap) (hx : Bex g w w') (hg : g < B) : OwnB B w' p bs cap :=
  ⟨h.1, fun h0 => by obtain ⟨c, rest, h1, h2, h3⟩ := h.2 h0; exact ⟨c, rest, h1, h2, hx.blk h3 (by omega)⟩⟩
end Go.Proofs.YtcmkmnidnapabaaGreat
