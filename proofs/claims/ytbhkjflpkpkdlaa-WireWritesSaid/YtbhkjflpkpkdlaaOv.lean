/-
  OverBytes.
-/
import Derived.Test.YtbhkjflpkpkdlaaQh
import Derived.Maps.AppendAt
namespace Go.Proofs.Ytbhkjflpkpkdlaa
open Go.RowKit Go.Lib Go.Maps

theorem OwnB.bsl {B : Nat} {w : World} {p : Option Addr} {bs : List Nat} {cap : Nat} (h : OwnB B w p bs cap) (hb : ∀ x ∈ bs, x < 256) : ∃ bb, Bsl w p bb 0 bs cap ∧ (0 < bs.length → B ≤ bb) := by
  by_cases h0 : 0 < bs.length
  · obtain ⟨g, rest, h1, h2, h3⟩ := h.2 h0
    refine ⟨g, ⟨hb, h.1, fun _ => ⟨h1, h3.lt⟩, fun i hi => ?_⟩, fun _ => h2⟩
    rw [Nat.zero_add, h3.cell i, List.getElem?_append_left (by rw [bvs_len]; exact hi)]
    exact bvs_get hi
  · exact ⟨0, ⟨hb, h.1, fun h1 => absurd h1 h0, fun i hi => absurd hi (by omega)⟩, fun h1 => absurd h1 h0⟩

/-! The part is written over. -/
def ivB (v : List Int) : List Value := v.map (Value.int .u8 ·)
theorem ivs_len (v : List Int) : (ivB v).length = v.length := by unfold ivB; simp
theorem ivs_get {v : List Int} {i : Nat} (h : i < v.length) : (ivB v)[i]? = some (.int .u8 (v.getD i 0)) := by
  unfold ivB
  rw [List.getElem?_map, List.getElem?_eq_getElem h, List.getD_eq_getElem?_getD, List.getElem?_eq_getElem h]
  rfl
theorem ivs_of (bs : List Nat) : bvs bs = ivB (bs.map fun x : Nat => (x : Int)) := by unfold bvs ivB; rw [List.map_map]; rfl
theorem ivs_set (v : List Int) (rest : List Value) (k : Nat) (x : Int) (h : k < v.length) : (ivB v ++ rest).set k (.int .u8 x) = ivB (v.set k x) ++ rest := by
  rw [List.set_append_left _ _ (by rw [ivs_len]; exact h)]
  unfold ivB
  rw [List.map_set]
theorem over_step {g k : Nat} {wr : World} {vs : List Int} {rest : List Value} (x : Int) (h : Blk wr g (ivB vs ++ rest) 5) (hk : k < vs.length) : Blk (wr.setCell ⟨g, k, none⟩ (.int .u8 x)) g (ivB (vs.set k x) ++ rest) 5 := by
  rw [← ivs_set vs rest k x hk]; exact h.set _ _
set_option maxHeartbeats 2000000 in
theorem over_but (B : Nat) (bs : List Nat) (p : Option Addr) (cap : Nat) (w : World) (ho : OwnB B w p bs cap) (hn : bs.length ≤ 3000) :
    Calls Try.prog 18 #[.slice p bs.length cap] w fun e w' => e = .returned (.tuple #[]) ∧ ((∃ g rest, p = some ⟨g, 0, none⟩ ∧ B ≤ g ∧ Blk w g (bvs bs ++ rest) 5 ∧ But g w w') ∨ w' = w) := by
  by_cases h0 : 0 < bs.length
  · obtain ⟨g, rest, rfl, hB, hblk⟩ := ho.2 h0
    have HN := hidp (And.intro hn (And.intro hB ho.1))
    have HW := hidp hblk
    clear ho h0 hn hB hblk
    go_enter Try.func18, Try.ntmps18
    go_wp2
    go_loopw [2] (fun i wr => ∃ k : Nat, k ≤ bs.length ∧ i = .int .i64 k ∧ Hid (∃ cs : List Int, cs.length = bs.length ∧ Blk wr g (ivB cs ++ rest) 5 ∧ But g w wr)) (fun i _ => bs.length - (Go.RowKit.intOf i).toNat)
    case atStart => exact ⟨0, by omega, rfl, hidp ⟨bs.map fun x : Nat => (x : Int), by simp, by rw [← ivs_of]; exact HW.out, But.refl g w⟩⟩
    case round =>
      obtain ⟨k, hk, rfl, hr⟩ := hrel
      by_cases hlt : k < bs.length
      · obtain ⟨cs, hl, hb, hbt⟩ := hr.out
        have hc : wr.cell? ⟨g, k, none⟩ = some (.int .u8 (cs.getD k 0)) := by rw [hb.cell k, List.getElem?_append_left (by rw [ivs_len]; omega)]; exact ivs_get (by omega)
        have hf := hb.free k
        have hn1 := HN.out.1
        have hb := hidp (And.intro hb (And.intro hl hbt))
        generalize cs.getD k 0 = z at hc
        clear hl hbt
        go_wp2
        refine ⟨⟨k + 1, by omega, by go_num, hidp ⟨_, ?_, over_step _ hb.out.1 (by rw [hb.out.2.1]; exact hlt), hb.out.2.2.setCell _ _⟩⟩, ?_⟩
        · rw [List.length_set]; exact hb.out.2.1
        · simp [Go.RowKit.intOf]; omega
      · obtain rfl : k = bs.length := by omega
        go_wp2
        go_end0
        obtain ⟨cs, _, _, hbt⟩ := hr.out
        exact ⟨rfl, .inl ⟨g, rest, rfl, HN.out.2.1, HW.out, hbt⟩⟩
  · have h1 : bs.length = 0 := by omega
    rw [h1]
    clear ho hn h0
    go_enter Try.func18, Try.ntmps18
    go_wp2
    go_loopw [2] (fun i wr => i = .int .i64 0 ∧ wr = w) (fun _ _ => 0)
    case atStart => exact ⟨rfl, rfl⟩
    case round =>
      obtain ⟨rfl, rfl⟩ := hrel
      go_wp2
      go_end0
      exact ⟨rfl, .inr rfl⟩
theorem over_any (B : Nat) (bs : List Nat) (p : Option Addr) (cap : Nat) (w : World) (ho : OwnB B w p bs cap) (hn : bs.length ≤ 3000) :
    Calls Try.prog 18 #[.slice p bs.length cap] w fun e w' => e = .returned (.tuple #[]) ∧ Below B w w' := by
  refine (over_but B bs p cap w ho hn).mono ?_
  rintro e w' ⟨rfl, ⟨g, rest, _, hB, _, hb⟩ | rfl⟩
  · exact ⟨rfl, hb.below hB⟩
  · exact ⟨rfl, Below.refl _ _⟩
end Go.Proofs.Ytbhkjflpkpkdlaa
