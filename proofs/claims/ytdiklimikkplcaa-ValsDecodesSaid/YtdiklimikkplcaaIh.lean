/-
  Contracts: LentBytes.
-/
import Derived.Test.YtdiklimikkplcaaId
import Derived.Laws.AppendOwnNone
namespace Go.Proofs.Ytdiklimikkplcaa
open Go.RowKit Go.Lib Go.Maps

def lentT : List Nat := [201, 202, 203, 204]
/-- Bytes lent: behind them lie four others, in a row of its own. -/
def Lent (B : Nat) (w : World) (g c : Nat) (L : List Nat) : Prop := L.length + 4 ≤ c ∧ B ≤ g ∧ ∃ rest : List Value, Blk w g (bvs (L ++ lentT) ++ rest) 5 ∧ c = L.length + 4 + rest.length
theorem Lent.of {B : Nat} {w : World} {v : Value} {L : List Nat} (h : w.ownsRow B 5 1 v (0 + L.length + 4) (([] ++ bvs L) ++ bvs lentT)) : ∃ g c, v = .slice (some ⟨g, 0, none⟩) (L.length + 4) c ∧ Lent B w g c L := by
  rw [Nat.zero_add, List.nil_append] at h
  rcases h.2 with ⟨h1, h2⟩ | ⟨g, cap, cur, h1, h2, h3, h4, _, h6, h7⟩
  · omega
  · refine ⟨g, cap, h1, h4, h2, cur.toList.drop (L.length + 4), ?_, ?_⟩
    · rw [Nat.mul_one] at h7
      unfold Blk
      rw [h3, show bvs (L ++ lentT) = bvs L ++ bvs lentT by unfold bvs; rw [List.map_append], ← h7, List.take_append_drop]
    · have e : cur.toList.length = cap := by rw [Array.length_toList, h6, Nat.mul_one]
      simp only [List.length_drop]
      omega

theorem new_four (w : World) : ∀ j u, (bvs lentT)[j]? = some u → (w.alloc (.cells (bvs lentT).toArray 5)).cell? ((⟨w.heap.size, 0, none⟩ : Addr).add j) = some u := fun j u hj => by
  rw [show (⟨w.heap.size, 0, none⟩ : Addr).add j = ⟨w.heap.size, j, none⟩ by unfold Addr.add; split <;> simp_all]
  exact ((Blk.new w (bvs lentT) _).cell j).trans hj
set_option maxHeartbeats 2000000 in
theorem lent_any {w : World} {a : Option Addr} {cap : Nat} {L : List Nat} (hL : ByS w a cap L) (hn : L.length ≤ 2000) :
    Calls Try.prog 17 #[.slice a L.length cap] w fun e w' => (∃ g c, e = .returned (.slice (some ⟨g, 0, none⟩) L.length c) ∧ Lent w.heap.size w' g c L) ∧ Below w.heap.size w w' := by
  obtain ⟨i0, hi, hz0, hz1, hz2⟩ := info_parts info_byte
  have hB : Hid (Below w.heap.size w (w.alloc (.cells #[] 5))) := hidp ((Below.refl _ w).alloc (Nat.le_refl _) _)
  have HS2 := hidp (hL.below hB.out)
  have HN := hidp hn
  have hown := hidp (own_nothing w)
  clear hL hn
  go_enter Try.func17, Try.ntmps17
  go_wp2_with (first | (at_builtin; refine wpList_append_byS rfl _ _ rfl w.heap.size 0 [] _ rfl hown.out a cap L rfl HS2.out (by have := HN.out; omega) (by simp) ?_; intro v' w1 hown' hgrow; have hO := hidp hown'; have hB1 := hidp (hB.out.grown hgrow (by simp) (fun j hj => (hown.out.lt j hj).1)); clear hown' hgrow) | (at_builtin; refine wpList_append_own _ rfl _ _ 32 rfl w.heap.size 5 i0 (.int .u8 0) 1 1 Try.underlying32 hi hz0 hz1 hz2 rfl (by decide) _ _ _ rfl (hO.out.alloc _) ⟨w1.heap.size, 0, none⟩ 4 4 (bvs lentT) rfl rfl (new_four w1) (bvs_oneL _) (by have := HN.out; unfold maxLen; omega) (by have := HN.out; omega) (by have := hB1.out.size; simp; omega) ?_; intro v2 w2 hown2 hgrow2 _; have hB2 := hidp ((hB1.out.alloc hB1.out.size _).grown hgrow2 (by have := hB1.out.size; simp; omega) (fun j hj => (hO.out.lt j hj).1)); clear hgrow2; obtain ⟨g, c, rfl, hlent⟩ := Lent.of hown2; have hlent := hidp hlent; clear hown2 hO; have hsl := fun w => run_part_h (some ⟨g, 0, none⟩) (L.length + 4) c L.length (by have := hlent.out.1; omega) w))
  go_ret
  exact ⟨⟨g, c, rfl, hlent.out⟩, hB2.out⟩
end Go.Proofs.Ytdiklimikkplcaa
