/-
  Contracts: LentBytes, KeptBytes.
-/
import Derived.Test.YtcmkmnidnapabaaGreatQh
import Derived.Laws.AppendOwnNone
import Derived.Deep.RegionHeld3
import Derived.Deep.MidRow
import Derived.Lib.SlBytesConst
import Derived.Laws.IdiomStrings
namespace Go.Proofs.YtcmkmnidnapabaaGreat
section
open Go.RowKit Go.Lib Go.Maps

def lentT : List Nat := [201, 202, 203, 204]
/-- Bytes lent: behind them lie four others, in a row of its own. -/
def Lent (B : Nat) (w : World) (g c : Nat) (L : List Nat) : Prop := L.length + 4 ≤ c ∧ B ≤ g ∧ ∃ rest : List Value, Blk w g (bvs (L ++ lentT) ++ rest) 5 ∧ c = L.length + 4 + rest.length
theorem Lent.of {B : Nat} {w : World} {v : Value} {L : List Nat} (h : w.ownsRow B 5 1 v (0 + L.length + 4) (([] ++ bvs L) ++ bvs lentT)) : ∃ g c, v = .slice (some ⟨g, 0, none⟩) (L.length + 4) c ∧ Lent B w g c L := by
  rw [Nat.zero_add, List.nil_append] at h
  rcases h.2 with ⟨h1, h2⟩ | ⟨g, cap, cur, h1, h2, h3, h4, _, h6, h7⟩
  · omega
  · refine ⟨g, cap, h1, h4, h2, cur.toList.drop (L.length + 4), ?_, ?_⟩
    · rw [Nat.mul_one] at h7
      unfold Blk
      rw [h3, show bvs (L ++ lentT) = bvs L ++ bvs lentT by unfold bvs; rw [List.map_append], ← h7, List.take_append_drop]
    · have e : cur.toList.length = cap := by rw [Array.length_toList, h6, Nat.mul_one]
      simp only [List.length_drop]
      omega

theorem new_four (w : World) : ∀ j u, (bvs lentT)[j]? = some u → (w.alloc (.cells (bvs lentT).toArray 5)).cell? ((⟨w.heap.size, 0, none⟩ : Addr).add j) = some u := fun j u hj => by
  rw [show (⟨w.heap.size, 0, none⟩ : Addr).add j = ⟨w.heap.size, j, none⟩ by unfold Addr.add; split <;> simp_all]
  exact ((Blk.new w (bvs lentT) _).cell j).trans hj
set_option maxHeartbeats 2000000 in
theorem lent_any {w : World} {a : Option Addr} {cap : Nat} {L : List Nat} (hL : ByS w a cap L) (hn : L.length ≤ 2000) :
    Calls Tryz.prog 30 #[.slice a L.length cap] w fun e w' => (∃ g c, e = .returned (.slice (some ⟨g, 0, none⟩) L.length c) ∧ Lent w.heap.size w' g c L) ∧ Below w.heap.size w w' := by
  obtain ⟨i0, hi, hz0, hz1, hz2⟩ := info_parts info_byte
  have hB : Hid (Below w.heap.size w (w.alloc (.cells #[] 5))) := hidp ((Below.refl _ w).alloc (Nat.le_refl _) _)
  have HS2 := hidp (hL.below hB.out)
  have HN := hidp hn
  have hown := hidp (own_nothing w)
  clear hL hn
  go_enter Tryz.func30, Tryz.ntmps30
  go_wp2_with (first | (at_builtin; refine wpList_append_byS rfl _ _ rfl w.heap.size 0 [] _ rfl hown.out a cap L rfl HS2.out (by have := HN.out; omega) (by simp) ?_; intro v' w1 hown' hgrow; have hO := hidp hown'; have hB1 := hidp (hB.out.grown hgrow (by simp) (fun j hj => (hown.out.lt j hj).1)); clear hown' hgrow) | (at_builtin; refine wpList_append_own _ rfl _ _ 35 rfl w.heap.size 5 i0 (.int .u8 0) 1 1 Tryz.underlying35 hi hz0 hz1 hz2 rfl (by decide) _ _ _ rfl (hO.out.alloc _) ⟨w1.heap.size, 0, none⟩ 4 4 (bvs lentT) rfl rfl (new_four w1) (bvs_oneL _) (by have := HN.out; unfold maxLen; omega) (by have := HN.out; omega) (by have := hB1.out.size; simp; omega) ?_; intro v2 w2 hown2 hgrow2 _; have hB2 := hidp ((hB1.out.alloc hB1.out.size _).grown hgrow2 (by have := hB1.out.size; simp; omega) (fun j hj => (hO.out.lt j hj).1)); clear hgrow2; obtain ⟨g, c, rfl, hlent⟩ := Lent.of hown2; have hlent := hidp hlent; clear hown2 hO; have hsl := fun w => run_part_h (some ⟨g, 0, none⟩) (L.length + 4) c L.length (by have := hlent.out.1; omega) w))
  go_ret
  exact ⟨⟨g, c, rfl, hlent.out⟩, hB2.out⟩
end
section
open Go.RowKit Go.Lib

theorem wpAnyH_takeK {P : Program} {md : Region.Mode} {ops : Array Oper} {Q : Exit → Act → World → Prop} {S : World → Prop} {i : Nat} {oi : Oper} {v : Value} {fuel : Nat} {listed : Array Bool} {a : Act} {w : World} (d : Option Tmp) (hd : oi.dst = d) (hi : ops[i]? = some oi)
    (hs : Region.noSelect ops = true) (hf : Region.free md ops listed i = true) (hr : (Region.ready md ops listed).contains i = true)
    (hQ : ∀ c a w, Q (.panic c) (a.put d v) w → Q (.panic c) a w) (hy : YieldsIf P ops S oi v a) (hS : S w)
    (h : wpAnyH P md ops Q S fuel (listed.setIfInBounds i true) (a.put d v) w) : wpAnyH P md ops Q S (fuel + 1) listed a w := by
  subst hd
  exact wpAnyH_take hi hs hf hr hQ hy hS h


theorem conv_byS {w : World} {a : Option Addr} {cap : Nat} {L : List Nat} (h : ByS w a cap L) (c : Nat) :
    (convert 35 9 (.slice a L.length c)).run Tryz.prog w = .ok (.string (strB L)) w := by
  cases ha : a with
  | some y => exact conv_at w y c L h.byte (h.cell y ha)
  | none =>
    have h1 := h.none ha
    have h2 := h.le
    have hL : L = [] := List.eq_nil_of_length_eq_zero (by omega)
    subst hL
    rw [run_convert_bytes_string w 35 9 5 none _ c Tryz.underlying35 Tryz.underlying5 Tryz.underlying9]
    simp [Conv.bytesToString]
    rfl
theorem off_add (g k j : Nat) : (⟨g, k, none⟩ : Addr).add j = ⟨g, k + j, none⟩ := by unfold Addr.add; split <;> simp_all
theorem Lent.cell {B : Nat} {w : World} {g c : Nat} {L : List Nat} (h : Lent B w g c L) {j : Nat} (hj : j < L.length + 4) : w.cell? ⟨g, j, none⟩ = some (.int .u8 ((L ++ lentT).getD j 0 : Nat)) := by
  obtain ⟨_, _, rest, hb, _⟩ := h
  have hl : (L ++ lentT).length = L.length + 4 := by rw [List.length_append]; rfl
  rw [hb.cell j, List.getElem?_append_left (by rw [bvs_len, hl]; exact hj)]
  exact bvs_get (by rw [hl]; exact hj)
theorem conv_lent {B : Nat} {w : World} {g c : Nat} {L : List Nat} (h : Lent B w g c L) (hb : ∀ x ∈ L, x < 256) (c' : Nat) :
    (convert 35 9 (.slice (some ⟨g, 0, none⟩) L.length c')).run Tryz.prog w = .ok (.string (strB L)) w := by
  refine conv_at w _ c' L hb fun j hj => ?_
  rw [off_add, Nat.zero_add, h.cell (by omega), List.getD_eq_getElem?_getD, List.getElem?_append_left hj, ← List.getD_eq_getElem?_getD]
theorem conv_tail {B : Nat} {w : World} {g c : Nat} {L : List Nat} (h : Lent B w g c L) :
    (convert 35 9 (.slice (partA (some ⟨g, 0, none⟩) c L.length) 4 (c - L.length))).run Tryz.prog w = .ok (.string (strB lentT)) w := by
  have e : partA (some ⟨g, 0, none⟩) c L.length = some ⟨g, L.length, none⟩ := by
    unfold partA
    rw [if_neg (by have := h.1; omega), Option.map_some, off_add, Nat.zero_add]
  rw [e]
  refine conv_at w _ _ lentT (by decide) fun j hj => ?_
  have hj4 : j < 4 := hj
  rw [off_add, h.cell (by omega), List.getD_eq_getElem?_getD, List.getElem?_append_right (by omega), Nat.add_sub_cancel_left, ← List.getD_eq_getElem?_getD]
theorem conv_four (w : World) : (convert 35 9 (.slice (some ⟨w.heap.size, 0, none⟩) 4 4)).run Tryz.prog (w.alloc (.cells #[.int .u8 201, .int .u8 202, .int .u8 203, .int .u8 204] 5)) = .ok (.string (strB lentT)) (w.alloc (.cells #[.int .u8 201, .int .u8 202, .int .u8 203, .int .u8 204] 5)) :=
  conv_at _ _ 4 lentT (by decide) fun j hj => new_four w j _ (bvs_get hj)

/-- What KeptBytes knows. -/
def KpB (w w' : World) (g c : Nat) (L : List Nat) (a : Option Addr) (cap : Nat) : Prop := Below w.heap.size w w' ∧ Lent 0 w' g c L ∧ ByS w' a cap L
theorem Lent.below {B : Nat} {w w' : World} {g c : Nat} {L : List Nat} (h : Lent B w g c L) (hB : Below w.heap.size w w') : Lent B w' g c L := by
  obtain ⟨h1, h2, rest, hb, h3⟩ := h
  exact ⟨h1, h2, rest, hb.below hB hb.lt, h3⟩
theorem KpB.step {w w1 w2 : World} {g c : Nat} {L : List Nat} {a : Option Addr} {cap : Nat} (h : KpB w w1 g c L a cap) (k : Below w1.heap.size w1 w2) : KpB w w2 g c L a cap :=
  ⟨h.1.trans (k.mono h.1.size), h.2.1.below k, h.2.2.below k⟩

set_option linter.unusedSimpArgs false
set_option maxRecDepth 20000 in
set_option maxHeartbeats 16000000 in
theorem kept_any {B : Nat} {w : World} {g c : Nat} {L : List Nat} {a : Option Addr} {cap : Nat} (h : Lent B w g c L) (hL : ByS w a cap L) (hn : L.length ≤ 2000) :
    Calls Tryz.prog 33 #[.slice (some ⟨g, 0, none⟩) L.length c, .slice a L.length cap] w fun e w' => e = .returned (.bool true) ∧ Below w.heap.size w w' := by
  have hT : Hid (KpB w w g c L a cap) := hidp ⟨Below.refl _ _, ⟨h.1, Nat.zero_le _, h.2.2⟩, hL⟩
  have hbt := hidp hL.byte
  obtain ⟨k2, hk2⟩ : ∃ k2 : Nat, k2 = L.length + 4 := ⟨_, rfl⟩
  have hw4 : wrap64 ((L.length : Int) + 4) = (k2 : Int) := by rw [w64 _ (by omega)]; omega
  have hw5 : IntKind.i64.wrap ((L.length : Int) + 4) = (k2 : Int) := by rw [IntKind.wrap_i64]; omega
  have hge : decide ((k2 : Int) ≤ (c : Int)) = true := decide_eq_true (by have := h.1; omega)
  have hsl := fun w => run_part_h (some ⟨g, 0, none⟩) L.length c c (Nat.le_refl _) w
  have hsl2 := fun w => run_part_lh (some ⟨g, 0, none⟩) c c L.length 4 k2 hk2 (by have := h.1; omega) w
  have HKC : Hid (k2 ≤ c) := hidp (by have := h.1; omega)
  clear h hL hn hk2
  go_enter Tryz.func33, Tryz.ntmps33
  go_wp2_with fail
  refine wp_region_held_drew (S := fun w' => KpB w w' g c L a cap) (by kernel_rfl) (hT.out.step (Below.refl _ _).drew) (fun hHeld => ?_)
  have hT := hidp (hT.out.step (Below.refl _ _).drew)
  refine wpAnyH_takeK (i := 0) (oi := _) (v := ?_) (some 10) rfl rfl (by kernel_rfl) (by kernel_rfl) (by kernel_rfl) (fun _ _ _ h => h) (Or.inl ⟨by rfl, ?_⟩) (by assumption) ?_
  rotate_left
  · intro w hSw
    go_simp
    try with_reducible rfl
  try simp only [Act.put, List.setIfInBounds_toArray, List.set_cons_zero, List.set_cons_succ]
  refine wpAnyH_takeK (i := 1) (oi := _) (v := ?_) (some 11) rfl rfl (by kernel_rfl) (by kernel_rfl) (by kernel_rfl) (fun _ _ _ h => h) (Or.inl ⟨by rfl, ?_⟩) (by assumption) ?_
  rotate_left
  · intro w hSw
    go_simp
    try with_reducible rfl
  try simp only [Act.put, List.setIfInBounds_toArray, List.set_cons_zero, List.set_cons_succ]
  refine wpAnyH_takeK (i := 2) (oi := _) (v := ?_) (some 12) rfl rfl (by kernel_rfl) (by kernel_rfl) (by kernel_rfl) (fun _ _ _ h => h) (Or.inl ⟨by rfl, ?_⟩) (by assumption) ?_
  rotate_left
  · intro w hSw
    go_simp
    try with_reducible rfl
  try simp only [Act.put, List.setIfInBounds_toArray, List.set_cons_zero, List.set_cons_succ]
  refine wpAnyH_takeK (i := 3) (oi := _) (v := ?_) (some 13) rfl rfl (by kernel_rfl) (by kernel_rfl) (by kernel_rfl) (fun _ _ _ h => h) (Or.inl ⟨by rfl, ?_⟩) (by assumption) ?_
  rotate_left
  · intro w hSw
    go_simp
    try with_reducible rfl
  try simp only [Act.put, List.setIfInBounds_toArray, List.set_cons_zero, List.set_cons_succ]
  refine wpAnyH_takeK (i := 4) (oi := _) (v := ?_) (some 14) rfl rfl (by kernel_rfl) (by kernel_rfl) (by kernel_rfl) (fun _ _ _ h => h) (Or.inl ⟨by rfl, ?_⟩) (by assumption) ?_
  rotate_left
  · intro w hSw
    go_simp
    try with_reducible rfl
  try simp only [Act.put, List.setIfInBounds_toArray, List.set_cons_zero, List.set_cons_succ]
  refine wpAnyH_takeK (i := 5) (oi := _) (v := ?_) (some 15) rfl rfl (by kernel_rfl) (by kernel_rfl) (by kernel_rfl) (fun _ _ _ h => h) (Or.inl ⟨by rfl, ?_⟩) (by assumption) ?_
  rotate_left
  · intro w hSw
    go_simp
    try with_reducible rfl
  try simp only [Act.put, List.setIfInBounds_toArray, List.set_cons_zero, List.set_cons_succ]
  refine wpAnyH_takeK (i := 6) (oi := _) (v := ?_) (some 16) rfl rfl (by kernel_rfl) (by kernel_rfl) (by kernel_rfl) (fun _ _ _ h => h) (Or.inl ⟨by rfl, ?_⟩) (by assumption) ?_
  rotate_left
  · intro w hSw
    go_simp
    try with_reducible rfl
  try simp only [Act.put, List.setIfInBounds_toArray, List.set_cons_zero, List.set_cons_succ]
  refine wpAnyH_takeK (i := 7) (oi := _) (v := ?_) (some 17) rfl rfl (by kernel_rfl) (by kernel_rfl) (by kernel_rfl) (fun _ _ _ h => h) (Or.inl ⟨by rfl, ?_⟩) (by assumption) ?_
  rotate_left
  · intro w hSw
    have q := conv_lent hSw.2.1 hbt.out c
    go_simp
    try with_reducible rfl
  try simp only [Act.put, List.setIfInBounds_toArray, List.set_cons_zero, List.set_cons_succ]
  refine wpAnyH_takeK (i := 8) (oi := _) (v := ?_) (some 18) rfl rfl (by kernel_rfl) (by kernel_rfl) (by kernel_rfl) (fun _ _ _ h => h) (Or.inl ⟨by rfl, ?_⟩) (by assumption) ?_
  rotate_left
  · intro w hSw
    go_simp
    try with_reducible rfl
  try simp only [Act.put, List.setIfInBounds_toArray, List.set_cons_zero, List.set_cons_succ]
  refine wpAnyH_takeK (i := 9) (oi := _) (v := ?_) (some 19) rfl rfl (by kernel_rfl) (by kernel_rfl) (by kernel_rfl) (fun _ _ _ h => h) (Or.inl ⟨by rfl, ?_⟩) (by assumption) ?_
  rotate_left
  · intro w hSw
    have q := conv_byS hSw.2.2 cap
    go_simp
    try with_reducible rfl
  try simp only [Act.put, List.setIfInBounds_toArray, List.set_cons_zero, List.set_cons_succ]
  refine wpAnyH_takeK (i := 10) (oi := _) (v := ?_) (some 20) rfl rfl (by kernel_rfl) (by kernel_rfl) (by kernel_rfl) (fun _ _ _ h => h) (Or.inl ⟨by rfl, ?_⟩) (by assumption) ?_
  rotate_left
  · intro w hSw
    go_simp
    try with_reducible rfl
  try simp only [Act.put, List.setIfInBounds_toArray, List.set_cons_zero, List.set_cons_succ]
  refine wpAnyH_takeK (i := 11) (oi := _) (v := ?_) (some 21) rfl rfl (by kernel_rfl) (by kernel_rfl) (by kernel_rfl) (fun _ _ _ h => h) (Or.inl ⟨by rfl, ?_⟩) (by assumption) ?_
  rotate_left
  · intro w hSw
    go_simp
    try with_reducible rfl
  try simp only [Act.put, List.setIfInBounds_toArray, List.set_cons_zero, List.set_cons_succ]
  refine wpAnyH_takeK (i := 12) (oi := _) (v := ?_) (some 22) rfl rfl (by kernel_rfl) (by kernel_rfl) (by kernel_rfl) (fun _ _ _ h => h) (Or.inl ⟨by rfl, ?_⟩) (by assumption) ?_
  rotate_left
  · intro w hSw
    go_simp
    try with_reducible rfl
  try simp only [Act.put, List.setIfInBounds_toArray, List.set_cons_zero, List.set_cons_succ]
  refine wpAnyH_takeK (i := 13) (oi := _) (v := ?_) (some 23) rfl rfl (by kernel_rfl) (by kernel_rfl) (by kernel_rfl) (fun _ _ _ h => h) (Or.inl ⟨by rfl, ?_⟩) (by assumption) ?_
  rotate_left
  · intro w hSw
    go_simp
    try with_reducible rfl
  try simp only [Act.put, List.setIfInBounds_toArray, List.set_cons_zero, List.set_cons_succ]
  refine wpAnyH_takeK (i := 14) (oi := _) (v := ?_) (some 24) rfl rfl (by kernel_rfl) (by kernel_rfl) (by kernel_rfl) (fun _ _ _ h => h) (Or.inl ⟨by rfl, ?_⟩) (by assumption) ?_
  rotate_left
  · intro w hSw
    go_simp
    try with_reducible rfl
  try simp only [Act.put, List.setIfInBounds_toArray, List.set_cons_zero, List.set_cons_succ]
  refine wpAnyH_takeK (i := 15) (oi := _) (v := ?_) (some 25) rfl rfl (by kernel_rfl) (by kernel_rfl) (by kernel_rfl) (fun _ _ _ h => h) (Or.inl ⟨by rfl, ?_⟩) (by assumption) ?_
  rotate_left
  · intro w hSw
    go_simp
    try with_reducible rfl
  try simp only [Act.put, List.setIfInBounds_toArray, List.set_cons_zero, List.set_cons_succ]
  refine wpAnyH_takeK (i := 16) (oi := _) (v := ?_) (some 26) rfl rfl (by kernel_rfl) (by kernel_rfl) (by kernel_rfl) (fun _ _ _ h => h) (Or.inl ⟨by rfl, ?_⟩) (by assumption) ?_
  rotate_left
  · intro w hSw
    go_simp
    try with_reducible rfl
  try simp only [Act.put, List.setIfInBounds_toArray, List.set_cons_zero, List.set_cons_succ]
  refine wpAnyH_takeK (i := 17) (oi := _) (v := .int .i64 (k2 : Int)) (some 27) rfl rfl (by kernel_rfl) (by kernel_rfl) (by kernel_rfl) (fun _ _ _ h => h) (Or.inl ⟨by rfl, ?_⟩) (by assumption) ?_
  · intro w hSw
    go_simp
    try rw [hw5]
  try simp only [Act.put, List.setIfInBounds_toArray, List.set_cons_zero, List.set_cons_succ]
  refine wpAnyH_takeK (i := 18) (oi := _) (v := .bool true) (some 28) rfl rfl (by kernel_rfl) (by kernel_rfl) (by kernel_rfl) (fun _ _ _ h => h) (Or.inl ⟨by rfl, ?_⟩) (by assumption) ?_
  · intro w hSw
    go_simp
    first | exact HKC.out | simp only [hge]
  try simp only [Act.put, List.setIfInBounds_toArray, List.set_cons_zero, List.set_cons_succ]
  refine wpAnyH_takeK (i := 19) (oi := _) (v := ?_) (some 29) rfl rfl (by kernel_rfl) (by kernel_rfl) (by kernel_rfl) (fun _ _ _ h => h) (Or.inl ⟨by rfl, ?_⟩) (by assumption) ?_
  rotate_left
  · intro w hSw
    go_simp
    try with_reducible rfl
  try simp only [Act.put, List.setIfInBounds_toArray, List.set_cons_zero, List.set_cons_succ]
  refine wpAnyH_takeK (i := 20) (oi := _) (v := ?_) (some 30) rfl rfl (by kernel_rfl) (by kernel_rfl) (by kernel_rfl) (fun _ _ _ h => h) (Or.inl ⟨by rfl, ?_⟩) (by assumption) ?_
  rotate_left
  · intro w hSw
    go_simp
    try with_reducible rfl
  try simp only [Act.put, List.setIfInBounds_toArray, List.set_cons_zero, List.set_cons_succ]
  refine wpAnyH_takeK (i := 21) (oi := _) (v := ?_) (some 31) rfl rfl (by kernel_rfl) (by kernel_rfl) (by kernel_rfl) (fun _ _ _ h => h) (Or.inl ⟨by rfl, ?_⟩) (by assumption) ?_
  rotate_left
  · intro w hSw
    go_simp
    try with_reducible rfl
  try simp only [Act.put, List.setIfInBounds_toArray, List.set_cons_zero, List.set_cons_succ]
  refine wpAnyH_takeK (i := 22) (oi := _) (v := ?_) (some 32) rfl rfl (by kernel_rfl) (by kernel_rfl) (by kernel_rfl) (fun _ _ _ h => h) (Or.inl ⟨by rfl, ?_⟩) (by assumption) ?_
  rotate_left
  · intro w hSw
    go_simp
    try with_reducible rfl
  try simp only [Act.put, List.setIfInBounds_toArray, List.set_cons_zero, List.set_cons_succ]
  refine wpAnyH_takeK (i := 23) (oi := _) (v := ?_) (some 33) rfl rfl (by kernel_rfl) (by kernel_rfl) (by kernel_rfl) (fun _ _ _ h => h) (Or.inl ⟨by rfl, ?_⟩) (by assumption) ?_
  rotate_left
  · intro w hSw
    go_simp
    try with_reducible rfl
  try simp only [Act.put, List.setIfInBounds_toArray, List.set_cons_zero, List.set_cons_succ]
  refine wpAnyH_takeK (i := 24) (oi := _) (v := ?_) (some 34) rfl rfl (by kernel_rfl) (by kernel_rfl) (by kernel_rfl) (fun _ _ _ h => h) (Or.inl ⟨by rfl, ?_⟩) (by assumption) ?_
  rotate_left
  · intro w hSw
    go_simp
    try with_reducible rfl
  try simp only [Act.put, List.setIfInBounds_toArray, List.set_cons_zero, List.set_cons_succ]
  refine wpAnyH_takeK (i := 25) (oi := _) (v := ?_) (some 35) rfl rfl (by kernel_rfl) (by kernel_rfl) (by kernel_rfl) (fun _ _ _ h => h) (Or.inl ⟨by rfl, ?_⟩) (by assumption) ?_
  rotate_left
  · intro w hSw
    go_simp
    try with_reducible rfl
  try simp only [Act.put, List.setIfInBounds_toArray, List.set_cons_zero, List.set_cons_succ]
  refine wpAnyH_takeK (i := 26) (oi := _) (v := .int .i64 (k2 : Int)) (some 36) rfl rfl (by kernel_rfl) (by kernel_rfl) (by kernel_rfl) (fun _ _ _ h => h) (Or.inl ⟨by rfl, ?_⟩) (by assumption) ?_
  · intro w hSw
    go_simp
    try rw [hw5]
  try simp only [Act.put, List.setIfInBounds_toArray, List.set_cons_zero, List.set_cons_succ]
  refine wpAnyH_takeK (i := 27) (oi := _) (v := ?_) (some 37) rfl rfl (by kernel_rfl) (by kernel_rfl) (by kernel_rfl) (fun _ _ _ h => h) (Or.inl ⟨by rfl, ?_⟩) (by assumption) ?_
  rotate_left
  · intro w hSw
    go_simp
    try with_reducible rfl
  try simp only [Act.put, List.setIfInBounds_toArray, List.set_cons_zero, List.set_cons_succ]
  refine wpAnyH_takeK (i := 28) (oi := _) (v := ?_) (some 38) rfl rfl (by kernel_rfl) (by kernel_rfl) (by kernel_rfl) (fun _ _ _ h => h) (Or.inl ⟨by rfl, ?_⟩) (by assumption) ?_
  rotate_left
  · intro w hSw
    have q := conv_tail hSw.2.1
    go_simp
    try with_reducible rfl
  try simp only [Act.put, List.setIfInBounds_toArray, List.set_cons_zero, List.set_cons_succ]
  refine wpAnyH_ready (rs := [29]) (by kernel_rfl) (by simp) ?_
  refine AllReadyH.cons (o := _) rfl (fun K hK => ?_) AllReadyH.nil
  go_simp
  have hT2 := hidp (hT.out.step ((Below.refl _ _).alloc (Nat.le_refl _) (.cells (bvs lentT).toArray 5)))
  refine hK.out _ _ hT2.out (fun hHeld' => ?_)
  clear hK K hHeld
  have hHeld := hHeld'
  clear hHeld'
  try simp only [Act.put, List.setIfInBounds_toArray, List.set_cons_zero, List.set_cons_succ]
  have hc4 : (convert 35 9 (.slice (some ⟨w.heap.size, 0, none⟩) 4 4)).run Tryz.prog (w.alloc (.cells #[.int .u8 201, .int .u8 202, .int .u8 203, .int .u8 204] 5)).drew = .ok (.string (strB lentT)) (w.alloc (.cells #[.int .u8 201, .int .u8 202, .int .u8 203, .int .u8 204] 5)).drew := conv_at _ _ 4 lentT (by decide) fun j hj => new_four w j _ (bvs_get hj)
  refine wpAnyH_ready (rs := [30]) (by kernel_rfl) (by simp) ?_
  refine AllReadyH.cons (o := _) rfl (fun K hK => ?_) AllReadyH.nil
  go_simp
  refine hK.out _ _ hT2.out (fun hHeld' => ?_)
  clear hK K hHeld
  have hHeld := hHeld'
  clear hHeld'
  try simp only [Act.put, List.setIfInBounds_toArray, List.set_cons_zero, List.set_cons_succ]
  refine wpAnyH_takeK (i := 31) (oi := _) (v := ?_) (some 41) rfl rfl (by kernel_rfl) (by kernel_rfl) (by kernel_rfl) (fun _ _ _ h => h) (Or.inl ⟨by rfl, ?_⟩) (by assumption) ?_
  rotate_left
  · intro w hSw
    go_simp
    try with_reducible rfl
  try simp only [Act.put, List.setIfInBounds_toArray, List.set_cons_zero, List.set_cons_succ]
  refine wpAnyH_takeK (i := 32) (oi := _) (v := ?_) (some 42) rfl rfl (by kernel_rfl) (by kernel_rfl) (by kernel_rfl) (fun _ _ _ h => h) (Or.inl ⟨by rfl, ?_⟩) (by assumption) ?_
  rotate_left
  · intro w hSw
    go_simp
    try with_reducible rfl
  try simp only [Act.put, List.setIfInBounds_toArray, List.set_cons_zero, List.set_cons_succ]
  refine wpAnyH_takeK (i := 33) (oi := _) (v := ?_) (some 4) rfl rfl (by kernel_rfl) (by kernel_rfl) (by kernel_rfl) (fun _ _ _ h => h) (Or.inl ⟨by rfl, ?_⟩) (by assumption) ?_
  rotate_left
  · intro w hSw
    go_simp
    try with_reducible rfl
  try simp only [Act.put, List.setIfInBounds_toArray, List.set_cons_zero, List.set_cons_succ]
  refine wpAnyH_done (by kernel_rfl) ?_ _
  go_wp2
  go_ret
  exact ⟨rfl, hT2.out.1⟩
end
end Go.Proofs.YtcmkmnidnapabaaGreat
