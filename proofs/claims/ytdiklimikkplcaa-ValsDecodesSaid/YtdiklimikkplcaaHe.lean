/-
  Contracts: what a state counts; what rounds begin with.
-/
import Derived.Test.YtdiklimikkplcaaHd
namespace Go.Proofs.Ytdiklimikkplcaa
open Go.RowKit

/-- The cells of a state. -/
def stL (sf : Value) (n : Nat) (h bl : List Nat) : List Value := sf :: .int .i64 (n : Nat) :: (wvs h ++ bvs bl)
theorem stL_0 (sf : Value) (n : Nat) (h bl : List Nat) : (stL sf n h bl)[0]? = some sf := rfl
theorem stL_1 (sf : Value) (n : Nat) (h bl : List Nat) : (stL sf n h bl)[1]? = some (.int .i64 (n : Nat)) := rfl
theorem stL_len (sf : Value) (n : Nat) (h bl : List Nat) : (stL sf n h bl).length = 2 + h.length + bl.length := by unfold stL; simp [wvs_len, bvs_len]; omega
theorem stL_h {sf : Value} {n : Nat} {h bl : List Nat} {i : Nat} (hi : i < h.length) : (stL sf n h bl)[2 + i]? = some (.int .u32 (h.getD i 0 : Nat)) := by
  rw [show 2 + i = i + 1 + 1 by omega]
  unfold stL
  rw [List.getElem?_cons_succ, List.getElem?_cons_succ, List.getElem?_append_left (by rw [wvs_len]; exact hi)]
  exact wvs_get hi
theorem stL_b {sf : Value} {n : Nat} {h bl : List Nat} (h8 : h.length = 8) {i : Nat} (hi : i < bl.length) : (stL sf n h bl)[10 + i]? = some (.int .u8 (bl.getD i 0 : Nat)) := by
  rw [show 10 + i = (8 + i) + 1 + 1 by omega]
  unfold stL
  rw [List.getElem?_cons_succ, List.getElem?_cons_succ, List.getElem?_append_right (by rw [wvs_len]; omega), wvs_len, h8, show 8 + i - 8 = i by omega]
  exact bvs_get hi
theorem stL_set1 (sf : Value) (n m : Nat) (h bl : List Nat) : (stL sf n h bl).set 1 (.int .i64 (m : Nat)) = stL sf m h bl := rfl
theorem stL_set0 (sf s : Value) (n : Nat) (h bl : List Nat) : (stL sf n h bl).set 0 s = stL s n h bl := rfl
theorem stL_seth {sf : Value} {n : Nat} {h bl : List Nat} {i : Nat} (hi : i < h.length) (x : Nat) : (stL sf n h bl).set (2 + i) (.int .u32 (x : Nat)) = stL sf n (h.set i x) bl := by
  rw [show 2 + i = i + 1 + 1 by omega]
  unfold stL
  rw [List.set_cons_succ, List.set_cons_succ, List.set_append_left _ _ (by rw [wvs_len]; exact hi), wvs_set]

/-- A state lies in block g. -/
structure St (w : World) (g : Nat) (sf : Value) (n : Nat) (h bl : List Nat) : Prop where
  blk : Blk w g (stL sf n h bl) 139
  words : Words 8 h
  bytes : Bytes 64 bl
theorem St.lt {w : World} {g : Nat} {sf : Value} {n : Nat} {h bl : List Nat} (hs : St w g sf n h bl) : g < w.heap.size := hs.blk.lt
theorem St.c0 {w : World} {g : Nat} {sf : Value} {n : Nat} {h bl : List Nat} (hs : St w g sf n h bl) : w.cell? ⟨g, 0, none⟩ = some sf := (hs.blk.cell 0).trans rfl
theorem St.c1 {w : World} {g : Nat} {sf : Value} {n : Nat} {h bl : List Nat} (hs : St w g sf n h bl) : w.cell? ⟨g, 1, none⟩ = some (.int .i64 (n : Nat)) := (hs.blk.cell 1).trans rfl
theorem St.ch {w : World} {g : Nat} {sf : Value} {n : Nat} {h bl : List Nat} (hs : St w g sf n h bl) {i : Nat} (hi : i < 8) : w.cell? ⟨g, 2 + i, none⟩ = some (.int .u32 (h.getD i 0 : Nat)) := (hs.blk.cell _).trans (stL_h (hs.words.1.symm ▸ hi))
theorem St.cb {w : World} {g : Nat} {sf : Value} {n : Nat} {h bl : List Nat} (hs : St w g sf n h bl) : BytesAt w g 10 bl := fun i hi => (hs.blk.cell (10 + i)).trans (stL_b hs.words.1 hi)
theorem St.below {w w' : World} {g : Nat} {sf : Value} {n : Nat} {h bl : List Nat} (hs : St w g sf n h bl) (hB : Below w.heap.size w w') : St w' g sf n h bl := ⟨hs.blk.below hB hs.lt, hs.words, hs.bytes⟩
theorem St.drew {w : World} {g : Nat} {sf : Value} {n : Nat} {h bl : List Nat} (hs : St w g sf n h bl) : St w.drew g sf n h bl := ⟨hs.blk.drew, hs.words, hs.bytes⟩
theorem St.drewN {w : World} {g : Nat} {sf : Value} {n : Nat} {h bl : List Nat} (hs : St w g sf n h bl) (k : Nat) : St (w.drewN k) g sf n h bl := ⟨hs.blk.drewN k, hs.words, hs.bytes⟩
theorem St.alloc {w : World} {g : Nat} {sf : Value} {n : Nat} {h bl : List Nat} (hs : St w g sf n h bl) (o : Obj) : St (w.alloc o) g sf n h bl := ⟨hs.blk.alloc o, hs.words, hs.bytes⟩
theorem St.seth {w : World} {g : Nat} {sf : Value} {n : Nat} {h bl : List Nat} (hs : St w g sf n h bl) {i : Nat} (hi : i < 8) {x : Nat} (hx : x < W32) : St (w.setCell ⟨g, 2 + i, none⟩ (.int .u32 (x : Nat))) g sf n (h.set i x) bl :=
  ⟨stL_seth (hs.words.1.symm ▸ hi) x ▸ hs.blk.set _ _, hs.words.set i hx, hs.bytes⟩

/-! The counter. -/
def filledN (n : Nat) : Nat := if n = 0 then 0 else (n - 1) % 64 + 1
theorem filled_any (g n : Nat) (w : World) (hn : n ≤ 9223372036854775807) (hc : w.cell? ⟨g, 1, none⟩ = some (.int .i64 (n : Nat))) :
    Calls Try.prog 165 #[.pointer (some ⟨g, 1, none⟩)] w fun e w' => e = .returned (.int .i64 (filledN n : Nat)) ∧ w' = w := by
  by_cases h0 : n = 0
  · subst h0
    go_enter Try.func165, Try.ntmps165
    go_wp2
    go_ret
    exact ⟨rfl, rfl⟩
  · have hz : ((n : Int) == 0) = false := by rw [beq_eq_false_iff_ne]; omega
    have hN := hidp h0
    have h1 := hidp hn
    clear h0 hn
    go_enter Try.func165, Try.ntmps165
    go_wp2
    go_ret
    refine ⟨ret_int ?_, rfl⟩
    have h2 := hN.out
    have h3 := h1.out
    unfold filledN
    rw [if_neg h2, w64 ((n : Int) - 1) (by omega), Int.tmod_eq_emod_of_nonneg (by omega), w64 _ (by omega)]
    omega
theorem count_any (g n k : Nat) (w : World) (hn : n + k ≤ 9223372036854775807) (hc : w.cell? ⟨g, 1, none⟩ = some (.int .i64 (n : Nat))) (hf : w.frozen? ⟨g, 1, none⟩ = false) :
    Calls Try.prog 167 #[.pointer (some ⟨g, 1, none⟩), .int .i64 (k : Nat)] w fun e w' => e = .returned (.tuple #[]) ∧ w' = w.setCell ⟨g, 1, none⟩ (.int .i64 (n + k : Nat)) := by
  have hw : wrap64 ((n : Int) + k) = ((n + k : Nat) : Int) := by rw [w64 _ (by omega)]; omega
  go_enter Try.func167, Try.ntmps167
  go_wp2
  go_end0
  exact ⟨rfl, rfl⟩
theorem halves_any (g n : Nat) (w : World) (hn : n ≤ 9223372036854775807) (hc : w.cell? ⟨g, 1, none⟩ = some (.int .i64 (n : Nat))) :
    Calls Try.prog 205 #[.pointer (some ⟨g, 1, none⟩)] w fun e w' => e = .returned (.tuple #[.int .u32 (n % 4294967296 : Nat), .int .u32 (n / 4294967296 % 4294967296 : Nat)]) ∧ w' = w := by
  have hl : ((n % 4294967296 : Nat) : Int) = (n : Int) % 4294967296 := by omega
  have hh : ((n / 4294967296 % 4294967296 : Nat) : Int) = (n : Int) / 4294967296 := by omega
  rw [hl, hh]
  clear hl hh
  go_enter Try.func205, Try.ntmps205
  go_wp2
  exact bodyPost_ret (v := .tuple #[.int .u32 ((n : Int) % 4294967296), .int .u32 ((n : Int) / 4294967296)]) (by simp [results, Try.results205, go_sem]) rfl ⟨rfl, rfl⟩
theorem initial_any (w : World) :
    Calls Try.prog 164 #[] w fun e w' => e = .returned (.agg (wvs initL).toArray) ∧ Below w.heap.size w w' := by
  go_enter Try.func164, Try.ntmps164
  go_wp2
  refine bodyPost_ret (v := .agg (wvs initL).toArray) ?_ rfl ⟨rfl, by (repeat' (first | (with_reducible exact Below.refl _ _) | (with_reducible refine Below.alloc ?_ ?_ _) | (with_reducible refine Below.drew ?_) | (with_reducible refine Below.drewN ?_ _) | (with_reducible refine Below.setCell ?_ ?_ _) | go_size))⟩
  exact results_cell_row Try.results164 _ _ w.heap.size 136 _ (0, 0) _ rfl (Blk.new w (wvs initL) _) Try.underlying136 rfl (by kernel_rfl)

/-! Digits. -/
def hexV (c : Nat) : Nat := if 48 ≤ c ∧ c ≤ 57 then c - 48 else if 97 ≤ c ∧ c ≤ 102 then c - 87 else 16
theorem value_all (c : Nat) (w : World) :
    Calls Try.prog 195 #[.int .i32 (c : Nat)] w fun e w' => e = .returned (.tuple #[.int .u8 ((if hexV c < 16 then hexV c else 0 : Nat)), .bool (decide (hexV c < 16))]) ∧ w' = w := by
  by_cases h1 : 48 ≤ c ∧ c ≤ 57
  · have e : hexV c = c - 48 := by unfold hexV; rw [if_pos h1]
    have hlt : c - 48 < 16 := by omega
    rw [e, if_pos hlt, decide_eq_true hlt, show ((c - 48 : Nat) : Int) = (c : Int) - 48 by omega]
    have a1 : (48 : Int) ≤ c := by omega
    have a2 : (c : Int) ≤ 57 := by omega
    clear e hlt h1
    go_enter Try.func195, Try.ntmps195
    go_wp2
    exact bodyPost_ret (v := .tuple #[.int .u8 ((c : Int) - 48), .bool true]) (by simp [results, Try.results195, go_sem]) rfl ⟨rfl, rfl⟩
  · by_cases h2 : 97 ≤ c ∧ c ≤ 102
    · have e : hexV c = c - 87 := by unfold hexV; rw [if_neg h1, if_pos h2]
      have hlt : c - 87 < 16 := by omega
      rw [e, if_pos hlt, decide_eq_true hlt, show ((c - 87 : Nat) : Int) = (c : Int) - 97 + 10 by omega]
      have a1 : (97 : Int) ≤ c := by omega
      have a2 : (c : Int) ≤ 102 := by omega
      clear e hlt h1 h2
      go_enter Try.func195, Try.ntmps195
      go_wp2
      exact bodyPost_ret (v := .tuple #[.int .u8 ((c : Int) - 97 + 10), .bool true]) (by simp [results, Try.results195, go_sem]) rfl ⟨rfl, rfl⟩
    · have e : hexV c = 16 := by unfold hexV; rw [if_neg h1, if_neg h2]
      rw [e, if_neg (by decide), decide_eq_false (by decide)]
      clear e
      rcases (show c < 48 ∨ (57 < c ∧ c < 97) ∨ 102 < c by omega) with h | ⟨h, h'⟩ | h
      all_goals clear h1 h2
      all_goals go_enter Try.func195, Try.ntmps195
      all_goals go_wp2
      all_goals exact bodyPost_ret (v := .tuple #[.int .u8 0, .bool false]) (by simp [results, Try.results195, go_sem]) rfl ⟨rfl, rfl⟩
theorem value_any (c : Nat) (w : World) (_hc : c < 1114112) :
    Calls Try.prog 195 #[.int .i32 (c : Nat)] w fun e w' => e = .returned (.tuple #[.int .u8 ((if hexV c < 16 then hexV c else 0 : Nat)), .bool (decide (hexV c < 16))]) ∧ w' = w := value_all c w
end Go.Proofs.Ytdiklimikkplcaa
