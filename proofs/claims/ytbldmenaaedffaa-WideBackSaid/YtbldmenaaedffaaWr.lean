/-
  Contracts: malformed, push of package wide.
-/
import Derived.Test.YtbldmenaaedffaaWk
import Derived.Test.YtbldmenaaedffaaWm
namespace Go.Proofs.Ytbldmenaaedffaa
open Go.RowKit

/-- Is the byte at place i no digit? -/
def badB (s : ByteArray) (i : Nat) : Prop := ∃ h : i < s.size, s[i].toNat < 48 ∨ 57 < s[i].toNat
abbrev fv (e i : Int) : Value := .agg #[.int .i64 e, .int .i64 i]
theorem not_bad {s : ByteArray} {i : Nat} (h : ¬ badB s i) (hi : i < s.size) : 48 ≤ s[i].toNat ∧ s[i].toNat ≤ 57 := by
  constructor
  · refine Nat.le_of_not_lt fun h1 => h ⟨hi, .inl h1⟩
  · refine Nat.le_of_not_lt fun h1 => h ⟨hi, .inr h1⟩
theorem toList_nil {s : ByteArray} (h : s.size = 0) : s.toList = [] := by
  rw [ByteArray.toList_eq]; exact List.eq_nil_of_length_eq_zero (by simpa using h)
theorem toList_ne {s : ByteArray} (h : ¬ s.size = 0) : s.toList.isEmpty = false := by
  rw [ByteArray.toList_eq]
  cases h1 : s.data.toList with
  | nil => exact absurd (by have := congrArg List.length h1; simpa using this) h
  | cons => rfl

set_option maxHeartbeats 400000 in
theorem mal_empty (s : ByteArray) (w : World) (h : s.size = 0) :
    Calls Try.prog 47 #[.string s] w fun e w' => e = .returned (fv 6 0) ∧ Below w.heap.size w w' := by
  have h1 := toList_nil h
  clear h
  go_enter Try.func47, Try.ntmps47
  go_wp2
  exact bodyPost_ret (v := fv 6 0) (by simp [results, Try.results47, go_sem]) rfl ⟨rfl, by (repeat' (first | (with_reducible exact Below.refl _ _) | (with_reducible refine Below.alloc ?_ ?_ _) | (with_reducible refine Below.drew ?_) | (with_reducible refine Below.drewN ?_ _) | (with_reducible refine Below.setCell ?_ ?_ _) | go_size))⟩

set_option maxHeartbeats 400000 in
theorem mal_bad (s : ByteArray) (i : Nat) (w : World) (hs : s.size ≤ 9223372036854775807) (hi : badB s i) (hmin : ∀ j, j < i → ¬ badB s j) :
    Calls Try.prog 47 #[.string s] w fun e w' => e = .returned (fv 5 i) ∧ Below w.heap.size w w' := by
  obtain ⟨hlt, hb⟩ := hi
  have hne := toList_ne (s := s) (by omega)
  have HM := hidp hmin; clear hmin
  go_enter Try.func47, Try.ntmps47
  go_wp2
  go_loop [9] (fun x => ∃ k : Nat, k ≤ i ∧ x = .int .i64 k) (fun x => i - (intOf x).toNat)
  case atStart => exact ⟨0, Nat.zero_le _, rfl⟩
  case round =>
    obtain ⟨k, hk, rfl⟩ := hrel
    by_cases hki : k < i
    · have hks : k < s.size := by omega
      obtain ⟨h1, h2⟩ := not_bad (HM.out k hki) hks
      clear hb
      go_wp2
      go_round
      case rel => exact ⟨k + 1, by omega, by go_num⟩
      case measure => simp [intOf]; omega
    · obtain rfl : k = i := by omega
      rcases hb with hb | hb
      all_goals go_wp2
      all_goals exact bodyPost_ret (v := fv 5 k) (by simp [results, Try.results47, go_sem]) rfl ⟨rfl, by (repeat' (first | (with_reducible exact Below.refl _ _) | (with_reducible refine Below.alloc ?_ ?_ _) | (with_reducible refine Below.drew ?_) | (with_reducible refine Below.drewN ?_ _) | (with_reducible refine Below.setCell ?_ ?_ _) | go_size))⟩

set_option maxHeartbeats 400000 in
theorem mal_zero (s : ByteArray) (w : World) (hs : s.size ≤ 9223372036854775807) (h1 : 1 < s.size) (hz : s[0].toNat = 48) (hgood : ∀ j, ¬ badB s j) :
    Calls Try.prog 47 #[.string s] w fun e w' => e = .returned (fv 5 0) ∧ Below w.heap.size w w' := by
  have hne := toList_ne (s := s) (by omega)
  have HM := hidp hgood; clear hgood
  have HZ := hidp hz; clear hz
  go_enter Try.func47, Try.ntmps47
  go_wp2
  go_loop [9] (fun x => ∃ k : Nat, k ≤ s.size ∧ x = .int .i64 k) (fun x => s.size - (intOf x).toNat)
  case atStart => exact ⟨0, Nat.zero_le _, rfl⟩
  case round =>
    obtain ⟨k, hk, rfl⟩ := hrel
    by_cases hki : k < s.size
    · obtain ⟨h1, h2⟩ := not_bad (HM.out k) hki
      go_wp2
      go_round
      case rel => exact ⟨k + 1, by omega, by go_num⟩
      case measure => simp [intOf]; omega
    · have hz := HZ.out
      have hzi : ((s[0].toNat : Nat) : Int) = 48 := by omega
      clear hz
      go_wp2
      exact bodyPost_ret (v := fv 5 0) (by simp [results, Try.results47, go_sem]) rfl ⟨rfl, by (repeat' (first | (with_reducible exact Below.refl _ _) | (with_reducible refine Below.alloc ?_ ?_ _) | (with_reducible refine Below.drew ?_) | (with_reducible refine Below.drewN ?_ _) | (with_reducible refine Below.setCell ?_ ?_ _) | go_size))⟩

set_option maxHeartbeats 400000 in
theorem mal_ok (s : ByteArray) (w : World) (hs : s.size ≤ 9223372036854775807) (h0 : ¬ s.size = 0) (hz : ∀ h : 1 < s.size, ¬ s[0].toNat = 48) (hgood : ∀ j, ¬ badB s j) :
    Calls Try.prog 47 #[.string s] w fun e w' => e = .returned (fv 0 0) ∧ Below w.heap.size w w' := by
  have hne := toList_ne (s := s) (by omega)
  have HM := hidp hgood; clear hgood
  have HZ := hidp hz; clear hz
  go_enter Try.func47, Try.ntmps47
  go_wp2
  go_loop [9] (fun x => ∃ k : Nat, k ≤ s.size ∧ x = .int .i64 k) (fun x => s.size - (intOf x).toNat)
  case atStart => exact ⟨0, Nat.zero_le _, rfl⟩
  case round =>
    obtain ⟨k, hk, rfl⟩ := hrel
    by_cases hki : k < s.size
    · obtain ⟨h1, h2⟩ := not_bad (HM.out k) hki
      go_wp2
      go_round
      case rel => exact ⟨k + 1, by omega, by go_num⟩
      case measure => simp [intOf]; omega
    · by_cases h1 : 1 < s.size
      · have hzi : ¬ ((s[0].toNat : Nat) : Int) = 48 := by have := HZ.out h1; omega
        go_wp2
        exact bodyPost_ret (v := fv 0 0) (by simp [results, Try.results47, go_sem]) rfl ⟨rfl, by (repeat' (first | (with_reducible exact Below.refl _ _) | (with_reducible refine Below.alloc ?_ ?_ _) | (with_reducible refine Below.drew ?_) | (with_reducible refine Below.drewN ?_ _) | (with_reducible refine Below.setCell ?_ ?_ _) | go_size))⟩
      · go_wp2
        exact bodyPost_ret (v := fv 0 0) (by simp [results, Try.results47, go_sem]) rfl ⟨rfl, by (repeat' (first | (with_reducible exact Below.refl _ _) | (with_reducible refine Below.alloc ?_ ?_ _) | (with_reducible refine Below.drew ?_) | (with_reducible refine Below.drewN ?_ _) | (with_reducible refine Below.setCell ?_ ?_ _) | go_size))⟩

set_option maxHeartbeats 400000 in
theorem push_full1 (a d : Nat) (w : World) (ha : a < W128) (h : ¬ a * 10 < W128) :
    Calls Try.prog 49 #[wv a, .int .u8 ((48 + d : Nat) : Int)] w fun e w' => e = .returned (.tuple #[wz, .int .i64 7]) ∧ Below w.heap.size w w' := by
  have HT := hidp (fun w => Times_full a 10 w ha (by omega) h)
  clear ha h
  go_enter Try.func49, Try.ntmps49
  go_wp2_with fail
  refine (HT.out _).mono ?_
  rintro e w1 ⟨rfl, hB⟩
  obtain ⟨hc, hf⟩ := bcell hB
  have HB := hidp hB; have hs := hB.size; clear hB
  simp only [World.size_alloc] at hs
  have hz0 : w.heap.size < w1.heap.size := by omega
  have hz : w.heap.size + 1 < w1.heap.size := by omega
  go_wp2
  exact bodyPost_ret (v := .tuple #[wz, .int .i64 7]) (by simp [results, Try.results49, go_sem, hc]) rfl ⟨rfl, by (repeat' (first | (with_reducible exact Below.refl _ _) | (with_reducible refine Below.alloc ?_ ?_ _) | (with_reducible refine Below.drew ?_) | (with_reducible refine Below.drewN ?_ _) | (with_reducible refine Below.setCell ?_ ?_ _) | (with_reducible refine Below.trans ?_ (Below.mono HB.out ?_)) | go_size | (have i0_ := HB.out.size; (try simp at i0_); (try simp); omega)))⟩

set_option maxHeartbeats 400000 in
theorem push_any (a d : Nat) (w : World) (ha : a < W128) (hd : d ≤ 9) (h : a * 10 < W128) (r : Nat) (x : Int)
    (hP : ∀ w, Calls Try.prog 14 #[wv (a * 10), wv d] w fun e w' => e = .returned (.tuple #[wv r, .int .i64 x]) ∧ Below w.heap.size w w') :
    Calls Try.prog 49 #[wv a, .int .u8 ((48 + d : Nat) : Int)] w fun e w' => e = .returned (.tuple #[wv r, .int .i64 x]) ∧ Below w.heap.size w w' := by
  have HT := hidp (fun w => Times_ok a 10 w ha (by omega) h)
  rw [wv_nat (n := d) (by omega)] at hP
  have HP := hidp hP
  have ed : (48 : Int) + (d : Int) - 48 = (d : Int) := by omega
  clear ha h hP
  go_enter Try.func49, Try.ntmps49
  go_wp2_with fail
  refine (HT.out _).mono ?_
  rintro e w1 ⟨rfl, hB⟩
  have ba : Blk w1 w.heap.size [.int .u64 (hiw a), .int .u64 (low a)] 24 := ((Blk.new' w [.int .u64 (hiw a), .int .u64 (low a)] _ _ rfl).alloc _).below hB (by simp; omega)
  have br : Blk w1 (w.heap.size + 1) [.int .u64 0, .int .u64 0] 24 := (Blk.new' _ [.int .u64 0, .int .u64 0] _ _ (by simp)).below hB (by simp)
  have a0 := ba.cell 0
  have a1 := ba.cell 1
  have f0 := ba.free 0
  have f1 := ba.free 1
  simp only [List.getElem?_cons_zero, List.getElem?_cons_succ] at a0 a1
  have BA := hidp ba; have BR := hidp br; clear ba br
  have HB := hidp hB; have hs := hB.size; clear hB
  simp only [World.size_alloc] at hs
  go_wp2_with fail
  refine (HP.out _).mono ?_
  rintro e w2 ⟨rfl, hB2⟩
  have br2 : Blk w2 (w.heap.size + 1) [.int .u64 0, .int .u64 0] 24 := ((BR.out.other _ _ (by simp)).other _ _ (by simp)).below hB2 (by simp; omega)
  have r0 := br2.cell 0
  have r1 := br2.cell 1
  have g0 := br2.free 0
  have g1 := br2.free 1
  simp only [List.getElem?_cons_zero, List.getElem?_cons_succ] at r0 r1
  have HB2 := hidp hB2
  clear hB2 br2 a0 a1 f0 f1
  go_wp2
  refine bodyPost_ret (v := .tuple #[wv r, .int .i64 x]) (by simp [results, Try.results49, go_sem, r0, r1]) rfl ⟨rfl, ?_⟩
  (repeat' (first | (with_reducible exact Below.refl _ _) | (with_reducible refine Below.alloc ?_ ?_ _) | (with_reducible refine Below.drew ?_) | (with_reducible refine Below.drewN ?_ _) | (with_reducible refine Below.setCell ?_ ?_ _) | (with_reducible refine Below.trans ?_ (Below.mono HB.out ?_)) | (with_reducible refine Below.trans ?_ (Below.mono HB2.out ?_)) | go_size | (have i0_ := HB.out.size; (try simp at i0_); (try simp); omega) | (have i0_ := HB.out.size; (try simp at i0_); have i1_ := HB2.out.size; (try simp at i1_); (try simp); omega)))
end Go.Proofs.Ytbldmenaaedffaa
