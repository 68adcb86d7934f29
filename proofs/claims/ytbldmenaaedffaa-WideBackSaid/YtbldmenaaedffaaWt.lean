/-
  Contracts: Read of package wide.
-/
import Derived.Test.YtbldmenaaedffaaWs
import Derived.Lib.ConvBytes
namespace Go.Proofs.Ytbldmenaaedffaa
open Go.RowKit Go.Lib

theorem below_bytesWorld {B : Nat} {a w : World} (h : Below B a w) (hB : B ≤ w.heap.size) (e : TypeId) (s : ByteArray) : Below B a (bytesWorld w e s) :=
  h.trans ⟨rfl, rfl, rfl, by rw [bytesWorld_size]; omega, fun k hk => bytesWorld_at_old w e s k (by omega)⟩

set_option maxHeartbeats 400000 in
theorem Read_mal (s : ByteArray) (e i : Int) (w : World) (he : ¬ e = 0)
    (hm : ∀ w, Calls Try.prog 47 #[.string s] w fun r w' => r = .returned (fv e i) ∧ Below w.heap.size w w') :
    Calls Try.prog 27 #[.string s] w fun r w' => r = .returned (.tuple #[wz, fv e i]) ∧ Below w.heap.size w w' := by
  have HM := hidp hm; clear hm
  go_enter Try.func27, Try.ntmps27
  go_wp2_with fail
  refine (HM.out _).mono ?_
  rintro r w1 ⟨rfl, hB⟩
  have b0 : Blk w1 w.heap.size [.int .u64 0, .int .u64 0] 24 := ((Blk.new' w [.int .u64 0, .int .u64 0] _ _ rfl).alloc _).below hB (by simp; omega)
  have b1 : Blk w1 (w.heap.size + 1) [.int .i64 0, .int .i64 0] 42 := (Blk.new' _ [.int .i64 0, .int .i64 0] _ _ (by simp)).below hB (by simp)
  have c0 := b0.cell 0
  have c1 := b0.cell 1
  have f0 := b0.free 0
  have f1 := b0.free 1
  have d0 := b1.cell 0
  have d1 := b1.cell 1
  have g0 := b1.free 0
  have g1 := b1.free 1
  simp only [List.getElem?_cons_zero, List.getElem?_cons_succ] at c0 c1 d0 d1
  have hz0 := b0.lt
  have hz1 := b1.lt
  have HB := hidp hB; clear hB b0 b1
  go_wp2
  go_region
  all_goals go_wp2
  exact bodyPost_ret (v := .tuple #[wz, fv e i]) (by simp [results, Try.results27, go_sem, c0, c1, d0, d1, hz0, hz1]) rfl ⟨rfl, by (repeat' (first | (with_reducible exact Below.refl _ _) | (with_reducible refine Below.alloc ?_ ?_ _) | (with_reducible refine Below.drew ?_) | (with_reducible refine Below.drewN ?_ _) | (with_reducible refine Below.setCell ?_ ?_ _) | (with_reducible refine Below.trans ?_ (Below.mono HB.out ?_)) | go_size | (have i0_ := HB.out.size; (try simp at i0_); (try simp); omega)))⟩

set_option maxHeartbeats 400000 in
theorem Read_long (s : ByteArray) (w : World) (hs : 39 < s.size)
    (hm : ∀ w, Calls Try.prog 47 #[.string s] w fun r w' => r = .returned (fv 0 0) ∧ Below w.heap.size w w') :
    Calls Try.prog 27 #[.string s] w fun r w' => r = .returned (.tuple #[wz, fv 3 0]) ∧ Below w.heap.size w w' := by
  have HM := hidp hm; clear hm
  go_enter Try.func27, Try.ntmps27
  go_wp2_with fail
  refine (HM.out _).mono ?_
  rintro r w1 ⟨rfl, hB⟩
  have b0 : Blk w1 w.heap.size [.int .u64 0, .int .u64 0] 24 := ((Blk.new' w [.int .u64 0, .int .u64 0] _ _ rfl).alloc _).below hB (by simp; omega)
  have b1 : Blk w1 (w.heap.size + 1) [.int .i64 0, .int .i64 0] 42 := (Blk.new' _ [.int .i64 0, .int .i64 0] _ _ (by simp)).below hB (by simp)
  have c0 := b0.cell 0
  have c1 := b0.cell 1
  have f0 := b0.free 0
  have f1 := b0.free 1
  have d0 := b1.cell 0
  have d1 := b1.cell 1
  have g0 := b1.free 0
  have g1 := b1.free 1
  simp only [List.getElem?_cons_zero, List.getElem?_cons_succ] at c0 c1 d0 d1
  have hz0 := b0.lt
  have hz1 := b1.lt
  have HB := hidp hB; clear hB b0 b1
  go_wp2
  exact bodyPost_ret (v := .tuple #[wz, fv 3 0]) (by simp [results, Try.results27, go_sem, c0, c1, d0, d1, hz0, hz1]) rfl ⟨rfl, by (repeat' (first | (with_reducible exact Below.refl _ _) | (with_reducible refine Below.alloc ?_ ?_ _) | (with_reducible refine Below.drew ?_) | (with_reducible refine Below.drewN ?_ _) | (with_reducible refine Below.setCell ?_ ?_ _) | (with_reducible refine Below.trans ?_ (Below.mono HB.out ?_)) | go_size | (have i0_ := HB.out.size; (try simp at i0_); (try simp); omega)))⟩

/-- The digits of a string. -/
def digs (s : ByteArray) : List Nat := s.data.toList.map fun c => c.toNat - 48
theorem digs_len (s : ByteArray) : (digs s).length = s.size := by unfold digs; rw [List.length_map]; rfl
theorem digs_le {s : ByteArray} (hg : ∀ j, ¬ badB s j) : ∀ d ∈ digs s, d ≤ 9 := by
  intro d hd
  obtain ⟨c, hc, rfl⟩ := List.mem_map.1 hd
  obtain ⟨i, hi, rfl⟩ := List.getElem_of_mem hc
  have hi2 : i < s.size := by simpa using hi
  have h := not_bad (hg i) hi2
  have e : s.data.toList[i] = s[i]'hi2 := rfl
  rw [e]; omega
theorem digs_at {s : ByteArray} (hg : ∀ j, ¬ badB s j) (W : World) (b : Nat) (hb : b = W.heap.size) : DigsAt (bytesWorld W 5 s) (some ⟨b, 0, none⟩) (digs s) := by
  intro k hk
  rw [digs_len] at hk
  subst hb
  refine ⟨W.heap.size, 0, rfl, ?_⟩
  rw [Nat.zero_add, bytesWorld_cell W _ s k hk]
  have h := not_bad (hg k) hk
  have hk2 : k < s.data.toList.length := by simpa using hk
  have e : s.data.toList[k] = s[k]'hk := rfl
  have e2 : (digs s)[k]?.getD 0 = s[k].toNat - 48 := by
    unfold digs
    rw [List.getElem?_map, List.getElem?_eq_getElem hk2, e]; rfl
  have e3 : s.data.toList.getD k 0 = s[k] := by rw [List.getD_eq_getElem?_getD, List.getElem?_eq_getElem hk2, e]; rfl
  rw [e2, e3]
  congr 2
  omega

set_option maxHeartbeats 400000 in
theorem Read_digits (s : ByteArray) (w : World) (hs : ¬ 39 < s.size) (hg : ∀ j, ¬ badB s j)
    (hm : ∀ w, Calls Try.prog 47 #[.string s] w fun r w' => r = .returned (fv 0 0) ∧ Below w.heap.size w w') :
    Calls Try.prog 27 #[.string s] w fun r w' => r = .returned (if numN (digs s) < W128 then .tuple #[wv (numN (digs s)), fv 0 0] else .tuple #[wz, fv 3 0]) ∧ Below w.heap.size w w' := by
  have kc := fun W : World => _root_.Go.Lib.run_convert_string_bytes (P := Try.prog) W 9 68 5 s Try.underlying9 Try.underlying68 Try.underlying5
  have HG := hidp hg; clear hg
  have HM := hidp hm; clear hm
  go_enter Try.func27, Try.ntmps27
  go_wp2_with fail
  refine (HM.out _).mono ?_
  rintro r w1 ⟨rfl, hB⟩
  have b0 : Blk w1 w.heap.size [.int .u64 0, .int .u64 0] 24 := ((Blk.new' w [.int .u64 0, .int .u64 0] _ _ rfl).alloc _).below hB (by simp; omega)
  have b1 : Blk w1 (w.heap.size + 1) [.int .i64 0, .int .i64 0] 42 := (Blk.new' _ [.int .i64 0, .int .i64 0] _ _ (by simp)).below hB (by simp)
  have c0 := b0.cell 0
  have c1 := b0.cell 1
  have f0 := b0.free 0
  have f1 := b0.free 1
  have d0 := b1.cell 0
  have d1 := b1.cell 1
  have g0 := b1.free 0
  have g1 := b1.free 1
  simp only [List.getElem?_cons_zero, List.getElem?_cons_succ] at c0 c1 d0 d1
  have hz0 := b0.lt
  have hz1 := b1.lt
  have HB := hidp hB; have BB0 := hidp b0; have BB1 := hidp b1; clear hB b0 b1
  go_wp2_with fail
  refine (foldB_any (some ⟨w1.heap.size + 1, 0, none⟩) s.size _ (digs s) _ (by rw [digs_len]; omega) (digs_le HG.out) (digs_len s) ?_).mono ?_
  · refine digs_at HG.out _ _ ?_
    simp
  rintro r w2 ⟨rfl, hB2⟩
  have hBY := below_bytesWorld (Below.refl (w1.heap.size + 1) (w1.alloc (.cells #[.int .i64 0, .int .i64 0] 42))) (by simp) 5 s
  have hsz := bytesWorld_size (w1.alloc (.cells #[.int .i64 0, .int .i64 0] 42)) 5 s
  have hB2' := hBY.trans (hB2.mono (by rw [hsz]; simp))
  clear hsz
  have b2 : Blk w2 w.heap.size [.int .u64 0, .int .u64 0] 24 := (BB0.out.alloc _).below hB2' (by omega)
  have b3 : Blk w2 (w.heap.size + 1) [.int .i64 0, .int .i64 0] 42 := (BB1.out.alloc _).below hB2' (by omega)
  clear c0 c1 f0 f1 d0 d1 g0 g1
  have c0 := b2.cell 0
  have c1 := b2.cell 1
  have f0 := b2.free 0
  have f1 := b2.free 1
  have d0 := b3.cell 0
  have d1 := b3.cell 1
  have g0 := b3.free 0
  have g1 := b3.free 1
  simp only [List.getElem?_cons_zero, List.getElem?_cons_succ] at c0 c1 d0 d1
  have hz0 := b2.lt
  have hz1 := b3.lt
  have HB2 := hidp hB2'; clear hB2 hB2' b2 b3 hBY
  by_cases hN : numN (digs s) < W128
  · rw [numV_ok hN]
    have HN := hidp hN; clear hN
    go_wp2
    exact bodyPost_ret (v := .tuple #[wv (numN (digs s)), fv 0 0]) (by simp [results, Try.results27, go_sem, c0, c1, d0, d1, hz0, hz1]) rfl ⟨rfl, by (repeat' (first | (with_reducible exact Below.refl _ _) | (with_reducible refine Below.alloc ?_ ?_ _) | (with_reducible refine Below.drew ?_) | (with_reducible refine Below.drewN ?_ _) | (with_reducible refine Below.setCell ?_ ?_ _) | (with_reducible refine Below.trans ?_ (Below.mono HB.out ?_)) | (with_reducible refine Below.trans ?_ (Below.mono HB2.out ?_)) | go_size | (have i0_ := HB.out.size; (try simp at i0_); (try simp); omega) | (have i0_ := HB.out.size; (try simp at i0_); have i1_ := HB2.out.size; (try simp at i1_); (try simp); omega)))⟩
  · rw [numV_full hN]
    have HN := hidp hN; clear hN
    go_wp2
    exact bodyPost_ret (v := .tuple #[wz, fv 3 0]) (by simp [results, Try.results27, go_sem, c0, c1, d0, d1, hz0, hz1]) rfl ⟨rfl, by (repeat' (first | (with_reducible exact Below.refl _ _) | (with_reducible refine Below.alloc ?_ ?_ _) | (with_reducible refine Below.drew ?_) | (with_reducible refine Below.drewN ?_ _) | (with_reducible refine Below.setCell ?_ ?_ _) | (with_reducible refine Below.trans ?_ (Below.mono HB.out ?_)) | (with_reducible refine Below.trans ?_ (Below.mono HB2.out ?_)) | go_size | (have i0_ := HB.out.size; (try simp at i0_); (try simp); omega) | (have i0_ := HB.out.size; (try simp at i0_); have i1_ := HB2.out.size; (try simp at i1_); (try simp); omega)))⟩
end Go.Proofs.Ytbldmenaaedffaa
