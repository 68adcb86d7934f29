/-
  Header: the hash of a header.
-/
import Derived.Test.YtdiklimikkplcaaL6k
import Derived.Test.YtdiklimikkplcaaHm
namespace Go.Proofs.Ytdiklimikkplcaa
set_option linter.unusedSimpArgs false
open Go.RowKit Go.Lib

theorem Bs.bsl {w : World} {p : Option Addr} {b o cap : Nat} {L : List Nat} (h : Bs w p b o L cap) : Bsl w p b o L cap :=
  ⟨h.byte, h.le, fun h0 => h.ptr (by have := h.le; omega), fun i hi => h.here i hi⟩
theorem own_lit (w : World) (X : List Nat) (hX : X.length ≤ 1000) : (w.alloc (.cells (bvs X).toArray 5)).ownsRow w.heap.size 5 1 (.slice (some ⟨w.heap.size, 0, none⟩) X.length X.length) X.length (bvs X) := by
  refine ⟨by rw [bvs_len, Nat.mul_one], .inr ⟨w.heap.size, X.length, (bvs X).toArray, rfl, Nat.le_refl _, heap_alloc_new w _, Nat.le_refl _, by unfold maxLen; omega, by rw [List.size_toArray, bvs_len, Nat.mul_one], ?_⟩⟩
  rw [Nat.mul_one]
  show (bvs X).take X.length = bvs X
  exact List.take_of_length_le (by rw [bvs_len]; exact Nat.le_refl _)
def hashH (x : Hdr) : List Nat := hashL (72 :: encH x)
theorem hashH_len (x : Hdr) : (hashH x).length = 32 := hashL_len _
theorem zero_hash : (Try.prog.info? 34).map (fun i => (i.zero, i.size)) = some (some (.agg (bvs z32).toArray), 32) := by kernel_rfl
theorem results_row2 {P : Program} {fn : Func} {p u : Tmp} {ty : TypeId} (h : fn.results = #[.cell p ty, .tmp u]) (tmps : Array Value) (w : World) (g : Nat) (t : TypeId) (cs : List Value) (d : TypeDesc)
    (hp : tmps.getD p undef = .pointer (some ⟨g, 0, none⟩)) (hb : Blk w g cs t) (hu : P.underlying ty = some d) (hd : (match d with | .struct _ | .array _ _ => true | _ => false) = true) (hi : (P.info? ty).map (·.size) = some cs.length) :
    (results fn tmps).run P w = .ok (.tuple #[.agg cs.toArray, tmps.getD u undef]) w := by
  have hr := run_loadVar_row (P := P) w g t ty cs.toArray (0, 0) d hb hu hd (by simpa using hi)
  rw [results_cell_tmp h, hp]
  simp [asAddr, hr, Result.andThen]
set_option maxRecDepth 100000 in
set_option maxHeartbeats 2000000 in
theorem hhash_bad (x : Hdr) (hx : HdrOk x) (w : World) (hc : chkH x ≠ 0) :
    Calls Try.prog 43 #[.agg (hC x).toArray] w fun e w' => e = .returned (.tuple #[.agg (bvs z32).toArray, .int .i64 (chkH x : Nat)]) ∧ Below w.heap.size w w' := by
  have hz : ∀ w, (zeroValue 34).run Try.prog w = .ok (.agg (bvs z32).toArray) w := (zero_of_info (P := Try.prog) zero_hash).1
  have hl := hidp (hC_len hx)
  have HE := hidp (fun W => hencode_bad x hx W hc)
  have hbn : (((chkH x : Nat) : Int) != 0) = true := by rw [bne_iff_ne]; omega
  have hA := hidp ((Blk.new w (hC x) 68).alloc (.cells (bvs z32).toArray 34))
  have hR := hidp (Blk.new' (w.alloc (.cells (hC x).toArray 68)) (bvs z32) 34 (w.heap.size + 1) (by simp))
  have hBB := hidp (((Below.refl w.heap.size w).alloc (Nat.le_refl _) (.cells (hC x).toArray 68)).alloc (by simp) (.cells (bvs z32).toArray 34))
  clear hc hx
  generalize chkH x = n at *
  go_enter Try.func43, Try.ntmps43
  go_wp2_with (with_reducible refine (?_ : wpList _ _ _ _ _ _); refine wpList_load_blk rfl 68 _ rfl w.heap.size (hC x) 68 rfl hA.out _ Try.underlying68 rfl (by rw [hl.out]; kernel_rfl) ?_)
  refine (HE.out _).mono ?_
  rintro e w1 ⟨rfl, hb⟩
  have hR1 := hidp (hb.blk' hR.out)
  have hB := hidp (hBB.out.trans (hb.mono hBB.out.size))
  clear hb HE hBB hA hR
  go_wp2_with first
    | (with_reducible refine (?_ : wpList _ _ _ _ _ _); refine wpList_buildG (by kernel_rfl) 34 _ rfl (bvs z32).toArray (by kernel_rfl) ?_)
    | (with_reducible refine (?_ : wpList _ _ _ _ _ _); refine wpList_store_blk rfl 34 _ _ rfl (w.heap.size + 1) (bvs z32) (bvs z32) 34 rfl rfl hR1.out (by kernel_rfl) rfl (bvs_one _) ?_; intro w6 hw6)
  have b2 : Blk w6 (w.heap.size + 1) (bvs z32) 34 := by rw [hw6.out]; exact hR1.out.row
  have hB6 : Below w.heap.size w w6 := by rw [hw6.out]; exact hB.out.trans (((But.refl (w.heap.size + 1) w1).setRow (bvs z32).toArray).below (by omega))
  refine bodyPost_ret (v := .tuple #[.agg (bvs z32).toArray, .int .i64 (n : Nat)]) ?_ rfl ⟨rfl, hB6⟩
  exact results_row2 Try.results43 _ _ (w.heap.size + 1) 34 _ _ rfl b2 Try.underlying34 rfl (by kernel_rfl)
set_option maxRecDepth 100000 in
set_option maxHeartbeats 2000000 in
theorem hhash_ok (x : Hdr) (hG : HGood x) (w : World) :
    Calls Try.prog 43 #[.agg (hC x).toArray] w fun e w' => e = .returned (.tuple #[.agg (bvs (hashH x)).toArray, .int .i64 0]) ∧ Below w.heap.size w w' := by
  have hz : ∀ w, (zeroValue 34).run Try.prog w = .ok (.agg (bvs z32).toArray) w := (zero_of_info (P := Try.prog) zero_hash).1
  have hl := hidp (hC_len hG.ok)
  have HE := hidp (fun W => hencode_ok x hG.ok W hG.c)
  have hA := hidp ((Blk.new w (hC x) 68).alloc (.cells (bvs z32).toArray 34))
  have hR := hidp (Blk.new' (w.alloc (.cells (hC x).toArray 68)) (bvs z32) 34 (w.heap.size + 1) (by simp))
  have hBB := hidp (((Below.refl w.heap.size w).alloc (Nat.le_refl _) (.cells (hC x).toArray 68)).alloc (by simp) (.cells (bvs z32).toArray 34))
  have hLE := hidp (encH_le hG)
  have hBY := hidp (encH_byte hG.ok)
  have hHH := hidp (show hashH x = hashL (72 :: encH x) from rfl)
  have hHl := hidp (hashH_len x)
  clear hG
  generalize hashH x = Z at *
  generalize encH x = L at *
  go_enter Try.func43, Try.ntmps43
  go_wp2_with (with_reducible refine (?_ : wpList _ _ _ _ _ _); refine wpList_load_blk rfl 68 _ rfl w.heap.size (hC x) 68 rfl hA.out _ Try.underlying68 rfl (by rw [hl.out]; kernel_rfl) ?_)
  refine (HE.out _).mono ?_
  rintro e w1 ⟨⟨p, b, cap, rfl, _, hpn, hs⟩, hb⟩
  have hR1 := hidp (hb.blk' hR.out)
  have hB := hidp (hBB.out.trans (hb.mono hBB.out.size))
  have HS := hidp (ByS.of_bs (hs.below ((Below.refl w1.heap.size w1).alloc (Nat.le_refl _) (.cells (bvs [72]).toArray 5))) hpn)
  have HO := hidp (own_lit w1 [72] (by decide))
  clear hb HE hBB hA hR hs hpn
  have hn1 := hidp (show 1 + L.length ≤ 4000000 by have := hLE.out; omega)
  have hZ0 := hidp (show w1.heap.size ≤ (w1.alloc (.cells (bvs [72]).toArray 5)).heap.size by simp)
  go_wp2_with (at_builtin; refine wpList_append_byS rfl _ _ rfl w1.heap.size 1 (bvs [72]) _ rfl HO.out p cap L rfl HS.out hn1.out hZ0.out ?_; intro v' w2 hown' hgrow; have hO := hidp hown'; have hG := hidp hgrow; clear hown' hgrow)
  have hT := hidp (((Below.refl w1.heap.size w1).alloc (Nat.le_refl _) _).grown hG.out hZ0.out (fun j hj => (HO.out.lt j hj).1))
  have hO2 : w2.ownsRow w1.heap.size 5 1 v' (72 :: L).length (bvs (72 :: L)) := by
    have q := hO.out
    rw [show 1 + L.length = (72 :: L).length by rw [List.length_cons]; omega] at q
    exact q
  obtain ⟨p2, b2, c2, rfl, _, _, hs⟩ := Bs.of_own hO2 (fun z hz => by
    rcases List.mem_cons.1 hz with rfl | h1
    · decide
    · exact hBY.out z h1)
  have HS2 := hidp hs
  have hR2 := hidp (hT.out.blk' hR1.out)
  have hB2 := hidp (hB.out.trans (hT.out.mono hB.out.size))
  clear hs hO hO2 HO hG hT hR1 hB HS
  refine (sum_any (72 :: L) p2 b2 0 c2 w2 HS2.out.bsl (by rw [List.length_cons]; have := hLE.out; omega)).mono ?_
  rintro e w3 ⟨rfl, hb⟩
  have hR3 := hidp (hb.blk' hR2.out)
  have hB3 := hidp (hB2.out.trans (hb.mono hB2.out.size))
  clear hb hR2 hB2 HS2
  rw [← hHH.out]
  go_wp2_with (with_reducible refine (?_ : wpList _ _ _ _ _ _); refine wpList_store_blk rfl 34 _ _ rfl (w.heap.size + 1) (bvs Z) (bvs z32) 34 rfl rfl hR3.out (by rw [bvs_len, hHl.out]; kernel_rfl) (by simp [bvs_len, hHl.out, z32]) (bvs_one _) ?_; intro w6 hw6)
  have b2 : Blk w6 (w.heap.size + 1) (bvs Z) 34 := by rw [hw6.out]; exact hR3.out.row
  have hB6 : Below w.heap.size w w6 := by rw [hw6.out]; exact hB3.out.trans (((But.refl (w.heap.size + 1) w3).setRow (bvs Z).toArray).below (by omega))
  refine bodyPost_ret (v := .tuple #[.agg (bvs Z).toArray, .int .i64 0]) ?_ rfl ⟨rfl, hB6⟩
  exact results_row2 Try.results43 _ _ (w.heap.size + 1) 34 _ _ rfl b2 Try.underlying34 rfl (by rw [bvs_len, hHl.out]; kernel_rfl)
end Go.Proofs.Ytdiklimikkplcaa
