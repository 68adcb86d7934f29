/-
  The walk of landfalllaw02's PaceMeans.
-/
import Derived.Test.YtajklipfdjaejaaEr
import Derived.Test.YtajklipfdjaejaaIr
namespace Go.Proofs.Ytajklipfdjaejaa
open Go.RowKit
attribute [local go_sem] run_bits run_frombits

theorem info_float : (Try.prog.info? 24).map (fun i => (i.zero, i.size, i.bytes)) = some (some (.float .f64 0), 1, 8) := by kernel_rfl
/-- The paces of the first numbers. -/
def pcs (zs : List Int) (n : Nat) : List Nat := (zs.take n).map Int.toNat
theorem pcs_len {zs : List Int} {n : Nat} (h : n ≤ zs.length) : (pcs zs n).length = n := by unfold pcs; simp; omega
theorem pcs_succ {zs : List Int} {k : Nat} (h : k < zs.length) : pcs zs (k + 1) = pcs zs k ++ [(zs.getD k 0).toNat] := by
  unfold pcs
  rw [List.take_succ_eq_append_getElem h, List.map_append, List.getD_eq_getElem?_getD, List.getElem?_eq_getElem h]; rfl
theorem pcs_get {zs : List Int} {n k : Nat} (hk : k < n) (h : n ≤ zs.length) : (pcs zs n).getD k 0 = (zs.getD k 0).toNat := by
  have h1 : k < zs.length := by omega
  unfold pcs
  rw [List.getD_eq_getElem?_getD, List.getElem?_map, List.getElem?_take_of_lt hk, List.getElem?_eq_getElem h1, List.getD_eq_getElem?_getD, List.getElem?_eq_getElem h1]; rfl
theorem slF_own {w : World} {base : Nat} {v : Value} {n : Nat} {xs : List Nat} (hx : xs.length = n) (h : w.ownsRow base 24 1 v n (xs.map fun x : Nat => Value.float .f64 x)) : SlF w v xs := by
  rcases h.2 with ⟨h1, h2⟩ | ⟨g, cap, cur, h1, h2, h3, h4⟩
  · exact .inl ⟨h1, List.eq_nil_of_length_eq_zero (by omega)⟩
  · refine .inr ⟨g, cap, by rw [hx]; exact h1, (Array.getElem?_eq_some_iff.1 h3).1, ?_⟩
    intro k hk
    have hc := h.cells (g := g) (by rw [h1]; rfl) k (.float .f64 (xs.getD k 0)) (by rw [List.getElem?_map, List.getElem?_eq_getElem hk, List.getD_eq_getElem?_getD, List.getElem?_eq_getElem hk]; rfl)
    rw [Addr.add_lit, Nat.zero_add] at hc
    exact hc
def PcsP (w : World) (xs : List Nat) (e : Ending) (w' : World) : Prop := ∃ v, e = .returned v ∧ SlF w' v xs ∧ Below w.heap.size w w'

set_option maxHeartbeats 1000000 in
theorem paces_any (a : Option Addr) (len cap : Nat) (zs : List Int) (w : World) (h60 : len ≤ 60) (h : IsRow .u64 w a len cap zs) : Calls Try.prog 25 #[.slice a len cap] w (PcsP w (pcs zs len)) := by
  obtain ⟨i0, hi, hz0, hz1, hz2⟩ := info_parts info_float
  have hle := h.le
  rcases h with ⟨rfl, rfl, rfl, rfl⟩ | ⟨x, rfl, hlc, _, _, hcell, _⟩
  · go_enter Try.func25, Try.ntmps25
    go_wp2
    refine wp_loop_rounds 1 ?_
    rw [rounds_succ]
    go_wp2
    go_ret
    exact ⟨_, rfl, .inl ⟨rfl, rfl⟩, Below.refl _ _⟩
  · have HC := hidp hcell; clear hcell
    go_enter Try.func25, Try.ntmps25
    go_wp2
    go_loopw [3, 4] (fun v i wr => ∃ k : Nat, k ≤ len ∧ i = .int .i64 k ∧ wr.ownsRow w.heap.size 24 1 v k ((pcs zs k).map fun x : Nat => Value.float .f64 x) ∧ Below w.heap.size w wr) (fun _ i _ => len - (intOf i).toNat)
    case atStart => exact ⟨0, by omega, rfl, World.ownsRow_nil _ _ _ _, Below.refl _ _⟩
    case round =>
      obtain ⟨k, hk, rfl, hown, hB⟩ := hrel
      by_cases hlt : k < len
      · have hkz : k < zs.length := by omega
        have hc0 := HC.out k hkz
        have hc := (hB.cell (cell_lt hc0)).trans hc0
        have hsz := hB.size
        clear hc0
        go_wp2_with (first | (go_at_call 11; refine (of_any _ _).mono ?_; rintro e w' ⟨rfl, rfl⟩) | (at_builtin; refine wpList_append_own _ rfl _ _ 38 rfl w.heap.size 24 i0 (.float .f64 0) 1 8 Try.underlying38 hi hz0 hz1 hz2 rfl (by decide) _ _ _ rfl (hown.alloc _) ⟨wr.heap.size, 0, none⟩ 1 1 [_] rfl rfl (cell_one_new _ _ _) (by simp [Value.oneCell']) (by unfold maxLen; omega) (by omega) (by simp; omega) ?_; intro v' w1 hown' hgrow _))
        have hB1 := (hB.alloc hsz _).grown hgrow (by simp; omega) (fun j hj => (hown.lt j hj).1)
        have ho1 : w1.ownsRow w.heap.size 24 1 v' (k + 1) ((pcs zs (k + 1)).map fun x : Nat => Value.float .f64 x) := by
          rw [pcs_succ hkz, List.map_append]
          simpa [List.getD_eq_getElem?_getD, List.getElem?_eq_getElem hkz] using hown'
        exact ⟨⟨k + 1, by omega, by go_num, ho1, hB1⟩, by simp [intOf]; omega⟩
      · obtain rfl : k = len := by omega
        have HO := hidp hown; have HB := hidp hB; clear hown hB
        go_wp2
        go_ret
        exact ⟨_, rfl, slF_own (pcs_len hle) HO.out, HB.out⟩

theorem of_q (n : Int) (w : World) : Calls Try.prog 11 #[.int .u64 n] w fun e w' => e = .returned (.float .f64 n.toNat) ∧ w' = w :=
  (of_any n w).mono fun _ _ ⟨h, k⟩ => ⟨h, k.symm⟩
set_option maxHeartbeats 2000000 in
theorem lawMeans_long (a : Option Addr) (len cap : Nat) (w : World) (h60 : 60 < len) :
    Calls Try.prog 5 #[.slice a len cap] w fun e w' => e = .returned (.bool true) ∧ Below w.heap.size w w' := by
  go_enter Try.func5, Try.ntmps5
  go_wp2_with (go_at_call 10; refine (awake_any _).mono ?_; rintro e w6 ⟨rfl, hN⟩; have hV := hidp hN; clear hN)
  go_ret
  exact ⟨rfl, hV.out⟩

set_option maxHeartbeats 2000000 in
theorem lawMeans_any (a : Option Addr) (len cap : Nat) (zs : List Int) (w : World) (h60 : len ≤ 60) (h : IsRow .u64 w a len cap zs) :
    Calls Try.prog 5 #[.slice a len cap] w fun e w' => e = .returned (.bool true) ∧ Below w.heap.size w w' := by
  have hle := h.le
  have hlen := pcs_len hle
  have h64 : ∀ k, (pcs zs len).getD k 0 < 18446744073709551616 := by
    intro k
    by_cases hk : k < len
    · rw [pcs_get hk hle]
      rcases h with ⟨rfl, rfl, rfl, rfl⟩ | ⟨x, _, _, _, h4, _, h6⟩
      · omega
      · have hkz : k < zs.length := by omega
        have q := h6 (zs.getD k 0) (by rw [List.getD_eq_getElem?_getD, List.getElem?_eq_getElem hkz]; exact List.getElem_mem hkz)
        have q : IntKind.u64.min ≤ zs.getD k 0 ∧ zs.getD k 0 ≤ IntKind.u64.max := by simpa [Lit.wf] using q
        have q2 : 0 ≤ zs.getD k 0 ∧ zs.getD k 0 ≤ 18446744073709551615 := q
        omega
    · rw [List.getD_eq_getElem?_getD, List.getElem?_eq_none (by omega)]; decide
  have HI := hidp h; have H64 := hidp h64; have HL := hidp hlen; clear h h64 hlen
  have hV := hidp (Below.refl w.heap.size w)
  generalize hxs : pcs zs len = xs at H64 HL
  have HX := hidp hxs; clear hxs
  go_enter Try.func5, Try.ntmps5
  go_wp2_with fail
  refine (paces_any _ _ _ _ _ h60 HI.out).mono ?_
  rintro e w1 ⟨v1, rfl, hv1, hN⟩
  rw [HX.out] at hv1
  have S1 := hidp hv1; clear hv1
  have hV := hidp (btrans (w := w) (by first | with_reducible exact hV.out | (repeat' (first | (with_reducible exact Below.refl _ _) | (with_reducible refine Below.alloc ?_ ?_ _) | (with_reducible refine Below.drew ?_) | (with_reducible refine Below.drewN ?_ _) | (with_reducible refine Below.setCell ?_ ?_ _) | (with_reducible refine Below.trans ?_ (Below.mono hV.out ?_)) | go_size | (have i0_ := hV.out.size; (try simp at i0_); (try simp); omega)))) hN)
  clear hN
  go_wp2_with fail
  refine (Mean_any _ _ _ (by rw [HL.out]; omega) S1.out).mono ?_
  rintro e w2 ⟨r1, rfl, hr1, hN⟩
  have R1 := hidp hr1; clear hr1
  have S2 := hidp (S1.out.below hN)
  have hV := hidp (btrans (w := w) (by first | with_reducible exact hV.out | (repeat' (first | (with_reducible exact Below.refl _ _) | (with_reducible refine Below.alloc ?_ ?_ _) | (with_reducible refine Below.drew ?_) | (with_reducible refine Below.drewN ?_ _) | (with_reducible refine Below.setCell ?_ ?_ _) | (with_reducible refine Below.trans ?_ (Below.mono hV.out ?_)) | go_size | (have i0_ := hV.out.size; (try simp at i0_); (try simp); omega)))) hN)
  clear hN
  go_wp2_with fail
  refine (paces_any _ _ _ _ _ h60 (HI.out.below hV.out)).mono ?_
  rintro e w3 ⟨v2, rfl, hv2, hN⟩
  rw [HX.out] at hv2
  have S3 := hidp hv2; clear hv2
  have S4 := hidp (S2.out.below hN)
  have hV := hidp (btrans (w := w) (by first | with_reducible exact hV.out | (repeat' (first | (with_reducible exact Below.refl _ _) | (with_reducible refine Below.alloc ?_ ?_ _) | (with_reducible refine Below.drew ?_) | (with_reducible refine Below.drewN ?_ _) | (with_reducible refine Below.setCell ?_ ?_ _) | (with_reducible refine Below.trans ?_ (Below.mono hV.out ?_)) | go_size | (have i0_ := hV.out.size; (try simp at i0_); (try simp); omega)))) hN)
  clear hN
  go_wp2_with fail
  refine (refMean_any _ _ _ (by rw [HL.out]; omega) S3.out).mono ?_
  rintro e w4 ⟨r2, rfl, hr2, hN⟩
  have R2 := hidp hr2; clear hr2
  have S5 := hidp (S4.out.below hN)
  have hV := hidp (btrans (w := w) (by first | with_reducible exact hV.out | (repeat' (first | (with_reducible exact Below.refl _ _) | (with_reducible refine Below.alloc ?_ ?_ _) | (with_reducible refine Below.drew ?_) | (with_reducible refine Below.drewN ?_ _) | (with_reducible refine Below.setCell ?_ ?_ _) | (with_reducible refine Below.trans ?_ (Below.mono hV.out ?_)) | go_size | (have i0_ := hV.out.size; (try simp at i0_); (try simp); omega)))) hN)
  clear hN
  go_wp2_with (go_at_call 20; refine (same_yes (mean_form R1.out R2.out) _).mono ?_; rintro e w5 ⟨rfl, rfl⟩)
  refine (Least_any _ _ _ (by rw [HL.out]; omega) S5.out).mono ?_
  rintro e w5 ⟨rfl, hN⟩
  have S6 := hidp (S5.out.below hN)
  have hV := hidp (btrans (w := w) (by first | with_reducible exact hV.out | (repeat' (first | (with_reducible exact Below.refl _ _) | (with_reducible refine Below.alloc ?_ ?_ _) | (with_reducible refine Below.drew ?_) | (with_reducible refine Below.drewN ?_ _) | (with_reducible refine Below.setCell ?_ ?_ _) | (with_reducible refine Below.trans ?_ (Below.mono hV.out ?_)) | go_size | (have i0_ := hV.out.size; (try simp at i0_); (try simp); omega)))) hN)
  clear hN
  go_wp2_with fail
  refine (paces_any _ _ _ _ _ h60 (HI.out.below hV.out)).mono ?_
  rintro e w6 ⟨v3, rfl, hv3, hN⟩
  rw [HX.out] at hv3
  have S7 := hidp hv3; clear hv3
  have S8 := hidp (S6.out.below hN)
  have hV := hidp (btrans (w := w) (by first | with_reducible exact hV.out | (repeat' (first | (with_reducible exact Below.refl _ _) | (with_reducible refine Below.alloc ?_ ?_ _) | (with_reducible refine Below.drew ?_) | (with_reducible refine Below.drewN ?_ _) | (with_reducible refine Below.setCell ?_ ?_ _) | (with_reducible refine Below.trans ?_ (Below.mono hV.out ?_)) | go_size | (have i0_ := hV.out.size; (try simp at i0_); (try simp); omega)))) hN)
  clear hN
  go_wp2_with fail
  refine (refLeast_any _ _ _ (by rw [HL.out]; omega) H64.out S7.out).mono ?_
  rintro e w7 ⟨rfl, hN⟩
  have S9 := hidp (S8.out.below hN)
  have hV := hidp (btrans (w := w) (by first | with_reducible exact hV.out | (repeat' (first | (with_reducible exact Below.refl _ _) | (with_reducible refine Below.alloc ?_ ?_ _) | (with_reducible refine Below.drew ?_) | (with_reducible refine Below.drewN ?_ _) | (with_reducible refine Below.setCell ?_ ?_ _) | (with_reducible refine Below.trans ?_ (Below.mono hV.out ?_)) | go_size | (have i0_ := hV.out.size; (try simp at i0_); (try simp); omega)))) hN)
  clear hN
  clear S1 S2 S3 S4 S5 S6 S7 S8 R1 R2
  go_wp2
  rcases S9.out with ⟨rfl, hx0⟩ | ⟨b, cap1, rfl, hb, hf⟩
  · have hl0 : len ≤ 0 := by rw [← HL.out, hx0]; exact Nat.le_refl _
    clear hx0
    refine wp_loop_rounds 1 ?_
    rw [rounds_succ]
    go_wp2_with (go_at_call 10; refine (awake_any _).mono ?_; rintro e w8 ⟨rfl, hN⟩; have hV := hidp (btrans (w := w) (by first | with_reducible exact hV.out | (repeat' (first | (with_reducible exact Below.refl _ _) | (with_reducible refine Below.alloc ?_ ?_ _) | (with_reducible refine Below.drew ?_) | (with_reducible refine Below.drewN ?_ _) | (with_reducible refine Below.setCell ?_ ?_ _) | (with_reducible refine Below.trans ?_ (Below.mono hV.out ?_)) | go_size | (have i0_ := hV.out.size; (try simp at i0_); (try simp); omega)))) hN); clear hN)
    go_ret
    exact ⟨rfl, hV.out⟩
  · have HF := hidp hf; clear hf S9
    rcases HI.out with ⟨rfl, hl0, _, _⟩ | ⟨x, rfl, _, _, _, hcell, _⟩
    · have hl0 : len ≤ 0 := by omega
      refine wp_loop_rounds 1 ?_
      rw [rounds_succ]
      go_wp2_with (go_at_call 10; refine (awake_any _).mono ?_; rintro e w8 ⟨rfl, hN⟩; have hV := hidp (btrans (w := w) (by first | with_reducible exact hV.out | (repeat' (first | (with_reducible exact Below.refl _ _) | (with_reducible refine Below.alloc ?_ ?_ _) | (with_reducible refine Below.drew ?_) | (with_reducible refine Below.drewN ?_ _) | (with_reducible refine Below.setCell ?_ ?_ _) | (with_reducible refine Below.trans ?_ (Below.mono hV.out ?_)) | go_size | (have i0_ := hV.out.size; (try simp at i0_); (try simp); omega)))) hN); clear hN)
      go_ret
      exact ⟨rfl, hV.out⟩
    · have HC := hidp hcell; clear hcell
      go_loopw [4, 5] (fun f i wr => ∃ k : Nat, k ≤ len ∧ i = .int .i64 k ∧ f = .bool true ∧ Below w7.heap.size w7 wr) (fun _ i _ => len - (intOf i).toNat)
      case atStart => exact ⟨0, by omega, rfl, rfl, Below.refl _ _⟩
      case round =>
        obtain ⟨k, hk, rfl, rfl, hB⟩ := hrel
        have HB := hidp hB; clear hB
        by_cases hlt : k < len
        · have hkz : k < zs.length := by omega
          have hc0 := HC.out k hkz
          have hc2 := ((hV.out.trans (HB.out.mono hV.out.size)).cell (cell_lt hc0)).trans hc0
          have hkx : k < xs.length := by rw [HL.out]; exact hlt
          have hc1 := (HF.out.below HB.out hb) k hkx
          rw [show xs.getD k 0 = (zs.getD k 0).toNat by rw [← HX.out]; exact pcs_get hlt hle] at hc1
          clear hc0
          have HK := hidp hkx; clear hkx
          have hk1 : k < xs.length := HK.out
          generalize zs.getD k 0 = z at hc1 hc2
          go_wp2
          go_quiet ((first | (go_at_call 11; exact Calls.quiet_of_same (of_q _ _))))
          go_wp2
          exact ⟨⟨k + 1, by omega, by go_num, rfl, HB.out.drewN _⟩, by simp [intOf]; omega⟩
        · go_wp2_with (go_at_call 10; refine (awake_any _).mono ?_; rintro e w8 ⟨rfl, hN⟩; have HN := hidp hN; clear hN)
          go_ret
          exact ⟨rfl, btrans (hV.out.trans (HB.out.mono hV.out.size)) HN.out⟩
theorem lawMeans_w (a : Option Addr) (len cap : Nat) (zs : List Int) (w : World) (h : IsRow .u64 w a len cap zs) :
    Calls Try.prog 5 #[.slice a len cap] w fun e w' => e = .returned (.bool true) ∧ Below w.heap.size w w' := by
  by_cases h60 : len ≤ 60
  · exact lawMeans_any a len cap zs w h60 h
  · exact lawMeans_long a len cap w (by omega)
end Go.Proofs.Ytajklipfdjaejaa
