/-
  Header: the walk of HeaderDecodes.
-/
import Derived.Test.YtdiklimikkplcaaL6q
import Derived.Test.YtdiklimikkplcaaL6k
import Derived.Test.YtdiklimikkplcaaIi
namespace Go.Proofs.Ytdiklimikkplcaa
set_option linter.unusedSimpArgs false
open Go.RowKit Go.Lib

theorem Lent.bs {B : Nat} {w : World} {g c : Nat} {L : List Nat} (h : Lent B w g c L) (hb : ∀ x ∈ L, x < 256) : Bs w (some ⟨g, 0, none⟩) g 0 L c :=
  ⟨hb, by have := h.1; omega, fun _ => ⟨rfl, by obtain ⟨_, _, _, h1, _⟩ := h; exact h1.lt⟩, fun i hi => by
    rw [Nat.zero_add, h.cell (by omega), List.getD_eq_getElem?_getD, List.getElem?_append_left hi, ← List.getD_eq_getElem?_getD]⟩
theorem Lent.lower {B : Nat} {w : World} {g c : Nat} {L : List Nat} (h : Lent B w g c L) : Lent 0 w g c L := ⟨h.1, Nat.zero_le _, h.2.2⟩
theorem Laid.below {w w2 : World} {b : Nat} {x : Hdr} {e a : Nat} (h : Laid w w2 b x e a) : Below w.heap.size w w2 := h.kp.1
theorem IsRow.nil0 {k : IntKind} {w : World} {a : Option Addr} {len cap : Nat} {zs : List Int} (h : IsRow k w a len cap zs) (ha : a = none) : cap = 0 := by
  rcases h with ⟨_, _, rfl, _⟩ | ⟨x, rfl, _⟩
  · rfl
  · cases ha
set_option maxRecDepth 100000 in
theorem hdc_long (p : Option Addr) (cap : Nat) (L : List Nat) (w : World) (hL : 300 < L.length) : Calls Try.prog 8 #[.slice p L.length cap] w fun e w' => e = .returned (.bool true) ∧ Below w.heap.size w w' := by
  go_enter Try.func8, Try.ntmps8
  go_wp2_with fail
  refine (hawake_any w).mono ?_
  rintro e w1 ⟨rfl, hb⟩
  have hB := hidp hb
  clear hb
  go_wp2
  go_ret
  exact ⟨rfl, hB.out⟩
set_option maxRecDepth 100000 in
set_option maxHeartbeats 8000000 in
theorem hdc_in (p : Option Addr) (cap : Nat) (L : List Nat) (w : World) (h : ByS w p cap L) (hL : L.length ≤ 300) (x : Hdr) (e0 a0 : Nat) (hx : HdrOk x) (hd : decH L = (x, e0, a0)) : Calls Try.prog 8 #[.slice p L.length cap] w fun e w' => e = .returned (.bool true) ∧ Below w.heap.size w w' := by
  have hz : ∀ w, (zeroValue 68).run Try.prog w = .ok (.agg (hC hdr0).toArray) w := (zero_of_info (P := Try.prog) zero_hdr).1
  have hl0 := hidp (hC_len hdr0_ok)
  have hl := hidp (hC_len hx)
  have heq := eqH x x hx hx
  rw [decide_eq_true rfl] at heq
  have heF := eqF e0 a0 e0 a0
  simp only [beq_self_eq_true, Bool.and_self] at heF
  have hgd := guard_hdr
  have hgF : Try.prog.eqGuardType Try.prog.depth 55 = false := by kernel_rfl
  have hby := h.byte
  have H1 := hidp (fun W g c (h : Lent 0 W g c L) => by have q := hdecode_any (some ⟨g, 0, none⟩) g 0 c L W (h.bs hby) (by omega); rw [hd] at q; exact q)
  have H2 := hidp (fun W (h : ByS W p cap L) => by have q := rDecode_any p cap L W h (by omega); rw [hd] at q; exact q)
  have HK := hidp (fun W g c (h : Lent 0 W g c L) (k : ByS W p cap L) => kept_any h k (by omega))
  have HS := hidp h
  have hV : Hid (Below w.heap.size w w) := hidp (Below.refl _ _)
  have hn1 := hidp (show L.length ≤ 1000 by omega)
  clear hx hd hby h
  go_enter Try.func8, Try.ntmps8
  go_wp2_with fail
  refine (lent_any HS.out hn1.out).mono ?_
  rintro e u1 ⟨⟨g, c, rfl, hlen⟩, hB⟩
  have hT := hidp (show Below w.heap.size w u1 from hB)
  replace hV := hidp (hV.out.trans (hT.out.mono hV.out.size))
  replace HS := hidp (HS.out.below hT.out)
  have LN := hidp (hlen.lower)
  clear hB hT hlen hn1
  go_wp2_with fail
  refine (H1.out _ g c LN.out).mono ?_
  rintro e u2 ⟨rfl, hB⟩
  have hT := hidp (show Below u1.heap.size u1 u2 from hB)
  replace hV := hidp (hV.out.trans (hT.out.mono hV.out.size))
  replace HS := hidp (HS.out.below hT.out)
  replace LN := hidp (LN.out.below hT.out)
  clear hB hT H1
  go_wp2_with (with_reducible refine (?_ : wpList _ _ _ _ _ _); refine wpList_store_blk rfl 68 _ _ rfl u2.heap.size (hC x) (hC hdr0) 68 rfl rfl ((Blk.new u2 (hC hdr0) _).alloc _) (by rw [hl.out]; kernel_rfl) (hl0.out.trans (hl.out).symm) (hC_one _) ?_; intro t1 ht1; have M1 := hidp (Laid.mk1 (Below.refl _ u2) ht1.out); have k0 := M1.out.2.2.cell 0; have k1 := M1.out.2.2.cell 1; have k2 := M1.out.2.2.free 0; have k3 := M1.out.2.2.free 1; simp only [List.getElem?_cons_zero, List.getElem?_cons_succ] at k0 k1)
  have N1 := hidp (Laid.mk2 (Nat.le_refl _) M1.out e0 a0)
  clear M1 ht1 k0 k1 k2 k3
  generalize hv1 : (World.setCell _ _ _) = v1 at N1 ⊢
  clear hv1
  replace hV := hidp (hV.out.trans (N1.out.kp.1.mono hV.out.size))
  replace HS := hidp (HS.out.below N1.out.kp.1)
  replace LN := hidp (LN.out.below N1.out.kp.1)
  have K1 := hidp N1.out.kp
  clear N1
  refine (H2.out _ HS.out).mono ?_
  rintro e u3 ⟨rfl, hB⟩
  have hT := hidp (show Below v1.heap.size v1 u3 from hB)
  replace hV := hidp (hV.out.trans (hT.out.mono hV.out.size))
  replace HS := hidp (HS.out.below hT.out)
  replace LN := hidp (LN.out.below hT.out)
  replace K1 := hidp (K1.out.step hT.out)
  clear hB hT H2
  have KS := hidp (fun (W : World) (hW : Below u3.heap.size u3 W) => (K1.out.step hW).at 0 rfl)
  go_wp2_with first
    | (with_reducible refine (?_ : wpList _ _ _ _ _ _); refine wpList_store_blk rfl 68 _ _ rfl u3.heap.size (hC x) (hC hdr0) 68 rfl rfl ((Blk.new u3 (hC hdr0) _).alloc _) (by rw [hl.out]; kernel_rfl) (hl0.out.trans (hl.out).symm) (hC_one _) ?_; intro t2 ht2; have M2 := hidp (Laid.mk1 (Below.refl _ u3) ht2.out); have k0 := M2.out.2.2.cell 0; have k1 := M2.out.2.2.cell 1; have k2 := M2.out.2.2.free 0; have k3 := M2.out.2.2.free 1; simp only [List.getElem?_cons_zero, List.getElem?_cons_succ] at k0 k1; have F1 := hidp ((K1.out.step M2.out.1).at 1 rfl); have y0 := F1.out.cell 0; have y1 := F1.out.cell 1; have hne := (K1.out.at 1 rfl).lt; simp only [List.getElem?_cons_zero, List.getElem?_cons_succ] at y0 y1)
    | (with_reducible refine (?_ : wpList _ _ _ _ _ _); refine wpList_load_blkG (by kernel_rfl) 68 _ rfl u2.heap.size (hC x) 68 rfl (KS.out _ (Laid.below (Laid.mk2 (Nat.le_refl _) M2.out e0 a0))) _ Try.underlying68 rfl (by rw [hl.out]; kernel_rfl) ?_)
    | (with_reducible refine (?_ : wpList _ _ _ _ _ _); refine wpList_load_blkG (by kernel_rfl) 68 _ rfl u3.heap.size (hC x) 68 rfl ((Laid.mk2 (Nat.le_refl _) M2.out e0 a0).kp.at 0 rfl) _ Try.underlying68 rfl (by rw [hl.out]; kernel_rfl) ?_)
  have N2 := hidp (Laid.mk2 (Nat.le_refl _) M2.out e0 a0)
  clear M2 ht2 k0 k1 k2 k3 y0 y1 hne F1
  generalize hv2 : (World.setCell _ _ _) = v2 at N2 ⊢
  clear hv2
  replace hV := hidp (hV.out.trans (N2.out.kp.1.mono hV.out.size))
  replace HS := hidp (HS.out.below N2.out.kp.1)
  replace LN := hidp (LN.out.below N2.out.kp.1)
  replace K1 := hidp (K1.out.step N2.out.kp.1)
  clear N2 K1 KS heq heF
  refine (HK.out _ g c LN.out HS.out).mono ?_
  rintro e u4 ⟨rfl, hB⟩
  have hT := hidp (show Below v2.heap.size v2 u4 from hB)
  replace hV := hidp (hV.out.trans (hT.out.mono hV.out.size))
  replace HS := hidp (HS.out.below hT.out)
  replace LN := hidp (LN.out.below hT.out)
  clear hB hT HK
  go_wp2_with fail
  refine (hawake_any _).mono ?_
  rintro e u5 ⟨rfl, hB⟩
  have hT := hidp (show Below u4.heap.size u4 u5 from hB)
  replace hV := hidp (hV.out.trans (hT.out.mono hV.out.size))
  replace HS := hidp (HS.out.below hT.out)
  replace LN := hidp (LN.out.below hT.out)
  clear hB hT 
  go_wp2
  go_ret
  exact ⟨rfl, hV.out⟩
theorem hdc_any (p : Option Addr) (b oo cap : Nat) (L : List Nat) (w : World) (_ : Bs w p b oo L cap) (h : ByS w p cap L) : Calls Try.prog 8 #[.slice p L.length cap] w fun e w' => e = .returned (.bool true) ∧ Below w.heap.size w w' := by
  by_cases hL : 300 < L.length
  · exact hdc_long p cap L w hL
  · rcases hd : decH L with ⟨x, e, a⟩
    have hx : HdrOk x := by
      have hi := decH_in h.byte
      have hf := decH_form h.byte
      rw [hd] at hi hf
      by_cases h0 : e = 0
      · exact (hf h0).2.1.ok
      · rw [show x = hdr0 from hi.2 h0]; exact hdr0_ok
    exact hdc_in p cap L w h (by omega) x e a hx hd
end Go.Proofs.Ytdiklimikkplcaa
