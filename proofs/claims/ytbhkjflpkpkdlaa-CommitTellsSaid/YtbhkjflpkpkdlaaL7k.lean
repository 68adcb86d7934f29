/-
  Commit: what adds and joins of the laws tell.
-/
import Derived.Test.YtbhkjflpkpkdlaaL7j
namespace Go.Proofs.Ytbhkjflpkpkdlaa
open Go.RowKit Go.Lib
set_option linter.unusedSimpArgs false

def sameR (r : CR) (h : Int) (p : List Nat) (l : List Vt) (err : Nat) : Bool := decide (r.e = err) && sameC r.h r.p r.l h p l
theorem OwnT.tsz {w : World} {base : Nat} {p : Option Addr} {n c : Nat} {l : List Vt} (h : OwnT w base (.slice p n c) l) (hok : ∀ u ∈ l, VtOk u) : ∃ b, base ≤ b ∧ Ts w p b 0 c l ∧ n = l.length ∧ (p = none → c = 0) := by
  obtain ⟨p', b, c', e, h1, h2, h3⟩ := h.ts hok
  cases e
  exact ⟨b, h1, h2, rfl, h3⟩
structure CRok (r : CR) : Prop where
  p : r.p.length = 32
  ok : ∀ u ∈ r.l, VtOk u
  len : r.l.length ≤ 1000
theorem crE_ok (e : Nat) : CRok (crE e) := ⟨rfl, by simp [crE], by simp [crE]⟩
theorem addO_ok {h : Int} {p : List Nat} {l : List Vt} {v : Vt} (hp : p.length = 32) (hl : ∀ u ∈ l, VtOk u) (hv : VtOk v) : CRok (addO h p l v) := by
  unfold addO
  by_cases hc : chkC h l = 0
  · rw [if_neg (by omega)]
    split
    · exact crE_ok _
    · split
      · exact crE_ok _
      · exact ⟨hp, fun u hu => by rcases insV_mem hu with rfl | hu; exact hv; exact hl u hu, by show (insV l v).length ≤ 1000; rw [insV_len]; have := (chkC_ok hc).2.1; omega⟩
  · rw [if_pos hc]; exact crE_ok _
theorem uniV_ok : ∀ (x a r : List Vt), uniV a x = some r → (∀ u ∈ a, VtOk u) → (∀ u ∈ x, VtOk u) → (∀ u ∈ r, VtOk u) ∧ r.length ≤ a.length + x.length
  | [], a, r, h, ha, _ => by cases h; exact ⟨ha, by simp⟩
  | v :: x, a, r, h, ha, hx => by
    simp only [uniV] at h
    unfold stepU at h
    cases ho : ofT a v.a with
    | none =>
      rw [ho] at h
      simp only [Option.bind_some] at h
      obtain ⟨h1, h2⟩ := uniV_ok x _ r h (fun u hu => by rcases insV_mem hu with rfl | hu; exact hx _ (by simp); exact ha u hu) (fun u hu => hx u (by simp [hu]))
      exact ⟨h1, by rw [insV_len] at h2; simp; omega⟩
    | some u =>
      rw [ho] at h
      simp only at h
      split at h
      · simp only [Option.bind_some] at h
        obtain ⟨h1, h2⟩ := uniV_ok x _ r h ha (fun u hu => hx u (by simp [hu]))
        exact ⟨h1, by simp; omega⟩
      · cases h
theorem joinO_ok {h1 : Int} {p1 : List Nat} {l1 : List Vt} {h2 : Int} {p2 : List Nat} {l2 : List Vt} (hp : p1.length = 32) (h1k : ∀ u ∈ l1, VtOk u) (h2k : ∀ u ∈ l2, VtOk u) : CRok (joinO h1 p1 l1 h2 p2 l2) := by
  unfold joinO
  by_cases c1 : chkC h1 l1 = 0
  · rw [if_neg (by omega)]
    by_cases c2 : chkC h2 l2 = 0
    · rw [if_neg (by omega)]
      split
      · exact crE_ok _
      · split
        · exact crE_ok _
        · have k1 := (chkC_ok c1).2.1
          have k2 := (chkC_ok c2).2.1
          unfold uniO
          cases hu : uniV [] (l1 ++ l2) with
          | none => exact ⟨hp, by simp, by simp⟩
          | some r =>
            obtain ⟨q1, q2⟩ := uniV_ok _ _ _ hu (by simp) (fun u hu => by rcases List.mem_append.1 hu with h | h; exact h1k u h; exact h2k u h)
            exact ⟨hp, q1, by simp at q2; show r.length ≤ 1000; omega⟩
    · rw [if_pos c2]; exact crE_ok _
  · rw [if_pos c1]; exact crE_ok _
set_option maxRecDepth 100000 in
set_option maxHeartbeats 4000000 in
theorem adds_any (h1 : Int) (p1 : List Nat) (hp1 : p1.length = 32) (a1 : Option Addr) (b1 o1 c1 : Nat) (l1 : List Vt) (at_ : Int) (sig : Nat) (h2 : Int) (p2 : List Nat) (hp2 : p2.length = 32) (a2 : Option Addr) (b2 o2 c2 : Nat) (l2 : List Vt) (err : Nat) (w : World)
    (hT1 : Ts w a1 b1 o1 c1 l1) (hz : a1 = none → c1 = 0) (hT2 : Ts w a2 b2 o2 c2 l2) (hv : VtOk ⟨at_, sig⟩) (hs : sig ≤ 1000) :
    Calls Try.prog 103 #[.agg (cC h1 p1 (.slice a1 l1.length c1)).toArray, .int .i64 at_, .int .i64 (sig : Nat), .agg (cC h2 p2 (.slice a2 l2.length c2)).toArray, .int .i64 (err : Nat)] w fun e w' => e = .returned (.bool (sameR (addO h1 p1 l1 ⟨at_, sig⟩) h2 p2 l2 err)) ∧ Below w.heap.size w w' := by
  have HB := hidp (((Below.refl w.heap.size w).alloc (Nat.le_refl _) (.cells (cC h1 p1 (.slice a1 l1.length c1)).toArray 63)).alloc (by simp) (.cells (cC h2 p2 (.slice a2 l2.length c2)).toArray 63))
  have K1 := hidp ((Blk.new w (cC h1 p1 (.slice a1 l1.length c1)) 63).alloc (.cells (cC h2 p2 (.slice a2 l2.length c2)).toArray 63))
  have K2 : Hid (Blk ((w.alloc (.cells (cC h1 p1 (.slice a1 l1.length c1)).toArray 63)).alloc (.cells (cC h2 p2 (.slice a2 l2.length c2)).toArray 63)) (w.heap.size + 1) (cC h2 p2 (.slice a2 l2.length c2)) 63) := hidp (Blk.new' _ _ _ _ (by simp))
  have HA := hidp (cadd_any h1 p1 hp1 a1 b1 o1 c1 l1 ⟨at_, sig⟩ _ (hT1.below HB.out) hz)
  have hl1 := hidp (cC_len (h := h1) (sl := .slice a1 l1.length c1) hp1)
  have hl2 := hidp (cC_len (h := h2) (sl := .slice a2 l2.length c2) hp2)
  have HRk := hidp (addO_ok (h := h1) (v := ⟨at_, sig⟩) hp1 hT1.ok hv)
  have HT2 := hidp hT2
  have hpp := hidp hp2
  have hcv : IntKind.u64.wrap (sig : Int) = (sig : Int) := by rw [IntKind.wrap_u64]; omega
  have hz0 : ∀ w, (zeroValue 63).run Try.prog w = .ok (.agg (cC 0 zh32 (.slice none 0 0)).toArray) w := (zero_of_info (P := Try.prog) zero_com).1
  have hl0 := hidp (cC_len (h := 0) (sl := .slice none 0 0) (p := zh32) rfl)
  unfold sameR
  generalize addO h1 p1 l1 ⟨at_, sig⟩ = r at *
  clear hT1 hz hT2 hp1 hp2 hs hv
  go_enter Try.func103, Try.ntmps103
  go_wp2_with (with_reducible refine (?_ : wpList _ _ _ _ _ _); refine wpList_load_blk rfl 63 _ rfl w.heap.size (cC h1 p1 (.slice a1 l1.length c1)) 63 rfl K1.out _ Try.underlying63 rfl (by rw [hl1.out]; kernel_rfl) ?_)
  refine HA.out.mono ?_
  rintro e w3 ⟨sv, rfl, ho, hb⟩
  obtain ⟨p5, c5, rfl, _⟩ := OwnT.slice ho
  obtain ⟨b5, _, hT5, _, _⟩ := ho.tsz HRk.out.ok
  have hl5 := hidp (cC_len (h := r.h) (sl := .slice p5 r.l.length c5) HRk.out.p)
  have ho5 := hidp (cC_one r.h r.p p5 r.l.length c5)
  have HB3 := hidp (HB.out.trans (hb.mono HB.out.size))
  have HT5 := hidp hT5
  have K23 := hidp (hb.blk' K2.out)
  have HZ := hidp (fun o : Nat => (Blk.new w3 (cC 0 zh32 (.slice none 0 0)) 63))
  clear HA ho hb K1 K2 HB hT5
  by_cases he : r.e = err
  case neg =>
    have hbn : (((r.e : Nat) : Int) == ((err : Nat) : Int)) = false := by rw [beq_eq_false_iff_ne]; omega
    have hd : decide (r.e = err) = false := decide_eq_false he
    clear he
    go_wp2_with (with_reducible refine (?_ : wpList _ _ _ _ _ _); refine wpList_store_blk rfl 63 _ _ rfl w3.heap.size (cC r.h r.p (.slice p5 r.l.length c5)) (cC 0 zh32 (.slice none 0 0)) 63 rfl rfl (HZ.out 0) (by rw [hl5.out]; kernel_rfl) (by rw [hl5.out, hl0.out]) ho5.out ?_; intro w4 hw4; have hN4 := hidp (new_row hw4.out rfl); have HB4 := hidp (HB3.out.trans (hN4.out.1.mono HB3.out.size)))
    go_ret
    exact ⟨by rw [hd]; rfl, HB4.out⟩
  have hbn : (((r.e : Nat) : Int) == ((err : Nat) : Int)) = true := by simp [he]
  have hd := hidp (decide_eq_true he)
  clear he
  have HS := hidp (fun W (h1 : Below w3.heap.size w3 W) => sameCommit_any r.h r.p HRk.out.p p5 b5 0 c5 r.l h2 p2 hpp.out a2 b2 o2 c2 l2 W (HT5.out.below h1) (HT2.out.below (HB3.out.trans (h1.mono HB3.out.size))) (by have := HRk.out.len; omega))
  go_wp2_with first
    | (with_reducible refine (?_ : wpList _ _ _ _ _ _); refine wpList_store_blk rfl 63 _ _ rfl w3.heap.size (cC r.h r.p (.slice p5 r.l.length c5)) (cC 0 zh32 (.slice none 0 0)) 63 rfl rfl (HZ.out 0) (by rw [hl5.out]; kernel_rfl) (by rw [hl5.out, hl0.out]) ho5.out ?_; intro w4 hw4; have hN4 := hidp (new_row hw4.out rfl); have HB4 := hidp (HB3.out.trans (hN4.out.1.mono HB3.out.size)); have K24 := hidp (hN4.out.1.blk' K23.out))
    | (with_reducible refine (?_ : wpList _ _ _ _ _ _); refine wpList_load_blkD' 26 rfl (by kernel_rfl) 63 _ rfl w3.heap.size (cC r.h r.p (.slice p5 r.l.length c5)) 63 rfl hN4.out.2 _ Try.underlying63 rfl (by rw [hl5.out]; kernel_rfl) ?_)
    | (with_reducible refine (?_ : wpList _ _ _ _ _ _); refine wpList_load_blkD' 27 rfl (by kernel_rfl) 63 _ rfl (w.heap.size + 1) (cC h2 p2 (.slice a2 l2.length c2)) 63 rfl K24.out _ Try.underlying63 rfl (by rw [hl2.out]; kernel_rfl) ?_)
  refine (HS.out w4 hN4.out.1).mono ?_
  rintro e w6 ⟨rfl, hb⟩
  have hB6 := hidp (HB4.out.trans (hb.mono HB4.out.size))
  clear hb
  go_wp2_with fail
  go_ret
  exact ⟨by rw [hd.out]; simp, hB6.out⟩
set_option maxRecDepth 100000 in
set_option maxHeartbeats 4000000 in
theorem joins_any (h1 : Int) (p1 : List Nat) (hp1 : p1.length = 32) (a1 : Option Addr) (b1 o1 c1 : Nat) (l1 : List Vt) (h3 : Int) (p3 : List Nat) (hp3 : p3.length = 32) (a3 : Option Addr) (b3 o3 c3 : Nat) (l3 : List Vt) (h2 : Int) (p2 : List Nat) (hp2 : p2.length = 32) (a2 : Option Addr) (b2 o2 c2 : Nat) (l2 : List Vt) (err : Nat) (w : World)
    (hT1 : Ts w a1 b1 o1 c1 l1) (hT3 : Ts w a3 b3 o3 c3 l3) (hT2 : Ts w a2 b2 o2 c2 l2) :
    Calls Try.prog 50 #[.agg (cC h1 p1 (.slice a1 l1.length c1)).toArray, .agg (cC h3 p3 (.slice a3 l3.length c3)).toArray, .agg (cC h2 p2 (.slice a2 l2.length c2)).toArray, .int .i64 (err : Nat)] w fun e w' => e = .returned (.bool (sameR (joinO h1 p1 l1 h3 p3 l3) h2 p2 l2 err)) ∧ Below w.heap.size w w' := by
  have HB := hidp ((((Below.refl w.heap.size w).alloc (Nat.le_refl _) (.cells (cC h1 p1 (.slice a1 l1.length c1)).toArray 63)).alloc (by simp) (.cells (cC h3 p3 (.slice a3 l3.length c3)).toArray 63)).alloc (by simp; omega) (.cells (cC h2 p2 (.slice a2 l2.length c2)).toArray 63))
  have K1 := hidp (((Blk.new w (cC h1 p1 (.slice a1 l1.length c1)) 63).alloc (.cells (cC h3 p3 (.slice a3 l3.length c3)).toArray 63)).alloc (.cells (cC h2 p2 (.slice a2 l2.length c2)).toArray 63))
  have K3 := hidp ((Blk.new' (w.alloc (.cells (cC h1 p1 (.slice a1 l1.length c1)).toArray 63)) (cC h3 p3 (.slice a3 l3.length c3)) 63 (w.heap.size + 1) (by simp)).alloc (.cells (cC h2 p2 (.slice a2 l2.length c2)).toArray 63))
  have K2 := hidp (Blk.new' ((w.alloc (.cells (cC h1 p1 (.slice a1 l1.length c1)).toArray 63)).alloc (.cells (cC h3 p3 (.slice a3 l3.length c3)).toArray 63)) (cC h2 p2 (.slice a2 l2.length c2)) 63 (w.heap.size + 2) (by simp))
  have HA := hidp (cjoin_any h1 p1 hp1 a1 b1 o1 c1 l1 h3 p3 hp3 a3 b3 o3 c3 l3 _ (hT1.below HB.out) (hT3.below HB.out))
  have hl1 := hidp (cC_len (h := h1) (sl := .slice a1 l1.length c1) hp1)
  have hl2 := hidp (cC_len (h := h2) (sl := .slice a2 l2.length c2) hp2)
  have hl3 := hidp (cC_len (h := h3) (sl := .slice a3 l3.length c3) hp3)
  have HRk := hidp (joinO_ok (h1 := h1) (h2 := h3) (p2 := p3) hp1 hT1.ok hT3.ok)
  have HT2 := hidp hT2
  have hpp := hidp hp2
  have hz0 : ∀ w, (zeroValue 63).run Try.prog w = .ok (.agg (cC 0 zh32 (.slice none 0 0)).toArray) w := (zero_of_info (P := Try.prog) zero_com).1
  have hl0 := hidp (cC_len (h := 0) (sl := .slice none 0 0) (p := zh32) rfl)
  unfold sameR
  generalize joinO h1 p1 l1 h3 p3 l3 = r at *
  clear hT1 hT3 hT2 hp1 hp2 hp3
  go_enter Try.func50, Try.ntmps50
  go_wp2_with first
    | (with_reducible refine (?_ : wpList _ _ _ _ _ _); refine wpList_load_blk rfl 63 _ rfl w.heap.size (cC h1 p1 (.slice a1 l1.length c1)) 63 rfl K1.out _ Try.underlying63 rfl (by rw [hl1.out]; kernel_rfl) ?_)
    | (with_reducible refine (?_ : wpList _ _ _ _ _ _); refine wpList_load_blk rfl 63 _ rfl (w.heap.size + 1) (cC h3 p3 (.slice a3 l3.length c3)) 63 rfl K3.out _ Try.underlying63 rfl (by rw [hl3.out]; kernel_rfl) ?_)
  refine HA.out.mono ?_
  rintro e w3 ⟨sv, rfl, ho, hb⟩
  obtain ⟨p5, c5, rfl, _⟩ := OwnT.slice ho
  obtain ⟨b5, _, hT5, _, _⟩ := ho.tsz HRk.out.ok
  have hl5 := hidp (cC_len (h := r.h) (sl := .slice p5 r.l.length c5) HRk.out.p)
  have ho5 := hidp (cC_one r.h r.p p5 r.l.length c5)
  have HB3 := hidp (HB.out.trans (hb.mono HB.out.size))
  have HT5 := hidp hT5
  have K23 := hidp (hb.blk' K2.out)
  have HZ := hidp (fun o : Nat => (Blk.new w3 (cC 0 zh32 (.slice none 0 0)) 63))
  clear HA ho hb K1 K2 K3 HB hT5
  by_cases he : r.e = err
  case neg =>
    have hbn : (((r.e : Nat) : Int) == ((err : Nat) : Int)) = false := by rw [beq_eq_false_iff_ne]; omega
    have hd : decide (r.e = err) = false := decide_eq_false he
    clear he
    go_wp2_with (with_reducible refine (?_ : wpList _ _ _ _ _ _); refine wpList_store_blk rfl 63 _ _ rfl w3.heap.size (cC r.h r.p (.slice p5 r.l.length c5)) (cC 0 zh32 (.slice none 0 0)) 63 rfl rfl (HZ.out 0) (by rw [hl5.out]; kernel_rfl) (by rw [hl5.out, hl0.out]) ho5.out ?_; intro w4 hw4; have hN4 := hidp (new_row hw4.out rfl); have HB4 := hidp (HB3.out.trans (hN4.out.1.mono HB3.out.size)))
    go_ret
    exact ⟨by rw [hd]; rfl, HB4.out⟩
  have hbn : (((r.e : Nat) : Int) == ((err : Nat) : Int)) = true := by simp [he]
  have hd := hidp (decide_eq_true he)
  clear he
  have HS := hidp (fun W (h1 : Below w3.heap.size w3 W) => sameCommit_any r.h r.p HRk.out.p p5 b5 0 c5 r.l h2 p2 hpp.out a2 b2 o2 c2 l2 W (HT5.out.below h1) (HT2.out.below (HB3.out.trans (h1.mono HB3.out.size))) (by have := HRk.out.len; omega))
  go_wp2_with first
    | (with_reducible refine (?_ : wpList _ _ _ _ _ _); refine wpList_store_blk rfl 63 _ _ rfl w3.heap.size (cC r.h r.p (.slice p5 r.l.length c5)) (cC 0 zh32 (.slice none 0 0)) 63 rfl rfl (HZ.out 0) (by rw [hl5.out]; kernel_rfl) (by rw [hl5.out, hl0.out]) ho5.out ?_; intro w4 hw4; have hN4 := hidp (new_row hw4.out rfl); have HB4 := hidp (HB3.out.trans (hN4.out.1.mono HB3.out.size)); have K24 := hidp (hN4.out.1.blk' K23.out))
    | (with_reducible refine (?_ : wpList _ _ _ _ _ _); refine wpList_load_blkD' 21 rfl (by kernel_rfl) 63 _ rfl w3.heap.size (cC r.h r.p (.slice p5 r.l.length c5)) 63 rfl hN4.out.2 _ Try.underlying63 rfl (by rw [hl5.out]; kernel_rfl) ?_)
    | (with_reducible refine (?_ : wpList _ _ _ _ _ _); refine wpList_load_blkD' 22 rfl (by kernel_rfl) 63 _ rfl (w.heap.size + 2) (cC h2 p2 (.slice a2 l2.length c2)) 63 rfl K24.out _ Try.underlying63 rfl (by rw [hl2.out]; kernel_rfl) ?_)
  refine (HS.out w4 hN4.out.1).mono ?_
  rintro e w6 ⟨rfl, hb⟩
  have hB6 := hidp (HB4.out.trans (hb.mono HB4.out.size))
  clear hb
  go_wp2_with fail
  go_ret
  exact ⟨by rw [hd.out]; simp, hB6.out⟩
end Go.Proofs.Ytbhkjflpkpkdlaa
