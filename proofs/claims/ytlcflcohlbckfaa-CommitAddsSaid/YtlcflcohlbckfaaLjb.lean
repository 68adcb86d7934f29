/-
  Commit: the walk of CommitAdds.
-/
import Derived.Test.YtlcflcohlbckfaaLja
import Derived.Test.YtlcflcohlbckfaaL7x
import Derived.Deep.CutRange
namespace Go.Proofs.Ytlcflcohlbckfaa
open Go.RowKit Go.Lib
set_option linter.unusedSimpArgs false
set_option linter.unusedVariables false

/-- What CommitAdds is handed, in its boxes. -/
structure AdB (w W : World) (X Y : List Value) (v : Vt) : Prop where
  k1 : Blk W w.heap.size X 63
  k2 : Blk W (w.heap.size + 1) Y 63
  kv : Blk W (w.heap.size + 2) (tL v) 85
  bel : Below w.heap.size w W
theorem AdB.kv' {w W : World} {X Y : List Value} {v : Vt} (H : AdB w W X Y v) : Blk W (w.heap.size + 1 + 1) [.int .i64 v.a, .int .u64 (v.s : Nat)] 85 := H.kv
theorem AdB.below {w W W' : World} {X Y : List Value} {v : Vt} (H : AdB w W X Y v) (hb : Below W.heap.size W W') : AdB w W' X Y v := ⟨hb.blk' H.k1, hb.blk' H.k2, hb.blk' H.kv, H.bel.trans (hb.mono H.bel.size)⟩
theorem AdB.start (w : World) (X Y : List Value) (v : Vt) : AdB w (((w.alloc (.cells X.toArray 63)).alloc (.cells Y.toArray 63)).alloc (.cells #[.int .i64 v.a, .int .u64 (v.s : Nat)] 85)) X Y v :=
  ⟨((Blk.new w _ _).alloc _).alloc _, (Blk.new' _ Y _ _ (by simp)).alloc _, Blk.new' _ (tL v) _ _ (by simp), (((Below.refl _ w).alloc (Nat.le_refl _) _).alloc (by simp) _).alloc (by simp; omega) _⟩
/-- Two copies made, in boxes of their own. -/
structure AdR (w W : World) (X Y : List Value) (v : Vt) (h1 : Int) (p1 : List Nat) (l1 : List Vt) (h2 : Int) (p2 : List Nat) (l2 : List Vt) (x7 x8 : Value) : Prop where
  ex : ∃ (i7 i8 : Nat) (pa : Option Addr) (na ca : Nat) (pb : Option Addr) (nb cb : Nat), x7 = .pointer (some ⟨i7, 0, none⟩) ∧ x8 = .pointer (some ⟨i8, 0, none⟩) ∧ AdB w W X Y v ∧ Blk W i7 (cC h1 p1 (.slice pa na ca)) 63 ∧ Blk W i8 (cC h2 p2 (.slice pb nb cb)) 63 ∧ OwnT W (w.heap.size + 3) (.slice pa na ca) l1 ∧ OwnT W (w.heap.size + 3) (.slice pb nb cb) l2
theorem AdB.but {w W W' : World} {X Y : List Value} {v : Vt} (H : AdB w W X Y v) {i : Nat} (hb : But i W W') (hi : w.heap.size + 3 ≤ i) : AdB w W' X Y v := ⟨hb.blk H.k1 (by omega), hb.blk H.k2 (by omega), hb.blk H.kv (by omega), H.bel.trans (hb.below (by omega))⟩
theorem row_but {W : World} {i : Nat} {T : TypeId} {cs : List Value} (h : Blk W i cs T) (ds : List Value) : But i W (W.setRow i ds.toArray) ∧ Blk (W.setRow i ds.toArray) i ds T := ⟨(But.refl i W).setRow _, h.row⟩
theorem lo_at {w W : World} {X Y : List Value} {v : Vt} (H : AdB w W X Y v) : w.heap.size + 3 ≤ W.heap.size := H.kv.lt
theorem own_ne {W : World} {base : Nat} {sv : Value} {l : List Vt} (h : OwnT W base sv l) : ∀ k, sv.ownBlock = some k → k ≠ W.heap.size := fun k hk => by have := (h.lt hk).2; omega
theorem blk_at {w W : World} {X Y : List Value} {v : Vt} (_ : AdB w W X Y v) : Blk (W.alloc (.cells (cC 0 zh32 (.slice none 0 0)).toArray 63)) W.heap.size (cC 0 zh32 (.slice none 0 0)) 63 := Blk.new _ _ _
theorem blk_next {w W : World} {X Y : List Value} {v : Vt} (_ : AdB w (W.alloc (.cells (cC 0 zh32 (.slice none 0 0)).toArray 63)) X Y v) : Blk ((W.alloc (.cells (cC 0 zh32 (.slice none 0 0)).toArray 63)).alloc (.cells (cC 0 zh32 (.slice none 0 0)).toArray 63)) (W.heap.size + 1) (cC 0 zh32 (.slice none 0 0)) 63 := Blk.new' _ _ _ _ (by simp)
theorem lo_next {w W : World} {X Y : List Value} {v : Vt} (H : AdB w (W.alloc (.cells (cC 0 zh32 (.slice none 0 0)).toArray 63)) X Y v) : w.heap.size + 3 ≤ W.heap.size + 1 := by have q := H.kv.lt; simp at q; omega
theorem own_next {W : World} {base : Nat} {sv : Value} {l : List Vt} (h : OwnT (W.alloc (.cells (cC 0 zh32 (.slice none 0 0)).toArray 63)) base sv l) : ∀ k, sv.ownBlock = some k → k ≠ W.heap.size + 1 := fun k hk => by have q := (h.lt hk).2; simp at q; omega
theorem n_ne {w W : World} {X Y : List Value} {v : Vt} (_ : AdB w (W.alloc (.cells (cC 0 zh32 (.slice none 0 0)).toArray 63)) X Y v) : W.heap.size ≠ W.heap.size + 1 ∧ W.heap.size + 1 ≠ W.heap.size := by omega
theorem ne_own {W W' : World} {i base : Nat} {T : TypeId} {cs : List Value} {sv : Value} {l : List Vt} (hk : Blk W i cs T) (h : OwnT W' W.heap.size sv l) : ∀ k, sv.ownBlock = some k → k ≠ i := fun k hk' => by have := (h.lt hk').1; have := hk.lt; omega
theorem same_own {W : World} {r : CR} (hr : CRok r) {B1 B2 : Nat} {p1 p2 : Option Addr} {n1 n2 c1 c2 : Nat} (o1 : OwnT W B1 (.slice p1 n1 c1) r.l) (o2 : OwnT W B2 (.slice p2 n2 c2) r.l) :
    Calls Try.prog 48 #[.agg (cC r.h r.p (.slice p1 n1 c1)).toArray, .agg (cC r.h r.p (.slice p2 n2 c2)).toArray] W fun e w' => e = .returned (.bool true) ∧ Below W.heap.size W w' := by
  obtain ⟨b1, _, t1, e1, _⟩ := o1.tsz hr.ok
  obtain ⟨b2, _, t2, e2, _⟩ := o2.tsz hr.ok
  subst e1
  subst e2
  have q := sameCommit_any r.h r.p hr.p p1 b1 0 c1 r.l r.h r.p hr.p p2 b2 0 c2 r.l W t1 t2 (by have := hr.len; omega)
  rw [sameC_self] at q
  exact q
theorem over_kept {W W' : World} {sv : Value} {B : Nat} (h : (∃ g, sv.ownBlock = some g ∧ B ≤ g ∧ g < W.heap.size ∧ Bex g W W') ∨ Below W.heap.size W W') : (∀ C, C ≤ B → C ≤ W.heap.size → Below C W W') ∧ (∀ {i : Nat} {cs : List Value} {T : TypeId}, Blk W i cs T → (∀ k, sv.ownBlock = some k → k ≠ i) → Blk W' i cs T) ∧ (∀ {C : Nat} {s2 : Value} {l : List Vt}, OwnT W C s2 l → (∀ k k', sv.ownBlock = some k → s2.ownBlock = some k' → k' ≠ k) → OwnT W' C s2 l) := by
  rcases h with ⟨g, hg, h1, h2, hb⟩ | hb
  · exact ⟨fun C hC hW => hb.below (by omega) hW, fun hk hn => hb.blk hk (Ne.symm (hn g hg)), fun ho hn => ho.bexJ hb (fun k' hk' => hn g k' hg hk')⟩
  · exact ⟨fun C _ hW => hb.mono hW, fun hk _ => hb.blk' hk, fun ho _ => ho.below hb⟩
set_option maxRecDepth 100000 in
set_option maxHeartbeats 16000000 in
theorem cadds_long1 (h1 : Int) (p1 : List Nat) (a1 : Option Addr) (b1 o1 c1 : Nat) (l1 : List Vt) (h2 : Int) (p2 : List Nat) (a2 : Option Addr) (b2 o2 c2 : Nat) (l2 : List Vt) (v : Vt) (w : World) (hp1 : Bytes 32 p1) (hT1 : Ts w a1 b1 o1 c1 l1) (hz1 : a1 = none → c1 = 0) (hp2 : Bytes 32 p2) (hT2 : Ts w a2 b2 o2 c2 l2) (hz2 : a2 = none → c2 = 0) (hv : VtOk v) (h70 : 70 < l1.length) : Calls Try.prog 8 #[.agg (cC h1 p1 (.slice a1 l1.length c1)).toArray, .agg (cC h2 p2 (.slice a2 l2.length c2)).toArray, .agg #[.int .i64 v.a, .int .u64 (v.s : Nat)]] w fun e w' => e = .returned (.bool true) ∧ Below w.heap.size w w' := by
  have hl1 := hidp (cC_len (h := h1) (sl := .slice a1 l1.length c1) hp1.1)
  have hl2 := hidp (cC_len (h := h2) (sl := .slice a2 l2.length c2) hp2.1)
  have hl0 := hidp (cC_len (h := 0) (sl := .slice none 0 0) (p := zh32) rfl)
  have hzz : ∀ w, (zeroValue 63).run Try.prog w = .ok (.agg (cC 0 zh32 (.slice none 0 0)).toArray) w := (zero_of_info (P := Try.prog) zero_com).1
  have HB := hidp (AdB.start w (cC h1 p1 (.slice a1 l1.length c1)) (cC h2 p2 (.slice a2 l2.length c2)) v)
  have HL1 := hidp (fun W => clong_any h1 p1 hp1.1 a1 l1.length c1 W)
  have HL2 := hidp (fun W => clong_any h2 p2 hp2.1 a2 l2.length c2 W)
  have t1 : decide ((70 : Int) < ((l1.length : Nat) : Int)) = true := by first | exact decide_eq_true (by omega) | exact decide_eq_false (by omega)
  clear hT1 hT2 h70 hz1 hz2 hv
  go_enter Try.func8, Try.ntmps8
  go_wp2_with first
    | (with_reducible refine (?_ : wpList _ _ _ _ _ _); refine wpList_load_blkG (by kernel_rfl) 63 _ rfl (w.heap.size) (cC h1 p1 (.slice a1 l1.length c1)) 63 rfl HB.out.k1 _ Try.underlying63 rfl (by rw [hl1.out]; kernel_rfl) ?_)
  refine (HL1.out _).mono ?_
  rintro e w1 ⟨rfl, hb⟩
  replace HB := hidp (HB.out.below hb)
  clear hb HL1
  rw [t1]
  go_wp2_with fail
  refine (cawake_any _).mono ?_
  rintro e w3 ⟨rfl, hb⟩
  replace HB := hidp (HB.out.below hb)
  clear hb
  go_wp2
  go_ret
  exact ⟨rfl, HB.out.bel⟩
set_option maxRecDepth 100000 in
set_option maxHeartbeats 16000000 in
theorem cadds_long2 (h1 : Int) (p1 : List Nat) (a1 : Option Addr) (b1 o1 c1 : Nat) (l1 : List Vt) (h2 : Int) (p2 : List Nat) (a2 : Option Addr) (b2 o2 c2 : Nat) (l2 : List Vt) (v : Vt) (w : World) (hp1 : Bytes 32 p1) (hT1 : Ts w a1 b1 o1 c1 l1) (hz1 : a1 = none → c1 = 0) (hp2 : Bytes 32 p2) (hT2 : Ts w a2 b2 o2 c2 l2) (hz2 : a2 = none → c2 = 0) (hv : VtOk v) (h70 : ¬ 70 < l1.length) (h71 : 70 < l2.length) : Calls Try.prog 8 #[.agg (cC h1 p1 (.slice a1 l1.length c1)).toArray, .agg (cC h2 p2 (.slice a2 l2.length c2)).toArray, .agg #[.int .i64 v.a, .int .u64 (v.s : Nat)]] w fun e w' => e = .returned (.bool true) ∧ Below w.heap.size w w' := by
  have hl1 := hidp (cC_len (h := h1) (sl := .slice a1 l1.length c1) hp1.1)
  have hl2 := hidp (cC_len (h := h2) (sl := .slice a2 l2.length c2) hp2.1)
  have hl0 := hidp (cC_len (h := 0) (sl := .slice none 0 0) (p := zh32) rfl)
  have hzz : ∀ w, (zeroValue 63).run Try.prog w = .ok (.agg (cC 0 zh32 (.slice none 0 0)).toArray) w := (zero_of_info (P := Try.prog) zero_com).1
  have HB := hidp (AdB.start w (cC h1 p1 (.slice a1 l1.length c1)) (cC h2 p2 (.slice a2 l2.length c2)) v)
  have HL1 := hidp (fun W => clong_any h1 p1 hp1.1 a1 l1.length c1 W)
  have HL2 := hidp (fun W => clong_any h2 p2 hp2.1 a2 l2.length c2 W)
  have t1 : decide ((70 : Int) < ((l1.length : Nat) : Int)) = false := by first | exact decide_eq_true (by omega) | exact decide_eq_false (by omega)
  have t2 : decide ((70 : Int) < ((l2.length : Nat) : Int)) = true := by first | exact decide_eq_true (by omega) | exact decide_eq_false (by omega)
  clear hT1 hT2 h70 h71 hz1 hz2 hv
  go_enter Try.func8, Try.ntmps8
  go_wp2_with first
    | (with_reducible refine (?_ : wpList _ _ _ _ _ _); refine wpList_load_blkG (by kernel_rfl) 63 _ rfl (w.heap.size) (cC h1 p1 (.slice a1 l1.length c1)) 63 rfl HB.out.k1 _ Try.underlying63 rfl (by rw [hl1.out]; kernel_rfl) ?_)
  refine (HL1.out _).mono ?_
  rintro e w1 ⟨rfl, hb⟩
  replace HB := hidp (HB.out.below hb)
  clear hb HL1
  rw [t1]
  go_wp2_with first
    | (with_reducible refine (?_ : wpList _ _ _ _ _ _); refine wpList_load_blkG (by kernel_rfl) 63 _ rfl (w.heap.size + 1) (cC h2 p2 (.slice a2 l2.length c2)) 63 rfl HB.out.k2 _ Try.underlying63 rfl (by rw [hl2.out]; kernel_rfl) ?_)
  refine (HL2.out _).mono ?_
  rintro e w2 ⟨rfl, hb⟩
  replace HB := hidp (HB.out.below hb)
  clear hb HL2
  rw [t2]
  go_wp2_with fail
  refine (cawake_any _).mono ?_
  rintro e w3 ⟨rfl, hb⟩
  replace HB := hidp (HB.out.below hb)
  clear hb
  go_wp2
  go_ret
  exact ⟨rfl, HB.out.bel⟩
set_option maxRecDepth 100000 in
set_option maxHeartbeats 16000000 in
theorem cadds_in (h1 : Int) (p1 : List Nat) (a1 : Option Addr) (b1 o1 c1 : Nat) (l1 : List Vt) (h2 : Int) (p2 : List Nat) (a2 : Option Addr) (b2 o2 c2 : Nat) (l2 : List Vt) (v : Vt) (w : World) (hp1 : Bytes 32 p1) (hT1 : Ts w a1 b1 o1 c1 l1) (hz1 : a1 = none → c1 = 0) (hp2 : Bytes 32 p2) (hT2 : Ts w a2 b2 o2 c2 l2) (hz2 : a2 = none → c2 = 0) (hv : VtOk v) (h70 : ¬ 70 < l1.length) (h71 : ¬ 70 < l2.length) : Calls Try.prog 8 #[.agg (cC h1 p1 (.slice a1 l1.length c1)).toArray, .agg (cC h2 p2 (.slice a2 l2.length c2)).toArray, .agg #[.int .i64 v.a, .int .u64 (v.s : Nat)]] w fun e w' => e = .returned (.bool true) ∧ Below w.heap.size w w' := by
  have hl1 := hidp (cC_len (h := h1) (sl := .slice a1 l1.length c1) hp1.1)
  have hl2 := hidp (cC_len (h := h2) (sl := .slice a2 l2.length c2) hp2.1)
  have hl0 := hidp (cC_len (h := 0) (sl := .slice none 0 0) (p := zh32) rfl)
  have hzz : ∀ w, (zeroValue 63).run Try.prog w = .ok (.agg (cC 0 zh32 (.slice none 0 0)).toArray) w := (zero_of_info (P := Try.prog) zero_com).1
  have HB := hidp (AdB.start w (cC h1 p1 (.slice a1 l1.length c1)) (cC h2 p2 (.slice a2 l2.length c2)) v)
  have HL1 := hidp (fun W => clong_any h1 p1 hp1.1 a1 l1.length c1 W)
  have HL2 := hidp (fun W => clong_any h2 p2 hp2.1 a2 l2.length c2 W)
  have t1 : decide ((70 : Int) < ((l1.length : Nat) : Int)) = false := by first | exact decide_eq_true (by omega) | exact decide_eq_false (by omega)
  have t2 : decide ((70 : Int) < ((l2.length : Nat) : Int)) = false := by first | exact decide_eq_true (by omega) | exact decide_eq_false (by omega)
  have HT1 := hidp hT1
  have HT2 := hidp hT2
  have hpp := hidp (And.intro hp1.1 hp2.1)
  have hnn := hidp (And.intro h70 h71)
  have HCp1 := hidp (fun W (hW : Below w.heap.size w W) => ccopy_any h1 p1 hp1.1 a1 b1 o1 c1 l1 W (hT1.below hW) (by omega))
  have HCp2 := hidp (fun W (hW : Below w.heap.size w W) => ccopy_any h2 p2 hp2.1 a2 b2 o2 c2 l2 W (hT2.below hW) (by omega))
  have HRA := hidp (fun W (hW : Below w.heap.size w W) => radd_any h1 p1 hp1.1 a1 b1 o1 c1 l1 v W (hT1.below hW) (by omega))
  have HRJ := hidp (fun W (hW : Below w.heap.size w W) => rjoin_any h1 p1 hp1.1 a1 b1 o1 c1 l1 h2 p2 hp2.1 a2 b2 o2 c2 l2 W (hT1.below hW) (hT2.below hW) (by omega) (by omega))
  have HAd := hidp (fun W base pa na ca (ho : OwnT W base (.slice pa na ca) l1) => (by obtain ⟨b, _, ht, hn, hz⟩ := ho.tsz hT1.ok; subst hn; exact cadd_any h1 p1 hp1.1 pa b 0 ca l1 v W ht hz : Calls Try.prog 53 #[.agg (cC h1 p1 (.slice pa na ca)).toArray, .agg #[.int .i64 v.a, .int .u64 (v.s : Nat)]] W (CRP W (addO h1 p1 l1 v))))
  have HJn := hidp (fun W base pa na ca pb nb cb (ho : OwnT W base (.slice pa na ca) l1) (ho2 : OwnT W base (.slice pb nb cb) l2) => (by obtain ⟨b, _, ht, hn, _⟩ := ho.tsz hT1.ok; obtain ⟨b', _, ht2, hm, _⟩ := ho2.tsz hT2.ok; subst hn; subst hm; exact cjoin_any h1 p1 hp1.1 pa b 0 ca l1 h2 p2 hp2.1 pb b' 0 cb l2 W ht ht2 : Calls Try.prog 55 #[.agg (cC h1 p1 (.slice pa na ca)).toArray, .agg (cC h2 p2 (.slice pb nb cb)).toArray] W (CRP W (joinO h1 p1 l1 h2 p2 l2))))
  have HS1 := hidp (fun W base pa na ca (ho : OwnT W base (.slice pa na ca) l1) (hW : Below w.heap.size w W) => (by obtain ⟨b, _, ht, hn, _⟩ := ho.tsz hT1.ok; subst hn; have q := sameCommit_any h1 p1 hp1.1 pa b 0 ca l1 h1 p1 hp1.1 a1 b1 o1 c1 l1 W ht (hT1.below hW) (by omega); rw [sameC_self] at q; exact q : Calls Try.prog 48 #[.agg (cC h1 p1 (.slice pa na ca)).toArray, .agg (cC h1 p1 (.slice a1 l1.length c1)).toArray] W fun e w' => e = .returned (.bool true) ∧ Below W.heap.size W w'))
  have HS2 := hidp (fun W base pa na ca (ho : OwnT W base (.slice pa na ca) l2) (hW : Below w.heap.size w W) => (by obtain ⟨b, _, ht, hn, _⟩ := ho.tsz hT2.ok; subst hn; have q := sameCommit_any h2 p2 hp2.1 pa b 0 ca l2 h2 p2 hp2.1 a2 b2 o2 c2 l2 W ht (hT2.below hW) (by omega); rw [sameC_self] at q; exact q : Calls Try.prog 48 #[.agg (cC h2 p2 (.slice pa na ca)).toArray, .agg (cC h2 p2 (.slice a2 l2.length c2)).toArray] W fun e w' => e = .returned (.bool true) ∧ Below W.heap.size W w'))
  have HRO := hidp (And.intro (addO_ok (h := h1) hp1.1 hT1.ok hv) (joinO_ok (h1 := h1) (h2 := h2) (p2 := p2) hp1.1 hT1.ok hT2.ok))
  generalize addO h1 p1 l1 v = rA at *
  generalize joinO h1 p1 l1 h2 p2 l2 = rJ at *
  clear hT1 hT2 hz1 hz2 hp1 hp2 h70 h71 hv
  go_enter Try.func8, Try.ntmps8
  go_wp2_with first
    | (with_reducible refine (?_ : wpList _ _ _ _ _ _); refine wpList_load_blkG (by kernel_rfl) 63 _ rfl (w.heap.size) (cC h1 p1 (.slice a1 l1.length c1)) 63 rfl HB.out.k1 _ Try.underlying63 rfl (by rw [hl1.out]; kernel_rfl) ?_)
  refine (HL1.out _).mono ?_
  rintro e w1 ⟨rfl, hb⟩
  replace HB := hidp (HB.out.below hb)
  clear hb HL1
  rw [t1]
  go_wp2_with first
    | (with_reducible refine (?_ : wpList _ _ _ _ _ _); refine wpList_load_blkG (by kernel_rfl) 63 _ rfl (w.heap.size + 1) (cC h2 p2 (.slice a2 l2.length c2)) 63 rfl HB.out.k2 _ Try.underlying63 rfl (by rw [hl2.out]; kernel_rfl) ?_)
  refine (HL2.out _).mono ?_
  rintro e w2 ⟨rfl, hb⟩
  replace HB := hidp (HB.out.below hb)
  clear hb HL2
  rw [t2]
  go_upto_region 3 with fail
  go_cut [7, 8] from 25 to 29 (fun x7 x8 wx => AdR w wx (cC h1 p1 (.slice a1 l1.length c1)) (cC h2 p2 (.slice a2 l2.length c2)) v h1 p1 l1 h2 p2 l2 x7 x8)
  case first =>
    have hT := hidp (HB.out.below (Below.refl _ _).drew)
    refine wp_region_held_drew (S := fun W => AdB w W (cC h1 p1 (.slice a1 l1.length c1)) (cC h2 p2 (.slice a2 l2.length c2)) v) (by kernel_rfl) hT.out (fun hHeld => ?_)
    try simp only [Act.put, List.setIfInBounds_toArray, List.set_cons_zero, List.set_cons_succ]
    refine wpAnyH_takeTo2 (i := 0) (oi := _) (v := .agg (cC h1 p1 (.slice a1 l1.length c1)).toArray) (some 25) rfl rfl (by kernel_rfl) (by kernel_rfl) (by kernel_rfl) (fun _ _ _ h => h) (yieldsIf_load_mid (by rfl) 63 _ rfl (w.heap.size) 0 rfl (cC h1 p1 (.slice a1 l1.length c1)) _ (fun w' hw' j v hj => by rw [Nat.zero_add]; exact ((hw'.k1).cell j).trans hj) Try.underlying63 rfl (by rw [hl1.out]; kernel_rfl)) hHeld ?_
    try simp only [Act.put, List.setIfInBounds_toArray, List.set_cons_zero, List.set_cons_succ]
    refine wpAnyH_takeTo2 (i := 2) (oi := _) (v := .agg (cC h2 p2 (.slice a2 l2.length c2)).toArray) (some 27) rfl rfl (by kernel_rfl) (by kernel_rfl) (by kernel_rfl) (fun _ _ _ h => h) (yieldsIf_load_mid (by rfl) 63 _ rfl (w.heap.size + 1) 0 rfl (cC h2 p2 (.slice a2 l2.length c2)) _ (fun w' hw' j v hj => by rw [Nat.zero_add]; exact ((hw'.k2).cell j).trans hj) Try.underlying63 rfl (by rw [hl2.out]; kernel_rfl)) hHeld ?_
    try simp only [Act.put, List.setIfInBounds_toArray, List.set_cons_zero, List.set_cons_succ]
    refine wpAnyH_ready (rs := [1,4,5]) (by kernel_rfl) (by simp) ?_
    refine AllReadyH.cons (o := _) rfl (fun K hK => ?_) (AllReadyH.cons (o := _) rfl (fun K hK => ?_) (AllReadyH.cons (o := _) rfl (fun K hK => ?_) AllReadyH.nil))
    · skip
      go_simp
      refine (HCp1.out _ hT.out.bel).mono ?_
      rintro e wc1 ⟨⟨sa, rfl, ho⟩, hb⟩
      obtain ⟨pa, na, ca, hsv⟩ := ho.sl
      subst hsv
      have Onew := hidp (show OwnT _ (w.heap.size + 3) (.slice pa na ca) _ from ho.base hT.out.kv.lt)
      replace hT := hidp (hT.out.below hb)
      have OA := Onew
      clear ho hb Onew
      go_wp2_with fail
      refine hK.out _ _ (hT.out) (fun hHeld' => ?_)
      clear hK K hHeld
      have hHeld := hHeld'
      clear hHeld'
      try simp only [Act.put, List.setIfInBounds_toArray, List.set_cons_zero, List.set_cons_succ]
      refine wpAnyH_ready (rs := [3,4,5]) (by kernel_rfl) (by simp) ?_
      refine AllReadyH.cons (o := _) rfl (fun K hK => ?_) (AllReadyH.cons (o := _) rfl (fun K hK => ?_) (AllReadyH.cons (o := _) rfl (fun K hK => ?_) AllReadyH.nil))
      · skip
        go_simp
        refine (HCp2.out _ hT.out.bel).mono ?_
        rintro e wc3 ⟨⟨sb, rfl, ho⟩, hb⟩
        obtain ⟨pb, nb, cb, hsv⟩ := ho.sl
        subst hsv
        have Onew := hidp (show OwnT _ (w.heap.size + 3) (.slice pb nb cb) _ from ho.base hT.out.kv.lt)
        replace hT := hidp (hT.out.below hb)
        replace OA := hidp (OA.out.below hb)
        have OB := Onew
        clear ho hb Onew
        go_wp2_with fail
        refine hK.out _ _ (hT.out) (fun hHeld' => ?_)
        clear hK K hHeld
        have hHeld := hHeld'
        clear hHeld'
        try simp only [Act.put, List.setIfInBounds_toArray, List.set_cons_zero, List.set_cons_succ]
        refine wpAnyH_ready (rs := [4,5]) (by kernel_rfl) (by simp) ?_
        refine AllReadyH.cons (o := _) rfl (fun K hK => ?_) (AllReadyH.cons (o := _) rfl (fun K hK => ?_) AllReadyH.nil)
        · skip
          go_simp
          have hal := hidp (fun W : World => (Below.refl W.heap.size W).alloc (Nat.le_refl _) (.cells (cC 0 zh32 (.slice none 0 0)).toArray 63))
          have K7 := hidp (blk_at hT.out)
          have L7 := hidp (lo_at hT.out)
          have NA7 := hidp (own_ne OA.out)
          have NB7 := hidp (own_ne OB.out)
          replace hT := hidp (hT.out.below (hal.out _))
          replace OA := hidp (OA.out.below (hal.out _))
          replace OB := hidp (OB.out.below (hal.out _))
          clear hal
          refine hK.out _ _ (hT.out) (fun hHeld' => ?_)
          clear hK K hHeld
          have hHeld := hHeld'
          clear hHeld'
          try simp only [Act.put, List.setIfInBounds_toArray, List.set_cons_zero, List.set_cons_succ]
          refine wpAnyH_ready (rs := [5]) (by kernel_rfl) (by simp) ?_
          refine AllReadyH.cons (o := _) rfl (fun K hK => ?_) AllReadyH.nil
          · skip
            go_simp
            have hal := hidp (fun W : World => (Below.refl W.heap.size W).alloc (Nat.le_refl _) (.cells (cC 0 zh32 (.slice none 0 0)).toArray 63))
            have K8 := hidp (blk_next hT.out)
            have L8 := hidp (lo_next hT.out)
            have D8 := hidp (n_ne hT.out).2
            have D7 := hidp (n_ne hT.out).1
            have NA8 := hidp (own_next OA.out)
            have NB8 := hidp (own_next OB.out)
            replace hT := hidp (hT.out.below (hal.out _))
            replace OA := hidp (OA.out.below (hal.out _))
            replace OB := hidp (OB.out.below (hal.out _))
            replace K7 := hidp (((hal.out _)).blk' K7.out)
            clear hal
            refine hK.out _ _ (hT.out) (fun hHeld' => ?_)
            clear hK K hHeld
            have hHeld := hHeld'
            clear hHeld'
            try simp only [Act.put, List.setIfInBounds_toArray, List.set_cons_zero, List.set_cons_succ]
            have hlA := hidp (cC_len (h := h1) (sl := .slice pa na ca) hpp.out.1)
            have hoA := hidp (cC_one h1 p1 pa na ca)
            have hlB := hidp (cC_len (h := h2) (sl := .slice pb nb cb) hpp.out.2)
            have hoB := hidp (cC_one h2 p2 pb nb cb)
            refine wpAnyH_ready (rs := [6]) (by kernel_rfl) (by simp) ?_
            refine AllReadyH.cons (o := _) rfl (fun K hK => ?_) AllReadyH.nil
            refine if_intro (by rfl) ?_
            refine wp_store_row 63 _ _ rfl _ (cC h1 p1 (.slice pa na ca)).toArray rfl rfl 63 (cC 0 zh32 (.slice none 0 0)).toArray K7.out (by rw [List.size_toArray, hlA.out]; kernel_rfl) (by simp [hl0.out, hlA.out]) hoA.out ?_
            have hbt := hidp (row_but K7.out (cC h1 p1 (.slice pa na ca)))
            replace hT := hidp (hT.out.but hbt.out.1 L7.out)
            replace K7 := hidp hbt.out.2
            replace K8 := hidp (hbt.out.1.blk K8.out D8.out)
            replace OA := hidp (OA.out.bexJ (Bex.of_but hbt.out.1) NA7.out)
            replace OB := hidp (OB.out.bexJ (Bex.of_but hbt.out.1) NB7.out)
            clear hbt
            refine hK.out _ _ (hT.out) (fun hHeld' => ?_)
            clear hK K hHeld
            have hHeld := hHeld'
            clear hHeld'
            try simp only [Act.put, List.setIfInBounds_toArray, List.set_cons_zero, List.set_cons_succ]
            refine wpAnyH_ready (rs := [7]) (by kernel_rfl) (by simp) ?_
            refine AllReadyH.cons (o := _) rfl (fun K hK => ?_) AllReadyH.nil
            refine if_intro (by rfl) ?_
            refine wp_store_row 63 _ _ rfl _ (cC h2 p2 (.slice pb nb cb)).toArray rfl rfl 63 (cC 0 zh32 (.slice none 0 0)).toArray K8.out (by rw [List.size_toArray, hlB.out]; kernel_rfl) (by simp [hl0.out, hlB.out]) hoB.out ?_
            have hbt := hidp (row_but K8.out (cC h2 p2 (.slice pb nb cb)))
            replace hT := hidp (hT.out.but hbt.out.1 L8.out)
            replace K8 := hidp hbt.out.2
            replace K7 := hidp (hbt.out.1.blk K7.out D7.out)
            replace OA := hidp (OA.out.bexJ (Bex.of_but hbt.out.1) NA8.out)
            replace OB := hidp (OB.out.bexJ (Bex.of_but hbt.out.1) NB8.out)
            clear hbt
            refine hK.out _ _ (hT.out) (fun hHeld' => ?_)
            clear hK K hHeld
            have hHeld := hHeld'
            clear hHeld'
            try simp only [Act.put, List.setIfInBounds_toArray, List.set_cons_zero, List.set_cons_succ]
            refine wpAnyH_done (by kernel_rfl) ?_ _
            clear hHeld
            go_wp2_with fail
            go_meet
            case rel => exact ⟨⟨_, _, _, _, _, _, _, _, rfl, rfl, hT.out, K7.out, K8.out, OA.out, OB.out⟩⟩
        · skip
          go_simp
          have hal := hidp (fun W : World => (Below.refl W.heap.size W).alloc (Nat.le_refl _) (.cells (cC 0 zh32 (.slice none 0 0)).toArray 63))
          have K8 := hidp (blk_at hT.out)
          have L8 := hidp (lo_at hT.out)
          have NA8 := hidp (own_ne OA.out)
          have NB8 := hidp (own_ne OB.out)
          replace hT := hidp (hT.out.below (hal.out _))
          replace OA := hidp (OA.out.below (hal.out _))
          replace OB := hidp (OB.out.below (hal.out _))
          clear hal
          refine hK.out _ _ (hT.out) (fun hHeld' => ?_)
          clear hK K hHeld
          have hHeld := hHeld'
          clear hHeld'
          try simp only [Act.put, List.setIfInBounds_toArray, List.set_cons_zero, List.set_cons_succ]
          refine wpAnyH_ready (rs := [4]) (by kernel_rfl) (by simp) ?_
          refine AllReadyH.cons (o := _) rfl (fun K hK => ?_) AllReadyH.nil
          · skip
            go_simp
            have hal := hidp (fun W : World => (Below.refl W.heap.size W).alloc (Nat.le_refl _) (.cells (cC 0 zh32 (.slice none 0 0)).toArray 63))
            have K7 := hidp (blk_next hT.out)
            have L7 := hidp (lo_next hT.out)
            have D7 := hidp (n_ne hT.out).2
            have D8 := hidp (n_ne hT.out).1
            have NA7 := hidp (own_next OA.out)
            have NB7 := hidp (own_next OB.out)
            replace hT := hidp (hT.out.below (hal.out _))
            replace OA := hidp (OA.out.below (hal.out _))
            replace OB := hidp (OB.out.below (hal.out _))
            replace K8 := hidp (((hal.out _)).blk' K8.out)
            clear hal
            refine hK.out _ _ (hT.out) (fun hHeld' => ?_)
            clear hK K hHeld
            have hHeld := hHeld'
            clear hHeld'
            try simp only [Act.put, List.setIfInBounds_toArray, List.set_cons_zero, List.set_cons_succ]
            have hlA := hidp (cC_len (h := h1) (sl := .slice pa na ca) hpp.out.1)
            have hoA := hidp (cC_one h1 p1 pa na ca)
            have hlB := hidp (cC_len (h := h2) (sl := .slice pb nb cb) hpp.out.2)
            have hoB := hidp (cC_one h2 p2 pb nb cb)
            refine wpAnyH_ready (rs := [6]) (by kernel_rfl) (by simp) ?_
            refine AllReadyH.cons (o := _) rfl (fun K hK => ?_) AllReadyH.nil
            refine if_intro (by rfl) ?_
            refine wp_store_row 63 _ _ rfl _ (cC h1 p1 (.slice pa na ca)).toArray rfl rfl 63 (cC 0 zh32 (.slice none 0 0)).toArray K7.out (by rw [List.size_toArray, hlA.out]; kernel_rfl) (by simp [hl0.out, hlA.out]) hoA.out ?_
            have hbt := hidp (row_but K7.out (cC h1 p1 (.slice pa na ca)))
            replace hT := hidp (hT.out.but hbt.out.1 L7.out)
            replace K7 := hidp hbt.out.2
            replace K8 := hidp (hbt.out.1.blk K8.out D8.out)
            replace OA := hidp (OA.out.bexJ (Bex.of_but hbt.out.1) NA7.out)
            replace OB := hidp (OB.out.bexJ (Bex.of_but hbt.out.1) NB7.out)
            clear hbt
            refine hK.out _ _ (hT.out) (fun hHeld' => ?_)
            clear hK K hHeld
            have hHeld := hHeld'
            clear hHeld'
            try simp only [Act.put, List.setIfInBounds_toArray, List.set_cons_zero, List.set_cons_succ]
            refine wpAnyH_ready (rs := [7]) (by kernel_rfl) (by simp) ?_
            refine AllReadyH.cons (o := _) rfl (fun K hK => ?_) AllReadyH.nil
            refine if_intro (by rfl) ?_
            refine wp_store_row 63 _ _ rfl _ (cC h2 p2 (.slice pb nb cb)).toArray rfl rfl 63 (cC 0 zh32 (.slice none 0 0)).toArray K8.out (by rw [List.size_toArray, hlB.out]; kernel_rfl) (by simp [hl0.out, hlB.out]) hoB.out ?_
            have hbt := hidp (row_but K8.out (cC h2 p2 (.slice pb nb cb)))
            replace hT := hidp (hT.out.but hbt.out.1 L8.out)
            replace K8 := hidp hbt.out.2
            replace K7 := hidp (hbt.out.1.blk K7.out D7.out)
            replace OA := hidp (OA.out.bexJ (Bex.of_but hbt.out.1) NA8.out)
            replace OB := hidp (OB.out.bexJ (Bex.of_but hbt.out.1) NB8.out)
            clear hbt
            refine hK.out _ _ (hT.out) (fun hHeld' => ?_)
            clear hK K hHeld
            have hHeld := hHeld'
            clear hHeld'
            try simp only [Act.put, List.setIfInBounds_toArray, List.set_cons_zero, List.set_cons_succ]
            refine wpAnyH_done (by kernel_rfl) ?_ _
            clear hHeld
            go_wp2_with fail
            go_meet
            case rel => exact ⟨⟨_, _, _, _, _, _, _, _, rfl, rfl, hT.out, K7.out, K8.out, OA.out, OB.out⟩⟩
      · skip
        go_simp
        have hal := hidp (fun W : World => (Below.refl W.heap.size W).alloc (Nat.le_refl _) (.cells (cC 0 zh32 (.slice none 0 0)).toArray 63))
        have K7 := hidp (blk_at hT.out)
        have L7 := hidp (lo_at hT.out)
        have NA7 := hidp (own_ne OA.out)
        replace hT := hidp (hT.out.below (hal.out _))
        replace OA := hidp (OA.out.below (hal.out _))
        clear hal
        refine hK.out _ _ (hT.out) (fun hHeld' => ?_)
        clear hK K hHeld
        have hHeld := hHeld'
        clear hHeld'
        try simp only [Act.put, List.setIfInBounds_toArray, List.set_cons_zero, List.set_cons_succ]
        refine wpAnyH_ready (rs := [3,5]) (by kernel_rfl) (by simp) ?_
        refine AllReadyH.cons (o := _) rfl (fun K hK => ?_) (AllReadyH.cons (o := _) rfl (fun K hK => ?_) AllReadyH.nil)
        · skip
          go_simp
          refine (HCp2.out _ hT.out.bel).mono ?_
          rintro e wc3 ⟨⟨sb, rfl, ho⟩, hb⟩
          obtain ⟨pb, nb, cb, hsv⟩ := ho.sl
          subst hsv
          have NB7 := hidp (ne_own (base := 0) K7.out ho)
          have Onew := hidp (show OwnT _ (w.heap.size + 3) (.slice pb nb cb) _ from ho.base hT.out.kv.lt)
          replace hT := hidp (hT.out.below hb)
          replace OA := hidp (OA.out.below hb)
          replace K7 := hidp ((hb).blk' K7.out)
          have OB := Onew
          clear ho hb Onew
          go_wp2_with fail
          refine hK.out _ _ (hT.out) (fun hHeld' => ?_)
          clear hK K hHeld
          have hHeld := hHeld'
          clear hHeld'
          try simp only [Act.put, List.setIfInBounds_toArray, List.set_cons_zero, List.set_cons_succ]
          refine wpAnyH_ready (rs := [5]) (by kernel_rfl) (by simp) ?_
          refine AllReadyH.cons (o := _) rfl (fun K hK => ?_) AllReadyH.nil
          · skip
            go_simp
            have hal := hidp (fun W : World => (Below.refl W.heap.size W).alloc (Nat.le_refl _) (.cells (cC 0 zh32 (.slice none 0 0)).toArray 63))
            have K8 := hidp (blk_at hT.out)
            have L8 := hidp (lo_at hT.out)
            have D8 := hidp (Nat.ne_of_gt K7.out.lt)
            have D7 := hidp (Nat.ne_of_lt K7.out.lt)
            have NA8 := hidp (own_ne OA.out)
            have NB8 := hidp (own_ne OB.out)
            replace hT := hidp (hT.out.below (hal.out _))
            replace OA := hidp (OA.out.below (hal.out _))
            replace OB := hidp (OB.out.below (hal.out _))
            replace K7 := hidp (((hal.out _)).blk' K7.out)
            clear hal
            refine hK.out _ _ (hT.out) (fun hHeld' => ?_)
            clear hK K hHeld
            have hHeld := hHeld'
            clear hHeld'
            try simp only [Act.put, List.setIfInBounds_toArray, List.set_cons_zero, List.set_cons_succ]
            have hlA := hidp (cC_len (h := h1) (sl := .slice pa na ca) hpp.out.1)
            have hoA := hidp (cC_one h1 p1 pa na ca)
            have hlB := hidp (cC_len (h := h2) (sl := .slice pb nb cb) hpp.out.2)
            have hoB := hidp (cC_one h2 p2 pb nb cb)
            refine wpAnyH_ready (rs := [6]) (by kernel_rfl) (by simp) ?_
            refine AllReadyH.cons (o := _) rfl (fun K hK => ?_) AllReadyH.nil
            refine if_intro (by rfl) ?_
            refine wp_store_row 63 _ _ rfl _ (cC h1 p1 (.slice pa na ca)).toArray rfl rfl 63 (cC 0 zh32 (.slice none 0 0)).toArray K7.out (by rw [List.size_toArray, hlA.out]; kernel_rfl) (by simp [hl0.out, hlA.out]) hoA.out ?_
            have hbt := hidp (row_but K7.out (cC h1 p1 (.slice pa na ca)))
            replace hT := hidp (hT.out.but hbt.out.1 L7.out)
            replace K7 := hidp hbt.out.2
            replace K8 := hidp (hbt.out.1.blk K8.out D8.out)
            replace OA := hidp (OA.out.bexJ (Bex.of_but hbt.out.1) NA7.out)
            replace OB := hidp (OB.out.bexJ (Bex.of_but hbt.out.1) NB7.out)
            clear hbt
            refine hK.out _ _ (hT.out) (fun hHeld' => ?_)
            clear hK K hHeld
            have hHeld := hHeld'
            clear hHeld'
            try simp only [Act.put, List.setIfInBounds_toArray, List.set_cons_zero, List.set_cons_succ]
            refine wpAnyH_ready (rs := [7]) (by kernel_rfl) (by simp) ?_
            refine AllReadyH.cons (o := _) rfl (fun K hK => ?_) AllReadyH.nil
            refine if_intro (by rfl) ?_
            refine wp_store_row 63 _ _ rfl _ (cC h2 p2 (.slice pb nb cb)).toArray rfl rfl 63 (cC 0 zh32 (.slice none 0 0)).toArray K8.out (by rw [List.size_toArray, hlB.out]; kernel_rfl) (by simp [hl0.out, hlB.out]) hoB.out ?_
            have hbt := hidp (row_but K8.out (cC h2 p2 (.slice pb nb cb)))
            replace hT := hidp (hT.out.but hbt.out.1 L8.out)
            replace K8 := hidp hbt.out.2
            replace K7 := hidp (hbt.out.1.blk K7.out D7.out)
            replace OA := hidp (OA.out.bexJ (Bex.of_but hbt.out.1) NA8.out)
            replace OB := hidp (OB.out.bexJ (Bex.of_but hbt.out.1) NB8.out)
            clear hbt
            refine hK.out _ _ (hT.out) (fun hHeld' => ?_)
            clear hK K hHeld
            have hHeld := hHeld'
            clear hHeld'
            try simp only [Act.put, List.setIfInBounds_toArray, List.set_cons_zero, List.set_cons_succ]
            refine wpAnyH_done (by kernel_rfl) ?_ _
            clear hHeld
            go_wp2_with fail
            go_meet
            case rel => exact ⟨⟨_, _, _, _, _, _, _, _, rfl, rfl, hT.out, K7.out, K8.out, OA.out, OB.out⟩⟩
        · skip
          go_simp
          have hal := hidp (fun W : World => (Below.refl W.heap.size W).alloc (Nat.le_refl _) (.cells (cC 0 zh32 (.slice none 0 0)).toArray 63))
          have K8 := hidp (blk_next hT.out)
          have L8 := hidp (lo_next hT.out)
          have D8 := hidp (n_ne hT.out).2
          have D7 := hidp (n_ne hT.out).1
          have NA8 := hidp (own_next OA.out)
          replace hT := hidp (hT.out.below (hal.out _))
          replace OA := hidp (OA.out.below (hal.out _))
          replace K7 := hidp (((hal.out _)).blk' K7.out)
          clear hal
          refine hK.out _ _ (hT.out) (fun hHeld' => ?_)
          clear hK K hHeld
          have hHeld := hHeld'
          clear hHeld'
          try simp only [Act.put, List.setIfInBounds_toArray, List.set_cons_zero, List.set_cons_succ]
          refine wpAnyH_ready (rs := [3]) (by kernel_rfl) (by simp) ?_
          refine AllReadyH.cons (o := _) rfl (fun K hK => ?_) AllReadyH.nil
          · skip
            go_simp
            refine (HCp2.out _ hT.out.bel).mono ?_
            rintro e wc3 ⟨⟨sb, rfl, ho⟩, hb⟩
            obtain ⟨pb, nb, cb, hsv⟩ := ho.sl
            subst hsv
            have NB7 := hidp (ne_own (base := 0) K7.out ho)
            have NB8 := hidp (ne_own (base := 0) K8.out ho)
            have Onew := hidp (show OwnT _ (w.heap.size + 3) (.slice pb nb cb) _ from ho.base hT.out.kv.lt)
            replace hT := hidp (hT.out.below hb)
            replace OA := hidp (OA.out.below hb)
            replace K7 := hidp ((hb).blk' K7.out)
            replace K8 := hidp ((hb).blk' K8.out)
            have OB := Onew
            clear ho hb Onew
            go_wp2_with fail
            refine hK.out _ _ (hT.out) (fun hHeld' => ?_)
            clear hK K hHeld
            have hHeld := hHeld'
            clear hHeld'
            try simp only [Act.put, List.setIfInBounds_toArray, List.set_cons_zero, List.set_cons_succ]
            have hlA := hidp (cC_len (h := h1) (sl := .slice pa na ca) hpp.out.1)
            have hoA := hidp (cC_one h1 p1 pa na ca)
            have hlB := hidp (cC_len (h := h2) (sl := .slice pb nb cb) hpp.out.2)
            have hoB := hidp (cC_one h2 p2 pb nb cb)
            refine wpAnyH_ready (rs := [6]) (by kernel_rfl) (by simp) ?_
            refine AllReadyH.cons (o := _) rfl (fun K hK => ?_) AllReadyH.nil
            refine if_intro (by rfl) ?_
            refine wp_store_row 63 _ _ rfl _ (cC h1 p1 (.slice pa na ca)).toArray rfl rfl 63 (cC 0 zh32 (.slice none 0 0)).toArray K7.out (by rw [List.size_toArray, hlA.out]; kernel_rfl) (by simp [hl0.out, hlA.out]) hoA.out ?_
            have hbt := hidp (row_but K7.out (cC h1 p1 (.slice pa na ca)))
            replace hT := hidp (hT.out.but hbt.out.1 L7.out)
            replace K7 := hidp hbt.out.2
            replace K8 := hidp (hbt.out.1.blk K8.out D8.out)
            replace OA := hidp (OA.out.bexJ (Bex.of_but hbt.out.1) NA7.out)
            replace OB := hidp (OB.out.bexJ (Bex.of_but hbt.out.1) NB7.out)
            clear hbt
            refine hK.out _ _ (hT.out) (fun hHeld' => ?_)
            clear hK K hHeld
            have hHeld := hHeld'
            clear hHeld'
            try simp only [Act.put, List.setIfInBounds_toArray, List.set_cons_zero, List.set_cons_succ]
            refine wpAnyH_ready (rs := [7]) (by kernel_rfl) (by simp) ?_
            refine AllReadyH.cons (o := _) rfl (fun K hK => ?_) AllReadyH.nil
            refine if_intro (by rfl) ?_
            refine wp_store_row 63 _ _ rfl _ (cC h2 p2 (.slice pb nb cb)).toArray rfl rfl 63 (cC 0 zh32 (.slice none 0 0)).toArray K8.out (by rw [List.size_toArray, hlB.out]; kernel_rfl) (by simp [hl0.out, hlB.out]) hoB.out ?_
            have hbt := hidp (row_but K8.out (cC h2 p2 (.slice pb nb cb)))
            replace hT := hidp (hT.out.but hbt.out.1 L8.out)
            replace K8 := hidp hbt.out.2
            replace K7 := hidp (hbt.out.1.blk K7.out D7.out)
            replace OA := hidp (OA.out.bexJ (Bex.of_but hbt.out.1) NA8.out)
            replace OB := hidp (OB.out.bexJ (Bex.of_but hbt.out.1) NB8.out)
            clear hbt
            refine hK.out _ _ (hT.out) (fun hHeld' => ?_)
            clear hK K hHeld
            have hHeld := hHeld'
            clear hHeld'
            try simp only [Act.put, List.setIfInBounds_toArray, List.set_cons_zero, List.set_cons_succ]
            refine wpAnyH_done (by kernel_rfl) ?_ _
            clear hHeld
            go_wp2_with fail
            go_meet
            case rel => exact ⟨⟨_, _, _, _, _, _, _, _, rfl, rfl, hT.out, K7.out, K8.out, OA.out, OB.out⟩⟩
      · skip
        go_simp
        have hal := hidp (fun W : World => (Below.refl W.heap.size W).alloc (Nat.le_refl _) (.cells (cC 0 zh32 (.slice none 0 0)).toArray 63))
        have K8 := hidp (blk_at hT.out)
        have L8 := hidp (lo_at hT.out)
        have NA8 := hidp (own_ne OA.out)
        replace hT := hidp (hT.out.below (hal.out _))
        replace OA := hidp (OA.out.below (hal.out _))
        clear hal
        refine hK.out _ _ (hT.out) (fun hHeld' => ?_)
        clear hK K hHeld
        have hHeld := hHeld'
        clear hHeld'
        try simp only [Act.put, List.setIfInBounds_toArray, List.set_cons_zero, List.set_cons_succ]
        refine wpAnyH_ready (rs := [3,4]) (by kernel_rfl) (by simp) ?_
        refine AllReadyH.cons (o := _) rfl (fun K hK => ?_) (AllReadyH.cons (o := _) rfl (fun K hK => ?_) AllReadyH.nil)
        · skip
          go_simp
          refine (HCp2.out _ hT.out.bel).mono ?_
          rintro e wc3 ⟨⟨sb, rfl, ho⟩, hb⟩
          obtain ⟨pb, nb, cb, hsv⟩ := ho.sl
          subst hsv
          have NB8 := hidp (ne_own (base := 0) K8.out ho)
          have Onew := hidp (show OwnT _ (w.heap.size + 3) (.slice pb nb cb) _ from ho.base hT.out.kv.lt)
          replace hT := hidp (hT.out.below hb)
          replace OA := hidp (OA.out.below hb)
          replace K8 := hidp ((hb).blk' K8.out)
          have OB := Onew
          clear ho hb Onew
          go_wp2_with fail
          refine hK.out _ _ (hT.out) (fun hHeld' => ?_)
          clear hK K hHeld
          have hHeld := hHeld'
          clear hHeld'
          try simp only [Act.put, List.setIfInBounds_toArray, List.set_cons_zero, List.set_cons_succ]
          refine wpAnyH_ready (rs := [4]) (by kernel_rfl) (by simp) ?_
          refine AllReadyH.cons (o := _) rfl (fun K hK => ?_) AllReadyH.nil
          · skip
            go_simp
            have hal := hidp (fun W : World => (Below.refl W.heap.size W).alloc (Nat.le_refl _) (.cells (cC 0 zh32 (.slice none 0 0)).toArray 63))
            have K7 := hidp (blk_at hT.out)
            have L7 := hidp (lo_at hT.out)
            have D7 := hidp (Nat.ne_of_gt K8.out.lt)
            have D8 := hidp (Nat.ne_of_lt K8.out.lt)
            have NA7 := hidp (own_ne OA.out)
            have NB7 := hidp (own_ne OB.out)
            replace hT := hidp (hT.out.below (hal.out _))
            replace OA := hidp (OA.out.below (hal.out _))
            replace OB := hidp (OB.out.below (hal.out _))
            replace K8 := hidp (((hal.out _)).blk' K8.out)
            clear hal
            refine hK.out _ _ (hT.out) (fun hHeld' => ?_)
            clear hK K hHeld
            have hHeld := hHeld'
            clear hHeld'
            try simp only [Act.put, List.setIfInBounds_toArray, List.set_cons_zero, List.set_cons_succ]
            have hlA := hidp (cC_len (h := h1) (sl := .slice pa na ca) hpp.out.1)
            have hoA := hidp (cC_one h1 p1 pa na ca)
            have hlB := hidp (cC_len (h := h2) (sl := .slice pb nb cb) hpp.out.2)
            have hoB := hidp (cC_one h2 p2 pb nb cb)
            refine wpAnyH_ready (rs := [6]) (by kernel_rfl) (by simp) ?_
            refine AllReadyH.cons (o := _) rfl (fun K hK => ?_) AllReadyH.nil
            refine if_intro (by rfl) ?_
            refine wp_store_row 63 _ _ rfl _ (cC h1 p1 (.slice pa na ca)).toArray rfl rfl 63 (cC 0 zh32 (.slice none 0 0)).toArray K7.out (by rw [List.size_toArray, hlA.out]; kernel_rfl) (by simp [hl0.out, hlA.out]) hoA.out ?_
            have hbt := hidp (row_but K7.out (cC h1 p1 (.slice pa na ca)))
            replace hT := hidp (hT.out.but hbt.out.1 L7.out)
            replace K7 := hidp hbt.out.2
            replace K8 := hidp (hbt.out.1.blk K8.out D8.out)
            replace OA := hidp (OA.out.bexJ (Bex.of_but hbt.out.1) NA7.out)
            replace OB := hidp (OB.out.bexJ (Bex.of_but hbt.out.1) NB7.out)
            clear hbt
            refine hK.out _ _ (hT.out) (fun hHeld' => ?_)
            clear hK K hHeld
            have hHeld := hHeld'
            clear hHeld'
            try simp only [Act.put, List.setIfInBounds_toArray, List.set_cons_zero, List.set_cons_succ]
            refine wpAnyH_ready (rs := [7]) (by kernel_rfl) (by simp) ?_
            refine AllReadyH.cons (o := _) rfl (fun K hK => ?_) AllReadyH.nil
            refine if_intro (by rfl) ?_
            refine wp_store_row 63 _ _ rfl _ (cC h2 p2 (.slice pb nb cb)).toArray rfl rfl 63 (cC 0 zh32 (.slice none 0 0)).toArray K8.out (by rw [List.size_toArray, hlB.out]; kernel_rfl) (by simp [hl0.out, hlB.out]) hoB.out ?_
            have hbt := hidp (row_but K8.out (cC h2 p2 (.slice pb nb cb)))
            replace hT := hidp (hT.out.but hbt.out.1 L8.out)
            replace K8 := hidp hbt.out.2
            replace K7 := hidp (hbt.out.1.blk K7.out D7.out)
            replace OA := hidp (OA.out.bexJ (Bex.of_but hbt.out.1) NA8.out)
            replace OB := hidp (OB.out.bexJ (Bex.of_but hbt.out.1) NB8.out)
            clear hbt
            refine hK.out _ _ (hT.out) (fun hHeld' => ?_)
            clear hK K hHeld
            have hHeld := hHeld'
            clear hHeld'
            try simp only [Act.put, List.setIfInBounds_toArray, List.set_cons_zero, List.set_cons_succ]
            refine wpAnyH_done (by kernel_rfl) ?_ _
            clear hHeld
            go_wp2_with fail
            go_meet
            case rel => exact ⟨⟨_, _, _, _, _, _, _, _, rfl, rfl, hT.out, K7.out, K8.out, OA.out, OB.out⟩⟩
        · skip
          go_simp
          have hal := hidp (fun W : World => (Below.refl W.heap.size W).alloc (Nat.le_refl _) (.cells (cC 0 zh32 (.slice none 0 0)).toArray 63))
          have K7 := hidp (blk_next hT.out)
          have L7 := hidp (lo_next hT.out)
          have D7 := hidp (n_ne hT.out).2
          have D8 := hidp (n_ne hT.out).1
          have NA7 := hidp (own_next OA.out)
          replace hT := hidp (hT.out.below (hal.out _))
          replace OA := hidp (OA.out.below (hal.out _))
          replace K8 := hidp (((hal.out _)).blk' K8.out)
          clear hal
          refine hK.out _ _ (hT.out) (fun hHeld' => ?_)
          clear hK K hHeld
          have hHeld := hHeld'
          clear hHeld'
          try simp only [Act.put, List.setIfInBounds_toArray, List.set_cons_zero, List.set_cons_succ]
          refine wpAnyH_ready (rs := [3]) (by kernel_rfl) (by simp) ?_
          refine AllReadyH.cons (o := _) rfl (fun K hK => ?_) AllReadyH.nil
          · skip
            go_simp
            refine (HCp2.out _ hT.out.bel).mono ?_
            rintro e wc3 ⟨⟨sb, rfl, ho⟩, hb⟩
            obtain ⟨pb, nb, cb, hsv⟩ := ho.sl
            subst hsv
            have NB7 := hidp (ne_own (base := 0) K7.out ho)
            have NB8 := hidp (ne_own (base := 0) K8.out ho)
            have Onew := hidp (show OwnT _ (w.heap.size + 3) (.slice pb nb cb) _ from ho.base hT.out.kv.lt)
            replace hT := hidp (hT.out.below hb)
            replace OA := hidp (OA.out.below hb)
            replace K7 := hidp ((hb).blk' K7.out)
            replace K8 := hidp ((hb).blk' K8.out)
            have OB := Onew
            clear ho hb Onew
            go_wp2_with fail
            refine hK.out _ _ (hT.out) (fun hHeld' => ?_)
            clear hK K hHeld
            have hHeld := hHeld'
            clear hHeld'
            try simp only [Act.put, List.setIfInBounds_toArray, List.set_cons_zero, List.set_cons_succ]
            have hlA := hidp (cC_len (h := h1) (sl := .slice pa na ca) hpp.out.1)
            have hoA := hidp (cC_one h1 p1 pa na ca)
            have hlB := hidp (cC_len (h := h2) (sl := .slice pb nb cb) hpp.out.2)
            have hoB := hidp (cC_one h2 p2 pb nb cb)
            refine wpAnyH_ready (rs := [6]) (by kernel_rfl) (by simp) ?_
            refine AllReadyH.cons (o := _) rfl (fun K hK => ?_) AllReadyH.nil
            refine if_intro (by rfl) ?_
            refine wp_store_row 63 _ _ rfl _ (cC h1 p1 (.slice pa na ca)).toArray rfl rfl 63 (cC 0 zh32 (.slice none 0 0)).toArray K7.out (by rw [List.size_toArray, hlA.out]; kernel_rfl) (by simp [hl0.out, hlA.out]) hoA.out ?_
            have hbt := hidp (row_but K7.out (cC h1 p1 (.slice pa na ca)))
            replace hT := hidp (hT.out.but hbt.out.1 L7.out)
            replace K7 := hidp hbt.out.2
            replace K8 := hidp (hbt.out.1.blk K8.out D8.out)
            replace OA := hidp (OA.out.bexJ (Bex.of_but hbt.out.1) NA7.out)
            replace OB := hidp (OB.out.bexJ (Bex.of_but hbt.out.1) NB7.out)
            clear hbt
            refine hK.out _ _ (hT.out) (fun hHeld' => ?_)
            clear hK K hHeld
            have hHeld := hHeld'
            clear hHeld'
            try simp only [Act.put, List.setIfInBounds_toArray, List.set_cons_zero, List.set_cons_succ]
            refine wpAnyH_ready (rs := [7]) (by kernel_rfl) (by simp) ?_
            refine AllReadyH.cons (o := _) rfl (fun K hK => ?_) AllReadyH.nil
            refine if_intro (by rfl) ?_
            refine wp_store_row 63 _ _ rfl _ (cC h2 p2 (.slice pb nb cb)).toArray rfl rfl 63 (cC 0 zh32 (.slice none 0 0)).toArray K8.out (by rw [List.size_toArray, hlB.out]; kernel_rfl) (by simp [hl0.out, hlB.out]) hoB.out ?_
            have hbt := hidp (row_but K8.out (cC h2 p2 (.slice pb nb cb)))
            replace hT := hidp (hT.out.but hbt.out.1 L8.out)
            replace K8 := hidp hbt.out.2
            replace K7 := hidp (hbt.out.1.blk K7.out D7.out)
            replace OA := hidp (OA.out.bexJ (Bex.of_but hbt.out.1) NA8.out)
            replace OB := hidp (OB.out.bexJ (Bex.of_but hbt.out.1) NB8.out)
            clear hbt
            refine hK.out _ _ (hT.out) (fun hHeld' => ?_)
            clear hK K hHeld
            have hHeld := hHeld'
            clear hHeld'
            try simp only [Act.put, List.setIfInBounds_toArray, List.set_cons_zero, List.set_cons_succ]
            refine wpAnyH_done (by kernel_rfl) ?_ _
            clear hHeld
            go_wp2_with fail
            go_meet
            case rel => exact ⟨⟨_, _, _, _, _, _, _, _, rfl, rfl, hT.out, K7.out, K8.out, OA.out, OB.out⟩⟩
    · skip
      go_simp
      have hal := hidp (fun W : World => (Below.refl W.heap.size W).alloc (Nat.le_refl _) (.cells (cC 0 zh32 (.slice none 0 0)).toArray 63))
      have K7 := hidp (blk_at hT.out)
      have L7 := hidp (lo_at hT.out)
      replace hT := hidp (hT.out.below (hal.out _))
      clear hal
      refine hK.out _ _ (hT.out) (fun hHeld' => ?_)
      clear hK K hHeld
      have hHeld := hHeld'
      clear hHeld'
      try simp only [Act.put, List.setIfInBounds_toArray, List.set_cons_zero, List.set_cons_succ]
      refine wpAnyH_ready (rs := [1,5]) (by kernel_rfl) (by simp) ?_
      refine AllReadyH.cons (o := _) rfl (fun K hK => ?_) (AllReadyH.cons (o := _) rfl (fun K hK => ?_) AllReadyH.nil)
      · skip
        go_simp
        refine (HCp1.out _ hT.out.bel).mono ?_
        rintro e wc1 ⟨⟨sa, rfl, ho⟩, hb⟩
        obtain ⟨pa, na, ca, hsv⟩ := ho.sl
        subst hsv
        have NA7 := hidp (ne_own (base := 0) K7.out ho)
        have Onew := hidp (show OwnT _ (w.heap.size + 3) (.slice pa na ca) _ from ho.base hT.out.kv.lt)
        replace hT := hidp (hT.out.below hb)
        replace K7 := hidp ((hb).blk' K7.out)
        have OA := Onew
        clear ho hb Onew
        go_wp2_with fail
        refine hK.out _ _ (hT.out) (fun hHeld' => ?_)
        clear hK K hHeld
        have hHeld := hHeld'
        clear hHeld'
        try simp only [Act.put, List.setIfInBounds_toArray, List.set_cons_zero, List.set_cons_succ]
        refine wpAnyH_ready (rs := [3,5]) (by kernel_rfl) (by simp) ?_
        refine AllReadyH.cons (o := _) rfl (fun K hK => ?_) (AllReadyH.cons (o := _) rfl (fun K hK => ?_) AllReadyH.nil)
        · skip
          go_simp
          refine (HCp2.out _ hT.out.bel).mono ?_
          rintro e wc3 ⟨⟨sb, rfl, ho⟩, hb⟩
          obtain ⟨pb, nb, cb, hsv⟩ := ho.sl
          subst hsv
          have NB7 := hidp (ne_own (base := 0) K7.out ho)
          have Onew := hidp (show OwnT _ (w.heap.size + 3) (.slice pb nb cb) _ from ho.base hT.out.kv.lt)
          replace hT := hidp (hT.out.below hb)
          replace OA := hidp (OA.out.below hb)
          replace K7 := hidp ((hb).blk' K7.out)
          have OB := Onew
          clear ho hb Onew
          go_wp2_with fail
          refine hK.out _ _ (hT.out) (fun hHeld' => ?_)
          clear hK K hHeld
          have hHeld := hHeld'
          clear hHeld'
          try simp only [Act.put, List.setIfInBounds_toArray, List.set_cons_zero, List.set_cons_succ]
          refine wpAnyH_ready (rs := [5]) (by kernel_rfl) (by simp) ?_
          refine AllReadyH.cons (o := _) rfl (fun K hK => ?_) AllReadyH.nil
          · skip
            go_simp
            have hal := hidp (fun W : World => (Below.refl W.heap.size W).alloc (Nat.le_refl _) (.cells (cC 0 zh32 (.slice none 0 0)).toArray 63))
            have K8 := hidp (blk_at hT.out)
            have L8 := hidp (lo_at hT.out)
            have D8 := hidp (Nat.ne_of_gt K7.out.lt)
            have D7 := hidp (Nat.ne_of_lt K7.out.lt)
            have NA8 := hidp (own_ne OA.out)
            have NB8 := hidp (own_ne OB.out)
            replace hT := hidp (hT.out.below (hal.out _))
            replace OA := hidp (OA.out.below (hal.out _))
            replace OB := hidp (OB.out.below (hal.out _))
            replace K7 := hidp (((hal.out _)).blk' K7.out)
            clear hal
            refine hK.out _ _ (hT.out) (fun hHeld' => ?_)
            clear hK K hHeld
            have hHeld := hHeld'
            clear hHeld'
            try simp only [Act.put, List.setIfInBounds_toArray, List.set_cons_zero, List.set_cons_succ]
            have hlA := hidp (cC_len (h := h1) (sl := .slice pa na ca) hpp.out.1)
            have hoA := hidp (cC_one h1 p1 pa na ca)
            have hlB := hidp (cC_len (h := h2) (sl := .slice pb nb cb) hpp.out.2)
            have hoB := hidp (cC_one h2 p2 pb nb cb)
            refine wpAnyH_ready (rs := [6]) (by kernel_rfl) (by simp) ?_
            refine AllReadyH.cons (o := _) rfl (fun K hK => ?_) AllReadyH.nil
            refine if_intro (by rfl) ?_
            refine wp_store_row 63 _ _ rfl _ (cC h1 p1 (.slice pa na ca)).toArray rfl rfl 63 (cC 0 zh32 (.slice none 0 0)).toArray K7.out (by rw [List.size_toArray, hlA.out]; kernel_rfl) (by simp [hl0.out, hlA.out]) hoA.out ?_
            have hbt := hidp (row_but K7.out (cC h1 p1 (.slice pa na ca)))
            replace hT := hidp (hT.out.but hbt.out.1 L7.out)
            replace K7 := hidp hbt.out.2
            replace K8 := hidp (hbt.out.1.blk K8.out D8.out)
            replace OA := hidp (OA.out.bexJ (Bex.of_but hbt.out.1) NA7.out)
            replace OB := hidp (OB.out.bexJ (Bex.of_but hbt.out.1) NB7.out)
            clear hbt
            refine hK.out _ _ (hT.out) (fun hHeld' => ?_)
            clear hK K hHeld
            have hHeld := hHeld'
            clear hHeld'
            try simp only [Act.put, List.setIfInBounds_toArray, List.set_cons_zero, List.set_cons_succ]
            refine wpAnyH_ready (rs := [7]) (by kernel_rfl) (by simp) ?_
            refine AllReadyH.cons (o := _) rfl (fun K hK => ?_) AllReadyH.nil
            refine if_intro (by rfl) ?_
            refine wp_store_row 63 _ _ rfl _ (cC h2 p2 (.slice pb nb cb)).toArray rfl rfl 63 (cC 0 zh32 (.slice none 0 0)).toArray K8.out (by rw [List.size_toArray, hlB.out]; kernel_rfl) (by simp [hl0.out, hlB.out]) hoB.out ?_
            have hbt := hidp (row_but K8.out (cC h2 p2 (.slice pb nb cb)))
            replace hT := hidp (hT.out.but hbt.out.1 L8.out)
            replace K8 := hidp hbt.out.2
            replace K7 := hidp (hbt.out.1.blk K7.out D7.out)
            replace OA := hidp (OA.out.bexJ (Bex.of_but hbt.out.1) NA8.out)
            replace OB := hidp (OB.out.bexJ (Bex.of_but hbt.out.1) NB8.out)
            clear hbt
            refine hK.out _ _ (hT.out) (fun hHeld' => ?_)
            clear hK K hHeld
            have hHeld := hHeld'
            clear hHeld'
            try simp only [Act.put, List.setIfInBounds_toArray, List.set_cons_zero, List.set_cons_succ]
            refine wpAnyH_done (by kernel_rfl) ?_ _
            clear hHeld
            go_wp2_with fail
            go_meet
            case rel => exact ⟨⟨_, _, _, _, _, _, _, _, rfl, rfl, hT.out, K7.out, K8.out, OA.out, OB.out⟩⟩
        · skip
          go_simp
          have hal := hidp (fun W : World => (Below.refl W.heap.size W).alloc (Nat.le_refl _) (.cells (cC 0 zh32 (.slice none 0 0)).toArray 63))
          have K8 := hidp (blk_at hT.out)
          have L8 := hidp (lo_at hT.out)
          have D8 := hidp (Nat.ne_of_gt K7.out.lt)
          have D7 := hidp (Nat.ne_of_lt K7.out.lt)
          have NA8 := hidp (own_ne OA.out)
          replace hT := hidp (hT.out.below (hal.out _))
          replace OA := hidp (OA.out.below (hal.out _))
          replace K7 := hidp (((hal.out _)).blk' K7.out)
          clear hal
          refine hK.out _ _ (hT.out) (fun hHeld' => ?_)
          clear hK K hHeld
          have hHeld := hHeld'
          clear hHeld'
          try simp only [Act.put, List.setIfInBounds_toArray, List.set_cons_zero, List.set_cons_succ]
          refine wpAnyH_ready (rs := [3]) (by kernel_rfl) (by simp) ?_
          refine AllReadyH.cons (o := _) rfl (fun K hK => ?_) AllReadyH.nil
          · skip
            go_simp
            refine (HCp2.out _ hT.out.bel).mono ?_
            rintro e wc3 ⟨⟨sb, rfl, ho⟩, hb⟩
            obtain ⟨pb, nb, cb, hsv⟩ := ho.sl
            subst hsv
            have NB7 := hidp (ne_own (base := 0) K7.out ho)
            have NB8 := hidp (ne_own (base := 0) K8.out ho)
            have Onew := hidp (show OwnT _ (w.heap.size + 3) (.slice pb nb cb) _ from ho.base hT.out.kv.lt)
            replace hT := hidp (hT.out.below hb)
            replace OA := hidp (OA.out.below hb)
            replace K7 := hidp ((hb).blk' K7.out)
            replace K8 := hidp ((hb).blk' K8.out)
            have OB := Onew
            clear ho hb Onew
            go_wp2_with fail
            refine hK.out _ _ (hT.out) (fun hHeld' => ?_)
            clear hK K hHeld
            have hHeld := hHeld'
            clear hHeld'
            try simp only [Act.put, List.setIfInBounds_toArray, List.set_cons_zero, List.set_cons_succ]
            have hlA := hidp (cC_len (h := h1) (sl := .slice pa na ca) hpp.out.1)
            have hoA := hidp (cC_one h1 p1 pa na ca)
            have hlB := hidp (cC_len (h := h2) (sl := .slice pb nb cb) hpp.out.2)
            have hoB := hidp (cC_one h2 p2 pb nb cb)
            refine wpAnyH_ready (rs := [6]) (by kernel_rfl) (by simp) ?_
            refine AllReadyH.cons (o := _) rfl (fun K hK => ?_) AllReadyH.nil
            refine if_intro (by rfl) ?_
            refine wp_store_row 63 _ _ rfl _ (cC h1 p1 (.slice pa na ca)).toArray rfl rfl 63 (cC 0 zh32 (.slice none 0 0)).toArray K7.out (by rw [List.size_toArray, hlA.out]; kernel_rfl) (by simp [hl0.out, hlA.out]) hoA.out ?_
            have hbt := hidp (row_but K7.out (cC h1 p1 (.slice pa na ca)))
            replace hT := hidp (hT.out.but hbt.out.1 L7.out)
            replace K7 := hidp hbt.out.2
            replace K8 := hidp (hbt.out.1.blk K8.out D8.out)
            replace OA := hidp (OA.out.bexJ (Bex.of_but hbt.out.1) NA7.out)
            replace OB := hidp (OB.out.bexJ (Bex.of_but hbt.out.1) NB7.out)
            clear hbt
            refine hK.out _ _ (hT.out) (fun hHeld' => ?_)
            clear hK K hHeld
            have hHeld := hHeld'
            clear hHeld'
            try simp only [Act.put, List.setIfInBounds_toArray, List.set_cons_zero, List.set_cons_succ]
            refine wpAnyH_ready (rs := [7]) (by kernel_rfl) (by simp) ?_
            refine AllReadyH.cons (o := _) rfl (fun K hK => ?_) AllReadyH.nil
            refine if_intro (by rfl) ?_
            refine wp_store_row 63 _ _ rfl _ (cC h2 p2 (.slice pb nb cb)).toArray rfl rfl 63 (cC 0 zh32 (.slice none 0 0)).toArray K8.out (by rw [List.size_toArray, hlB.out]; kernel_rfl) (by simp [hl0.out, hlB.out]) hoB.out ?_
            have hbt := hidp (row_but K8.out (cC h2 p2 (.slice pb nb cb)))
            replace hT := hidp (hT.out.but hbt.out.1 L8.out)
            replace K8 := hidp hbt.out.2
            replace K7 := hidp (hbt.out.1.blk K7.out D7.out)
            replace OA := hidp (OA.out.bexJ (Bex.of_but hbt.out.1) NA8.out)
            replace OB := hidp (OB.out.bexJ (Bex.of_but hbt.out.1) NB8.out)
            clear hbt
            refine hK.out _ _ (hT.out) (fun hHeld' => ?_)
            clear hK K hHeld
            have hHeld := hHeld'
            clear hHeld'
            try simp only [Act.put, List.setIfInBounds_toArray, List.set_cons_zero, List.set_cons_succ]
            refine wpAnyH_done (by kernel_rfl) ?_ _
            clear hHeld
            go_wp2_with fail
            go_meet
            case rel => exact ⟨⟨_, _, _, _, _, _, _, _, rfl, rfl, hT.out, K7.out, K8.out, OA.out, OB.out⟩⟩
      · skip
        go_simp
        have hal := hidp (fun W : World => (Below.refl W.heap.size W).alloc (Nat.le_refl _) (.cells (cC 0 zh32 (.slice none 0 0)).toArray 63))
        have K8 := hidp (blk_next hT.out)
        have L8 := hidp (lo_next hT.out)
        have D8 := hidp (n_ne hT.out).2
        have D7 := hidp (n_ne hT.out).1
        replace hT := hidp (hT.out.below (hal.out _))
        replace K7 := hidp (((hal.out _)).blk' K7.out)
        clear hal
        refine hK.out _ _ (hT.out) (fun hHeld' => ?_)
        clear hK K hHeld
        have hHeld := hHeld'
        clear hHeld'
        try simp only [Act.put, List.setIfInBounds_toArray, List.set_cons_zero, List.set_cons_succ]
        refine wpAnyH_ready (rs := [1]) (by kernel_rfl) (by simp) ?_
        refine AllReadyH.cons (o := _) rfl (fun K hK => ?_) AllReadyH.nil
        · skip
          go_simp
          refine (HCp1.out _ hT.out.bel).mono ?_
          rintro e wc1 ⟨⟨sa, rfl, ho⟩, hb⟩
          obtain ⟨pa, na, ca, hsv⟩ := ho.sl
          subst hsv
          have NA7 := hidp (ne_own (base := 0) K7.out ho)
          have NA8 := hidp (ne_own (base := 0) K8.out ho)
          have Onew := hidp (show OwnT _ (w.heap.size + 3) (.slice pa na ca) _ from ho.base hT.out.kv.lt)
          replace hT := hidp (hT.out.below hb)
          replace K7 := hidp ((hb).blk' K7.out)
          replace K8 := hidp ((hb).blk' K8.out)
          have OA := Onew
          clear ho hb Onew
          go_wp2_with fail
          refine hK.out _ _ (hT.out) (fun hHeld' => ?_)
          clear hK K hHeld
          have hHeld := hHeld'
          clear hHeld'
          try simp only [Act.put, List.setIfInBounds_toArray, List.set_cons_zero, List.set_cons_succ]
          refine wpAnyH_ready (rs := [3]) (by kernel_rfl) (by simp) ?_
          refine AllReadyH.cons (o := _) rfl (fun K hK => ?_) AllReadyH.nil
          · skip
            go_simp
            refine (HCp2.out _ hT.out.bel).mono ?_
            rintro e wc3 ⟨⟨sb, rfl, ho⟩, hb⟩
            obtain ⟨pb, nb, cb, hsv⟩ := ho.sl
            subst hsv
            have NB7 := hidp (ne_own (base := 0) K7.out ho)
            have NB8 := hidp (ne_own (base := 0) K8.out ho)
            have Onew := hidp (show OwnT _ (w.heap.size + 3) (.slice pb nb cb) _ from ho.base hT.out.kv.lt)
            replace hT := hidp (hT.out.below hb)
            replace OA := hidp (OA.out.below hb)
            replace K7 := hidp ((hb).blk' K7.out)
            replace K8 := hidp ((hb).blk' K8.out)
            have OB := Onew
            clear ho hb Onew
            go_wp2_with fail
            refine hK.out _ _ (hT.out) (fun hHeld' => ?_)
            clear hK K hHeld
            have hHeld := hHeld'
            clear hHeld'
            try simp only [Act.put, List.setIfInBounds_toArray, List.set_cons_zero, List.set_cons_succ]
            have hlA := hidp (cC_len (h := h1) (sl := .slice pa na ca) hpp.out.1)
            have hoA := hidp (cC_one h1 p1 pa na ca)
            have hlB := hidp (cC_len (h := h2) (sl := .slice pb nb cb) hpp.out.2)
            have hoB := hidp (cC_one h2 p2 pb nb cb)
            refine wpAnyH_ready (rs := [6]) (by kernel_rfl) (by simp) ?_
            refine AllReadyH.cons (o := _) rfl (fun K hK => ?_) AllReadyH.nil
            refine if_intro (by rfl) ?_
            refine wp_store_row 63 _ _ rfl _ (cC h1 p1 (.slice pa na ca)).toArray rfl rfl 63 (cC 0 zh32 (.slice none 0 0)).toArray K7.out (by rw [List.size_toArray, hlA.out]; kernel_rfl) (by simp [hl0.out, hlA.out]) hoA.out ?_
            have hbt := hidp (row_but K7.out (cC h1 p1 (.slice pa na ca)))
            replace hT := hidp (hT.out.but hbt.out.1 L7.out)
            replace K7 := hidp hbt.out.2
            replace K8 := hidp (hbt.out.1.blk K8.out D8.out)
            replace OA := hidp (OA.out.bexJ (Bex.of_but hbt.out.1) NA7.out)
            replace OB := hidp (OB.out.bexJ (Bex.of_but hbt.out.1) NB7.out)
            clear hbt
            refine hK.out _ _ (hT.out) (fun hHeld' => ?_)
            clear hK K hHeld
            have hHeld := hHeld'
            clear hHeld'
            try simp only [Act.put, List.setIfInBounds_toArray, List.set_cons_zero, List.set_cons_succ]
            refine wpAnyH_ready (rs := [7]) (by kernel_rfl) (by simp) ?_
            refine AllReadyH.cons (o := _) rfl (fun K hK => ?_) AllReadyH.nil
            refine if_intro (by rfl) ?_
            refine wp_store_row 63 _ _ rfl _ (cC h2 p2 (.slice pb nb cb)).toArray rfl rfl 63 (cC 0 zh32 (.slice none 0 0)).toArray K8.out (by rw [List.size_toArray, hlB.out]; kernel_rfl) (by simp [hl0.out, hlB.out]) hoB.out ?_
            have hbt := hidp (row_but K8.out (cC h2 p2 (.slice pb nb cb)))
            replace hT := hidp (hT.out.but hbt.out.1 L8.out)
            replace K8 := hidp hbt.out.2
            replace K7 := hidp (hbt.out.1.blk K7.out D7.out)
            replace OA := hidp (OA.out.bexJ (Bex.of_but hbt.out.1) NA8.out)
            replace OB := hidp (OB.out.bexJ (Bex.of_but hbt.out.1) NB8.out)
            clear hbt
            refine hK.out _ _ (hT.out) (fun hHeld' => ?_)
            clear hK K hHeld
            have hHeld := hHeld'
            clear hHeld'
            try simp only [Act.put, List.setIfInBounds_toArray, List.set_cons_zero, List.set_cons_succ]
            refine wpAnyH_done (by kernel_rfl) ?_ _
            clear hHeld
            go_wp2_with fail
            go_meet
            case rel => exact ⟨⟨_, _, _, _, _, _, _, _, rfl, rfl, hT.out, K7.out, K8.out, OA.out, OB.out⟩⟩
    · skip
      go_simp
      have hal := hidp (fun W : World => (Below.refl W.heap.size W).alloc (Nat.le_refl _) (.cells (cC 0 zh32 (.slice none 0 0)).toArray 63))
      have K8 := hidp (blk_at hT.out)
      have L8 := hidp (lo_at hT.out)
      replace hT := hidp (hT.out.below (hal.out _))
      clear hal
      refine hK.out _ _ (hT.out) (fun hHeld' => ?_)
      clear hK K hHeld
      have hHeld := hHeld'
      clear hHeld'
      try simp only [Act.put, List.setIfInBounds_toArray, List.set_cons_zero, List.set_cons_succ]
      refine wpAnyH_ready (rs := [1,4]) (by kernel_rfl) (by simp) ?_
      refine AllReadyH.cons (o := _) rfl (fun K hK => ?_) (AllReadyH.cons (o := _) rfl (fun K hK => ?_) AllReadyH.nil)
      · skip
        go_simp
        refine (HCp1.out _ hT.out.bel).mono ?_
        rintro e wc1 ⟨⟨sa, rfl, ho⟩, hb⟩
        obtain ⟨pa, na, ca, hsv⟩ := ho.sl
        subst hsv
        have NA8 := hidp (ne_own (base := 0) K8.out ho)
        have Onew := hidp (show OwnT _ (w.heap.size + 3) (.slice pa na ca) _ from ho.base hT.out.kv.lt)
        replace hT := hidp (hT.out.below hb)
        replace K8 := hidp ((hb).blk' K8.out)
        have OA := Onew
        clear ho hb Onew
        go_wp2_with fail
        refine hK.out _ _ (hT.out) (fun hHeld' => ?_)
        clear hK K hHeld
        have hHeld := hHeld'
        clear hHeld'
        try simp only [Act.put, List.setIfInBounds_toArray, List.set_cons_zero, List.set_cons_succ]
        refine wpAnyH_ready (rs := [3,4]) (by kernel_rfl) (by simp) ?_
        refine AllReadyH.cons (o := _) rfl (fun K hK => ?_) (AllReadyH.cons (o := _) rfl (fun K hK => ?_) AllReadyH.nil)
        · skip
          go_simp
          refine (HCp2.out _ hT.out.bel).mono ?_
          rintro e wc3 ⟨⟨sb, rfl, ho⟩, hb⟩
          obtain ⟨pb, nb, cb, hsv⟩ := ho.sl
          subst hsv
          have NB8 := hidp (ne_own (base := 0) K8.out ho)
          have Onew := hidp (show OwnT _ (w.heap.size + 3) (.slice pb nb cb) _ from ho.base hT.out.kv.lt)
          replace hT := hidp (hT.out.below hb)
          replace OA := hidp (OA.out.below hb)
          replace K8 := hidp ((hb).blk' K8.out)
          have OB := Onew
          clear ho hb Onew
          go_wp2_with fail
          refine hK.out _ _ (hT.out) (fun hHeld' => ?_)
          clear hK K hHeld
          have hHeld := hHeld'
          clear hHeld'
          try simp only [Act.put, List.setIfInBounds_toArray, List.set_cons_zero, List.set_cons_succ]
          refine wpAnyH_ready (rs := [4]) (by kernel_rfl) (by simp) ?_
          refine AllReadyH.cons (o := _) rfl (fun K hK => ?_) AllReadyH.nil
          · skip
            go_simp
            have hal := hidp (fun W : World => (Below.refl W.heap.size W).alloc (Nat.le_refl _) (.cells (cC 0 zh32 (.slice none 0 0)).toArray 63))
            have K7 := hidp (blk_at hT.out)
            have L7 := hidp (lo_at hT.out)
            have D7 := hidp (Nat.ne_of_gt K8.out.lt)
            have D8 := hidp (Nat.ne_of_lt K8.out.lt)
            have NA7 := hidp (own_ne OA.out)
            have NB7 := hidp (own_ne OB.out)
            replace hT := hidp (hT.out.below (hal.out _))
            replace OA := hidp (OA.out.below (hal.out _))
            replace OB := hidp (OB.out.below (hal.out _))
            replace K8 := hidp (((hal.out _)).blk' K8.out)
            clear hal
            refine hK.out _ _ (hT.out) (fun hHeld' => ?_)
            clear hK K hHeld
            have hHeld := hHeld'
            clear hHeld'
            try simp only [Act.put, List.setIfInBounds_toArray, List.set_cons_zero, List.set_cons_succ]
            have hlA := hidp (cC_len (h := h1) (sl := .slice pa na ca) hpp.out.1)
            have hoA := hidp (cC_one h1 p1 pa na ca)
            have hlB := hidp (cC_len (h := h2) (sl := .slice pb nb cb) hpp.out.2)
            have hoB := hidp (cC_one h2 p2 pb nb cb)
            refine wpAnyH_ready (rs := [6]) (by kernel_rfl) (by simp) ?_
            refine AllReadyH.cons (o := _) rfl (fun K hK => ?_) AllReadyH.nil
            refine if_intro (by rfl) ?_
            refine wp_store_row 63 _ _ rfl _ (cC h1 p1 (.slice pa na ca)).toArray rfl rfl 63 (cC 0 zh32 (.slice none 0 0)).toArray K7.out (by rw [List.size_toArray, hlA.out]; kernel_rfl) (by simp [hl0.out, hlA.out]) hoA.out ?_
            have hbt := hidp (row_but K7.out (cC h1 p1 (.slice pa na ca)))
            replace hT := hidp (hT.out.but hbt.out.1 L7.out)
            replace K7 := hidp hbt.out.2
            replace K8 := hidp (hbt.out.1.blk K8.out D8.out)
            replace OA := hidp (OA.out.bexJ (Bex.of_but hbt.out.1) NA7.out)
            replace OB := hidp (OB.out.bexJ (Bex.of_but hbt.out.1) NB7.out)
            clear hbt
            refine hK.out _ _ (hT.out) (fun hHeld' => ?_)
            clear hK K hHeld
            have hHeld := hHeld'
            clear hHeld'
            try simp only [Act.put, List.setIfInBounds_toArray, List.set_cons_zero, List.set_cons_succ]
            refine wpAnyH_ready (rs := [7]) (by kernel_rfl) (by simp) ?_
            refine AllReadyH.cons (o := _) rfl (fun K hK => ?_) AllReadyH.nil
            refine if_intro (by rfl) ?_
            refine wp_store_row 63 _ _ rfl _ (cC h2 p2 (.slice pb nb cb)).toArray rfl rfl 63 (cC 0 zh32 (.slice none 0 0)).toArray K8.out (by rw [List.size_toArray, hlB.out]; kernel_rfl) (by simp [hl0.out, hlB.out]) hoB.out ?_
            have hbt := hidp (row_but K8.out (cC h2 p2 (.slice pb nb cb)))
            replace hT := hidp (hT.out.but hbt.out.1 L8.out)
            replace K8 := hidp hbt.out.2
            replace K7 := hidp (hbt.out.1.blk K7.out D7.out)
            replace OA := hidp (OA.out.bexJ (Bex.of_but hbt.out.1) NA8.out)
            replace OB := hidp (OB.out.bexJ (Bex.of_but hbt.out.1) NB8.out)
            clear hbt
            refine hK.out _ _ (hT.out) (fun hHeld' => ?_)
            clear hK K hHeld
            have hHeld := hHeld'
            clear hHeld'
            try simp only [Act.put, List.setIfInBounds_toArray, List.set_cons_zero, List.set_cons_succ]
            refine wpAnyH_done (by kernel_rfl) ?_ _
            clear hHeld
            go_wp2_with fail
            go_meet
            case rel => exact ⟨⟨_, _, _, _, _, _, _, _, rfl, rfl, hT.out, K7.out, K8.out, OA.out, OB.out⟩⟩
        · skip
          go_simp
          have hal := hidp (fun W : World => (Below.refl W.heap.size W).alloc (Nat.le_refl _) (.cells (cC 0 zh32 (.slice none 0 0)).toArray 63))
          have K7 := hidp (blk_at hT.out)
          have L7 := hidp (lo_at hT.out)
          have D7 := hidp (Nat.ne_of_gt K8.out.lt)
          have D8 := hidp (Nat.ne_of_lt K8.out.lt)
          have NA7 := hidp (own_ne OA.out)
          replace hT := hidp (hT.out.below (hal.out _))
          replace OA := hidp (OA.out.below (hal.out _))
          replace K8 := hidp (((hal.out _)).blk' K8.out)
          clear hal
          refine hK.out _ _ (hT.out) (fun hHeld' => ?_)
          clear hK K hHeld
          have hHeld := hHeld'
          clear hHeld'
          try simp only [Act.put, List.setIfInBounds_toArray, List.set_cons_zero, List.set_cons_succ]
          refine wpAnyH_ready (rs := [3]) (by kernel_rfl) (by simp) ?_
          refine AllReadyH.cons (o := _) rfl (fun K hK => ?_) AllReadyH.nil
          · skip
            go_simp
            refine (HCp2.out _ hT.out.bel).mono ?_
            rintro e wc3 ⟨⟨sb, rfl, ho⟩, hb⟩
            obtain ⟨pb, nb, cb, hsv⟩ := ho.sl
            subst hsv
            have NB7 := hidp (ne_own (base := 0) K7.out ho)
            have NB8 := hidp (ne_own (base := 0) K8.out ho)
            have Onew := hidp (show OwnT _ (w.heap.size + 3) (.slice pb nb cb) _ from ho.base hT.out.kv.lt)
            replace hT := hidp (hT.out.below hb)
            replace OA := hidp (OA.out.below hb)
            replace K7 := hidp ((hb).blk' K7.out)
            replace K8 := hidp ((hb).blk' K8.out)
            have OB := Onew
            clear ho hb Onew
            go_wp2_with fail
            refine hK.out _ _ (hT.out) (fun hHeld' => ?_)
            clear hK K hHeld
            have hHeld := hHeld'
            clear hHeld'
            try simp only [Act.put, List.setIfInBounds_toArray, List.set_cons_zero, List.set_cons_succ]
            have hlA := hidp (cC_len (h := h1) (sl := .slice pa na ca) hpp.out.1)
            have hoA := hidp (cC_one h1 p1 pa na ca)
            have hlB := hidp (cC_len (h := h2) (sl := .slice pb nb cb) hpp.out.2)
            have hoB := hidp (cC_one h2 p2 pb nb cb)
            refine wpAnyH_ready (rs := [6]) (by kernel_rfl) (by simp) ?_
            refine AllReadyH.cons (o := _) rfl (fun K hK => ?_) AllReadyH.nil
            refine if_intro (by rfl) ?_
            refine wp_store_row 63 _ _ rfl _ (cC h1 p1 (.slice pa na ca)).toArray rfl rfl 63 (cC 0 zh32 (.slice none 0 0)).toArray K7.out (by rw [List.size_toArray, hlA.out]; kernel_rfl) (by simp [hl0.out, hlA.out]) hoA.out ?_
            have hbt := hidp (row_but K7.out (cC h1 p1 (.slice pa na ca)))
            replace hT := hidp (hT.out.but hbt.out.1 L7.out)
            replace K7 := hidp hbt.out.2
            replace K8 := hidp (hbt.out.1.blk K8.out D8.out)
            replace OA := hidp (OA.out.bexJ (Bex.of_but hbt.out.1) NA7.out)
            replace OB := hidp (OB.out.bexJ (Bex.of_but hbt.out.1) NB7.out)
            clear hbt
            refine hK.out _ _ (hT.out) (fun hHeld' => ?_)
            clear hK K hHeld
            have hHeld := hHeld'
            clear hHeld'
            try simp only [Act.put, List.setIfInBounds_toArray, List.set_cons_zero, List.set_cons_succ]
            refine wpAnyH_ready (rs := [7]) (by kernel_rfl) (by simp) ?_
            refine AllReadyH.cons (o := _) rfl (fun K hK => ?_) AllReadyH.nil
            refine if_intro (by rfl) ?_
            refine wp_store_row 63 _ _ rfl _ (cC h2 p2 (.slice pb nb cb)).toArray rfl rfl 63 (cC 0 zh32 (.slice none 0 0)).toArray K8.out (by rw [List.size_toArray, hlB.out]; kernel_rfl) (by simp [hl0.out, hlB.out]) hoB.out ?_
            have hbt := hidp (row_but K8.out (cC h2 p2 (.slice pb nb cb)))
            replace hT := hidp (hT.out.but hbt.out.1 L8.out)
            replace K8 := hidp hbt.out.2
            replace K7 := hidp (hbt.out.1.blk K7.out D7.out)
            replace OA := hidp (OA.out.bexJ (Bex.of_but hbt.out.1) NA8.out)
            replace OB := hidp (OB.out.bexJ (Bex.of_but hbt.out.1) NB8.out)
            clear hbt
            refine hK.out _ _ (hT.out) (fun hHeld' => ?_)
            clear hK K hHeld
            have hHeld := hHeld'
            clear hHeld'
            try simp only [Act.put, List.setIfInBounds_toArray, List.set_cons_zero, List.set_cons_succ]
            refine wpAnyH_done (by kernel_rfl) ?_ _
            clear hHeld
            go_wp2_with fail
            go_meet
            case rel => exact ⟨⟨_, _, _, _, _, _, _, _, rfl, rfl, hT.out, K7.out, K8.out, OA.out, OB.out⟩⟩
      · skip
        go_simp
        have hal := hidp (fun W : World => (Below.refl W.heap.size W).alloc (Nat.le_refl _) (.cells (cC 0 zh32 (.slice none 0 0)).toArray 63))
        have K7 := hidp (blk_next hT.out)
        have L7 := hidp (lo_next hT.out)
        have D7 := hidp (n_ne hT.out).2
        have D8 := hidp (n_ne hT.out).1
        replace hT := hidp (hT.out.below (hal.out _))
        replace K8 := hidp (((hal.out _)).blk' K8.out)
        clear hal
        refine hK.out _ _ (hT.out) (fun hHeld' => ?_)
        clear hK K hHeld
        have hHeld := hHeld'
        clear hHeld'
        try simp only [Act.put, List.setIfInBounds_toArray, List.set_cons_zero, List.set_cons_succ]
        refine wpAnyH_ready (rs := [1]) (by kernel_rfl) (by simp) ?_
        refine AllReadyH.cons (o := _) rfl (fun K hK => ?_) AllReadyH.nil
        · skip
          go_simp
          refine (HCp1.out _ hT.out.bel).mono ?_
          rintro e wc1 ⟨⟨sa, rfl, ho⟩, hb⟩
          obtain ⟨pa, na, ca, hsv⟩ := ho.sl
          subst hsv
          have NA7 := hidp (ne_own (base := 0) K7.out ho)
          have NA8 := hidp (ne_own (base := 0) K8.out ho)
          have Onew := hidp (show OwnT _ (w.heap.size + 3) (.slice pa na ca) _ from ho.base hT.out.kv.lt)
          replace hT := hidp (hT.out.below hb)
          replace K7 := hidp ((hb).blk' K7.out)
          replace K8 := hidp ((hb).blk' K8.out)
          have OA := Onew
          clear ho hb Onew
          go_wp2_with fail
          refine hK.out _ _ (hT.out) (fun hHeld' => ?_)
          clear hK K hHeld
          have hHeld := hHeld'
          clear hHeld'
          try simp only [Act.put, List.setIfInBounds_toArray, List.set_cons_zero, List.set_cons_succ]
          refine wpAnyH_ready (rs := [3]) (by kernel_rfl) (by simp) ?_
          refine AllReadyH.cons (o := _) rfl (fun K hK => ?_) AllReadyH.nil
          · skip
            go_simp
            refine (HCp2.out _ hT.out.bel).mono ?_
            rintro e wc3 ⟨⟨sb, rfl, ho⟩, hb⟩
            obtain ⟨pb, nb, cb, hsv⟩ := ho.sl
            subst hsv
            have NB7 := hidp (ne_own (base := 0) K7.out ho)
            have NB8 := hidp (ne_own (base := 0) K8.out ho)
            have Onew := hidp (show OwnT _ (w.heap.size + 3) (.slice pb nb cb) _ from ho.base hT.out.kv.lt)
            replace hT := hidp (hT.out.below hb)
            replace OA := hidp (OA.out.below hb)
            replace K7 := hidp ((hb).blk' K7.out)
            replace K8 := hidp ((hb).blk' K8.out)
            have OB := Onew
            clear ho hb Onew
            go_wp2_with fail
            refine hK.out _ _ (hT.out) (fun hHeld' => ?_)
            clear hK K hHeld
            have hHeld := hHeld'
            clear hHeld'
            try simp only [Act.put, List.setIfInBounds_toArray, List.set_cons_zero, List.set_cons_succ]
            have hlA := hidp (cC_len (h := h1) (sl := .slice pa na ca) hpp.out.1)
            have hoA := hidp (cC_one h1 p1 pa na ca)
            have hlB := hidp (cC_len (h := h2) (sl := .slice pb nb cb) hpp.out.2)
            have hoB := hidp (cC_one h2 p2 pb nb cb)
            refine wpAnyH_ready (rs := [6]) (by kernel_rfl) (by simp) ?_
            refine AllReadyH.cons (o := _) rfl (fun K hK => ?_) AllReadyH.nil
            refine if_intro (by rfl) ?_
            refine wp_store_row 63 _ _ rfl _ (cC h1 p1 (.slice pa na ca)).toArray rfl rfl 63 (cC 0 zh32 (.slice none 0 0)).toArray K7.out (by rw [List.size_toArray, hlA.out]; kernel_rfl) (by simp [hl0.out, hlA.out]) hoA.out ?_
            have hbt := hidp (row_but K7.out (cC h1 p1 (.slice pa na ca)))
            replace hT := hidp (hT.out.but hbt.out.1 L7.out)
            replace K7 := hidp hbt.out.2
            replace K8 := hidp (hbt.out.1.blk K8.out D8.out)
            replace OA := hidp (OA.out.bexJ (Bex.of_but hbt.out.1) NA7.out)
            replace OB := hidp (OB.out.bexJ (Bex.of_but hbt.out.1) NB7.out)
            clear hbt
            refine hK.out _ _ (hT.out) (fun hHeld' => ?_)
            clear hK K hHeld
            have hHeld := hHeld'
            clear hHeld'
            try simp only [Act.put, List.setIfInBounds_toArray, List.set_cons_zero, List.set_cons_succ]
            refine wpAnyH_ready (rs := [7]) (by kernel_rfl) (by simp) ?_
            refine AllReadyH.cons (o := _) rfl (fun K hK => ?_) AllReadyH.nil
            refine if_intro (by rfl) ?_
            refine wp_store_row 63 _ _ rfl _ (cC h2 p2 (.slice pb nb cb)).toArray rfl rfl 63 (cC 0 zh32 (.slice none 0 0)).toArray K8.out (by rw [List.size_toArray, hlB.out]; kernel_rfl) (by simp [hl0.out, hlB.out]) hoB.out ?_
            have hbt := hidp (row_but K8.out (cC h2 p2 (.slice pb nb cb)))
            replace hT := hidp (hT.out.but hbt.out.1 L8.out)
            replace K8 := hidp hbt.out.2
            replace K7 := hidp (hbt.out.1.blk K7.out D7.out)
            replace OA := hidp (OA.out.bexJ (Bex.of_but hbt.out.1) NA8.out)
            replace OB := hidp (OB.out.bexJ (Bex.of_but hbt.out.1) NB8.out)
            clear hbt
            refine hK.out _ _ (hT.out) (fun hHeld' => ?_)
            clear hK K hHeld
            have hHeld := hHeld'
            clear hHeld'
            try simp only [Act.put, List.setIfInBounds_toArray, List.set_cons_zero, List.set_cons_succ]
            refine wpAnyH_done (by kernel_rfl) ?_ _
            clear hHeld
            go_wp2_with fail
            go_meet
            case rel => exact ⟨⟨_, _, _, _, _, _, _, _, rfl, rfl, hT.out, K7.out, K8.out, OA.out, OB.out⟩⟩
  case rest =>
    obtain ⟨⟨i7, i8, pa, na, ca, pb, nb, cb, rfl, rfl, hq1, hq2, hq3, hq4, hq5⟩⟩ := hcut
    have TB := hidp hq1
    have K7 := hidp hq2
    have K8 := hidp hq3
    have OA := hidp hq4
    have OB := hidp hq5
    have hU : Hid (Below wc.heap.size wc wc) := hidp (Below.refl _ _)
    have hlt7 := hidp hq2.lt
    have hlA := hidp (cC_len (h := h1) (sl := .slice pa na ca) hpp.out.1)
    have hlB := hidp (cC_len (h := h2) (sl := .slice pb nb cb) hpp.out.2)
    clear hq1 hq2 hq3 hq4 hq5 HCp1 HCp2 HB
    go_wp2_with first
      | (with_reducible refine (?_ : wpList _ _ _ _ _ _); refine wpList_load_blkG (by kernel_rfl) 63 _ rfl (i7) (cC h1 p1 (.slice pa na ca)) 63 rfl K7.out _ Try.underlying63 rfl (by rw [hlA.out]; kernel_rfl) ?_)
      | (with_reducible refine (?_ : wpList _ _ _ _ _ _); refine wpList_load_blkG (by kernel_rfl) 85 _ rfl (w.heap.size + 1 + 1) [.int .i64 v.a, .int .u64 (v.s : Nat)] 85 rfl TB.out.kv' _ Try.underlying85 rfl (by kernel_rfl) ?_)
    refine (HAd.out _ _ pa na ca OA.out).mono ?_
    rintro e ux ⟨sx, rfl, ho, hb⟩
    obtain ⟨px, nx, cx, hsv⟩ := ho.sl
    subst hsv
    have Mx := hidp hb.size
    replace hU := hidp (hU.out.trans (hb.mono hU.out.size))
    have Ox := hidp ho
    have hlex := hidp hU.out.size
    clear ho hb
    have hl_x := hidp (cC_len (h := rA.h) (sl := .slice px nx cx) HRO.out.1.p)
    have ho_x := hidp (cC_one rA.h rA.p px nx cx)
    go_wp2_with first
      | (with_reducible refine (?_ : wpList _ _ _ _ _ _); refine wpList_store_blk rfl 63 _ _ rfl ux.heap.size (cC rA.h rA.p (.slice px nx cx)) (cC 0 zh32 (.slice none 0 0)) 63 rfl rfl (Blk.new ux (cC 0 zh32 (.slice none 0 0)) _) (by rw [hl_x.out]; kernel_rfl) (hl0.out.trans (hl_x.out).symm) (ho_x.out) ?_; intro tx htx; have Nx := hidp (new_row htx.out rfl))
      | (with_reducible refine (?_ : wpList _ _ _ _ _ _); refine wpList_load_blkG (by kernel_rfl) 63 _ rfl (w.heap.size) (cC h1 p1 (.slice a1 l1.length c1)) 63 rfl (TB.out.below (hU.out.trans (Nx.out.1.mono hU.out.size))).k1 _ Try.underlying63 rfl (by rw [hl1.out]; kernel_rfl) ?_)
      | (with_reducible refine (?_ : wpList _ _ _ _ _ _); refine wpList_load_blkG (by kernel_rfl) 85 _ rfl (w.heap.size + 1 + 1) [.int .i64 v.a, .int .u64 (v.s : Nat)] 85 rfl (TB.out.below (hU.out.trans (Nx.out.1.mono hU.out.size))).kv' _ Try.underlying85 rfl (by kernel_rfl) ?_)
    replace hU := hidp (hU.out.trans (Nx.out.1.mono hU.out.size))
    have Bx := hidp Nx.out.2
    replace Ox := hidp (Ox.out.below Nx.out.1)
    have Sx := hidp (show ∀ k, (Value.slice px nx cx).ownBlock = some k → k < tx.heap.size from fun k hk => (Ox.out.lt hk).2)
    have Zx := hidp Nx.out.1.size
    clear Nx htx
    refine (HRA.out _ (TB.out.below hU.out).bel).mono ?_
    rintro e uy ⟨sy, rfl, ho, hb⟩
    obtain ⟨py, ny, cy, hsv⟩ := ho.sl
    subst hsv
    have My := hidp hb.size
    replace hU := hidp (hU.out.trans (hb.mono hU.out.size))
    replace Bx := hidp (hb.blk' Bx.out)
    replace Ox := hidp (Ox.out.below hb)
    have Oy := hidp ho
    have hley := hidp hU.out.size
    clear ho hb
    have hl_y := hidp (cC_len (h := rA.h) (sl := .slice py ny cy) HRO.out.1.p)
    have ho_y := hidp (cC_one rA.h rA.p py ny cy)
    go_wp2_with first
      | (with_reducible refine (?_ : wpList _ _ _ _ _ _); refine wpList_store_blk rfl 63 _ _ rfl uy.heap.size (cC rA.h rA.p (.slice py ny cy)) (cC 0 zh32 (.slice none 0 0)) 63 rfl rfl (Blk.new uy (cC 0 zh32 (.slice none 0 0)) _) (by rw [hl_y.out]; kernel_rfl) (hl0.out.trans (hl_y.out).symm) (ho_y.out) ?_; intro ty hty; have Ny := hidp (new_row hty.out rfl))
      | (with_reducible refine (?_ : wpList _ _ _ _ _ _); refine wpList_load_blkG (by kernel_rfl) 63 _ rfl (i7) (cC h1 p1 (.slice pa na ca)) 63 rfl ((hU.out.trans (Ny.out.1.mono hU.out.size)).blk' K7.out) _ Try.underlying63 rfl (by rw [hlA.out]; kernel_rfl) ?_)
      | (with_reducible refine (?_ : wpList _ _ _ _ _ _); refine wpList_load_blkG (by kernel_rfl) 63 _ rfl (i8) (cC h2 p2 (.slice pb nb cb)) 63 rfl ((hU.out.trans (Ny.out.1.mono hU.out.size)).blk' K8.out) _ Try.underlying63 rfl (by rw [hlB.out]; kernel_rfl) ?_)
    replace hU := hidp (hU.out.trans (Ny.out.1.mono hU.out.size))
    replace Bx := hidp (Ny.out.1.blk' Bx.out)
    replace Ox := hidp (Ox.out.below Ny.out.1)
    have By := hidp Ny.out.2
    replace Oy := hidp (Oy.out.below Ny.out.1)
    have Sy := hidp (show ∀ k, (Value.slice py ny cy).ownBlock = some k → k < ty.heap.size from fun k hk => (Oy.out.lt hk).2)
    have Zy := hidp Ny.out.1.size
    clear Ny hty
    refine (HJn.out _ _ pa na ca pb nb cb (OA.out.below hU.out) (OB.out.below hU.out)).mono ?_
    rintro e up ⟨sp, rfl, ho, hb⟩
    obtain ⟨pp, np, cp, hsv⟩ := ho.sl
    subst hsv
    have Mp := hidp hb.size
    replace hU := hidp (hU.out.trans (hb.mono hU.out.size))
    replace Bx := hidp (hb.blk' Bx.out)
    replace Ox := hidp (Ox.out.below hb)
    replace By := hidp (hb.blk' By.out)
    replace Oy := hidp (Oy.out.below hb)
    have Op := hidp ho
    have hlep := hidp hU.out.size
    clear ho hb
    have hl_p := hidp (cC_len (h := rJ.h) (sl := .slice pp np cp) HRO.out.2.p)
    have ho_p := hidp (cC_one rJ.h rJ.p pp np cp)
    go_wp2_with first
      | (with_reducible refine (?_ : wpList _ _ _ _ _ _); refine wpList_store_blk rfl 63 _ _ rfl up.heap.size (cC rJ.h rJ.p (.slice pp np cp)) (cC 0 zh32 (.slice none 0 0)) 63 rfl rfl (Blk.new up (cC 0 zh32 (.slice none 0 0)) _) (by rw [hl_p.out]; kernel_rfl) (hl0.out.trans (hl_p.out).symm) (ho_p.out) ?_; intro tp htp; have Np := hidp (new_row htp.out rfl))
      | (with_reducible refine (?_ : wpList _ _ _ _ _ _); refine wpList_load_blkG (by kernel_rfl) 63 _ rfl (w.heap.size) (cC h1 p1 (.slice a1 l1.length c1)) 63 rfl (TB.out.below (hU.out.trans (Np.out.1.mono hU.out.size))).k1 _ Try.underlying63 rfl (by rw [hl1.out]; kernel_rfl) ?_)
      | (with_reducible refine (?_ : wpList _ _ _ _ _ _); refine wpList_load_blkG (by kernel_rfl) 63 _ rfl (w.heap.size + 1) (cC h2 p2 (.slice a2 l2.length c2)) 63 rfl (TB.out.below (hU.out.trans (Np.out.1.mono hU.out.size))).k2 _ Try.underlying63 rfl (by rw [hl2.out]; kernel_rfl) ?_)
    replace hU := hidp (hU.out.trans (Np.out.1.mono hU.out.size))
    replace Bx := hidp (Np.out.1.blk' Bx.out)
    replace Ox := hidp (Ox.out.below Np.out.1)
    replace By := hidp (Np.out.1.blk' By.out)
    replace Oy := hidp (Oy.out.below Np.out.1)
    have Bp := hidp Np.out.2
    replace Op := hidp (Op.out.below Np.out.1)
    have Sp := hidp (show ∀ k, (Value.slice pp np cp).ownBlock = some k → k < tp.heap.size from fun k hk => (Op.out.lt hk).2)
    have Zp := hidp Np.out.1.size
    clear Np htp
    refine (HRJ.out _ (TB.out.below hU.out).bel).mono ?_
    rintro e uq ⟨sq, rfl, ho, hb⟩
    obtain ⟨pq, nq, cq, hsv⟩ := ho.sl
    subst hsv
    have Mq := hidp hb.size
    replace hU := hidp (hU.out.trans (hb.mono hU.out.size))
    replace Bx := hidp (hb.blk' Bx.out)
    replace Ox := hidp (Ox.out.below hb)
    replace By := hidp (hb.blk' By.out)
    replace Oy := hidp (Oy.out.below hb)
    replace Bp := hidp (hb.blk' Bp.out)
    replace Op := hidp (Op.out.below hb)
    have Oq := hidp ho
    have hleq := hidp hU.out.size
    clear ho hb
    have hl_q := hidp (cC_len (h := rJ.h) (sl := .slice pq nq cq) HRO.out.2.p)
    have ho_q := hidp (cC_one rJ.h rJ.p pq nq cq)
    go_wp2_with first
      | (with_reducible refine (?_ : wpList _ _ _ _ _ _); refine wpList_store_blk rfl 63 _ _ rfl uq.heap.size (cC rJ.h rJ.p (.slice pq nq cq)) (cC 0 zh32 (.slice none 0 0)) 63 rfl rfl (Blk.new uq (cC 0 zh32 (.slice none 0 0)) _) (by rw [hl_q.out]; kernel_rfl) (hl0.out.trans (hl_q.out).symm) (ho_q.out) ?_; intro tq htq; have Nq := hidp (new_row htq.out rfl))
      | (with_reducible refine (?_ : wpList _ _ _ _ _ _); refine wpList_load_blkG (by kernel_rfl) 63 _ rfl (ux.heap.size) (cC rA.h rA.p (.slice px nx cx)) 63 rfl (Nq.out.1.blk' Bx.out) _ Try.underlying63 rfl (by rw [hl_x.out]; kernel_rfl) ?_)
      | (with_reducible refine (?_ : wpList _ _ _ _ _ _); refine wpList_load_blkG (by kernel_rfl) 63 _ rfl (uy.heap.size) (cC rA.h rA.p (.slice py ny cy)) 63 rfl (Nq.out.1.blk' By.out) _ Try.underlying63 rfl (by rw [hl_y.out]; kernel_rfl) ?_)
    replace hU := hidp (hU.out.trans (Nq.out.1.mono hU.out.size))
    replace Bx := hidp (Nq.out.1.blk' Bx.out)
    replace Ox := hidp (Ox.out.below Nq.out.1)
    replace By := hidp (Nq.out.1.blk' By.out)
    replace Oy := hidp (Oy.out.below Nq.out.1)
    replace Bp := hidp (Nq.out.1.blk' Bp.out)
    replace Op := hidp (Op.out.below Nq.out.1)
    have Bq := hidp Nq.out.2
    replace Oq := hidp (Oq.out.below Nq.out.1)
    have Sq := hidp (show ∀ k, (Value.slice pq nq cq).ownBlock = some k → k < tq.heap.size from fun k hk => (Oq.out.lt hk).2)
    have Zq := hidp Nq.out.1.size
    clear Nq htq
    clear By
    refine (same_own HRO.out.1 Ox.out Oy.out).mono ?_
    rintro e u5 ⟨rfl, hb⟩
    clear Oy
    replace hU := hidp (hU.out.trans (hb.mono hU.out.size))
    replace Bx := hidp (hb.blk' Bx.out)
    replace Ox := hidp (Ox.out.below hb)
    replace Bp := hidp (hb.blk' Bp.out)
    replace Op := hidp (Op.out.below hb)
    replace Bq := hidp (hb.blk' Bq.out)
    replace Oq := hidp (Oq.out.below hb)
    clear hb
    go_wp2_with first
      | (with_reducible refine (?_ : wpList _ _ _ _ _ _); refine wpList_load_blkG (by kernel_rfl) 63 _ rfl (up.heap.size) (cC rJ.h rJ.p (.slice pp np cp)) 63 rfl Bp.out _ Try.underlying63 rfl (by rw [hl_p.out]; kernel_rfl) ?_)
      | (with_reducible refine (?_ : wpList _ _ _ _ _ _); refine wpList_load_blkG (by kernel_rfl) 63 _ rfl (uq.heap.size) (cC rJ.h rJ.p (.slice pq nq cq)) 63 rfl Bq.out _ Try.underlying63 rfl (by rw [hl_q.out]; kernel_rfl) ?_)
    refine (same_own HRO.out.2 Op.out Oq.out).mono ?_
    rintro e u6 ⟨rfl, hb⟩
    clear Oq Bq
    replace hU := hidp (hU.out.trans (hb.mono hU.out.size))
    replace Bx := hidp (hb.blk' Bx.out)
    replace Ox := hidp (Ox.out.below hb)
    replace Bp := hidp (hb.blk' Bp.out)
    replace Op := hidp (Op.out.below hb)
    clear hb
    go_wp2_with first
      | (with_reducible refine (?_ : wpList _ _ _ _ _ _); refine wpList_load_blkG (by kernel_rfl) 63 _ rfl (ux.heap.size) (cC rA.h rA.p (.slice px nx cx)) 63 rfl Bx.out _ Try.underlying63 rfl (by rw [hl_x.out]; kernel_rfl) ?_)
    refine (overC_own rA.h rA.p HRO.out.1.p _ _ _ _ Ox.out HRO.out.1.len).mono ?_
    rintro e u7 ⟨rfl, hov⟩
    have hk := over_kept hov
    replace hU := hidp (hU.out.trans (hk.1 wc.heap.size (Nat.le_refl _) hU.out.size))
    replace Bp := hidp (hk.2.1 Bp.out (fun k h1 => by have := Sx.out k h1; have := My.out; have := Zy.out; have := Mp.out; omega))
    replace Op := hidp (hk.2.2 Op.out (fun k k' h1 h2 => by have := Sx.out k h1; have := My.out; have := Zy.out; have := (Op.out.lt h2).1; omega))
    clear hk hov Ox Bx
    go_wp2_with first
      | (with_reducible refine (?_ : wpList _ _ _ _ _ _); refine wpList_load_blkG (by kernel_rfl) 63 _ rfl (up.heap.size) (cC rJ.h rJ.p (.slice pp np cp)) 63 rfl Bp.out _ Try.underlying63 rfl (by rw [hl_p.out]; kernel_rfl) ?_)
    refine (overC_own rJ.h rJ.p HRO.out.2.p _ _ _ _ Op.out HRO.out.2.len).mono ?_
    rintro e u8 ⟨rfl, hov⟩
    have hk := over_kept hov
    replace hU := hidp (hU.out.trans (hk.1 wc.heap.size (by have := hley.out; have := Zy.out; omega) hU.out.size))
    clear hk hov Op Bp
    go_wp2_with first
      | (with_reducible refine (?_ : wpList _ _ _ _ _ _); refine wpList_load_blkG (by kernel_rfl) 63 _ rfl (i7) (cC h1 p1 (.slice pa na ca)) 63 rfl (hU.out.blk' K7.out) _ Try.underlying63 rfl (by rw [hlA.out]; kernel_rfl) ?_)
      | (with_reducible refine (?_ : wpList _ _ _ _ _ _); refine wpList_load_blkG (by kernel_rfl) 63 _ rfl (w.heap.size) (cC h1 p1 (.slice a1 l1.length c1)) 63 rfl (TB.out.below hU.out).k1 _ Try.underlying63 rfl (by rw [hl1.out]; kernel_rfl) ?_)
    refine (HS1.out _ _ pa na ca (OA.out.below hU.out) (TB.out.below hU.out).bel).mono ?_
    rintro e u9 ⟨rfl, hb⟩
    replace hU := hidp (hU.out.trans (hb.mono hU.out.size))
    clear hb
    go_wp2_with first
      | (with_reducible refine (?_ : wpList _ _ _ _ _ _); refine wpList_load_blkG (by kernel_rfl) 63 _ rfl (i8) (cC h2 p2 (.slice pb nb cb)) 63 rfl (hU.out.blk' K8.out) _ Try.underlying63 rfl (by rw [hlB.out]; kernel_rfl) ?_)
      | (with_reducible refine (?_ : wpList _ _ _ _ _ _); refine wpList_load_blkG (by kernel_rfl) 63 _ rfl (w.heap.size + 1) (cC h2 p2 (.slice a2 l2.length c2)) 63 rfl (TB.out.below hU.out).k2 _ Try.underlying63 rfl (by rw [hl2.out]; kernel_rfl) ?_)
    refine (HS2.out _ _ pb nb cb (OB.out.below hU.out) (TB.out.below hU.out).bel).mono ?_
    rintro e u10 ⟨rfl, hb⟩
    replace hU := hidp (hU.out.trans (hb.mono hU.out.size))
    clear hb
    go_wp2_with fail
    refine (cawake_any _).mono ?_
    rintro e u11 ⟨rfl, hb⟩
    replace hU := hidp (hU.out.trans (hb.mono hU.out.size))
    clear hb
    go_wp2
    go_ret
    exact ⟨rfl, (TB.out.below hU.out).bel⟩
theorem cadds_any (h1 : Int) (p1 : List Nat) (a1 : Option Addr) (b1 o1 c1 : Nat) (l1 : List Vt) (h2 : Int) (p2 : List Nat) (a2 : Option Addr) (b2 o2 c2 : Nat) (l2 : List Vt) (v : Vt) (w : World) (hp1 : Bytes 32 p1) (hT1 : Ts w a1 b1 o1 c1 l1) (hz1 : a1 = none → c1 = 0) (hp2 : Bytes 32 p2) (hT2 : Ts w a2 b2 o2 c2 l2) (hz2 : a2 = none → c2 = 0) (hv : VtOk v) : Calls Try.prog 8 #[.agg (cC h1 p1 (.slice a1 l1.length c1)).toArray, .agg (cC h2 p2 (.slice a2 l2.length c2)).toArray, .agg #[.int .i64 v.a, .int .u64 (v.s : Nat)]] w fun e w' => e = .returned (.bool true) ∧ Below w.heap.size w w' := by
  by_cases h70 : 70 < l1.length
  · exact cadds_long1 h1 p1 a1 b1 o1 c1 l1 h2 p2 a2 b2 o2 c2 l2 v w hp1 hT1 hz1 hp2 hT2 hz2 hv h70
  by_cases h71 : 70 < l2.length
  · exact cadds_long2 h1 p1 a1 b1 o1 c1 l1 h2 p2 a2 b2 o2 c2 l2 v w hp1 hT1 hz1 hp2 hT2 hz2 hv h70 h71
  · exact cadds_in h1 p1 a1 b1 o1 c1 l1 h2 p2 a2 b2 o2 c2 l2 v w hp1 hT1 hz1 hp2 hT2 hz2 hv h70 h71
end Go.Proofs.Ytlcflcohlbckfaa
