/-
  Commit: the walk of CommitBack.
-/
import Derived.Test.YtlcflcohlbckfaaL7n
import Derived.Test.YtlcflcohlbckfaaL7t
import Derived.Test.YtlcflcohlbckfaaUj
namespace Go.Proofs.Ytlcflcohlbckfaa
set_option linter.unusedSimpArgs false
open Go.RowKit Go.Lib

def DecP (w : World) (D : DC) (e : Ending) (w' : World) : Prop := ∃ a b cap n, e = .returned (.tuple #[.agg (cC D.h D.p (.slice a n cap)).toArray, .agg #[.int .i64 (D.e : Nat), .int .i64 D.f]]) ∧ n = D.l.length ∧ Ts w' a b 0 cap D.l ∧ Below w.heap.size w w'
theorem cdec_p (a : Option Addr) (ba oo cap n : Nat) (L : List Nat) (w : World) (h : Bs w a ba oo L cap) (hL : L.length ≤ 4000000) (hn : L.length = n) : Calls Try.prog 50 #[.slice a n cap] w (DecP w (decC L)) := by
  subst hn
  refine (cdecode_any a ba oo cap L w h hL).mono ?_
  rintro e w' ⟨⟨sv, rfl, ho⟩, hb⟩
  obtain ⟨p, b, c, rfl, _, ht, _⟩ := ho.ts (decC_ok' h.byte).1
  exact ⟨p, b, c, _, rfl, rfl, ht, hb⟩
theorem clong_any (h : Int) (p : List Nat) (hp : p.length = 32) (a : Option Addr) (n cap : Nat) (w : World) : Calls Try.prog 34 #[.agg (cC h p (.slice a n cap)).toArray] w fun e w' => e = .returned (.bool (decide ((70 : Int) < ((n : Nat) : Int)))) ∧ Below w.heap.size w w' := by
  have hA := Blk.new w (cC h p (.slice a n cap)) 63
  have hB := hidp ((Below.refl w.heap.size w).alloc (Nat.le_refl _) (.cells (cC h p (.slice a n cap)).toArray 63))
  have c33 := hA.cell 33
  rw [cC_33 hp] at c33
  go_enter Try.func34, Try.ntmps34
  go_wp2
  go_ret
  exact ⟨rfl, hB.out⟩
theorem sameBytesC {w : World} {p q : Option Addr} {b o cap b2 o2 cap2 : Nat} {X Y : List Nat} (h : Bs w p b o X cap) (k : Bs w q b2 o2 Y cap2) (e : X = Y) :
    Calls Try.prog 23 #[.slice p X.length cap, .slice q Y.length cap2] w fun e w' => e = .returned (.bool true) ∧ w = w' := by
  subst e
  exact sameBytes_yes h k
/-- A row is hung onto a row of one's own, in a guarded region too. -/
theorem wpList_append_bsC {ops : Array Oper} {rest : List Oper} {o : Oper} {a : Act} {w : World} {Q : Exit → Act → World → Prop} (hw : Region.wanted o (yielded ops a.tmps) = true) (s x : Operand)
    (ho : o.op = .call { callee := .builtin .append, args := #[s, x], argTypes := #[32, 32] }) (base n : Nat) (xs : List Value) (v : Value) (hs : a.eval s = v)
    (hown : w.ownsRow base 5 1 v n xs) (B : Nat) (L : List Nat) (hx : a.eval x = .slice (some ⟨B, 0, none⟩) L.length L.length) (hb : Blk w B (bvs L) 5) (hn : n + L.length ≤ 4000000) (hbase : base ≤ w.heap.size)
    (h : ∀ v' w', w'.ownsRow base 5 1 v' (n + L.length) (xs ++ bvs L) → w.grownBy w' v.ownBlock → wpList Try.prog ops Q rest (a.put o.dst v') w') : wpList Try.prog ops Q (o :: rest) a w := by
  obtain ⟨i0, hi, hz0, hz1, hz2⟩ := info_parts info_byte
  refine wpList_step fun _ hK => ?_
  rw [if_pos hw]
  exact wp_append_own _ s x 32 ho base 5 i0 (.int .u8 0) 1 1 Try.underlying32 hi hz0 hz1 hz2 rfl (by decide) v n xs hs hown ⟨B, 0, none⟩ L.length L.length (bvs L) hx (by rw [bvs_len, Nat.mul_one])
      (fun j u hj => by
        have e : (⟨B, 0, none⟩ : Addr).add j = ⟨B, j, none⟩ := by by_cases hj0 : j = 0 <;> simp [Addr.add, hj0]
        rw [e, hb.cell j]; exact hj) (bvs_oneL _) (by unfold maxLen; omega) (by omega) hbase (fun v' w' h1 h2 _ => hK _ _ (h v' w' h1 h2))
/-- What Decode told is laid in two boxes. -/
theorem dres_row {u t : World} {cs : List Value} (h : t = ((u.alloc (.cells (cC 0 zh32 (.slice none 0 0)).toArray 63)).alloc (.cells #[.int .i64 0, .int .i64 0] 55)).setRow u.heap.size cs.toArray) : DRes u t cs 0 0 := by
  have HZ : DRes u ((u.alloc (.cells (cC 0 zh32 (.slice none 0 0)).toArray 63)).alloc (.cells #[.int .i64 0, .int .i64 0] 55)) (cC 0 zh32 (.slice none 0 0)) 0 0 := ⟨(Blk.new u (cC 0 zh32 (.slice none 0 0)) _).alloc _, Blk.new' _ [.int .i64 0, .int .i64 0] _ _ (by simp), ((Below.refl u.heap.size u).alloc (Nat.le_refl _) (.cells (cC 0 zh32 (.slice none 0 0)).toArray 63)).alloc (by simp) _⟩
  rw [h]
  exact HZ.row (ds := cs)
theorem Pick_wide (x : Int) (n : Nat) (w : World) (hn : 0 < n) (hn2 : n ≤ 1200) :
    Calls Try.prog 33 #[.int .i64 x, .int .i64 n] w fun e w' => (∃ r : Nat, r < n ∧ e = .returned (.int .i64 r)) ∧ w' = w := by
  have hm := Int.tmod_lt_of_pos x (show (0 : Int) < (n : Int) by omega)
  have hm2 : -(n : Int) < x.tmod n := by
    have h1 := Int.tmod_lt_of_pos (-x) (show (0 : Int) < (n : Int) by omega)
    rw [Int.neg_tmod] at h1
    omega
  have hz : ((n : Int) == 0) = false := by rw [beq_eq_false_iff_ne]; omega
  have hle : decide ((n : Int) ≤ 0) = false := decide_eq_false (by omega)
  have hnz : ¬ (n : Int) = 0 := by omega
  generalize hr : x.tmod (n : Int) = r at hm hm2
  by_cases h0 : r < 0
  · have ht : decide (r < 0) = true := decide_eq_true h0
    have hw : wrap64 (r + n) = r + n := w64 _ (by omega)
    have hw0 : wrap64 r = r := w64 _ (by omega)
    have HH := hidp (And.intro hm (And.intro hm2 h0))
    clear hm hm2 h0
    go_enter Try.func33, Try.ntmps33
    go_wp2
    go_ret
    exact ⟨⟨(r + n).toNat, by have := HH.out; omega, ret_int (by have := HH.out; omega)⟩, rfl⟩
  · have ht : decide (r < 0) = false := decide_eq_false h0
    have hw0 : wrap64 r = r := w64 _ (by omega)
    have HH := hidp (And.intro hm (And.intro hm2 h0))
    clear hm hm2 h0
    go_enter Try.func33, Try.ntmps33
    go_wp2
    go_ret
    exact ⟨⟨r.toNat, by have := HH.out; omega, ret_int (by have := HH.out; omega)⟩, rfl⟩

theorem sameC_self (h : Int) (p : List Nat) (l : List Vt) : sameC h p l h p l = true := by unfold sameC; simp
set_option maxRecDepth 100000 in
set_option maxHeartbeats 16000000 in
theorem cback_long1 (h : Int) (p : List Nat) (hp : Bytes 32 p) (a : Option Addr) (b o cap : Nat) (l : List Vt) (y : Int) (q : Option Addr) (bq oq cq : Nat) (L : List Nat) (w : World) (hT : Ts w a b o cap l) (hL : Bs w q bq oq L cq) (h70 : 70 < l.length) : Calls Try.prog 10 #[.agg (cC h p (.slice a l.length cap)).toArray, .int .i64 y, .slice q L.length cq] w fun e w' => e = .returned (.bool true) ∧ Below w.heap.size w w' := by
  have hzz : ∀ w, (zeroValue 63).run Try.prog w = .ok (.agg (cC 0 zh32 (.slice none 0 0)).toArray) w := (zero_of_info (P := Try.prog) zero_com).1
  have hl0 := hidp (cC_len (h := 0) (sl := .slice none 0 0) (p := zh32) rfl)
  have ho0 := hidp (cC_one 0 zh32 none 0 0)
  have hgF : Try.prog.eqGuardType Try.prog.depth 55 = false := by kernel_rfl
  have HLO := hidp (fun W => clong_any h p hp.1 a l.length cap W)
  have t70 : decide ((70 : Int) < ((l.length : Nat) : Int)) = true := by first | exact decide_eq_true (by omega) | exact decide_eq_false (by omega)
  clear h70
  have hlc := hidp (cC_len (h := h) (sl := .slice a l.length cap) hp.1)
  have hlp : ∀ a2 n2 cap2, (cC h p (.slice a2 n2 cap2)).length = 34 := fun a2 n2 cap2 => cC_len hp.1
  have hA := hidp (Blk.new w (cC h p (.slice a l.length cap)) 63)
  have hV := hidp ((Below.refl w.heap.size w).alloc (Nat.le_refl _) (.cells (cC h p (.slice a l.length cap)).toArray 63))
  have HT := hidp (hT.below hV.out)
  have HL := hidp (hL.below hV.out)
  clear hT hL
  skip
  go_enter Try.func10, Try.ntmps10
  go_wp2_with fail
  refine (lawKnown_w _).mono ?_
  rintro e w1 ⟨rfl, hb⟩
  replace hV := hidp (hV.out.trans (hb.mono hV.out.size))
  have KC := hidp (hb.blk' hA.out)
  replace HT := hidp (HT.out.below hb)
  replace HL := hidp (HL.out.below hb)
  clear hb hA
  go_wp2_with first
    | (with_reducible refine (?_ : wpList _ _ _ _ _ _); refine wpList_load_blkG (by kernel_rfl) 63 _ rfl w.heap.size (cC h p (.slice a l.length cap)) 63 rfl (KC.out) _ Try.underlying63 rfl (by rw [hlc.out]; kernel_rfl) ?_)
  refine (HLO.out _).mono ?_
  rintro e w2 ⟨rfl, hB⟩
  have hW := hidp (show Below w1.heap.size w1 w2 from hB)
  replace hV := hidp (hV.out.trans (hW.out.mono hV.out.size))
  replace KC := hidp (hW.out.blk' KC.out)
  replace HT := hidp (HT.out.below hW.out)
  replace HL := hidp (HL.out.below hW.out)
  clear hB hW HLO
  rw [t70]
  go_wp2
  go_ret
  exact ⟨rfl, hV.out⟩
set_option maxRecDepth 100000 in
set_option maxHeartbeats 16000000 in
theorem cback_long2 (h : Int) (p : List Nat) (hp : Bytes 32 p) (a : Option Addr) (b o cap : Nat) (l : List Vt) (y : Int) (q : Option Addr) (bq oq cq : Nat) (L : List Nat) (w : World) (hT : Ts w a b o cap l) (hL : Bs w q bq oq L cq) (h70 : ¬ 70 < l.length) (h1k : 1000 < L.length) : Calls Try.prog 10 #[.agg (cC h p (.slice a l.length cap)).toArray, .int .i64 y, .slice q L.length cq] w fun e w' => e = .returned (.bool true) ∧ Below w.heap.size w w' := by
  have hzz : ∀ w, (zeroValue 63).run Try.prog w = .ok (.agg (cC 0 zh32 (.slice none 0 0)).toArray) w := (zero_of_info (P := Try.prog) zero_com).1
  have hl0 := hidp (cC_len (h := 0) (sl := .slice none 0 0) (p := zh32) rfl)
  have ho0 := hidp (cC_one 0 zh32 none 0 0)
  have hgF : Try.prog.eqGuardType Try.prog.depth 55 = false := by kernel_rfl
  have HLO := hidp (fun W => clong_any h p hp.1 a l.length cap W)
  have t70 : decide ((70 : Int) < ((l.length : Nat) : Int)) = false := by first | exact decide_eq_true (by omega) | exact decide_eq_false (by omega)
  have t1k : decide ((1000 : Int) < ((L.length : Nat) : Int)) = true := by first | exact decide_eq_true (by omega) | exact decide_eq_false (by omega)
  have hlc := hidp (cC_len (h := h) (sl := .slice a l.length cap) hp.1)
  have hlp : ∀ a2 n2 cap2, (cC h p (.slice a2 n2 cap2)).length = 34 := fun a2 n2 cap2 => cC_len hp.1
  have hA := hidp (Blk.new w (cC h p (.slice a l.length cap)) 63)
  have hV := hidp ((Below.refl w.heap.size w).alloc (Nat.le_refl _) (.cells (cC h p (.slice a l.length cap)).toArray 63))
  have HT := hidp (hT.below hV.out)
  have HL := hidp (hL.below hV.out)
  clear hT hL
  skip
  go_enter Try.func10, Try.ntmps10
  go_wp2_with fail
  refine (lawKnown_w _).mono ?_
  rintro e w1 ⟨rfl, hb⟩
  replace hV := hidp (hV.out.trans (hb.mono hV.out.size))
  have KC := hidp (hb.blk' hA.out)
  replace HT := hidp (HT.out.below hb)
  replace HL := hidp (HL.out.below hb)
  clear hb hA
  go_wp2_with first
    | (with_reducible refine (?_ : wpList _ _ _ _ _ _); refine wpList_load_blkG (by kernel_rfl) 63 _ rfl w.heap.size (cC h p (.slice a l.length cap)) 63 rfl (KC.out) _ Try.underlying63 rfl (by rw [hlc.out]; kernel_rfl) ?_)
  refine (HLO.out _).mono ?_
  rintro e w2 ⟨rfl, hB⟩
  have hW := hidp (show Below w1.heap.size w1 w2 from hB)
  replace hV := hidp (hV.out.trans (hW.out.mono hV.out.size))
  replace KC := hidp (hW.out.blk' KC.out)
  replace HT := hidp (HT.out.below hW.out)
  replace HL := hidp (HL.out.below hW.out)
  clear hB hW HLO
  rw [t70]
  go_wp2
  go_ret
  exact ⟨rfl, hV.out⟩
set_option maxRecDepth 100000 in
set_option maxHeartbeats 16000000 in
theorem cback_bad0 (h : Int) (p : List Nat) (hp : Bytes 32 p) (a : Option Addr) (b o cap : Nat) (l : List Vt) (y : Int) (q : Option Addr) (bq oq cq : Nat) (L : List Nat) (w : World) (hT : Ts w a b o cap l) (hL : Bs w q bq oq L cq) (h70 : ¬ 70 < l.length) (hLs : L.length ≤ 1000) (hd : (decC L).e = 0) (hc : chkC h l ≠ 0) : Calls Try.prog 10 #[.agg (cC h p (.slice a l.length cap)).toArray, .int .i64 y, .slice q L.length cq] w fun e w' => e = .returned (.bool true) ∧ Below w.heap.size w w' := by
  have hzz : ∀ w, (zeroValue 63).run Try.prog w = .ok (.agg (cC 0 zh32 (.slice none 0 0)).toArray) w := (zero_of_info (P := Try.prog) zero_com).1
  have hl0 := hidp (cC_len (h := 0) (sl := .slice none 0 0) (p := zh32) rfl)
  have ho0 := hidp (cC_one 0 zh32 none 0 0)
  have hgF : Try.prog.eqGuardType Try.prog.depth 55 = false := by kernel_rfl
  have HLO := hidp (fun W => clong_any h p hp.1 a l.length cap W)
  have t70 : decide ((70 : Int) < ((l.length : Nat) : Int)) = false := by first | exact decide_eq_true (by omega) | exact decide_eq_false (by omega)
  have t1k : decide ((1000 : Int) < ((L.length : Nat) : Int)) = false := by first | exact decide_eq_true (by omega) | exact decide_eq_false (by omega)
  have hLn := hidp hLs
  have HD := hidp (fun (W : World) (k : Bs W q bq oq L cq) => cdec_p q bq oq cq L.length L W k (by omega) rfl)
  obtain ⟨f0, hc2, hE2, hk2, hb2⟩ := decC_form hL.byte hd
  have HE2 := hidp (fun (W : World) (a2 : Option Addr) (b2 cap2 n2 : Nat) (e : n2 = (decC L).l.length) (k : Ts W a2 b2 0 cap2 (decC L).l) => (by have q := cencode_ok (decC L).h (decC L).p hb2 a2 b2 0 cap2 (decC L).l W k hc2; rw [hE2, ← e] at q; exact q : Calls Try.prog 40 #[.agg (cC (decC L).h (decC L).p (.slice a2 n2 cap2)).toArray] W (DoneP W L)))
  have hlm : ∀ a2 n2 cap2, (cC (decC L).h (decC L).p (.slice a2 n2 cap2)).length = 34 := fun a2 n2 cap2 => cC_len hb2.1
  have hd0 := hd
  clear hc2 hE2 hk2 hb2 hd0
  generalize decC L = D at *
  obtain ⟨h2, p2, l2, e2, f2⟩ := D
  simp only at hd f0 hlm
  subst hd f0
  have hef := eqF 0 0 0 0
  simp only [beq_self_eq_true, Bool.and_self] at hef
  have hnf := neF 0 0 0 0
  simp only [beq_self_eq_true, Bool.and_self, Bool.not_true] at hnf
  have HC := hidp (fun W (k : Ts W a b o cap l) => ccheck_any h p hp.1 a b o cap l W k)
  have hcn : (((chkC h l : Nat) : Int) != 0) = true := by rw [bne_iff_ne]; omega
  have hlc := hidp (cC_len (h := h) (sl := .slice a l.length cap) hp.1)
  have hlp : ∀ a2 n2 cap2, (cC h p (.slice a2 n2 cap2)).length = 34 := fun a2 n2 cap2 => cC_len hp.1
  have hA := hidp (Blk.new w (cC h p (.slice a l.length cap)) 63)
  have hV := hidp ((Below.refl w.heap.size w).alloc (Nat.le_refl _) (.cells (cC h p (.slice a l.length cap)).toArray 63))
  have HT := hidp (hT.below hV.out)
  have HL := hidp (hL.below hV.out)
  clear hT hL
  skip
  go_enter Try.func10, Try.ntmps10
  go_wp2_with fail
  refine (lawKnown_w _).mono ?_
  rintro e w1 ⟨rfl, hb⟩
  replace hV := hidp (hV.out.trans (hb.mono hV.out.size))
  have KC := hidp (hb.blk' hA.out)
  replace HT := hidp (HT.out.below hb)
  replace HL := hidp (HL.out.below hb)
  clear hb hA
  go_wp2_with first
    | (with_reducible refine (?_ : wpList _ _ _ _ _ _); refine wpList_load_blkG (by kernel_rfl) 63 _ rfl w.heap.size (cC h p (.slice a l.length cap)) 63 rfl (KC.out) _ Try.underlying63 rfl (by rw [hlc.out]; kernel_rfl) ?_)
  refine (HLO.out _).mono ?_
  rintro e w2 ⟨rfl, hB⟩
  have hW := hidp (show Below w1.heap.size w1 w2 from hB)
  replace hV := hidp (hV.out.trans (hW.out.mono hV.out.size))
  replace KC := hidp (hW.out.blk' KC.out)
  replace HT := hidp (HT.out.below hW.out)
  replace HL := hidp (HL.out.below hW.out)
  clear hB hW HLO
  rw [t70]
  go_wp2_with fail
  refine (HD.out _ HL.out).mono ?_
  rintro e u1 ⟨a2, b2, cap2, n2, rfl, hn2, ht2, hB⟩
  have HM := hidp ht2
  replace hn2 := hidp hn2
  clear ht2
  have hW := hidp (show Below w2.heap.size w2 u1 from hB)
  replace hV := hidp (hV.out.trans (hW.out.mono hV.out.size))
  replace KC := hidp (hW.out.blk' KC.out)
  replace HT := hidp (HT.out.below hW.out)
  replace HL := hidp (HL.out.below hW.out)
  clear hB hW HD
  try rw [show ((0 : Nat) : Int) = 0 from rfl]
  have hl2 := hidp (hlm a2 n2 cap2)
  clear hlm
  have ho2 := hidp (cC_one h2 p2 a2 n2 cap2)
  go_wp2_with first
    | (with_reducible refine (?_ : wpList _ _ _ _ _ _); refine wpList_store_blk rfl 63 _ _ rfl u1.heap.size (cC h2 p2 (.slice a2 n2 cap2)) (cC 0 zh32 (.slice none 0 0)) 63 rfl rfl ((Blk.new u1 (cC 0 zh32 (.slice none 0 0)) _).alloc _) (by rw [hl2.out]; kernel_rfl) (hl0.out.trans (hl2.out).symm) (ho2.out) ?_; intro t1 ht1; have M1 := hidp (dres_row ht1.out); obtain ⟨k0, k1, k2, k3⟩ := M1.out.fc)
    | (with_reducible refine (?_ : wpList _ _ _ _ _ _); refine wpList_load_blkG (by kernel_rfl) 63 _ rfl u1.heap.size (cC h2 p2 (.slice a2 n2 cap2)) 63 rfl ((M1.out.fin 0 0).res) _ Try.underlying63 rfl (by rw [hl2.out]; kernel_rfl) ?_)
  have N1 := hidp (M1.out.fin 0 0)
  clear M1 ht1 k0 k1 k2 k3
  generalize (World.setCell _ _ _) = v1 at N1 ⊢
  have hB := N1.out.bel
  have hW := hidp (show Below u1.heap.size u1 v1 from hB)
  replace hV := hidp (hV.out.trans (hW.out.mono hV.out.size))
  replace KC := hidp (hW.out.blk' KC.out)
  replace HT := hidp (HT.out.below hW.out)
  replace HL := hidp (HL.out.below hW.out)
  replace HM := hidp (HM.out.below hW.out)
  clear hB hW
  refine (HE2.out _ a2 b2 cap2 n2 hn2.out HM.out).mono ?_
  rintro e u2 ⟨⟨p3, b3, cap3, rfl, _, _, hs⟩, hB⟩
  have HQ := hidp hs
  clear hs
  have hW := hidp (show Below v1.heap.size v1 u2 from hB)
  replace hV := hidp (hV.out.trans (hW.out.mono hV.out.size))
  replace KC := hidp (hW.out.blk' KC.out)
  replace HT := hidp (HT.out.below hW.out)
  replace HL := hidp (HL.out.below hW.out)
  replace HM := hidp (HM.out.below hW.out)
  replace N1 := hidp (N1.out.below hW.out)
  clear hB hW HE2
  clear HM
  try rw [show ((0 : Nat) : Int) = 0 from rfl]
  go_wp2_with first
    | (with_reducible refine (?_ : wpList _ _ _ _ _ _); refine wpList_load_blkG (by kernel_rfl) 55 _ rfl (u1.heap.size + 1) [.int .i64 0, .int .i64 0] 55 rfl (N1.out.flt) _ Try.underlying55 rfl (by kernel_rfl) ?_)
  refine (sameBytesC HQ.out HL.out rfl).mono ?_
  rintro e wx ⟨rfl, hwx⟩
  subst hwx
  clear HQ
  go_wp2_with first
    | (with_reducible refine (?_ : wpList _ _ _ _ _ _); refine wpList_load_blkG (by kernel_rfl) 55 _ rfl (u1.heap.size + 1) [.int .i64 0, .int .i64 0] 55 rfl (N1.out.flt) _ Try.underlying55 rfl (by kernel_rfl) ?_)
    | (with_reducible refine (?_ : wpList _ _ _ _ _ _); refine wpList_load_blkG (by kernel_rfl) 63 _ rfl w.heap.size (cC h p (.slice a l.length cap)) 63 rfl (KC.out) _ Try.underlying63 rfl (by rw [hlc.out]; kernel_rfl) ?_)
  refine (HC.out _ HT.out).mono ?_
  rintro e u4 ⟨rfl, hB⟩
  have hW := hidp (show Below u2.heap.size u2 u4 from hB)
  replace hV := hidp (hV.out.trans (hW.out.mono hV.out.size))
  replace KC := hidp (hW.out.blk' KC.out)
  replace HT := hidp (HT.out.below hW.out)
  replace HL := hidp (HL.out.below hW.out)
  clear hB hW HC N1 HL
  go_wp2
  go_ret
  exact ⟨rfl, hV.out⟩
set_option maxRecDepth 100000 in
set_option maxHeartbeats 16000000 in
theorem cback_ok0 (h : Int) (p : List Nat) (hp : Bytes 32 p) (a : Option Addr) (b o cap : Nat) (l : List Vt) (y : Int) (q : Option Addr) (bq oq cq : Nat) (L : List Nat) (w : World) (hT : Ts w a b o cap l) (hL : Bs w q bq oq L cq) (h70 : ¬ 70 < l.length) (hLs : L.length ≤ 1000) (hd : (decC L).e = 0) (hc : chkC h l = 0) : Calls Try.prog 10 #[.agg (cC h p (.slice a l.length cap)).toArray, .int .i64 y, .slice q L.length cq] w fun e w' => e = .returned (.bool true) ∧ Below w.heap.size w w' := by
  have hzz : ∀ w, (zeroValue 63).run Try.prog w = .ok (.agg (cC 0 zh32 (.slice none 0 0)).toArray) w := (zero_of_info (P := Try.prog) zero_com).1
  have hl0 := hidp (cC_len (h := 0) (sl := .slice none 0 0) (p := zh32) rfl)
  have ho0 := hidp (cC_one 0 zh32 none 0 0)
  have hgF : Try.prog.eqGuardType Try.prog.depth 55 = false := by kernel_rfl
  have HLO := hidp (fun W => clong_any h p hp.1 a l.length cap W)
  have t70 : decide ((70 : Int) < ((l.length : Nat) : Int)) = false := by first | exact decide_eq_true (by omega) | exact decide_eq_false (by omega)
  have t1k : decide ((1000 : Int) < ((L.length : Nat) : Int)) = false := by first | exact decide_eq_true (by omega) | exact decide_eq_false (by omega)
  have hLn := hidp hLs
  have HD := hidp (fun (W : World) (k : Bs W q bq oq L cq) => cdec_p q bq oq cq L.length L W k (by omega) rfl)
  obtain ⟨f0, hc2, hE2, hk2, hb2⟩ := decC_form hL.byte hd
  have HE2 := hidp (fun (W : World) (a2 : Option Addr) (b2 cap2 n2 : Nat) (e : n2 = (decC L).l.length) (k : Ts W a2 b2 0 cap2 (decC L).l) => (by have q := cencode_ok (decC L).h (decC L).p hb2 a2 b2 0 cap2 (decC L).l W k hc2; rw [hE2, ← e] at q; exact q : Calls Try.prog 40 #[.agg (cC (decC L).h (decC L).p (.slice a2 n2 cap2)).toArray] W (DoneP W L)))
  have hlm : ∀ a2 n2 cap2, (cC (decC L).h (decC L).p (.slice a2 n2 cap2)).length = 34 := fun a2 n2 cap2 => cC_len hb2.1
  have hd0 := hd
  clear hc2 hE2 hk2 hb2 hd0
  generalize decC L = D at *
  obtain ⟨h2, p2, l2, e2, f2⟩ := D
  simp only at hd f0 hlm
  subst hd f0
  have hef := eqF 0 0 0 0
  simp only [beq_self_eq_true, Bool.and_self] at hef
  have hnf := neF 0 0 0 0
  simp only [beq_self_eq_true, Bool.and_self, Bool.not_true] at hnf
  have HC := hidp (fun W (k : Ts W a b o cap l) => ccheck_any h p hp.1 a b o cap l W k)
  rw [hc] at HC
  have HE := hidp (fun W (k : Ts W a b o cap l) => cencode_ok h p hp a b o cap l W k hc)
  have HSC := hidp (fun (W : World) (a2 : Option Addr) (b2 cap2 n2 : Nat) (e : n2 = l.length) (k2 : Ts W a2 b2 0 cap2 l) (k : Ts W a b o cap l) => (by subst e; have q := sameCommit_any h p hp.1 a2 b2 0 cap2 l h p hp.1 a b o cap l W k2 k (by omega); rw [sameC_self] at q; exact q : Calls Try.prog 48 #[.agg (cC h p (.slice a2 n2 cap2)).toArray, .agg (cC h p (.slice a l.length cap)).toArray] W fun e w' => e = .returned (.bool true) ∧ Below W.heap.size W w'))
  have hel := encC_len h p l hp.1 (chkC_ok hc).2.1
  have HXl := hidp hel.1
  have HX0 := hidp hel.2
  have HXb := hidp (encC_byte (h := h) (l := l) hp)
  have HD1 := decC_back hp hc hT.ok
  have HD3 := decC_more hp hc hT.ok (Y := [0]) (Nat.zero_lt_succ _)
  have HD2 := hidp (fun r (hr : r < (encC h p l).length) => (decC_in (L := (encC h p l).take r) (fun x hx => encC_byte hp x (List.mem_of_mem_take hx))).2 (decC_cut hp hc hT.ok hr))
  have HD2e := hidp (fun r (hr : r < (encC h p l).length) => decC_cut hp hc hT.ok hr)
  clear hel hc
  generalize encC h p l = X at *
  have HP1 := hidp (fun p1 b1 c1 W (k : Bs W p1 b1 0 X c1) => (by have q := cdec_p p1 b1 0 c1 X.length X W k (by have := HXl.out; omega) rfl; rw [HD1] at q; exact q : Calls Try.prog 50 #[.slice p1 X.length c1] W (DecP W ⟨h, p, l, 0, 0⟩)))
  have HP3 := hidp (fun p1 b1 c1 W (k : Bs W p1 b1 0 (X ++ [0]) c1) => (by have q := cdec_p p1 b1 0 c1 (X ++ [0]).length (X ++ [0]) W k (by rw [List.length_append]; simp; have := HXl.out; omega) rfl; rw [HD3] at q; exact q : Calls Try.prog 50 #[.slice p1 (X ++ [0]).length c1] W (DecP W ⟨0, zh32, [], 4, (X.length : Nat)⟩)))
  have HP2 := hidp (fun p1 b1 c1 W (r : Nat) (hr : r < X.length) (k : Bs W p1 b1 0 X c1) => (show ∃ (e3 : Nat) (f3 : Int), e3 ≠ 0 ∧ Calls Try.prog 50 #[.slice p1 r c1] W (DecP W ⟨0, zh32, [], e3, f3⟩) from by
    have hn : (X.take r).length = r := by rw [List.length_take]; omega
    have q := cdec_p p1 b1 0 c1 r (X.take r) W (k.take r) (by have := HXl.out; omega) hn
    rw [HD2.out r hr] at q
    exact ⟨_, _, HD2e.out r hr, q⟩))
  clear HD1 HD2 HD2e HD3
  skip
  have hg4 := eqF 4 (X.length : Nat) 4 (X.length : Nat)
  simp only [beq_self_eq_true, Bool.and_self] at hg4
  skip
  have hlc := hidp (cC_len (h := h) (sl := .slice a l.length cap) hp.1)
  have hlp : ∀ a2 n2 cap2, (cC h p (.slice a2 n2 cap2)).length = 34 := fun a2 n2 cap2 => cC_len hp.1
  have hA := hidp (Blk.new w (cC h p (.slice a l.length cap)) 63)
  have hV := hidp ((Below.refl w.heap.size w).alloc (Nat.le_refl _) (.cells (cC h p (.slice a l.length cap)).toArray 63))
  have HT := hidp (hT.below hV.out)
  have HL := hidp (hL.below hV.out)
  clear hT hL
  skip
  go_enter Try.func10, Try.ntmps10
  go_wp2_with fail
  refine (lawKnown_w _).mono ?_
  rintro e w1 ⟨rfl, hb⟩
  replace hV := hidp (hV.out.trans (hb.mono hV.out.size))
  have KC := hidp (hb.blk' hA.out)
  replace HT := hidp (HT.out.below hb)
  replace HL := hidp (HL.out.below hb)
  clear hb hA
  go_wp2_with first
    | (with_reducible refine (?_ : wpList _ _ _ _ _ _); refine wpList_load_blkG (by kernel_rfl) 63 _ rfl w.heap.size (cC h p (.slice a l.length cap)) 63 rfl (KC.out) _ Try.underlying63 rfl (by rw [hlc.out]; kernel_rfl) ?_)
  refine (HLO.out _).mono ?_
  rintro e w2 ⟨rfl, hB⟩
  have hW := hidp (show Below w1.heap.size w1 w2 from hB)
  replace hV := hidp (hV.out.trans (hW.out.mono hV.out.size))
  replace KC := hidp (hW.out.blk' KC.out)
  replace HT := hidp (HT.out.below hW.out)
  replace HL := hidp (HL.out.below hW.out)
  clear hB hW HLO
  rw [t70]
  go_wp2_with fail
  refine (HD.out _ HL.out).mono ?_
  rintro e u1 ⟨a2, b2, cap2, n2, rfl, hn2, ht2, hB⟩
  have HM := hidp ht2
  replace hn2 := hidp hn2
  clear ht2
  have hW := hidp (show Below w2.heap.size w2 u1 from hB)
  replace hV := hidp (hV.out.trans (hW.out.mono hV.out.size))
  replace KC := hidp (hW.out.blk' KC.out)
  replace HT := hidp (HT.out.below hW.out)
  replace HL := hidp (HL.out.below hW.out)
  clear hB hW HD
  try rw [show ((0 : Nat) : Int) = 0 from rfl]
  have hl2 := hidp (hlm a2 n2 cap2)
  clear hlm
  have ho2 := hidp (cC_one h2 p2 a2 n2 cap2)
  go_wp2_with first
    | (with_reducible refine (?_ : wpList _ _ _ _ _ _); refine wpList_store_blk rfl 63 _ _ rfl u1.heap.size (cC h2 p2 (.slice a2 n2 cap2)) (cC 0 zh32 (.slice none 0 0)) 63 rfl rfl ((Blk.new u1 (cC 0 zh32 (.slice none 0 0)) _).alloc _) (by rw [hl2.out]; kernel_rfl) (hl0.out.trans (hl2.out).symm) (ho2.out) ?_; intro t1 ht1; have M1 := hidp (dres_row ht1.out); obtain ⟨k0, k1, k2, k3⟩ := M1.out.fc)
    | (with_reducible refine (?_ : wpList _ _ _ _ _ _); refine wpList_load_blkG (by kernel_rfl) 63 _ rfl u1.heap.size (cC h2 p2 (.slice a2 n2 cap2)) 63 rfl ((M1.out.fin 0 0).res) _ Try.underlying63 rfl (by rw [hl2.out]; kernel_rfl) ?_)
  have N1 := hidp (M1.out.fin 0 0)
  clear M1 ht1 k0 k1 k2 k3
  generalize (World.setCell _ _ _) = v1 at N1 ⊢
  have hB := N1.out.bel
  have hW := hidp (show Below u1.heap.size u1 v1 from hB)
  replace hV := hidp (hV.out.trans (hW.out.mono hV.out.size))
  replace KC := hidp (hW.out.blk' KC.out)
  replace HT := hidp (HT.out.below hW.out)
  replace HL := hidp (HL.out.below hW.out)
  replace HM := hidp (HM.out.below hW.out)
  clear hB hW
  refine (HE2.out _ a2 b2 cap2 n2 hn2.out HM.out).mono ?_
  rintro e u2 ⟨⟨p3, b3, cap3, rfl, _, _, hs⟩, hB⟩
  have HQ := hidp hs
  clear hs
  have hW := hidp (show Below v1.heap.size v1 u2 from hB)
  replace hV := hidp (hV.out.trans (hW.out.mono hV.out.size))
  replace KC := hidp (hW.out.blk' KC.out)
  replace HT := hidp (HT.out.below hW.out)
  replace HL := hidp (HL.out.below hW.out)
  replace HM := hidp (HM.out.below hW.out)
  replace N1 := hidp (N1.out.below hW.out)
  clear hB hW HE2
  clear HM
  try rw [show ((0 : Nat) : Int) = 0 from rfl]
  go_wp2_with first
    | (with_reducible refine (?_ : wpList _ _ _ _ _ _); refine wpList_load_blkG (by kernel_rfl) 55 _ rfl (u1.heap.size + 1) [.int .i64 0, .int .i64 0] 55 rfl (N1.out.flt) _ Try.underlying55 rfl (by kernel_rfl) ?_)
  refine (sameBytesC HQ.out HL.out rfl).mono ?_
  rintro e wx ⟨rfl, hwx⟩
  subst hwx
  clear HQ
  go_wp2_with first
    | (with_reducible refine (?_ : wpList _ _ _ _ _ _); refine wpList_load_blkG (by kernel_rfl) 55 _ rfl (u1.heap.size + 1) [.int .i64 0, .int .i64 0] 55 rfl (N1.out.flt) _ Try.underlying55 rfl (by kernel_rfl) ?_)
    | (with_reducible refine (?_ : wpList _ _ _ _ _ _); refine wpList_load_blkG (by kernel_rfl) 63 _ rfl w.heap.size (cC h p (.slice a l.length cap)) 63 rfl (KC.out) _ Try.underlying63 rfl (by rw [hlc.out]; kernel_rfl) ?_)
  refine (HC.out _ HT.out).mono ?_
  rintro e u4 ⟨rfl, hB⟩
  have hW := hidp (show Below u2.heap.size u2 u4 from hB)
  replace hV := hidp (hV.out.trans (hW.out.mono hV.out.size))
  replace KC := hidp (hW.out.blk' KC.out)
  replace HT := hidp (HT.out.below hW.out)
  replace HL := hidp (HL.out.below hW.out)
  clear hB hW HC N1 HL
  rw [show ((0 : Nat) : Int) = 0 from rfl]
  clear hn2 ho2 hl2
  go_wp2_with first
    | (with_reducible refine (?_ : wpList _ _ _ _ _ _); refine wpList_load_blkG (by kernel_rfl) 63 _ rfl w.heap.size (cC h p (.slice a l.length cap)) 63 rfl (KC.out) _ Try.underlying63 rfl (by rw [hlc.out]; kernel_rfl) ?_)
  refine (HE.out _ HT.out).mono ?_
  rintro e u5 ⟨⟨p1, b1, c1, rfl, _, hpn, hs⟩, hB⟩
  have E := hidp hs
  replace hpn := hidp hpn
  clear hs
  have hW := hidp (show Below u4.heap.size u4 u5 from hB)
  replace hV := hidp (hV.out.trans (hW.out.mono hV.out.size))
  replace KC := hidp (hW.out.blk' KC.out)
  replace HT := hidp (HT.out.below hW.out)
  clear hB hW HE
  go_wp2_with fail
  refine (HP1.out p1 b1 c1 _ E.out).mono ?_
  rintro e u6 ⟨a4, b4, c4, n4, rfl, hn4, ht4, hB⟩
  have HM := hidp ht4
  replace hn4 := hidp hn4
  clear ht4
  have hW := hidp (show Below u5.heap.size u5 u6 from hB)
  replace hV := hidp (hV.out.trans (hW.out.mono hV.out.size))
  replace KC := hidp (hW.out.blk' KC.out)
  replace HT := hidp (HT.out.below hW.out)
  replace E := hidp (E.out.below hW.out)
  clear hB hW HP1
  have hl4 := hidp (hlp a4 n4 c4)
  have ho4 := hidp (cC_one h p a4 n4 c4)
  try rw [show ((0 : Nat) : Int) = 0 from rfl]
  go_wp2_with first
    | (with_reducible refine (?_ : wpList _ _ _ _ _ _); refine wpList_store_blk rfl 63 _ _ rfl u6.heap.size (cC h p (.slice a4 n4 c4)) (cC 0 zh32 (.slice none 0 0)) 63 rfl rfl ((Blk.new u6 (cC 0 zh32 (.slice none 0 0)) _).alloc _) (by rw [hl4.out]; kernel_rfl) (hl0.out.trans (hl4.out).symm) (ho4.out) ?_; intro t6 ht6; have M6 := hidp (dres_row ht6.out); obtain ⟨k0, k1, k2, k3⟩ := M6.out.fc)
  have N6 := hidp (M6.out.fin 0 0)
  clear M6 ht6 k0 k1 k2 k3
  generalize (World.setCell _ _ _) = v6 at N6 ⊢
  have hB := N6.out.bel
  have hW := hidp (show Below u6.heap.size u6 v6 from hB)
  replace hV := hidp (hV.out.trans (hW.out.mono hV.out.size))
  replace KC := hidp (hW.out.blk' KC.out)
  replace HT := hidp (HT.out.below hW.out)
  replace E := hidp (E.out.below hW.out)
  replace HM := hidp (HM.out.below hW.out)
  clear hB hW
  go_wp2_with fail
  refine (Pick_wide y X.length _ (HX0.out) (by have := HXl.out; omega)).mono ?_
  rintro e wx ⟨⟨r, hr, rfl⟩, hwx⟩
  subst hwx
  have kp := fun w => run_part_h p1 X.length c1 r (by have := E.out.le; omega) w
  obtain ⟨e3, f3, he3, HD⟩ := HP2.out p1 b1 c1 _ r hr E.out
  replace HD := hidp HD
  replace he3 := hidp he3
  clear hr HP2
  go_wp2_with fail
  refine (HD.out).mono ?_
  rintro e u7 ⟨a5, b5, c5, n5, rfl, -, -, hB⟩
  have hW := hidp (show Below wx.heap.size wx u7 from hB)
  replace hV := hidp (hV.out.trans (hW.out.mono hV.out.size))
  replace KC := hidp (hW.out.blk' KC.out)
  replace HT := hidp (HT.out.below hW.out)
  replace E := hidp (E.out.below hW.out)
  replace HM := hidp (HM.out.below hW.out)
  replace N6 := hidp (N6.out.below hW.out)
  clear hB hW HD kp
  have hl5 := hidp (cC_len (h := 0) (p := zh32) (sl := .slice a5 n5 c5) rfl)
  have ho5 := hidp (cC_one 0 zh32 a5 n5 c5)
  go_wp2_with first
    | (with_reducible refine (?_ : wpList _ _ _ _ _ _); refine wpList_store_blk rfl 63 _ _ rfl u7.heap.size (cC 0 zh32 (.slice a5 n5 c5)) (cC 0 zh32 (.slice none 0 0)) 63 rfl rfl ((Blk.new u7 (cC 0 zh32 (.slice none 0 0)) _).alloc _) (by rw [hl5.out]; kernel_rfl) (hl0.out.trans (hl5.out).symm) (ho5.out) ?_; intro t7 ht7; have M7 := hidp (dres_row ht7.out); obtain ⟨k0, k1, k2, k3⟩ := M7.out.fc)
  have N7 := hidp (M7.out.fin (e3 : Nat) f3)
  clear M7 ht7 k0 k1 k2 k3
  generalize (World.setCell _ _ _) = v7 at N7 ⊢
  have hB := N7.out.bel
  have hW := hidp (show Below u7.heap.size u7 v7 from hB)
  replace hV := hidp (hV.out.trans (hW.out.mono hV.out.size))
  replace KC := hidp (hW.out.blk' KC.out)
  replace HT := hidp (HT.out.below hW.out)
  replace E := hidp (E.out.below hW.out)
  replace HM := hidp (HM.out.below hW.out)
  replace N6 := hidp (N6.out.below hW.out)
  clear hB hW
  go_wp2_with fail
  refine (copyBytes_any p1 c1 X v7 (ByS.of_bs E.out hpn.out) (by have := HXl.out; omega)).mono ?_
  rintro e w7 ⟨v, rfl, hq, hB⟩
  have hown := hidp hq
  have HB7 := hidp hB
  clear hq hB
  have HO1 := hidp (fun o : Obj => hown.out.alloc o)
  have HS1 := hidp (fun o : Obj => show v7.heap.size ≤ (w7.alloc o).heap.size by have := HB7.out.size; simp; omega)
  have HK1 := hidp (Blk.new w7 (bvs [0]) 5)
  have HL1 := hidp (show X.length + [0].length ≤ 4000000 by have := HXl.out; simp; omega)
  go_wp2_with (at_builtin; refine wpList_append_bsC (by kernel_rfl) _ _ rfl _ X.length (bvs X) _ rfl (HO1.out _) w7.heap.size [0] rfl HK1.out HL1.out (HS1.out _) ?_; intro v' w8 hown' hgrow; have hO := hidp hown'; have hG := hidp hgrow; clear hown' hgrow)
  have hB := (HB7.out.alloc HB7.out.size _).grown hG.out (HS1.out _) (fun j hj => ((HO1.out (.cells (bvs [0]).toArray 5)).lt j hj).1)
  have hO2 : w8.ownsRow v7.heap.size 5 1 v' (X ++ [0]).length (bvs (X ++ [0])) := by
    have q := hO.out
    rw [List.length_append]
    unfold bvs at q ⊢
    rw [List.map_append]
    exact q
  obtain ⟨q2, d2, c6, rfl, _, _, hs⟩ := Bs.of_own hO2 (fun z hz => by
    rcases List.mem_append.1 hz with h1 | h1
    · exact HXb.out z h1
    · rw [List.mem_singleton] at h1; omega)
  have M := hidp hs
  clear hs hO hO2 hown HB7 HO1 HS1 HK1 HL1 hG E hpn
  have hW := hidp (show Below v7.heap.size v7 w8 from hB)
  replace hV := hidp (hV.out.trans (hW.out.mono hV.out.size))
  replace KC := hidp (hW.out.blk' KC.out)
  replace HT := hidp (HT.out.below hW.out)
  replace HM := hidp (HM.out.below hW.out)
  replace N6 := hidp (N6.out.below hW.out)
  replace N7 := hidp (N7.out.below hW.out)
  clear hB hW
  go_wp2_with fail
  refine (HP3.out q2 d2 c6 _ M.out).mono ?_
  rintro e u8 ⟨a8, b8, c8, n8, rfl, -, -, hB⟩
  have hW := hidp (show Below w8.heap.size w8 u8 from hB)
  replace hV := hidp (hV.out.trans (hW.out.mono hV.out.size))
  replace KC := hidp (hW.out.blk' KC.out)
  replace HT := hidp (HT.out.below hW.out)
  replace HM := hidp (HM.out.below hW.out)
  replace N6 := hidp (N6.out.below hW.out)
  replace N7 := hidp (N7.out.below hW.out)
  clear hB hW HP3 M
  have hl8 := hidp (cC_len (h := 0) (p := zh32) (sl := .slice a8 n8 c8) rfl)
  have ho8 := hidp (cC_one 0 zh32 a8 n8 c8)
  have he3n : (((e3 : Nat) : Int) != 0) = true := by rw [bne_iff_ne]; have := he3.out; omega
  go_wp2_with first
    | (with_reducible refine (?_ : wpList _ _ _ _ _ _); refine wpList_store_blk rfl 63 _ _ rfl u8.heap.size (cC 0 zh32 (.slice a8 n8 c8)) (cC 0 zh32 (.slice none 0 0)) 63 rfl rfl ((Blk.new u8 (cC 0 zh32 (.slice none 0 0)) _).alloc _) (by rw [hl8.out]; kernel_rfl) (hl0.out.trans (hl8.out).symm) (ho8.out) ?_; intro t8 ht8; have M8 := hidp (dres_row ht8.out); obtain ⟨k0, k1, k2, k3⟩ := M8.out.fc)
    | (with_reducible refine (?_ : wpList _ _ _ _ _ _); refine wpList_load_blkG (by kernel_rfl) 55 _ rfl (u6.heap.size + 1) [.int .i64 0, .int .i64 0] 55 rfl (N6.out.below (M8.out.fin 4 (X.length : Nat)).bel).flt _ Try.underlying55 rfl (by kernel_rfl) ?_)
    | (with_reducible refine (?_ : wpList _ _ _ _ _ _); refine wpList_load_blkG (by kernel_rfl) 63 _ rfl u6.heap.size (cC h p (.slice a4 n4 c4)) 63 rfl (N6.out.below (M8.out.fin 4 (X.length : Nat)).bel).res _ Try.underlying63 rfl (by rw [hl4.out]; kernel_rfl) ?_)
    | (with_reducible refine (?_ : wpList _ _ _ _ _ _); refine wpList_load_blkG (by kernel_rfl) 63 _ rfl w.heap.size (cC h p (.slice a l.length cap)) 63 rfl ((M8.out.fin 4 (X.length : Nat)).bel.blk' KC.out) _ Try.underlying63 rfl (by rw [hlc.out]; kernel_rfl) ?_)
  have N8 := hidp (M8.out.fin 4 (X.length : Nat))
  clear M8 ht8 k0 k1 k2 k3
  generalize (World.setCell _ _ _) = v8 at N8 ⊢
  have hB := N8.out.bel
  have hW := hidp (show Below u8.heap.size u8 v8 from hB)
  replace hV := hidp (hV.out.trans (hW.out.mono hV.out.size))
  replace KC := hidp (hW.out.blk' KC.out)
  replace HT := hidp (HT.out.below hW.out)
  replace HM := hidp (HM.out.below hW.out)
  replace N6 := hidp (N6.out.below hW.out)
  replace N7 := hidp (N7.out.below hW.out)
  clear hB hW
  refine (HSC.out _ a4 b4 c4 n4 hn4.out HM.out HT.out).mono ?_
  rintro e u9 ⟨rfl, hB⟩
  have hW := hidp (show Below v8.heap.size v8 u9 from hB)
  replace hV := hidp (hV.out.trans (hW.out.mono hV.out.size))
  replace N7 := hidp (N7.out.below hW.out)
  replace N8 := hidp (N8.out.below hW.out)
  clear hB hW HSC HM HT KC N6
  have y0 := N7.out.flt.cell 0
  simp only [List.getElem?_cons_zero] at y0
  go_wp2_with first
    | (with_reducible refine (?_ : wpList _ _ _ _ _ _); refine wpList_load_blkG (by kernel_rfl) 55 _ rfl (u8.heap.size + 1) [.int .i64 4, .int .i64 (X.length : Nat)] 55 rfl (N8.out.flt) _ Try.underlying55 rfl (by kernel_rfl) ?_)
  go_ret
  exact ⟨rfl, hV.out⟩
set_option maxRecDepth 100000 in
set_option maxHeartbeats 16000000 in
theorem cback_bad1 (h : Int) (p : List Nat) (hp : Bytes 32 p) (a : Option Addr) (b o cap : Nat) (l : List Vt) (y : Int) (q : Option Addr) (bq oq cq : Nat) (L : List Nat) (w : World) (hT : Ts w a b o cap l) (hL : Bs w q bq oq L cq) (h70 : ¬ 70 < l.length) (hLs : L.length ≤ 1000) (hd : (decC L).e ≠ 0) (hc : chkC h l ≠ 0) : Calls Try.prog 10 #[.agg (cC h p (.slice a l.length cap)).toArray, .int .i64 y, .slice q L.length cq] w fun e w' => e = .returned (.bool true) ∧ Below w.heap.size w w' := by
  have hzz : ∀ w, (zeroValue 63).run Try.prog w = .ok (.agg (cC 0 zh32 (.slice none 0 0)).toArray) w := (zero_of_info (P := Try.prog) zero_com).1
  have hl0 := hidp (cC_len (h := 0) (sl := .slice none 0 0) (p := zh32) rfl)
  have ho0 := hidp (cC_one 0 zh32 none 0 0)
  have hgF : Try.prog.eqGuardType Try.prog.depth 55 = false := by kernel_rfl
  have HLO := hidp (fun W => clong_any h p hp.1 a l.length cap W)
  have t70 : decide ((70 : Int) < ((l.length : Nat) : Int)) = false := by first | exact decide_eq_true (by omega) | exact decide_eq_false (by omega)
  have t1k : decide ((1000 : Int) < ((L.length : Nat) : Int)) = false := by first | exact decide_eq_true (by omega) | exact decide_eq_false (by omega)
  have hLn := hidp hLs
  have HD := hidp (fun (W : World) (k : Bs W q bq oq L cq) => cdec_p q bq oq cq L.length L W k (by omega) rfl)
  obtain ⟨hin, heq⟩ := decC_in hL.byte
  replace heq := heq hd
  generalize hDe : decC L = D at *
  obtain ⟨h2, p2, l2, e2, f2⟩ := D
  simp only [dcE, DC.mk.injEq] at heq hin hd
  obtain ⟨rfl, rfl, rfl, -, -⟩ := heq
  clear hDe
  have HE2 := hidp (fun (W : World) (a2 : Option Addr) (b2 cap2 n2 : Nat) (e : n2 = 0) (k : Ts W a2 b2 0 cap2 []) => (by subst e; exact cencode_bad 0 zh32 rfl a2 b2 0 cap2 [] W k (by decide) : Calls Try.prog 40 #[.agg (cC 0 zh32 (.slice a2 n2 cap2)).toArray] W fun e w' => e = .returned (.tuple #[.slice none 0 0, .int .i64 (chkC 0 [] : Nat)]) ∧ Below W.heap.size W w'))
  have HS2 := hidp (fun (W : World) (a2 : Option Addr) (b2 cap2 n2 : Nat) (e : n2 = 0) (k : Ts W a2 b2 0 cap2 []) => (by subst e; have q := sameCommit_any 0 zh32 rfl a2 b2 0 cap2 [] 0 zh32 rfl none 0 0 0 [] W k (Ts.nil _ _ _) (by decide); rw [sameC_self] at q; exact q : Calls Try.prog 48 #[.agg (cC 0 zh32 (.slice a2 n2 cap2)).toArray, .agg (cC 0 zh32 (.slice none 0 0)).toArray] W fun e w' => e = .returned (.bool true) ∧ Below W.heap.size W w'))
  have hlm : ∀ a2 n2 cap2, (cC 0 zh32 (.slice a2 n2 cap2)).length = 34 := fun a2 n2 cap2 => cC_len rfl
  have he0 : (((e2 : Nat) : Int) == 0) = false := by rw [beq_eq_false_iff_ne]; omega
  have hef := eqF (e2 : Nat) f2 0 0
  simp only [he0, Bool.false_and] at hef
  have hnf := neF (e2 : Nat) f2 0 0
  simp only [he0, Bool.false_and, Bool.not_false] at hnf
  have g0 : decide (f2 < (0 : Int)) = false := decide_eq_false (by omega)
  have g1 : decide (((L.length : Nat) : Int) < f2) = false := decide_eq_false (by omega)
  clear hd he0 hin
  have HC := hidp (fun W (k : Ts W a b o cap l) => ccheck_any h p hp.1 a b o cap l W k)
  have hcn : (((chkC h l : Nat) : Int) != 0) = true := by rw [bne_iff_ne]; omega
  have hlc := hidp (cC_len (h := h) (sl := .slice a l.length cap) hp.1)
  have hlp : ∀ a2 n2 cap2, (cC h p (.slice a2 n2 cap2)).length = 34 := fun a2 n2 cap2 => cC_len hp.1
  have hA := hidp (Blk.new w (cC h p (.slice a l.length cap)) 63)
  have hV := hidp ((Below.refl w.heap.size w).alloc (Nat.le_refl _) (.cells (cC h p (.slice a l.length cap)).toArray 63))
  have HT := hidp (hT.below hV.out)
  have HL := hidp (hL.below hV.out)
  clear hT hL
  skip
  go_enter Try.func10, Try.ntmps10
  go_wp2_with fail
  refine (lawKnown_w _).mono ?_
  rintro e w1 ⟨rfl, hb⟩
  replace hV := hidp (hV.out.trans (hb.mono hV.out.size))
  have KC := hidp (hb.blk' hA.out)
  replace HT := hidp (HT.out.below hb)
  replace HL := hidp (HL.out.below hb)
  clear hb hA
  go_wp2_with first
    | (with_reducible refine (?_ : wpList _ _ _ _ _ _); refine wpList_load_blkG (by kernel_rfl) 63 _ rfl w.heap.size (cC h p (.slice a l.length cap)) 63 rfl (KC.out) _ Try.underlying63 rfl (by rw [hlc.out]; kernel_rfl) ?_)
  refine (HLO.out _).mono ?_
  rintro e w2 ⟨rfl, hB⟩
  have hW := hidp (show Below w1.heap.size w1 w2 from hB)
  replace hV := hidp (hV.out.trans (hW.out.mono hV.out.size))
  replace KC := hidp (hW.out.blk' KC.out)
  replace HT := hidp (HT.out.below hW.out)
  replace HL := hidp (HL.out.below hW.out)
  clear hB hW HLO
  rw [t70]
  go_wp2_with fail
  refine (HD.out _ HL.out).mono ?_
  rintro e u1 ⟨a2, b2, cap2, n2, rfl, hn2, ht2, hB⟩
  have HM := hidp ht2
  replace hn2 := hidp hn2
  clear ht2
  have hW := hidp (show Below w2.heap.size w2 u1 from hB)
  replace hV := hidp (hV.out.trans (hW.out.mono hV.out.size))
  replace KC := hidp (hW.out.blk' KC.out)
  replace HT := hidp (HT.out.below hW.out)
  replace HL := hidp (HL.out.below hW.out)
  clear hB hW HD
  try rw [show ((0 : Nat) : Int) = 0 from rfl]
  have hl2 := hidp (hlm a2 n2 cap2)
  clear hlm
  have ho2 := hidp (cC_one 0 zh32 a2 n2 cap2)
  go_wp2_with first
    | (with_reducible refine (?_ : wpList _ _ _ _ _ _); refine wpList_store_blk rfl 63 _ _ rfl u1.heap.size (cC 0 zh32 (.slice a2 n2 cap2)) (cC 0 zh32 (.slice none 0 0)) 63 rfl rfl ((Blk.new u1 (cC 0 zh32 (.slice none 0 0)) _).alloc _) (by rw [hl2.out]; kernel_rfl) (hl0.out.trans (hl2.out).symm) (ho2.out) ?_; intro t1 ht1; have M1 := hidp (dres_row ht1.out); obtain ⟨k0, k1, k2, k3⟩ := M1.out.fc)
    | (with_reducible refine (?_ : wpList _ _ _ _ _ _); refine wpList_load_blkG (by kernel_rfl) 63 _ rfl u1.heap.size (cC 0 zh32 (.slice a2 n2 cap2)) 63 rfl ((M1.out.fin (e2 : Nat) f2).res) _ Try.underlying63 rfl (by rw [hl2.out]; kernel_rfl) ?_)
  have N1 := hidp (M1.out.fin (e2 : Nat) f2)
  clear M1 ht1 k0 k1 k2 k3
  generalize (World.setCell _ _ _) = v1 at N1 ⊢
  have hB := N1.out.bel
  have hW := hidp (show Below u1.heap.size u1 v1 from hB)
  replace hV := hidp (hV.out.trans (hW.out.mono hV.out.size))
  replace KC := hidp (hW.out.blk' KC.out)
  replace HT := hidp (HT.out.below hW.out)
  replace HL := hidp (HL.out.below hW.out)
  replace HM := hidp (HM.out.below hW.out)
  clear hB hW
  refine (HE2.out _ a2 b2 cap2 n2 hn2.out HM.out).mono ?_
  rintro e u2 ⟨rfl, hB⟩
  rw [show ((chkC 0 [] : Nat) : Int) = 3 from by decide]
  have hW := hidp (show Below v1.heap.size v1 u2 from hB)
  replace hV := hidp (hV.out.trans (hW.out.mono hV.out.size))
  replace KC := hidp (hW.out.blk' KC.out)
  replace HT := hidp (HT.out.below hW.out)
  replace HL := hidp (HL.out.below hW.out)
  replace HM := hidp (HM.out.below hW.out)
  replace N1 := hidp (N1.out.below hW.out)
  clear hB hW HE2
  skip
  try rw [show ((0 : Nat) : Int) = 0 from rfl]
  go_wp2_with first
    | (with_reducible refine (?_ : wpList _ _ _ _ _ _); refine wpList_load_blkG (by kernel_rfl) 55 _ rfl (u1.heap.size + 1) [.int .i64 (e2 : Nat), .int .i64 f2] 55 rfl (N1.out.flt) _ Try.underlying55 rfl (by kernel_rfl) ?_)
    | (with_reducible refine (?_ : wpList _ _ _ _ _ _); refine wpList_load_blkG (by kernel_rfl) 63 _ rfl u1.heap.size (cC 0 zh32 (.slice a2 n2 cap2)) 63 rfl (N1.out.res) _ Try.underlying63 rfl (by rw [hl2.out]; kernel_rfl) ?_)
    | (with_reducible refine (?_ : wpList _ _ _ _ _ _); refine wpList_buildG (by kernel_rfl) 63 _ rfl (cC 0 zh32 (.slice none 0 0)).toArray (by kernel_rfl) ?_)
  refine (HS2.out _ a2 b2 cap2 n2 hn2.out HM.out).mono ?_
  rintro e u3 ⟨rfl, hB⟩
  have hW := hidp (show Below u2.heap.size u2 u3 from hB)
  replace hV := hidp (hV.out.trans (hW.out.mono hV.out.size))
  replace KC := hidp (hW.out.blk' KC.out)
  replace HT := hidp (HT.out.below hW.out)
  replace HL := hidp (HL.out.below hW.out)
  replace N1 := hidp (N1.out.below hW.out)
  clear hB hW HS2 HM
  obtain ⟨y0, y1, y2, y3⟩ := N1.out.fc
  go_wp2_with first
    | (with_reducible refine (?_ : wpList _ _ _ _ _ _); refine wpList_load_blkG (by kernel_rfl) 63 _ rfl w.heap.size (cC h p (.slice a l.length cap)) 63 rfl (KC.out) _ Try.underlying63 rfl (by rw [hlc.out]; kernel_rfl) ?_)
  refine (HC.out _ HT.out).mono ?_
  rintro e u4 ⟨rfl, hB⟩
  have hW := hidp (show Below u3.heap.size u3 u4 from hB)
  replace hV := hidp (hV.out.trans (hW.out.mono hV.out.size))
  replace KC := hidp (hW.out.blk' KC.out)
  replace HT := hidp (HT.out.below hW.out)
  replace HL := hidp (HL.out.below hW.out)
  clear hB hW HC N1 y0 y1 y2 y3 g0 g1 HL
  go_wp2
  go_ret
  exact ⟨rfl, hV.out⟩
set_option maxRecDepth 100000 in
set_option maxHeartbeats 16000000 in
theorem cback_ok1 (h : Int) (p : List Nat) (hp : Bytes 32 p) (a : Option Addr) (b o cap : Nat) (l : List Vt) (y : Int) (q : Option Addr) (bq oq cq : Nat) (L : List Nat) (w : World) (hT : Ts w a b o cap l) (hL : Bs w q bq oq L cq) (h70 : ¬ 70 < l.length) (hLs : L.length ≤ 1000) (hd : (decC L).e ≠ 0) (hc : chkC h l = 0) : Calls Try.prog 10 #[.agg (cC h p (.slice a l.length cap)).toArray, .int .i64 y, .slice q L.length cq] w fun e w' => e = .returned (.bool true) ∧ Below w.heap.size w w' := by
  have hzz : ∀ w, (zeroValue 63).run Try.prog w = .ok (.agg (cC 0 zh32 (.slice none 0 0)).toArray) w := (zero_of_info (P := Try.prog) zero_com).1
  have hl0 := hidp (cC_len (h := 0) (sl := .slice none 0 0) (p := zh32) rfl)
  have ho0 := hidp (cC_one 0 zh32 none 0 0)
  have hgF : Try.prog.eqGuardType Try.prog.depth 55 = false := by kernel_rfl
  have HLO := hidp (fun W => clong_any h p hp.1 a l.length cap W)
  have t70 : decide ((70 : Int) < ((l.length : Nat) : Int)) = false := by first | exact decide_eq_true (by omega) | exact decide_eq_false (by omega)
  have t1k : decide ((1000 : Int) < ((L.length : Nat) : Int)) = false := by first | exact decide_eq_true (by omega) | exact decide_eq_false (by omega)
  have hLn := hidp hLs
  have HD := hidp (fun (W : World) (k : Bs W q bq oq L cq) => cdec_p q bq oq cq L.length L W k (by omega) rfl)
  obtain ⟨hin, heq⟩ := decC_in hL.byte
  replace heq := heq hd
  generalize hDe : decC L = D at *
  obtain ⟨h2, p2, l2, e2, f2⟩ := D
  simp only [dcE, DC.mk.injEq] at heq hin hd
  obtain ⟨rfl, rfl, rfl, -, -⟩ := heq
  clear hDe
  have HE2 := hidp (fun (W : World) (a2 : Option Addr) (b2 cap2 n2 : Nat) (e : n2 = 0) (k : Ts W a2 b2 0 cap2 []) => (by subst e; exact cencode_bad 0 zh32 rfl a2 b2 0 cap2 [] W k (by decide) : Calls Try.prog 40 #[.agg (cC 0 zh32 (.slice a2 n2 cap2)).toArray] W fun e w' => e = .returned (.tuple #[.slice none 0 0, .int .i64 (chkC 0 [] : Nat)]) ∧ Below W.heap.size W w'))
  have HS2 := hidp (fun (W : World) (a2 : Option Addr) (b2 cap2 n2 : Nat) (e : n2 = 0) (k : Ts W a2 b2 0 cap2 []) => (by subst e; have q := sameCommit_any 0 zh32 rfl a2 b2 0 cap2 [] 0 zh32 rfl none 0 0 0 [] W k (Ts.nil _ _ _) (by decide); rw [sameC_self] at q; exact q : Calls Try.prog 48 #[.agg (cC 0 zh32 (.slice a2 n2 cap2)).toArray, .agg (cC 0 zh32 (.slice none 0 0)).toArray] W fun e w' => e = .returned (.bool true) ∧ Below W.heap.size W w'))
  have hlm : ∀ a2 n2 cap2, (cC 0 zh32 (.slice a2 n2 cap2)).length = 34 := fun a2 n2 cap2 => cC_len rfl
  have he0 : (((e2 : Nat) : Int) == 0) = false := by rw [beq_eq_false_iff_ne]; omega
  have hef := eqF (e2 : Nat) f2 0 0
  simp only [he0, Bool.false_and] at hef
  have hnf := neF (e2 : Nat) f2 0 0
  simp only [he0, Bool.false_and, Bool.not_false] at hnf
  have g0 : decide (f2 < (0 : Int)) = false := decide_eq_false (by omega)
  have g1 : decide (((L.length : Nat) : Int) < f2) = false := decide_eq_false (by omega)
  clear hd he0 hin
  have HC := hidp (fun W (k : Ts W a b o cap l) => ccheck_any h p hp.1 a b o cap l W k)
  rw [hc] at HC
  have HE := hidp (fun W (k : Ts W a b o cap l) => cencode_ok h p hp a b o cap l W k hc)
  have HSC := hidp (fun (W : World) (a2 : Option Addr) (b2 cap2 n2 : Nat) (e : n2 = l.length) (k2 : Ts W a2 b2 0 cap2 l) (k : Ts W a b o cap l) => (by subst e; have q := sameCommit_any h p hp.1 a2 b2 0 cap2 l h p hp.1 a b o cap l W k2 k (by omega); rw [sameC_self] at q; exact q : Calls Try.prog 48 #[.agg (cC h p (.slice a2 n2 cap2)).toArray, .agg (cC h p (.slice a l.length cap)).toArray] W fun e w' => e = .returned (.bool true) ∧ Below W.heap.size W w'))
  have hel := encC_len h p l hp.1 (chkC_ok hc).2.1
  have HXl := hidp hel.1
  have HX0 := hidp hel.2
  have HXb := hidp (encC_byte (h := h) (l := l) hp)
  have HD1 := decC_back hp hc hT.ok
  have HD3 := decC_more hp hc hT.ok (Y := [0]) (Nat.zero_lt_succ _)
  have HD2 := hidp (fun r (hr : r < (encC h p l).length) => (decC_in (L := (encC h p l).take r) (fun x hx => encC_byte hp x (List.mem_of_mem_take hx))).2 (decC_cut hp hc hT.ok hr))
  have HD2e := hidp (fun r (hr : r < (encC h p l).length) => decC_cut hp hc hT.ok hr)
  clear hel hc
  generalize encC h p l = X at *
  have HP1 := hidp (fun p1 b1 c1 W (k : Bs W p1 b1 0 X c1) => (by have q := cdec_p p1 b1 0 c1 X.length X W k (by have := HXl.out; omega) rfl; rw [HD1] at q; exact q : Calls Try.prog 50 #[.slice p1 X.length c1] W (DecP W ⟨h, p, l, 0, 0⟩)))
  have HP3 := hidp (fun p1 b1 c1 W (k : Bs W p1 b1 0 (X ++ [0]) c1) => (by have q := cdec_p p1 b1 0 c1 (X ++ [0]).length (X ++ [0]) W k (by rw [List.length_append]; simp; have := HXl.out; omega) rfl; rw [HD3] at q; exact q : Calls Try.prog 50 #[.slice p1 (X ++ [0]).length c1] W (DecP W ⟨0, zh32, [], 4, (X.length : Nat)⟩)))
  have HP2 := hidp (fun p1 b1 c1 W (r : Nat) (hr : r < X.length) (k : Bs W p1 b1 0 X c1) => (show ∃ (e3 : Nat) (f3 : Int), e3 ≠ 0 ∧ Calls Try.prog 50 #[.slice p1 r c1] W (DecP W ⟨0, zh32, [], e3, f3⟩) from by
    have hn : (X.take r).length = r := by rw [List.length_take]; omega
    have q := cdec_p p1 b1 0 c1 r (X.take r) W (k.take r) (by have := HXl.out; omega) hn
    rw [HD2.out r hr] at q
    exact ⟨_, _, HD2e.out r hr, q⟩))
  clear HD1 HD2 HD2e HD3
  have hgz := eqF 0 0 0 0
  simp only [beq_self_eq_true, Bool.and_self] at hgz
  have hg4 := eqF 4 (X.length : Nat) 4 (X.length : Nat)
  simp only [beq_self_eq_true, Bool.and_self] at hg4
  skip
  have hlc := hidp (cC_len (h := h) (sl := .slice a l.length cap) hp.1)
  have hlp : ∀ a2 n2 cap2, (cC h p (.slice a2 n2 cap2)).length = 34 := fun a2 n2 cap2 => cC_len hp.1
  have hA := hidp (Blk.new w (cC h p (.slice a l.length cap)) 63)
  have hV := hidp ((Below.refl w.heap.size w).alloc (Nat.le_refl _) (.cells (cC h p (.slice a l.length cap)).toArray 63))
  have HT := hidp (hT.below hV.out)
  have HL := hidp (hL.below hV.out)
  clear hT hL
  skip
  go_enter Try.func10, Try.ntmps10
  go_wp2_with fail
  refine (lawKnown_w _).mono ?_
  rintro e w1 ⟨rfl, hb⟩
  replace hV := hidp (hV.out.trans (hb.mono hV.out.size))
  have KC := hidp (hb.blk' hA.out)
  replace HT := hidp (HT.out.below hb)
  replace HL := hidp (HL.out.below hb)
  clear hb hA
  go_wp2_with first
    | (with_reducible refine (?_ : wpList _ _ _ _ _ _); refine wpList_load_blkG (by kernel_rfl) 63 _ rfl w.heap.size (cC h p (.slice a l.length cap)) 63 rfl (KC.out) _ Try.underlying63 rfl (by rw [hlc.out]; kernel_rfl) ?_)
  refine (HLO.out _).mono ?_
  rintro e w2 ⟨rfl, hB⟩
  have hW := hidp (show Below w1.heap.size w1 w2 from hB)
  replace hV := hidp (hV.out.trans (hW.out.mono hV.out.size))
  replace KC := hidp (hW.out.blk' KC.out)
  replace HT := hidp (HT.out.below hW.out)
  replace HL := hidp (HL.out.below hW.out)
  clear hB hW HLO
  rw [t70]
  go_wp2_with fail
  refine (HD.out _ HL.out).mono ?_
  rintro e u1 ⟨a2, b2, cap2, n2, rfl, hn2, ht2, hB⟩
  have HM := hidp ht2
  replace hn2 := hidp hn2
  clear ht2
  have hW := hidp (show Below w2.heap.size w2 u1 from hB)
  replace hV := hidp (hV.out.trans (hW.out.mono hV.out.size))
  replace KC := hidp (hW.out.blk' KC.out)
  replace HT := hidp (HT.out.below hW.out)
  replace HL := hidp (HL.out.below hW.out)
  clear hB hW HD
  try rw [show ((0 : Nat) : Int) = 0 from rfl]
  have hl2 := hidp (hlm a2 n2 cap2)
  clear hlm
  have ho2 := hidp (cC_one 0 zh32 a2 n2 cap2)
  go_wp2_with first
    | (with_reducible refine (?_ : wpList _ _ _ _ _ _); refine wpList_store_blk rfl 63 _ _ rfl u1.heap.size (cC 0 zh32 (.slice a2 n2 cap2)) (cC 0 zh32 (.slice none 0 0)) 63 rfl rfl ((Blk.new u1 (cC 0 zh32 (.slice none 0 0)) _).alloc _) (by rw [hl2.out]; kernel_rfl) (hl0.out.trans (hl2.out).symm) (ho2.out) ?_; intro t1 ht1; have M1 := hidp (dres_row ht1.out); obtain ⟨k0, k1, k2, k3⟩ := M1.out.fc)
    | (with_reducible refine (?_ : wpList _ _ _ _ _ _); refine wpList_load_blkG (by kernel_rfl) 63 _ rfl u1.heap.size (cC 0 zh32 (.slice a2 n2 cap2)) 63 rfl ((M1.out.fin (e2 : Nat) f2).res) _ Try.underlying63 rfl (by rw [hl2.out]; kernel_rfl) ?_)
  have N1 := hidp (M1.out.fin (e2 : Nat) f2)
  clear M1 ht1 k0 k1 k2 k3
  generalize (World.setCell _ _ _) = v1 at N1 ⊢
  have hB := N1.out.bel
  have hW := hidp (show Below u1.heap.size u1 v1 from hB)
  replace hV := hidp (hV.out.trans (hW.out.mono hV.out.size))
  replace KC := hidp (hW.out.blk' KC.out)
  replace HT := hidp (HT.out.below hW.out)
  replace HL := hidp (HL.out.below hW.out)
  replace HM := hidp (HM.out.below hW.out)
  clear hB hW
  refine (HE2.out _ a2 b2 cap2 n2 hn2.out HM.out).mono ?_
  rintro e u2 ⟨rfl, hB⟩
  rw [show ((chkC 0 [] : Nat) : Int) = 3 from by decide]
  have hW := hidp (show Below v1.heap.size v1 u2 from hB)
  replace hV := hidp (hV.out.trans (hW.out.mono hV.out.size))
  replace KC := hidp (hW.out.blk' KC.out)
  replace HT := hidp (HT.out.below hW.out)
  replace HL := hidp (HL.out.below hW.out)
  replace HM := hidp (HM.out.below hW.out)
  replace N1 := hidp (N1.out.below hW.out)
  clear hB hW HE2
  skip
  try rw [show ((0 : Nat) : Int) = 0 from rfl]
  go_wp2_with first
    | (with_reducible refine (?_ : wpList _ _ _ _ _ _); refine wpList_load_blkG (by kernel_rfl) 55 _ rfl (u1.heap.size + 1) [.int .i64 (e2 : Nat), .int .i64 f2] 55 rfl (N1.out.flt) _ Try.underlying55 rfl (by kernel_rfl) ?_)
    | (with_reducible refine (?_ : wpList _ _ _ _ _ _); refine wpList_load_blkG (by kernel_rfl) 63 _ rfl u1.heap.size (cC 0 zh32 (.slice a2 n2 cap2)) 63 rfl (N1.out.res) _ Try.underlying63 rfl (by rw [hl2.out]; kernel_rfl) ?_)
    | (with_reducible refine (?_ : wpList _ _ _ _ _ _); refine wpList_buildG (by kernel_rfl) 63 _ rfl (cC 0 zh32 (.slice none 0 0)).toArray (by kernel_rfl) ?_)
  refine (HS2.out _ a2 b2 cap2 n2 hn2.out HM.out).mono ?_
  rintro e u3 ⟨rfl, hB⟩
  have hW := hidp (show Below u2.heap.size u2 u3 from hB)
  replace hV := hidp (hV.out.trans (hW.out.mono hV.out.size))
  replace KC := hidp (hW.out.blk' KC.out)
  replace HT := hidp (HT.out.below hW.out)
  replace HL := hidp (HL.out.below hW.out)
  replace N1 := hidp (N1.out.below hW.out)
  clear hB hW HS2 HM
  obtain ⟨y0, y1, y2, y3⟩ := N1.out.fc
  go_wp2_with first
    | (with_reducible refine (?_ : wpList _ _ _ _ _ _); refine wpList_load_blkG (by kernel_rfl) 63 _ rfl w.heap.size (cC h p (.slice a l.length cap)) 63 rfl (KC.out) _ Try.underlying63 rfl (by rw [hlc.out]; kernel_rfl) ?_)
  refine (HC.out _ HT.out).mono ?_
  rintro e u4 ⟨rfl, hB⟩
  have hW := hidp (show Below u3.heap.size u3 u4 from hB)
  replace hV := hidp (hV.out.trans (hW.out.mono hV.out.size))
  replace KC := hidp (hW.out.blk' KC.out)
  replace HT := hidp (HT.out.below hW.out)
  replace HL := hidp (HL.out.below hW.out)
  clear hB hW HC N1 y0 y1 y2 y3 g0 g1 HL
  rw [show ((0 : Nat) : Int) = 0 from rfl]
  clear hn2 ho2 hl2 hef hnf
  go_wp2_with first
    | (with_reducible refine (?_ : wpList _ _ _ _ _ _); refine wpList_load_blkG (by kernel_rfl) 63 _ rfl w.heap.size (cC h p (.slice a l.length cap)) 63 rfl (KC.out) _ Try.underlying63 rfl (by rw [hlc.out]; kernel_rfl) ?_)
  refine (HE.out _ HT.out).mono ?_
  rintro e u5 ⟨⟨p1, b1, c1, rfl, _, hpn, hs⟩, hB⟩
  have E := hidp hs
  replace hpn := hidp hpn
  clear hs
  have hW := hidp (show Below u4.heap.size u4 u5 from hB)
  replace hV := hidp (hV.out.trans (hW.out.mono hV.out.size))
  replace KC := hidp (hW.out.blk' KC.out)
  replace HT := hidp (HT.out.below hW.out)
  clear hB hW HE
  go_wp2_with fail
  refine (HP1.out p1 b1 c1 _ E.out).mono ?_
  rintro e u6 ⟨a4, b4, c4, n4, rfl, hn4, ht4, hB⟩
  have HM := hidp ht4
  replace hn4 := hidp hn4
  clear ht4
  have hW := hidp (show Below u5.heap.size u5 u6 from hB)
  replace hV := hidp (hV.out.trans (hW.out.mono hV.out.size))
  replace KC := hidp (hW.out.blk' KC.out)
  replace HT := hidp (HT.out.below hW.out)
  replace E := hidp (E.out.below hW.out)
  clear hB hW HP1
  have hl4 := hidp (hlp a4 n4 c4)
  have ho4 := hidp (cC_one h p a4 n4 c4)
  try rw [show ((0 : Nat) : Int) = 0 from rfl]
  go_wp2_with first
    | (with_reducible refine (?_ : wpList _ _ _ _ _ _); refine wpList_store_blk rfl 63 _ _ rfl u6.heap.size (cC h p (.slice a4 n4 c4)) (cC 0 zh32 (.slice none 0 0)) 63 rfl rfl ((Blk.new u6 (cC 0 zh32 (.slice none 0 0)) _).alloc _) (by rw [hl4.out]; kernel_rfl) (hl0.out.trans (hl4.out).symm) (ho4.out) ?_; intro t6 ht6; have M6 := hidp (dres_row ht6.out); obtain ⟨k0, k1, k2, k3⟩ := M6.out.fc)
  have N6 := hidp (M6.out.fin 0 0)
  clear M6 ht6 k0 k1 k2 k3
  generalize (World.setCell _ _ _) = v6 at N6 ⊢
  have hB := N6.out.bel
  have hW := hidp (show Below u6.heap.size u6 v6 from hB)
  replace hV := hidp (hV.out.trans (hW.out.mono hV.out.size))
  replace KC := hidp (hW.out.blk' KC.out)
  replace HT := hidp (HT.out.below hW.out)
  replace E := hidp (E.out.below hW.out)
  replace HM := hidp (HM.out.below hW.out)
  clear hB hW
  go_wp2_with fail
  refine (Pick_wide y X.length _ (HX0.out) (by have := HXl.out; omega)).mono ?_
  rintro e wx ⟨⟨r, hr, rfl⟩, hwx⟩
  subst hwx
  have kp := fun w => run_part_h p1 X.length c1 r (by have := E.out.le; omega) w
  obtain ⟨e3, f3, he3, HD⟩ := HP2.out p1 b1 c1 _ r hr E.out
  replace HD := hidp HD
  replace he3 := hidp he3
  clear hr HP2
  go_wp2_with fail
  refine (HD.out).mono ?_
  rintro e u7 ⟨a5, b5, c5, n5, rfl, -, -, hB⟩
  have hW := hidp (show Below wx.heap.size wx u7 from hB)
  replace hV := hidp (hV.out.trans (hW.out.mono hV.out.size))
  replace KC := hidp (hW.out.blk' KC.out)
  replace HT := hidp (HT.out.below hW.out)
  replace E := hidp (E.out.below hW.out)
  replace HM := hidp (HM.out.below hW.out)
  replace N6 := hidp (N6.out.below hW.out)
  clear hB hW HD kp
  have hl5 := hidp (cC_len (h := 0) (p := zh32) (sl := .slice a5 n5 c5) rfl)
  have ho5 := hidp (cC_one 0 zh32 a5 n5 c5)
  go_wp2_with first
    | (with_reducible refine (?_ : wpList _ _ _ _ _ _); refine wpList_store_blk rfl 63 _ _ rfl u7.heap.size (cC 0 zh32 (.slice a5 n5 c5)) (cC 0 zh32 (.slice none 0 0)) 63 rfl rfl ((Blk.new u7 (cC 0 zh32 (.slice none 0 0)) _).alloc _) (by rw [hl5.out]; kernel_rfl) (hl0.out.trans (hl5.out).symm) (ho5.out) ?_; intro t7 ht7; have M7 := hidp (dres_row ht7.out); obtain ⟨k0, k1, k2, k3⟩ := M7.out.fc)
  have N7 := hidp (M7.out.fin (e3 : Nat) f3)
  clear M7 ht7 k0 k1 k2 k3
  generalize (World.setCell _ _ _) = v7 at N7 ⊢
  have hB := N7.out.bel
  have hW := hidp (show Below u7.heap.size u7 v7 from hB)
  replace hV := hidp (hV.out.trans (hW.out.mono hV.out.size))
  replace KC := hidp (hW.out.blk' KC.out)
  replace HT := hidp (HT.out.below hW.out)
  replace E := hidp (E.out.below hW.out)
  replace HM := hidp (HM.out.below hW.out)
  replace N6 := hidp (N6.out.below hW.out)
  clear hB hW
  go_wp2_with fail
  refine (copyBytes_any p1 c1 X v7 (ByS.of_bs E.out hpn.out) (by have := HXl.out; omega)).mono ?_
  rintro e w7 ⟨v, rfl, hq, hB⟩
  have hown := hidp hq
  have HB7 := hidp hB
  clear hq hB
  have HO1 := hidp (fun o : Obj => hown.out.alloc o)
  have HS1 := hidp (fun o : Obj => show v7.heap.size ≤ (w7.alloc o).heap.size by have := HB7.out.size; simp; omega)
  have HK1 := hidp (Blk.new w7 (bvs [0]) 5)
  have HL1 := hidp (show X.length + [0].length ≤ 4000000 by have := HXl.out; simp; omega)
  go_wp2_with (at_builtin; refine wpList_append_bsC (by kernel_rfl) _ _ rfl _ X.length (bvs X) _ rfl (HO1.out _) w7.heap.size [0] rfl HK1.out HL1.out (HS1.out _) ?_; intro v' w8 hown' hgrow; have hO := hidp hown'; have hG := hidp hgrow; clear hown' hgrow)
  have hB := (HB7.out.alloc HB7.out.size _).grown hG.out (HS1.out _) (fun j hj => ((HO1.out (.cells (bvs [0]).toArray 5)).lt j hj).1)
  have hO2 : w8.ownsRow v7.heap.size 5 1 v' (X ++ [0]).length (bvs (X ++ [0])) := by
    have q := hO.out
    rw [List.length_append]
    unfold bvs at q ⊢
    rw [List.map_append]
    exact q
  obtain ⟨q2, d2, c6, rfl, _, _, hs⟩ := Bs.of_own hO2 (fun z hz => by
    rcases List.mem_append.1 hz with h1 | h1
    · exact HXb.out z h1
    · rw [List.mem_singleton] at h1; omega)
  have M := hidp hs
  clear hs hO hO2 hown HB7 HO1 HS1 HK1 HL1 hG E hpn
  have hW := hidp (show Below v7.heap.size v7 w8 from hB)
  replace hV := hidp (hV.out.trans (hW.out.mono hV.out.size))
  replace KC := hidp (hW.out.blk' KC.out)
  replace HT := hidp (HT.out.below hW.out)
  replace HM := hidp (HM.out.below hW.out)
  replace N6 := hidp (N6.out.below hW.out)
  replace N7 := hidp (N7.out.below hW.out)
  clear hB hW
  go_wp2_with fail
  refine (HP3.out q2 d2 c6 _ M.out).mono ?_
  rintro e u8 ⟨a8, b8, c8, n8, rfl, -, -, hB⟩
  have hW := hidp (show Below w8.heap.size w8 u8 from hB)
  replace hV := hidp (hV.out.trans (hW.out.mono hV.out.size))
  replace KC := hidp (hW.out.blk' KC.out)
  replace HT := hidp (HT.out.below hW.out)
  replace HM := hidp (HM.out.below hW.out)
  replace N6 := hidp (N6.out.below hW.out)
  replace N7 := hidp (N7.out.below hW.out)
  clear hB hW HP3 M
  have hl8 := hidp (cC_len (h := 0) (p := zh32) (sl := .slice a8 n8 c8) rfl)
  have ho8 := hidp (cC_one 0 zh32 a8 n8 c8)
  have he3n : (((e3 : Nat) : Int) != 0) = true := by rw [bne_iff_ne]; have := he3.out; omega
  go_wp2_with first
    | (with_reducible refine (?_ : wpList _ _ _ _ _ _); refine wpList_store_blk rfl 63 _ _ rfl u8.heap.size (cC 0 zh32 (.slice a8 n8 c8)) (cC 0 zh32 (.slice none 0 0)) 63 rfl rfl ((Blk.new u8 (cC 0 zh32 (.slice none 0 0)) _).alloc _) (by rw [hl8.out]; kernel_rfl) (hl0.out.trans (hl8.out).symm) (ho8.out) ?_; intro t8 ht8; have M8 := hidp (dres_row ht8.out); obtain ⟨k0, k1, k2, k3⟩ := M8.out.fc)
    | (with_reducible refine (?_ : wpList _ _ _ _ _ _); refine wpList_load_blkG (by kernel_rfl) 55 _ rfl (u6.heap.size + 1) [.int .i64 0, .int .i64 0] 55 rfl (N6.out.below (M8.out.fin 4 (X.length : Nat)).bel).flt _ Try.underlying55 rfl (by kernel_rfl) ?_)
    | (with_reducible refine (?_ : wpList _ _ _ _ _ _); refine wpList_load_blkG (by kernel_rfl) 63 _ rfl u6.heap.size (cC h p (.slice a4 n4 c4)) 63 rfl (N6.out.below (M8.out.fin 4 (X.length : Nat)).bel).res _ Try.underlying63 rfl (by rw [hl4.out]; kernel_rfl) ?_)
    | (with_reducible refine (?_ : wpList _ _ _ _ _ _); refine wpList_load_blkG (by kernel_rfl) 63 _ rfl w.heap.size (cC h p (.slice a l.length cap)) 63 rfl ((M8.out.fin 4 (X.length : Nat)).bel.blk' KC.out) _ Try.underlying63 rfl (by rw [hlc.out]; kernel_rfl) ?_)
  have N8 := hidp (M8.out.fin 4 (X.length : Nat))
  clear M8 ht8 k0 k1 k2 k3
  generalize (World.setCell _ _ _) = v8 at N8 ⊢
  have hB := N8.out.bel
  have hW := hidp (show Below u8.heap.size u8 v8 from hB)
  replace hV := hidp (hV.out.trans (hW.out.mono hV.out.size))
  replace KC := hidp (hW.out.blk' KC.out)
  replace HT := hidp (HT.out.below hW.out)
  replace HM := hidp (HM.out.below hW.out)
  replace N6 := hidp (N6.out.below hW.out)
  replace N7 := hidp (N7.out.below hW.out)
  clear hB hW
  refine (HSC.out _ a4 b4 c4 n4 hn4.out HM.out HT.out).mono ?_
  rintro e u9 ⟨rfl, hB⟩
  have hW := hidp (show Below v8.heap.size v8 u9 from hB)
  replace hV := hidp (hV.out.trans (hW.out.mono hV.out.size))
  replace N7 := hidp (N7.out.below hW.out)
  replace N8 := hidp (N8.out.below hW.out)
  clear hB hW HSC HM HT KC N6
  have y0 := N7.out.flt.cell 0
  simp only [List.getElem?_cons_zero] at y0
  go_wp2_with first
    | (with_reducible refine (?_ : wpList _ _ _ _ _ _); refine wpList_load_blkG (by kernel_rfl) 55 _ rfl (u8.heap.size + 1) [.int .i64 4, .int .i64 (X.length : Nat)] 55 rfl (N8.out.flt) _ Try.underlying55 rfl (by kernel_rfl) ?_)
  go_ret
  exact ⟨rfl, hV.out⟩
theorem cback_any (h : Int) (p : List Nat) (a : Option Addr) (b o cap : Nat) (l : List Vt) (y : Int) (q : Option Addr) (bq oq cq : Nat) (L : List Nat) (w : World) (hp : Bytes 32 p) (hT : Ts w a b o cap l) (_ : a = none → cap = 0) (_ : -9223372036854775808 ≤ y ∧ y ≤ 9223372036854775807) (hL : Bs w q bq oq L cq) : Calls Try.prog 10 #[.agg (cC h p (.slice a l.length cap)).toArray, .int .i64 y, .slice q L.length cq] w fun e w' => e = .returned (.bool true) ∧ Below w.heap.size w w' := by
  by_cases h70 : 70 < l.length
  · exact cback_long1 h p hp a b o cap l y q bq oq cq L w hT hL h70
  by_cases h1k : 1000 < L.length
  · exact cback_long2 h p hp a b o cap l y q bq oq cq L w hT hL h70 h1k
  by_cases hd : (decC L).e = 0 <;> by_cases hc : chkC h l = 0
  · exact cback_ok0 h p hp a b o cap l y q bq oq cq L w hT hL h70 (by omega) hd hc
  · exact cback_bad0 h p hp a b o cap l y q bq oq cq L w hT hL h70 (by omega) hd hc
  · exact cback_ok1 h p hp a b o cap l y q bq oq cq L w hT hL h70 (by omega) hd hc
  · exact cback_bad1 h p hp a b o cap l y q bq oq cq L w hT hL h70 (by omega) hd hc
end Go.Proofs.Ytlcflcohlbckfaa
