/-
  Commit: the walk of CommitDecodes.
-/
import Derived.Test.YtlcflcohlbckfaaL7w
import Derived.Test.YtlcflcohlbckfaaL7v
import Derived.Test.YtlcflcohlbckfaaLk
import Derived.Test.YtlcflcohlbckfaaUj
namespace Go.Proofs.Ytlcflcohlbckfaa
set_option linter.unusedSimpArgs false
open Go.RowKit Go.Lib

structure OvC (w wr : World) (cs : List Value) (g m : Nat) : Prop where
  blk : ∃ ds, Blk wr g ds 85 ∧ ds.length = m
  bex : Bex g w wr
  kc : Blk wr w.heap.size cs 63
theorem two_in {w : World} {g m i : Nat} {cs : List Value} (h : Blk w g cs 85) (hl : cs.length = m) (hi : i * 2 + 1 < m) : ∃ u0 u1, w.cell? ⟨g, i * 2, none⟩ = some u0 ∧ w.cell? ⟨g, i * 2 + 1, none⟩ = some u1 :=
  ⟨cs[i * 2], cs[i * 2 + 1], (h.cell _).trans (List.getElem?_eq_getElem (by omega)), (h.cell _).trans (List.getElem?_eq_getElem (by omega))⟩
set_option maxRecDepth 100000 in
set_option maxHeartbeats 4000000 in
theorem overC_some (h : Int) (p : List Nat) (hp : p.length = 32) (g n cap m : Nat) (ds : List Value) (w : World) (hd : Blk w g ds 85) (hm : ds.length = m) (hn : n * 2 ≤ m) (hn2 : n ≤ 1000) :
    Calls Try.prog 52 #[.agg (cC h p (.slice (some ⟨g, 0, none⟩) n cap)).toArray] w fun e w' => e = .returned (.tuple #[]) ∧ Bex g w w' := by
  have hlt := hd.lt
  have H0 : Hid (OvC w (w.alloc (.cells (cC h p (.slice (some ⟨g, 0, none⟩) n cap)).toArray 63)) (cC h p (.slice (some ⟨g, 0, none⟩) n cap)) g m) := hidp ⟨⟨ds, hd.alloc _, hm⟩, (Bex.refl g w).alloc _, Blk.new _ _ _⟩
  have HN := hidp (And.intro hn (And.intro hn2 (show g ≠ w.heap.size ∧ g ≤ w.heap.size by omega)))
  have hpp := hidp hp
  clear hd hm hn hn2 hlt hp
  go_enter Try.func52, Try.ntmps52
  go_wp2_with fail
  go_loopw [2] (fun x wr => ∃ i : Nat, i ≤ n ∧ x = .int .i64 ((i : Nat) : Int) ∧ Hid (OvC w wr (cC h p (.slice (some ⟨g, 0, none⟩) n cap)) g m)) (fun x _ => n - (Go.RowKit.intOf x).toNat)
  case atStart => exact ⟨0, by omega, rfl, H0⟩
  case round =>
    obtain ⟨i, hi, rfl, hr⟩ := hrel
    clear H0
    have c33 := (hr.out.kc.cell 33).trans (cC_33 hpp.out)
    by_cases hlt : i < n
    · obtain ⟨cs', hb, hl⟩ := hr.out.blk
      obtain ⟨u0, u1, c0, c1⟩ := two_in hb hl (i := i) (by have := HN.out; omega)
      have f0 := hb.free (i * 2)
      have f1 := hb.free (i * 2 + 1)
      have hgl := hb.lt
      have HB := hidp (And.intro hb hl)
      have HX := hidp (And.intro hr.out.bex (And.intro hlt hr.out.kc))
      have hadd := w64_nat (n := i) (by have := HN.out; omega)
      have hltz : (i : Int) < (n : Int) := by omega
      clear hb hl hr hi hlt
      go_wp2_with (with_reducible refine (?_ : wpList _ _ _ _ _ _); refine wpList_buildG (by kernel_rfl) 85 _ rfl #[.int .i64 (-7), .int .u64 0] (by kernel_rfl) ?_)
      have hb5 := (HB.out.1.set (i * 2) (.int .i64 (-7))).set (i * 2 + 1) (.int .u64 0)
      have hx5 := (HX.out.1.setCell (i * 2) (.int .i64 (-7))).setCell (i * 2 + 1) (.int .u64 0)
      have hk5 := (HX.out.2.2.other ⟨g, i * 2, none⟩ (.int .i64 (-7)) HN.out.2.2.1.symm).other ⟨g, i * 2 + 1, none⟩ (.int .u64 0) HN.out.2.2.1.symm
      rw [hadd]
      exact ⟨⟨i + 1, HX.out.2.1, rfl, hidp ⟨⟨_, hb5, by simp only [List.length_set]; exact HB.out.2⟩, hx5, hk5⟩⟩, dec_nat HX.out.2.1⟩
    · have hx := hidp hr.out.bex
      obtain rfl : i = n := by omega
      have hnz : ¬ ((i : Int) < (i : Int)) := by omega
      clear hr hlt hi
      go_wp2_with fail
      refine bodyPost_end (results_none rfl _ _ _) rfl ?_
      exact ⟨rfl, hx.out⟩
set_option maxRecDepth 100000 in
set_option maxHeartbeats 4000000 in
theorem overC_zero (h : Int) (p : List Nat) (hp : p.length = 32) (a : Option Addr) (cap : Nat) (w : World) :
    Calls Try.prog 52 #[.agg (cC h p (.slice a 0 cap)).toArray] w fun e w' => e = .returned (.tuple #[]) ∧ Below w.heap.size w w' := by
  have hA := hidp (Blk.new w (cC h p (.slice a 0 cap)) 63)
  have hB := hidp ((Below.refl w.heap.size w).alloc (Nat.le_refl _) (.cells (cC h p (.slice a 0 cap)).toArray 63))
  have c33 := (hA.out.cell 33).trans (cC_33 hp)
  go_enter Try.func52, Try.ntmps52
  go_wp2_with fail
  go_loopw [2] (fun x wr => x = .int .i64 0 ∧ wr = (w.alloc (.cells (cC h p (.slice a 0 cap)).toArray 63))) (fun _ _ => 0)
  case atStart => exact ⟨rfl, rfl⟩
  case round =>
    obtain ⟨rfl, rfl⟩ := hrel
    go_wp2_with fail
    refine bodyPost_end (results_none rfl _ _ _) rfl ?_
    exact ⟨rfl, hB.out⟩
/-- Written over: only what it has of its own. -/
theorem overC_own (h : Int) (p : List Nat) (hp : p.length = 32) (sv : Value) (B : Nat) (l : List Vt) (w : World) (ho : OwnT w B sv l) (hl : l.length ≤ 1000) :
    Calls Try.prog 52 #[.agg (cC h p sv).toArray] w fun e w' => e = .returned (.tuple #[]) ∧ ((∃ g, sv.ownBlock = some g ∧ B ≤ g ∧ g < w.heap.size ∧ Bex g w w') ∨ Below w.heap.size w w') := by
  rcases ho.2 with ⟨h1, h2⟩ | ⟨g, cap, cur, h1, h2, h3, h4, h5, h6, h7⟩
  · subst h1
    refine (overC_zero h p hp none 0 w).mono ?_
    rintro e w' ⟨rfl, hb⟩
    exact ⟨rfl, .inr hb⟩
  · subst h1
    have hlt : g < w.heap.size := (Array.getElem?_eq_some_iff.1 h3).1
    refine (overC_some h p hp g l.length cap (cap * 2) cur.toList w (by unfold Blk; simpa using h3) (by simpa using h6) (by omega) hl).mono ?_
    rintro e w' ⟨rfl, hb⟩
    exact ⟨rfl, .inl ⟨g, rfl, h2, hlt, hb⟩⟩
theorem overC_any (h : Int) (p : List Nat) (hp : p.length = 32) (sv : Value) (B : Nat) (l : List Vt) (w : World) (ho : OwnT w B sv l) (hB : B ≤ w.heap.size) (hl : l.length ≤ 1000) :
    Calls Try.prog 52 #[.agg (cC h p sv).toArray] w fun e w' => e = .returned (.tuple #[]) ∧ Below B w w' := by
  refine (overC_own h p hp sv B l w ho hl).mono ?_
  rintro e w' ⟨rfl, ⟨g, _, h2, _, hb⟩ | hb⟩
  · exact ⟨rfl, hb.below h2 hB⟩
  · exact ⟨rfl, hb.mono hB⟩
theorem Lent.bsC {B : Nat} {w : World} {g c : Nat} {L : List Nat} (h : Lent B w g c L) (hb : ∀ x ∈ L, x < 256) : Bs w (some ⟨g, 0, none⟩) g 0 L c :=
  ⟨hb, by have := h.1; omega, fun _ => ⟨rfl, by obtain ⟨_, _, _, h1, _⟩ := h; exact h1.lt⟩, fun i hi => by
    rw [Nat.zero_add, h.cell (by omega), List.getD_eq_getElem?_getD, List.getElem?_append_left hi, ← List.getD_eq_getElem?_getD]⟩
theorem IsRow.nil0 {k : IntKind} {w : World} {a : Option Addr} {len cap : Nat} {zs : List Int} (h : IsRow k w a len cap zs) (ha : a = none) : cap = 0 := by
  rcases h with ⟨_, _, rfl, _⟩ | ⟨x, rfl, _⟩
  · rfl
  · cases ha
set_option maxRecDepth 100000 in
theorem cdcs_long (p : Option Addr) (cap : Nat) (L : List Nat) (w : World) (hL : 1500 < L.length) : Calls Try.prog 7 #[.slice p L.length cap] w fun e w' => e = .returned (.bool true) ∧ Below w.heap.size w w' := by
  have t1 : decide ((1500 : Int) < ((L.length : Nat) : Int)) = true := decide_eq_true (by omega)
  go_enter Try.func7, Try.ntmps7
  go_wp2_with fail
  refine (cawake_any w).mono ?_
  rintro e w1 ⟨rfl, hb⟩
  have hB := hidp hb
  clear hb
  go_wp2
  go_ret
  exact ⟨rfl, hB.out⟩
set_option maxRecDepth 100000 in
set_option maxHeartbeats 16000000 in
theorem cdcs_in (p : Option Addr) (cap : Nat) (L : List Nat) (w : World) (h : ByS w p cap L) (hL : ¬ 1500 < L.length) : Calls Try.prog 7 #[.slice p L.length cap] w fun e w' => e = .returned (.bool true) ∧ Below w.heap.size w w' := by
  have hzz : ∀ w, (zeroValue 63).run Try.prog w = .ok (.agg (cC 0 zh32 (.slice none 0 0)).toArray) w := (zero_of_info (P := Try.prog) zero_com).1
  have hl0 := hidp (cC_len (h := 0) (sl := .slice none 0 0) (p := zh32) rfl)
  have hgF : Try.prog.eqGuardType Try.prog.depth 55 = false := by kernel_rfl
  have t1 : decide ((1500 : Int) < ((L.length : Nat) : Int)) = false := decide_eq_false (by omega)
  have hby := h.byte
  have hok := decC_ok' hby
  have H1 := hidp (fun W B g c (k : Lent B W g c L) => cdecode_any (some ⟨g, 0, none⟩) g 0 c L W (k.bsC hby) (by omega))
  have H2 := hidp (fun W (k : ByS W p cap L) => rcdecode_any p cap L W k (by omega))
  have HK := hidp (fun W B g c (h : Lent B W g c L) (k : ByS W p cap L) => kept_any h k (by omega))
  have HS := hidp h
  have hV : Hid (Below w.heap.size w w) := hidp (Below.refl _ _)
  have hn1 := hidp (show L.length ≤ 2000 by omega)
  generalize decC L = D at *
  obtain ⟨h2, p2, l2, e2, f2⟩ := D
  simp only at hok
  have hvo := hidp hok.1
  have hpp := hidp hok.2.1.1
  have hll := hidp hok.2.2
  have heF := eqF (e2 : Nat) f2 (e2 : Nat) f2
  simp only [beq_self_eq_true, Bool.and_self] at heF
  have HSC := hidp (fun (W : World) (a1 a2 : Option Addr) (b1 b2 c1 c2 n1 n2 : Nat) (q1 : n1 = l2.length) (q2 : n2 = l2.length) (k1 : Ts W a1 b1 0 c1 l2) (k2 : Ts W a2 b2 0 c2 l2) => (by subst q1; subst q2; have q := sameCommit_any h2 p2 hpp.out a1 b1 0 c1 l2 h2 p2 hpp.out a2 b2 0 c2 l2 W k1 k2 (by have := hll.out; omega); rw [sameC_self] at q; exact q : Calls Try.prog 48 #[.agg (cC h2 p2 (.slice a1 n1 c1)).toArray, .agg (cC h2 p2 (.slice a2 n2 c2)).toArray] W fun e w' => e = .returned (.bool true) ∧ Below W.heap.size W w'))
  clear hok hby h hL
  go_enter Try.func7, Try.ntmps7
  go_wp2_with fail
  refine (lent_any HS.out hn1.out).mono ?_
  rintro e u1 ⟨⟨g, c, rfl, hlen⟩, hB⟩
  replace hV := hidp (hV.out.trans (hB.mono hV.out.size))
  have LN := hidp hlen
  have hU : Hid (Below u1.heap.size u1 u1) := hidp (Below.refl _ _)
  have hwu := hidp hB.size
  clear hB hlen hn1
  go_wp2_with fail
  refine (H1.out _ _ g c LN.out).mono ?_
  rintro e u2 ⟨⟨sv, rfl, ho⟩, hB⟩
  obtain ⟨a1, n1, c1, rfl⟩ := ho.sl
  obtain ⟨b1, _, ht, hn, _⟩ := ho.tsz hvo.out
  have O1 := hidp ho
  have T1 := hidp ht
  have hn1 := hidp hn
  clear ho ht hn
  have hW := hidp (show Below u1.heap.size u1 u2 from hB)
  replace hV := hidp (hV.out.trans (hW.out.mono hV.out.size))
  replace hU := hidp (hU.out.trans (hW.out.mono hU.out.size))
  clear hB hW H1
  have hl1 := hidp (cC_len (h := h2) (sl := .slice a1 n1 c1) hpp.out)
  have ho1 := hidp (cC_one h2 p2 a1 n1 c1)
  go_wp2_with first
    | (with_reducible refine (?_ : wpList _ _ _ _ _ _); refine wpList_store_blk rfl 63 _ _ rfl u2.heap.size (cC h2 p2 (.slice a1 n1 c1)) (cC 0 zh32 (.slice none 0 0)) 63 rfl rfl ((Blk.new u2 (cC 0 zh32 (.slice none 0 0)) _).alloc _) (by rw [hl1.out]; kernel_rfl) (hl0.out.trans (hl1.out).symm) (ho1.out) ?_; intro t2 ht2; have M1 := hidp (dres_row ht2.out); obtain ⟨k0, k1, k2, k3⟩ := M1.out.fc)
  have N1 := hidp (M1.out.fin (e2 : Nat) f2)
  clear M1 ht2 k0 k1 k2 k3
  generalize (World.setCell _ _ _) = v1 at N1 ⊢
  have hB := N1.out.bel
  have hW := hidp (show Below u2.heap.size u2 v1 from hB)
  replace hV := hidp (hV.out.trans (hW.out.mono hV.out.size))
  replace hU := hidp (hU.out.trans (hW.out.mono hU.out.size))
  replace O1 := hidp (O1.out.below hW.out)
  replace T1 := hidp (T1.out.below hW.out)
  clear hB hW
  go_wp2_with fail
  refine (H2.out _ (HS.out.below hV.out)).mono ?_
  rintro e u3 ⟨⟨sv, rfl, ho⟩, hB⟩
  obtain ⟨a2, n2, c2, rfl⟩ := ho.sl
  obtain ⟨b2, _, ht, hn, _⟩ := ho.tsz hvo.out
  have O2 := hidp ho
  have T2 := hidp ht
  have hn2 := hidp hn
  clear ho ht hn
  have hW := hidp (show Below v1.heap.size v1 u3 from hB)
  replace hV := hidp (hV.out.trans (hW.out.mono hV.out.size))
  replace hU := hidp (hU.out.trans (hW.out.mono hU.out.size))
  replace O1 := hidp (O1.out.below hW.out)
  replace T1 := hidp (T1.out.below hW.out)
  replace N1 := hidp (N1.out.below hW.out)
  clear hB hW H2
  have hl2 := hidp (cC_len (h := h2) (sl := .slice a2 n2 c2) hpp.out)
  have ho2 := hidp (cC_one h2 p2 a2 n2 c2)
  go_wp2_with first
    | (with_reducible refine (?_ : wpList _ _ _ _ _ _); refine wpList_store_blk rfl 63 _ _ rfl u3.heap.size (cC h2 p2 (.slice a2 n2 c2)) (cC 0 zh32 (.slice none 0 0)) 63 rfl rfl ((Blk.new u3 (cC 0 zh32 (.slice none 0 0)) _).alloc _) (by rw [hl2.out]; kernel_rfl) (hl0.out.trans (hl2.out).symm) (ho2.out) ?_; intro t3 ht3; have M2 := hidp (dres_row ht3.out); obtain ⟨k0, k1, k2, k3⟩ := M2.out.fc)
    | (with_reducible refine (?_ : wpList _ _ _ _ _ _); refine wpList_load_blkG (by kernel_rfl) 63 _ rfl u2.heap.size (cC h2 p2 (.slice a1 n1 c1)) 63 rfl (N1.out.below (M2.out.fin (e2 : Nat) f2).bel).res _ Try.underlying63 rfl (by rw [hl1.out]; kernel_rfl) ?_)
    | (with_reducible refine (?_ : wpList _ _ _ _ _ _); refine wpList_load_blkG (by kernel_rfl) 63 _ rfl u3.heap.size (cC h2 p2 (.slice a2 n2 c2)) 63 rfl (M2.out.fin (e2 : Nat) f2).res _ Try.underlying63 rfl (by rw [hl2.out]; kernel_rfl) ?_)
  have N2 := hidp (M2.out.fin (e2 : Nat) f2)
  clear M2 ht3 k0 k1 k2 k3
  generalize (World.setCell _ _ _) = v2 at N2 ⊢
  have hB := N2.out.bel
  have hW := hidp (show Below u3.heap.size u3 v2 from hB)
  replace hV := hidp (hV.out.trans (hW.out.mono hV.out.size))
  replace hU := hidp (hU.out.trans (hW.out.mono hU.out.size))
  replace O1 := hidp (O1.out.below hW.out)
  replace T1 := hidp (T1.out.below hW.out)
  replace N1 := hidp (N1.out.below hW.out)
  replace T2 := hidp (T2.out.below hW.out)
  clear hB hW
  refine (HSC.out _ a1 a2 b1 b2 c1 c2 n1 n2 hn1.out hn2.out T1.out T2.out).mono ?_
  rintro e u4 ⟨rfl, hB⟩
  have hW := hidp (show Below v2.heap.size v2 u4 from hB)
  replace hV := hidp (hV.out.trans (hW.out.mono hV.out.size))
  replace hU := hidp (hU.out.trans (hW.out.mono hU.out.size))
  replace O1 := hidp (O1.out.below hW.out)
  replace N1 := hidp (N1.out.below hW.out)
  replace N2 := hidp (N2.out.below hW.out)
  clear hB hW HSC T1 T2
  go_wp2_with first
    | (with_reducible refine (?_ : wpList _ _ _ _ _ _); refine wpList_load_blkG (by kernel_rfl) 55 _ rfl (u2.heap.size + 1) [.int .i64 (e2 : Nat), .int .i64 f2] 55 rfl N1.out.flt _ Try.underlying55 rfl (by kernel_rfl) ?_)
    | (with_reducible refine (?_ : wpList _ _ _ _ _ _); refine wpList_load_blkG (by kernel_rfl) 55 _ rfl (u3.heap.size + 1) [.int .i64 (e2 : Nat), .int .i64 f2] 55 rfl N2.out.flt _ Try.underlying55 rfl (by kernel_rfl) ?_)
    | (with_reducible refine (?_ : wpList _ _ _ _ _ _); refine wpList_load_blkG (by kernel_rfl) 63 _ rfl u2.heap.size (cC h2 p2 (.slice a1 n1 c1)) 63 rfl N1.out.res _ Try.underlying63 rfl (by rw [hl1.out]; kernel_rfl) ?_)
  refine (overC_any h2 p2 hpp.out _ u1.heap.size l2 _ O1.out hU.out.size (by have := hll.out; omega)).mono ?_
  rintro e u5 ⟨rfl, hB⟩
  replace hV := hidp (hV.out.trans (hB.mono hwu.out))
  replace hU := hidp (hU.out.trans hB)
  clear hB O1 N1 N2 heF
  go_wp2_with fail
  refine (HK.out _ _ g c (LN.out.below hU.out) (HS.out.below hV.out)).mono ?_
  rintro e u6 ⟨rfl, hB⟩
  have hW := hidp (show Below u5.heap.size u5 u6 from hB)
  replace hV := hidp (hV.out.trans (hW.out.mono hV.out.size))
  replace hU := hidp (hU.out.trans (hW.out.mono hU.out.size))
  clear hB hW HK LN HS
  go_wp2_with fail
  refine (cawake_any _).mono ?_
  rintro e u7 ⟨rfl, hB⟩
  have hW := hidp (show Below u6.heap.size u6 u7 from hB)
  replace hV := hidp (hV.out.trans (hW.out.mono hV.out.size))
  replace hU := hidp (hU.out.trans (hW.out.mono hU.out.size))
  clear hB hW
  go_wp2
  go_ret
  exact ⟨rfl, hV.out⟩
theorem cdcs_any (p : Option Addr) (b oo cap : Nat) (L : List Nat) (w : World) (_ : Bs w p b oo L cap) (h : ByS w p cap L) : Calls Try.prog 7 #[.slice p L.length cap] w fun e w' => e = .returned (.bool true) ∧ Below w.heap.size w w' := by
  by_cases hL : 1500 < L.length
  · exact cdcs_long p cap L w hL
  · exact cdcs_in p cap L w h hL
end Go.Proofs.Ytlcflcohlbckfaa
