/-
  Texts Rw, Rx, Ro, one behind the other.
-/
import Derived.Test.YtcmkmnidnapabaaGreatQh
import Derived.Test.YtcmkmnidnapabaaGreatUa
import Derived.Test.YtcmkmnidnapabaaGreatQe
import Derived.LoopN

/-! Rw: The answer's writer (layer 4): texts R4w, R4x, R4y, one behind the other. -/
namespace Go.Proofs.YtcmkmnidnapabaaGreat
set_option linter.unusedSimpArgs false
open Go.RowKit Go.Lib

/-- The low digits of a number. -/
def loD : Nat → Nat → List Nat
  | 0, _ => []
  | j + 1, n => n / 256 ^ j % 256 :: loD j n
theorem loD_len : ∀ j n, (loD j n).length = j
  | 0, _ => rfl
  | j + 1, n => by simp [loD, loD_len j]
theorem loD_byte : ∀ j n, ∀ x ∈ loD j n, x < 256
  | 0, _, x, hx => by simp [loD] at hx
  | j + 1, n, x, hx => by
    simp only [loD, List.mem_cons] at hx
    rcases hx with rfl | hx
    · exact Nat.mod_lt _ (by decide)
    · exact loD_byte j n x hx
theorem loD_dB : ∀ j k n, dB (k + j) n = dB k (n / 256 ^ j) ++ loD j n
  | 0, k, n => by simp [loD]
  | j + 1, k, n => by
    have ih := loD_dB j (k + 1) n
    rw [show k + 1 + j = k + (j + 1) by omega] at ih
    rw [ih]
    simp only [dB, loD, List.append_assoc, List.cons_append, List.nil_append]
    rw [Nat.div_div_eq_div_mul, ← Nat.pow_succ]
theorem loD_all {n j : Nat} (h : Digs n j) (hn : n < 18446744073709551616) : loD j n = dB (dg n) n := by
  have e := digs_dg h hn
  have q := loD_dB j 0 n
  rw [Nat.zero_add] at q
  rw [← e, q]
  simp [dB]
theorem own_lit1 (w : World) (x : Nat) : (w.alloc (.cells (bvs [x]).toArray 5)).ownsRow w.heap.size 5 1 (.slice (some ⟨w.heap.size, 0, none⟩) 1 1) 1 (bvs [x]) :=
  ⟨rfl, .inr ⟨w.heap.size, 1, (bvs [x]).toArray, rfl, Nat.le_refl _, heap_alloc_new w _, Nat.le_refl _, by unfold maxLen; omega, rfl, rfl⟩⟩
/-- What the loop of Number knows. -/
structure NumI (w wr : World) (n j : Nat) (v : Value) : Prop where
  bs : ∃ p c, v = .slice p j c ∧ ByS wr p c (loD j n)
  bel : Below w.heap.size w wr
  lo : 0 < j → 256 ^ (j - 1) ≤ n
  j8 : j ≤ 8
/-- New bytes of one's own: what a function that tells bytes leaves. -/
def NewB (w : World) (L : List Nat) (e : Ending) (w' : World) : Prop := (∃ p c, e = .returned (.slice p L.length c) ∧ ByS w' p c L ∧ w'.ownsRow w.heap.size 5 1 (.slice p L.length c) L.length (bvs L)) ∧ Below w.heap.size w w'
theorem ownsRow_base {w : World} {b0 base : Nat} {v : Value} {n : Nat} {xs : List Value} (h : w.ownsRow base 5 1 v n xs) (hb : b0 ≤ base) : w.ownsRow b0 5 1 v n xs := by
  refine ⟨h.1, ?_⟩
  rcases h.2 with h2 | ⟨g, cap, cur, h1, h2, r⟩
  · exact .inl h2
  · exact .inr ⟨g, cap, cur, h1, Nat.le_trans hb h2, r⟩
theorem bys_own {w : World} {base : Nat} {v : Value} {L : List Nat} (h : w.ownsRow base 5 1 v L.length (bvs L)) (hb : ∀ x ∈ L, x < 256) : ∃ p c, v = .slice p L.length c ∧ ByS w p c L := by
  obtain ⟨p, b, c, rfl, _, h1, h2⟩ := Bs.of_own h hb
  exact ⟨p, c, rfl, ByS.of_bs h2 h1⟩
set_option maxRecDepth 100000 in
set_option maxHeartbeats 4000000 in
theorem rNumber_any (n : Nat) (w : World) (hn : n < 9223372036854775808) : Calls Tryz.prog 154 #[.int .i64 (n : Nat)] w (NewB w (nB n)) := by
  have hN := hidp hn
  clear hn
  go_enter Tryz.func154, Tryz.ntmps154
  go_wp2
  go_loopw [0, 3] (fun m v wr => ∃ j : Nat, m = .int .i64 ((n / 256 ^ j : Nat) : Int) ∧ Hid (NumI w wr n j v)) (fun m _ _ => (Go.RowKit.intOf m).toNat)
  case atStart => exact ⟨0, by simp, hidp ⟨⟨none, 0, rfl, ⟨by simp [loD], by simp [loD], fun _ => rfl, fun x hx => by cases hx⟩⟩, Below.refl _ _, fun h => absurd h (by decide), by decide⟩⟩
  case round =>
    obtain ⟨j, rfl, hr⟩ := hrel
    have hle : n / 256 ^ j ≤ n := Nat.div_le_self _ _
    obtain ⟨p, c, rfl, hbs⟩ := hr.out.bs
    obtain ⟨m, hm⟩ : ∃ m, m = n / 256 ^ j := ⟨_, rfl⟩
    rw [← hm]
    have hlen := loD_len j n
    by_cases hpos : 0 < m
    · have hj8 : j < 8 := by
        rcases Nat.lt_or_ge j 8 with h | h
        · exact h
        · have h1 : n / 256 ^ j = 0 := Nat.div_eq_of_lt (by have := Nat.pow_le_pow_right (n := 256) (by decide) h; have := hN.out; omega)
          omega
      have hp2 : (0 : Int) < (m : Int) := by omega
      have hms : m < 9223372036854775808 := by have := hN.out; omega
      have hwr : IntKind.u8.wrap (m : Int) = ((m % 256 : Nat) : Int) := by rw [IntKind.wrap_u8]; omega
      have hwr2 : (m : Int) % 256 = ((m % 256 : Nat) : Int) := by omega
      have hnx : n / 256 ^ (j + 1) = m / 256 := by rw [hm, Nat.div_div_eq_div_mul, ← Nat.pow_succ]
      have hlo : 256 ^ j ≤ n := by
        rcases Nat.lt_or_ge n (256 ^ j) with h | h
        · rw [hm, Nat.div_eq_of_lt h] at hpos; omega
        · exact h
      have HJ := hidp (And.intro hnx (And.intro hlo hj8))
      have hd : loD (j + 1) n = m % 256 :: loD j n := by simp [loD, hm]
      have HD := hidp hd
      have HL := hidp (loD_byte (j + 1) n)
      have HO := hidp (own_lit1 wr (m % 256))
      have HS := hidp (hbs.below ((Below.refl wr.heap.size wr).alloc (Nat.le_refl _) (.cells (bvs [m % 256]).toArray 5)))
      have hn1 := hidp (show 1 + (loD j n).length ≤ 4000000 by omega)
      have hz1 := hidp (show wr.heap.size ≤ (wr.alloc (.cells (bvs [m % 256]).toArray 5)).heap.size by simp)
      have hlen' := hidp hlen
      have HM := hidp hm
      clear hle hbs hm hnx hlo hd hlen
      obtain ⟨d, hd⟩ : ∃ d, d = m % 256 := ⟨_, rfl⟩
      rw [← hd] at hwr hwr2 HO HS hz1 HD
      replace hd := hidp hd
      rw [← hlen'.out]
      go_wp2_with (at_builtin; refine wpList_append_byS rfl _ _ rfl wr.heap.size 1 (bvs [d]) _ rfl HO.out p c (loD j n) rfl HS.out hn1.out hz1.out ?_; intro v' w1 hown' hgrow; have hO := hidp hown'; have T1 := hidp (((Below.refl wr.heap.size wr).alloc (Nat.le_refl _) _).grown hgrow hz1.out (fun k hk => (HO.out.lt k hk).1)); clear hown' hgrow)
      have hO2 : w1.ownsRow wr.heap.size 5 1 v' (loD (j + 1) n).length (bvs (loD (j + 1) n)) := by
        have q := hO.out
        rw [loD_len, HD.out]
        rw [hlen'.out, Nat.add_comm] at q
        exact q
      obtain ⟨p', c', rfl, hs⟩ := bys_own hO2 HL.out
      rw [loD_len] at *
      refine ⟨⟨j + 1, congrArg (Value.int .i64) (by rw [HJ.out.1]; omega), hidp ⟨⟨p', c', rfl, hs⟩, hr.out.bel.trans (T1.out.mono hr.out.bel.size), fun _ => HJ.out.2.1, by have := HJ.out.2.2; omega⟩⟩, ?_⟩
      simp [Go.RowKit.intOf]
      omega
    · have h0 : m = 0 := by omega
      subst h0
      have hdig : Digs n j := ⟨by
        rcases Nat.lt_or_ge n (256 ^ j) with h | h
        · exact h
        · have := Nat.div_pos h (Nat.pow_pos (n := j) (by decide : 0 < 256))
          omega, hr.out.lo, hr.out.j8⟩
      have hall := loD_all hdig (by have := hN.out; omega)
      have hjj := digs_dg hdig (by have := hN.out; omega)
      have hbel := hidp hr.out.bel
      have hj8 := hr.out.j8
      have hby := loD_byte j n
      have hnb : nB n = j :: loD j n := by unfold nB; rw [← hall, ← hjj]
      clear hr hdig hall hjj hm hle hpos
      generalize loD j n = L at *
      subst hlen
      have HNB := hidp hnb
      clear hnb
      have hwr : IntKind.u8.wrap (L.length : Int) = (L.length : Int) := by rw [IntKind.wrap_u8]; omega
      have hwr2 : (L.length : Int) % 256 = (L.length : Int) := by omega
      have HO := hidp (own_lit1 wr L.length)
      have HS := hidp (hbs.below ((Below.refl wr.heap.size wr).alloc (Nat.le_refl _) (.cells (bvs [L.length]).toArray 5)))
      have hn1 := hidp (show 1 + L.length ≤ 4000000 by omega)
      have hz1 := hidp (show wr.heap.size ≤ (wr.alloc (.cells (bvs [L.length]).toArray 5)).heap.size by simp)
      have hBY := hidp (show ∀ x ∈ L.length :: L, x < 256 from fun x hx => by
        rcases List.mem_cons.1 hx with rfl | hx
        · omega
        · exact hby x hx)
      clear hbs hby
      go_wp2_with (at_builtin; refine wpList_append_byS rfl _ _ rfl wr.heap.size 1 (bvs [L.length]) _ rfl HO.out p c L rfl HS.out hn1.out hz1.out ?_; intro v' w1 hown' hgrow; have hO := hidp hown'; have T1 := hidp (((Below.refl wr.heap.size wr).alloc (Nat.le_refl _) _).grown hgrow hz1.out (fun k hk => (HO.out.lt k hk).1)); clear hown' hgrow)
      have hO2 : w1.ownsRow wr.heap.size 5 1 v' (L.length :: L).length (bvs (L.length :: L)) := by
        have q := hO.out
        rw [show 1 + L.length = (L.length :: L).length by rw [List.length_cons]; omega] at q
        exact q
      obtain ⟨p', c', rfl, hs⟩ := bys_own hO2 hBY.out
      go_ret
      exact ⟨⟨p', c', by rw [HNB.out]; rfl, by rw [HNB.out]; exact hs, by rw [HNB.out]; exact ownsRow_base hO2 hbel.out.size⟩, hbel.out.trans (T1.out.mono hbel.out.size)⟩
end Go.Proofs.YtcmkmnidnapabaaGreat

/-! R4x: The reference of layer 4: its writer over bytes: Counted, NewWriter, Put. -/
namespace Go.Proofs.YtcmkmnidnapabaaGreat
set_option linter.unusedSimpArgs false
open Go.RowKit Go.Lib

theorem bvs_appR (a b : List Nat) : bvs (a ++ b) = bvs a ++ bvs b := by unfold bvs; rw [List.map_append]
/-- What stands ahead of counted bytes, and they. -/
def ctB (L : List Nat) : List Nat := nB L.length ++ L
set_option maxRecDepth 100000 in
set_option maxHeartbeats 4000000 in
theorem rCounted_any {w : World} {p : Option Addr} {cap : Nat} {L : List Nat} (h : ByS w p cap L) (hn : L.length ≤ 3000000) : Calls Tryz.prog 185 #[.slice p L.length cap] w (NewB w (ctB L)) := by
  have hlt : L.length < 9223372036854775808 := by omega
  have HN := hidp hn
  have HS := hidp h
  have HD := hidp (rNumber_any L.length w hlt)
  have hnl : Hid ((nB L.length).length ≤ 9) := hidp (by
    have q := dg_le L.length
    unfold nB
    rw [List.length_cons, dB_len]
    omega)
  have hbn : Hid (∀ x ∈ nB L.length, x < 256) := hidp (nB_byte L.length)
  have HC : Hid (ctB L = nB L.length ++ L) := hidp rfl
  clear h hn hlt
  generalize nB L.length = M at *
  go_enter Tryz.func185, Tryz.ntmps185
  go_wp2_with fail
  refine HD.out.mono ?_
  rintro e wx ⟨⟨q, c, rfl, hs, ho⟩, hb⟩
  have HO := hidp ho
  have HB := hidp hb
  have HS1 := hidp (HS.out.below HB.out)
  have hz := hidp hb.size
  clear hs ho hb HD
  have hn1 : Hid (M.length + L.length ≤ 4000000) := hidp (by have := hnl.out; have := HN.out; omega)
  go_wp2_with (at_builtin; refine wpList_append_byS rfl _ _ rfl w.heap.size M.length (bvs M) _ rfl HO.out p cap L rfl HS1.out hn1.out hz.out ?_; intro v' w1 hown' hgrow; have hO := hidp hown'; have T1 := hidp (HB.out.grown hgrow hz.out (fun k hk => (HO.out.lt k hk).1)); clear hown' hgrow)
  have hO2 : w1.ownsRow w.heap.size 5 1 v' (ctB L).length (bvs (ctB L)) := by
    have q := hO.out
    rw [HC.out, List.length_append, bvs_appR]
    exact q
  obtain ⟨p', c', rfl, hs⟩ := bys_own hO2 (by
    intro x hx
    rw [HC.out] at hx
    rcases List.mem_append.1 hx with h | h
    · exact hbn.out x h
    · exact HS.out.byte x h)
  go_ret
  exact ⟨⟨p', c', rfl, hs, hO2⟩, T1.out⟩
/-- The answer's writer without a fault. -/
structure WQ (w : World) (g lim : Nat) (L : List Nat) : Prop where
  q : ∃ p b c, Blk w g [.int .i64 (lim : Nat), .slice p L.length c, .int .i64 0] 198 ∧ Bs w p b 0 L c ∧ (0 < c → b ≠ g)
theorem WQ.below {w w' : World} {g lim : Nat} {L : List Nat} (H : WQ w g lim L) (h : Below w.heap.size w w') : WQ w' g lim L := by
  obtain ⟨p, b, c, h1, h2, h3⟩ := H.q
  exact ⟨p, b, c, h1.below h h1.lt, h2.below h, h3⟩
theorem WQ.glt {w : World} {g lim : Nat} {L : List Nat} (H : WQ w g lim L) : g < w.heap.size := by obtain ⟨p, b, c, h1, _⟩ := H.q; exact h1.lt
set_option maxRecDepth 100000 in
set_option maxHeartbeats 4000000 in
theorem rNewW_any (w : World) (lim : Nat) (hl : lim ≤ 1048576) : Calls Tryz.prog 80 #[.int .i64 (lim : Nat)] w fun e w' => ∃ g, e = .returned (.tuple #[.pointer (some ⟨g, 0, none⟩), .int .i64 0]) ∧ w.heap.size ≤ g ∧ WQ w' g lim [] ∧ Below w.heap.size w w' := by
  have h1 : decide ((lim : Int) < 0) = false := decide_eq_false (by omega)
  have h2 : decide ((1048576 : Int) < (lim : Int)) = false := decide_eq_false (by omega)
  clear hl
  go_enter Tryz.func80, Tryz.ntmps80
  go_wp2_with fail
  exact bodyPost_ret (v := .tuple #[.pointer (some ⟨w.heap.size, 0, none⟩), .int .i64 0]) (by simp [results, Tryz.results80, go_sem]) rfl ⟨w.heap.size, rfl, Nat.le_refl _, ⟨none, 0, 0, Blk.new w [.int .i64 (lim : Nat), .slice none 0 0, .int .i64 0] _, ⟨by simp, by simp, fun h => absurd h (by omega), fun i hi => absurd hi (by simp)⟩, fun h => absurd h (by omega)⟩, (Below.refl _ w).alloc (Nat.le_refl _) _⟩
set_option maxRecDepth 100000 in
set_option maxHeartbeats 4000000 in
theorem rPut_any {w : World} {g lim : Nat} {L X : List Nat} {p : Option Addr} {c : Nat} (H : WQ w g lim L) (hS : ByS w p c X) (hl : L.length + X.length ≤ lim) (hlim : lim ≤ 1048576) :
    Calls Tryz.prog 153 #[.pointer (some ⟨g, 0, none⟩), .slice p X.length c] w fun e w' => e = .returned (.int .i64 0) ∧ WQ w' g lim (L ++ X) ∧ Bex g w w' := by
  obtain ⟨p0, b0, c0, hb, hs0, hne⟩ := H.q
  have HB := hidp hb
  have HS0 := hidp (ByS.of_bs hs0 hs0.none_cap)
  have HL := hidp (And.intro hl hlim)
  have HS := hidp hS
  have k0 := hb.cell 0
  have k1 := hb.cell 1
  have k2 := hb.cell 2
  simp only [List.getElem?_cons_zero, List.getElem?_cons_succ] at k0 k1 k2
  have hw1 : IntKind.i64.wrap ((L.length : Int) + (X.length : Int)) = (L.length : Int) + (X.length : Int) := by rw [IntKind.wrap_i64]; omega
  have hw2 : wrap64 ((L.length : Int) + (X.length : Int)) = (L.length : Int) + (X.length : Int) := by rw [w64 _ (by omega)]
  have hd : decide ((lim : Int) < (L.length : Int) + (X.length : Int)) = false := decide_eq_false (by omega)
  clear H hb hs0 hne hS hl hlim
  go_enter Tryz.func153, Tryz.ntmps153
  go_wp2_with fail
  go_quiet (fail)
  have H1 := hidp (HB.out.drewN nq)
  have hx := hidp ((Bex.refl g w).drewN nq)
  have HT : Hid (ByS (w.drewN nq) p0 c0 L ∧ ByS (w.drewN nq) p c X) := hidp ⟨⟨HS0.out.byte, HS0.out.le, HS0.out.none, HS0.out.cell⟩, ⟨HS.out.byte, HS.out.le, HS.out.none, HS.out.cell⟩⟩
  clear k0 k1 k2 HB HS0 HS hw1 hw2 hd
  generalize w.drewN nq = w1 at H1 hx HT ⊢
  have k1 := H1.out.cell 1
  have k2 := H1.out.cell 2
  simp only [List.getElem?_cons_zero, List.getElem?_cons_succ] at k1 k2
  have f1 := H1.out.free 1
  have hlt := H1.out.lt
  have hown := hidp (own_nothing w1)
  have hby := hidp (show ∀ x ∈ L ++ X, x < 256 from fun x hx => by
    rcases List.mem_append.1 hx with h | h
    · exact HT.out.1.byte x h
    · exact HT.out.2.byte x h)
  have hA := hidp ((Below.refl w1.heap.size w1).alloc (Nat.le_refl _) (.cells #[] 5))
  have HSA := hidp (HT.out.1.below hA.out)
  have hz0 := hidp hA.out.size
  have hn1 : Hid (0 + L.length ≤ 4000000) := hidp (by have := HL.out; omega)
  have hn2 : Hid (0 + L.length + X.length ≤ 4000000) := hidp (by have := HL.out; omega)
  go_wp2_with (first
    | (at_builtin; refine wpList_append_byS rfl _ _ rfl w1.heap.size 0 [] _ rfl hown.out p0 c0 L rfl HSA.out hn1.out hz0.out ?_; intro v' w2 hown' hgrow; have hO := hidp hown'; have T1 := hidp (hA.out.grown hgrow hz0.out (fun k hk => (hown.out.lt k hk).1)); have hz1 := hidp T1.out.size; have HSX := hidp (HT.out.2.below T1.out); clear hown' hgrow)
    | (at_builtin; refine wpList_append_byS rfl _ _ rfl w1.heap.size (0 + L.length) ([] ++ bvs L) _ rfl hO.out p c X rfl HSX.out hn2.out hz1.out ?_; intro v'' w3 hown' hgrow; have hO2 := hidp hown'; have T2 := hidp (T1.out.grown hgrow hz1.out (fun k hk => (hO.out.lt k hk).1)); clear hown' hgrow; have K3 := hidp (H1.out.below T2.out hlt); have kf := K3.out.free 1; have kl := K3.out.lt; have kc := K3.out.cell 2; have kd := K3.out.cell 1; simp only [List.getElem?_cons_zero, List.getElem?_cons_succ] at kc kd; obtain ⟨p3, b3, c3, rfl, hb3, _, hs3⟩ := Bs.of_own (L := L ++ X) (by have q := hO2.out; rw [List.nil_append, ← bvs_appR, Nat.zero_add, ← List.length_append] at q; exact q) hby.out; have HS3 := hidp (And.intro hb3 hs3); clear hb3 hs3; rw [List.length_append] at *))
  have hq : Bex g w3 (w3.setCell ⟨g, 1, none⟩ (.slice p3 (L ++ X).length c3)) := (Bex.refl g w3).setCell 1 _
  have hW : WQ (w3.setCell ⟨g, 1, none⟩ (.slice p3 (L ++ X).length c3)) g lim (L ++ X) := ⟨p3, b3, c3, K3.out.set 1 _, HS3.out.2.bex hq (fun _ => by have := HS3.out.1; omega), fun _ => by have := HS3.out.1; omega⟩
  rw [List.length_append] at hq hW
  go_ret
  exact ⟨rfl, hW, hx.out.trans ((Bex.of_below T2.out).trans hq)⟩
end Go.Proofs.YtcmkmnidnapabaaGreat

/-! R4y: The reference of layer 4: its writer over bytes: Num, Text, Hash, Done. -/
namespace Go.Proofs.YtcmkmnidnapabaaGreat
set_option linter.unusedSimpArgs false
open Go.RowKit Go.Lib

/-- What a write that fits leaves. -/
def WP (w : World) (g lim : Nat) (L : List Nat) (e : Ending) (w' : World) : Prop := e = .returned (.int .i64 0) ∧ WQ w' g lim L ∧ Bex g w w'
theorem WP.low {w0 w w' : World} {g lim : Nat} {L : List Nat} {e : Ending} (h : WP w g lim L e w') (hb : Below w0.heap.size w0 w) : WP w0 g lim L e w' := ⟨h.1, h.2.1, (Bex.of_below hb).trans h.2.2⟩
set_option maxRecDepth 100000 in
set_option maxHeartbeats 4000000 in
theorem rWNum_any {w : World} {g lim : Nat} {L : List Nat} (H : WQ w g lim L) (n : Nat) (hn : n < 9223372036854775808) (hl : L.length + (nB n).length ≤ lim) (hlim : lim ≤ 1048576) :
    Calls Tryz.prog 81 #[.pointer (some ⟨g, 0, none⟩), .int .i64 (n : Nat)] w (WP w g lim (L ++ nB n)) := by
  obtain ⟨p0, b0, c0, hb, _, _⟩ := H.q
  have k2 := hb.cell 2
  simp only [List.getElem?_cons_zero, List.getElem?_cons_succ] at k2
  have HH := hidp H
  have hlt := hb.lt
  have HD := hidp (rNumber_any n w hn)
  have HL := hidp (And.intro hl hlim)
  have hd : decide ((n : Int) < 0) = false := decide_eq_false (by omega)
  clear H hn hl hlim hb
  generalize nB n = M at *
  go_enter Tryz.func81, Tryz.ntmps81
  go_wp2_with fail
  refine HD.out.mono ?_
  rintro e wx ⟨⟨q, c, rfl, hs, _⟩, hB⟩
  have HP := hidp ((rPut_any (HH.out.below hB) hs HL.out.1 HL.out.2).mono fun e w' (h : WP wx g lim (L ++ M) e w') => h.low hB)
  clear HD hs hB k2
  go_wp2_with fail
  refine HP.out.mono ?_
  rintro e w2 ⟨rfl, h1, h2⟩
  have h1 := hidp h1
  have h2 := hidp h2
  clear HP
  go_wp2_with fail
  go_ret
  exact ⟨rfl, h1.out, h2.out⟩
set_option maxRecDepth 100000 in
set_option maxHeartbeats 4000000 in
theorem rWText_any {w : World} {g lim : Nat} {L : List Nat} (H : WQ w g lim L) (s : ByteArray) (hl : L.length + (ctB (strL s)).length ≤ lim) (hlim : lim ≤ 1048576) :
    Calls Tryz.prog 242 #[.pointer (some ⟨g, 0, none⟩), .string s] w (WP w g lim (L ++ ctB (strL s))) := by
  have kc := fun W : World => _root_.Go.Lib.run_convert_string_bytes (P := Tryz.prog) W 9 35 5 s Tryz.underlying9 Tryz.underlying35 Tryz.underlying5
  have HB0 := hidp (bytesW_below w s)
  have hle : (strL s).length ≤ 3000000 := by
    unfold ctB at hl
    rw [List.length_append] at hl
    omega
  have Q := hidp (rCounted_any (ByS.of_bs (bytesW_bs w s) (bytesW_bs w s).none_cap) hle)
  rw [strL_len] at Q
  have HH := hidp (H.below HB0.out)
  have HL := hidp (And.intro hl hlim)
  clear H hl hlim hle
  generalize ctB (strL s) = M at *
  go_enter Tryz.func242, Tryz.ntmps242
  go_wp2_with fail
  refine Q.out.mono ?_
  rintro e wx ⟨⟨q, c, rfl, hs, _⟩, hB⟩
  have HP := hidp ((rPut_any (HH.out.below hB) hs HL.out.1 HL.out.2).mono fun e w' (h : WP wx g lim (L ++ M) e w') => h.low (HB0.out.trans (hB.mono HB0.out.size)))
  clear Q hs hB
  go_wp2_with fail
  refine HP.out.mono ?_
  rintro e w2 ⟨rfl, h1, h2⟩
  have h1 := hidp h1
  have h2 := hidp h2
  clear HP
  go_wp2_with fail
  go_ret
  exact ⟨rfl, h1.out, h2.out⟩
set_option maxRecDepth 100000 in
set_option maxHeartbeats 4000000 in
theorem rWHash_any {w : World} {g lim : Nat} {L : List Nat} (H : WQ w g lim L) (a : List Nat) (ha : Bytes 32 a) (hl : L.length + 32 ≤ lim) (hlim : lim ≤ 1048576) :
    Calls Tryz.prog 171 #[.pointer (some ⟨g, 0, none⟩), .agg (bvs a).toArray] w (WP w g lim (L ++ a)) := by
  have hsl := fun w' => run_sliceAt_all (P := Tryz.prog) (t := 39) (e := 5) (n := 32) Tryz.underlying39 (by kernel_rfl) (by decide) w.heap.size 0 w'
  have hA := hidp (((Below.refl w.heap.size w).alloc (Nat.le_refl _) (.cells (bvs a).toArray 39)).alloc (by simp) (.cells #[] 5))
  have hk := hidp ((Blk.new w (bvs a) 39).alloc (.cells #[] 5))
  have HH := hidp H
  have HL := hidp (And.intro hl hlim)
  have hown : Hid (((w.alloc (.cells (bvs a).toArray 39)).alloc (.cells #[] 5)).ownsRow (w.heap.size + 1) 5 1 (.slice (some ⟨w.heap.size + 1, 0, none⟩) 0 0) 0 []) := by
    have q := own_nothing (w.alloc (.cells (bvs a).toArray 39))
    rw [show (w.alloc (.cells (bvs a).toArray 39)).heap.size = w.heap.size + 1 by simp] at q
    exact hidp q
  have HSA : Hid (ByS ((w.alloc (.cells (bvs a).toArray 39)).alloc (.cells #[] 5)) (some ⟨w.heap.size, 0, none⟩) 32 a) := hidp (ByS.of_bs (b := w.heap.size) (o := 0) ⟨ha.2, by rw [ha.1]; exact Nat.le_refl _, fun _ => ⟨rfl, hk.out.lt⟩, fun i hi => by
    rw [Nat.zero_add, hk.out.cell i]
    exact bvs_get hi⟩ (fun h => by cases h))
  have hz0 : Hid (w.heap.size + 1 ≤ ((w.alloc (.cells (bvs a).toArray 39)).alloc (.cells #[] 5)).heap.size) := hidp (by simp)
  have hla := hidp ha.1
  have hby := hidp ha.2
  have hn1 : Hid (0 + a.length ≤ 4000000) := hidp (by rw [ha.1]; decide)
  have hln : Hid (L.length + a.length ≤ lim) := hidp (by rw [ha.1]; exact hl)
  clear H hl hlim ha
  go_enter Tryz.func171, Tryz.ntmps171
  go_wp2_with (at_builtin; refine wpList_append_byS rfl _ _ rfl (w.heap.size + 1) 0 [] _ rfl hown.out (some ⟨w.heap.size, 0, none⟩) 32 a (by rw [hla.out]; rfl) HSA.out hn1.out hz0.out ?_; intro v' w1 hown' hgrow; have hB1 := hidp (hA.out.grown hgrow (by simp; omega) (fun j hj => by have := (hown.out.lt j hj).1; omega)); have HH1 := hidp (HH.out.below hB1.out); rw [Nat.zero_add, List.nil_append] at hown'; obtain ⟨q, b, c, rfl, hqb, hq0, hs⟩ := Bs.of_own hown' hby.out; have hS := hidp (ByS.of_bs hs hq0); clear hown' hgrow hqb hq0 hs)
  have HP := hidp ((rPut_any HH1.out hS.out hln.out HL.out.2).mono fun e w' (h : WP w1 g lim (L ++ a) e w') => h.low hB1.out)
  refine HP.out.mono ?_
  rintro e w2 ⟨rfl, h1, h2⟩
  have h1 := hidp h1
  have h2 := hidp h2
  clear HP
  go_wp2_with fail
  go_ret
  exact ⟨rfl, h1.out, h2.out⟩
set_option maxRecDepth 100000 in
set_option maxHeartbeats 4000000 in
theorem rDone_any {w : World} {g lim : Nat} {L : List Nat} (H : WQ w g lim L) (hL : L.length ≤ 3000000) :
    Calls Tryz.prog 83 #[.pointer (some ⟨g, 0, none⟩)] w (DoneP w L) := by
  obtain ⟨p0, b0, c0, hb, hs, _⟩ := H.q
  have k1 := hb.cell 1
  have k2 := hb.cell 2
  simp only [List.getElem?_cons_zero, List.getElem?_cons_succ] at k1 k2
  have hlt := hb.lt
  have hby := hidp hs.byte
  have hB : Hid (Below w.heap.size w (w.alloc (.cells #[] 5))) := hidp ((Below.refl _ w).alloc (Nat.le_refl _) _)
  have HS := hidp ((ByS.of_bs hs hs.none_cap).below hB.out)
  have hown := hidp (own_nothing w)
  have HN := hidp hL
  clear H hs hL hb
  go_enter Tryz.func83, Tryz.ntmps83
  go_wp2_with (at_builtin; refine wpList_append_byS rfl _ _ rfl w.heap.size 0 [] _ rfl hown.out p0 c0 L rfl HS.out (by have := HN.out; omega) (by simp) ?_; intro v' w1 hown' hgrow; have hB1 := hidp (hB.out.grown hgrow (by simp) (fun j hj => (hown.out.lt j hj).1)); rw [Nat.zero_add, List.nil_append] at hown'; obtain ⟨q, b, c, rfl, hqb, hq0, hs⟩ := Bs.of_own hown' hby.out; have hS := hidp (And.intro hqb (And.intro hq0 hs)); clear hown' hgrow hqb hq0 hs)
  exact bodyPost_ret (v := .tuple #[.slice q L.length c, .int .i64 0]) (by simp [results, Tryz.results83, go_sem]) rfl ⟨⟨q, b, c, rfl, hS.out⟩, hB1.out⟩
end Go.Proofs.YtcmkmnidnapabaaGreat

/-! Rx: The answer's writer: Word, Key. -/
namespace Go.Proofs.YtcmkmnidnapabaaGreat
set_option linter.unusedSimpArgs false
open Go.RowKit Go.Lib

/-- What the loop of Word knows. -/
structure WrdI (w wr : World) (n j : Nat) (v : Value) : Prop where
  bs : ∃ p c, v = .slice p j c ∧ ByS wr p c (loD j n)
  own : wr.ownsRow w.heap.size 5 1 v j (bvs (loD j n))
  bel : Below w.heap.size w wr
theorem loD_word (n : Nat) : loD 8 n = wordB n := by
  unfold wordB formW
  simp [List.range_succ, loD]
set_option maxRecDepth 100000 in
set_option maxHeartbeats 4000000 in
theorem rWKey_any {w : World} {g lim : Nat} {L : List Nat} (H : WQ w g lim L) (a : List Nat) (ha : Bytes 4 a) (hl : L.length + 4 ≤ lim) (hlim : lim ≤ 1048576) :
    Calls Tryz.prog 82 #[.pointer (some ⟨g, 0, none⟩), .agg (bvs a).toArray] w (WP w g lim (L ++ a)) := by
  have hsl := fun w' => run_sliceAt_all (P := Tryz.prog) (t := 24) (e := 5) (n := 4) Tryz.underlying24 (by kernel_rfl) (by decide) w.heap.size 0 w'
  have hA := hidp (((Below.refl w.heap.size w).alloc (Nat.le_refl _) (.cells (bvs a).toArray 24)).alloc (by simp) (.cells #[] 5))
  have hk := hidp ((Blk.new w (bvs a) 24).alloc (.cells #[] 5))
  have HH := hidp H
  have HL := hidp (And.intro hl hlim)
  have hown : Hid (((w.alloc (.cells (bvs a).toArray 24)).alloc (.cells #[] 5)).ownsRow (w.heap.size + 1) 5 1 (.slice (some ⟨w.heap.size + 1, 0, none⟩) 0 0) 0 []) := by
    have q := own_nothing (w.alloc (.cells (bvs a).toArray 24))
    rw [show (w.alloc (.cells (bvs a).toArray 24)).heap.size = w.heap.size + 1 by simp] at q
    exact hidp q
  have HSA : Hid (ByS ((w.alloc (.cells (bvs a).toArray 24)).alloc (.cells #[] 5)) (some ⟨w.heap.size, 0, none⟩) 4 a) := hidp (ByS.of_bs (b := w.heap.size) (o := 0) ⟨ha.2, by rw [ha.1]; exact Nat.le_refl _, fun _ => ⟨rfl, hk.out.lt⟩, fun i hi => by
    rw [Nat.zero_add, hk.out.cell i]
    exact bvs_get hi⟩ (fun h => by cases h))
  have hz0 : Hid (w.heap.size + 1 ≤ ((w.alloc (.cells (bvs a).toArray 24)).alloc (.cells #[] 5)).heap.size) := hidp (by simp)
  have hla := hidp ha.1
  have hby := hidp ha.2
  have hn1 : Hid (0 + a.length ≤ 4000000) := hidp (by rw [ha.1]; decide)
  have hln : Hid (L.length + a.length ≤ lim) := hidp (by rw [ha.1]; exact hl)
  clear H hl hlim ha
  go_enter Tryz.func82, Tryz.ntmps82
  go_wp2_with (at_builtin; refine wpList_append_byS rfl _ _ rfl (w.heap.size + 1) 0 [] _ rfl hown.out (some ⟨w.heap.size, 0, none⟩) 4 a (by rw [hla.out]; rfl) HSA.out hn1.out hz0.out ?_; intro v' w1 hown' hgrow; have hB1 := hidp (hA.out.grown hgrow (by simp; omega) (fun j hj => by have := (hown.out.lt j hj).1; omega)); have HH1 := hidp (HH.out.below hB1.out); rw [Nat.zero_add, List.nil_append] at hown'; obtain ⟨q, b, c, rfl, hqb, hq0, hs⟩ := Bs.of_own hown' hby.out; have hS := hidp (ByS.of_bs hs hq0); clear hown' hgrow hqb hq0 hs)
  have HP := hidp ((rPut_any HH1.out hS.out hln.out HL.out.2).mono fun e w' (h : WP w1 g lim (L ++ a) e w') => h.low hB1.out)
  refine HP.out.mono ?_
  rintro e w2 ⟨rfl, h1, h2⟩
  have h1 := hidp h1
  have h2 := hidp h2
  clear HP
  go_wp2_with fail
  go_ret
  exact ⟨rfl, h1.out, h2.out⟩
end Go.Proofs.YtcmkmnidnapabaaGreat

/-! Ro: The code's writer: results that may be written over. -/
namespace Go.Proofs.YtcmkmnidnapabaaGreat
set_option linter.unusedSimpArgs false
open Go.RowKit Go.Lib

theorem OwnB.below {B : Nat} {w w' : World} {p : Option Addr} {bs : List Nat} {cap : Nat} (h : OwnB B w p bs cap) (k : Below w.heap.size w w') : OwnB B w' p bs cap :=
  ⟨h.1, fun h0 => by obtain ⟨g, rest, h1, h2, h3⟩ := h.2 h0; exact ⟨g, rest, h1, h2, k.blk' h3⟩⟩
theorem OwnB.lower {B C : Nat} {w : World} {p : Option Addr} {bs : List Nat} {cap : Nat} (h : OwnB B w p bs cap) (k : C ≤ B) : OwnB C w p bs cap :=
  ⟨h.1, fun h0 => by obtain ⟨g, rest, h1, h2, h3⟩ := h.2 h0; exact ⟨g, rest, h1, Nat.le_trans k h2, h3⟩⟩
theorem OwnB.nil (B : Nat) (w : World) (p : Option Addr) : OwnB B w p [] 0 := ⟨Nat.le_refl _, fun h => absurd h (by decide)⟩
theorem Bs.nil (w : World) (p : Option Addr) (b : Nat) : Bs w p b 0 [] 0 := ⟨by simp, by simp, fun h => absurd h (by omega), fun i hi => absurd hi (by simp)⟩
def DoneO (w : World) (L : List Nat) (e : Ending) (w' : World) : Prop := (∃ p b cap, e = .returned (.tuple #[.slice p L.length cap, .int .i64 0]) ∧ w.heap.size ≤ b ∧ (p = none → cap = 0) ∧ Bs w' p b 0 L cap ∧ OwnB w.heap.size w' p L cap) ∧ Below w.heap.size w w'
set_option maxRecDepth 20000 in
set_option maxHeartbeats 2000000 in
theorem clone_own (y : Addr) (cap : Nat) (L : List Nat) (w : World) (h : ByS w (some y) cap L) (hn : L.length ≤ 4000000) :
    Calls Tryz.prog 152 #[.slice (some y) L.length cap] w fun e w' => (∃ p b cap', e = .returned (.slice p L.length cap') ∧ w.heap.size ≤ b ∧ (p = none → cap' = 0) ∧ Bs w' p b 0 L cap' ∧ OwnB w.heap.size w' p L cap') ∧ Below w.heap.size w w' := by
  have hB : Hid (Below w.heap.size w (w.alloc (.cells #[] 5))) := hidp ((Below.refl _ w).alloc (Nat.le_refl _) _)
  have HS := hidp (h.below hB.out)
  have hown := hidp (own_nothing w)
  have HN := hidp hn
  have hby := hidp h.byte
  have q := fun w => run_sl_nil y L.length cap w
  clear h hn
  go_enter Tryz.func152, Tryz.ntmps152
  go_wp2_with (at_builtin; refine wpList_append_byS rfl _ _ rfl w.heap.size 0 [] _ rfl hown.out (some y) cap L rfl HS.out (by have := HN.out; omega) (by simp) ?_; intro v' w1 hown' hgrow; have hO := hidp hown'; have hB1 := hidp (hB.out.grown hgrow (by simp) (fun j hj => (hown.out.lt j hj).1)); clear hown' hgrow)
  have hO2 := hO.out
  rw [Nat.zero_add, List.nil_append] at hO2
  obtain ⟨p, b, c, rfl, hb, hp, hs⟩ := Bs.of_own hO2 hby.out
  have hO3 : OwnB w.heap.size w1 p L c := by
    obtain ⟨p2, c2, e2, h⟩ := OwnB.of hO.out
    cases e2
    exact h
  go_ret
  exact ⟨⟨p, b, c, rfl, hb, hp, hs, hO3⟩, hB1.out⟩
set_option maxRecDepth 20000 in
theorem wDone_own {w : World} {g lim : Nat} {v : Value} {L : List Nat} (H : Wr w g lim v L 0) :
    Calls Tryz.prog 79 #[.pointer (some ⟨g, 0, none⟩)] w (DoneO w L) := by
  have HR := hidp (refusal_any H)
  have h2 : w.cell? ⟨g, 2, none⟩ = some v := H.blk.cell 2
  have hlm := H.lim
  have hle := H.le
  rcases H.own.2 with ⟨rfl, hn⟩ | ⟨gr, c, cur, rfl, _⟩
  · obtain rfl : L = [] := List.eq_nil_of_length_eq_zero hn
    clear H hn
    go_enter Tryz.func79, Tryz.ntmps79
    go_wp2_with (go_at_call 148; refine HR.out.mono ?_; rintro e wx ⟨rfl, rfl⟩)
    refine (clone_none _).mono ?_
    rintro e wx ⟨rfl, rfl⟩
    go_wp2
    go_ret2
    exact ⟨⟨none, w.heap.size, 0, rfl, Nat.le_refl _, fun _ => rfl, ⟨by simp, by simp, fun h0 => absurd h0 (by omega), fun i hi => absurd hi (by simp)⟩, OwnB.nil _ _ _⟩, Below.refl _ _⟩
  · have HC := hidp (clone_own ⟨gr, 0, none⟩ c L w (own_byS H.own H.byte))
    have HL := hidp (show L.length ≤ 4000000 by omega)
    clear H hlm hle
    go_enter Tryz.func79, Tryz.ntmps79
    go_wp2_with (first | (go_at_call 148; refine HR.out.mono ?_; rintro e wx ⟨rfl, rfl⟩) | (go_at_call 152; refine (HC.out HL.out).mono ?_; rintro e wx ⟨⟨p, b, cap', rfl, hb, hp, hs⟩, hB⟩; have hX := hidp (And.intro hb (And.intro hp (And.intro hs hB))); clear hb hp hs hB))
    go_ret2
    exact ⟨⟨p, b, cap', rfl, hX.out.1, hX.out.2.1, hX.out.2.2.1⟩, hX.out.2.2.2⟩
end Go.Proofs.YtcmkmnidnapabaaGreat
