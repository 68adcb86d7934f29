/-
  Texts R4w, R4x, R4y, L6s, L6t, one behind the other.
-/
import Derived.Test.YtdiklimikkplcaaUj
import Derived.Test.YtdiklimikkplcaaL6n
import Derived.Test.YtdiklimikkplcaaIm
import Derived.Test.YtdiklimikkplcaaL6h
import Derived.Test.YtdiklimikkplcaaIc

/-! R4w: The reference of layer 4: Number, Counted. -/
namespace Go.Proofs.Ytdiklimikkplcaa
set_option linter.unusedSimpArgs false
open Go.RowKit Go.Lib

/-- The low digits of a number. -/
def loD : Nat → Nat → List Nat
  | 0, _ => []
  | j + 1, n => n / 256 ^ j % 256 :: loD j n
theorem loD_len : ∀ j n, (loD j n).length = j
  | 0, _ => rfl
  | j + 1, n => by simp [loD, loD_len j]
theorem loD_byte : ∀ j n, ∀ x ∈ loD j n, x < 256
  | 0, _, x, hx => by simp [loD] at hx
  | j + 1, n, x, hx => by
    simp only [loD, List.mem_cons] at hx
    rcases hx with rfl | hx
    · exact Nat.mod_lt _ (by decide)
    · exact loD_byte j n x hx
theorem loD_dB : ∀ j k n, dB (k + j) n = dB k (n / 256 ^ j) ++ loD j n
  | 0, k, n => by simp [loD]
  | j + 1, k, n => by
    have ih := loD_dB j (k + 1) n
    rw [show k + 1 + j = k + (j + 1) by omega] at ih
    rw [ih]
    simp only [dB, loD, List.append_assoc, List.cons_append, List.nil_append]
    rw [Nat.div_div_eq_div_mul, ← Nat.pow_succ]
theorem loD_all {n j : Nat} (h : Digs n j) (hn : n < 18446744073709551616) : loD j n = dB (dg n) n := by
  have e := digs_dg h hn
  have q := loD_dB j 0 n
  rw [Nat.zero_add] at q
  rw [← e, q]
  simp [dB]
theorem own_lit1 (w : World) (x : Nat) : (w.alloc (.cells (bvs [x]).toArray 5)).ownsRow w.heap.size 5 1 (.slice (some ⟨w.heap.size, 0, none⟩) 1 1) 1 (bvs [x]) :=
  ⟨rfl, .inr ⟨w.heap.size, 1, (bvs [x]).toArray, rfl, Nat.le_refl _, heap_alloc_new w _, Nat.le_refl _, by unfold maxLen; omega, rfl, rfl⟩⟩
/-- What the loop of Number knows. -/
structure NumI (w wr : World) (n j : Nat) (v : Value) : Prop where
  bs : ∃ p c, v = .slice p j c ∧ ByS wr p c (loD j n)
  bel : Below w.heap.size w wr
  lo : 0 < j → 256 ^ (j - 1) ≤ n
  j8 : j ≤ 8
/-- New bytes of one's own: what a function that tells bytes leaves. -/
def NewB (w : World) (L : List Nat) (e : Ending) (w' : World) : Prop := (∃ p c, e = .returned (.slice p L.length c) ∧ ByS w' p c L ∧ w'.ownsRow w.heap.size 5 1 (.slice p L.length c) L.length (bvs L)) ∧ Below w.heap.size w w'
theorem ownsRow_base {w : World} {b0 base : Nat} {v : Value} {n : Nat} {xs : List Value} (h : w.ownsRow base 5 1 v n xs) (hb : b0 ≤ base) : w.ownsRow b0 5 1 v n xs := by
  refine ⟨h.1, ?_⟩
  rcases h.2 with h2 | ⟨g, cap, cur, h1, h2, r⟩
  · exact .inl h2
  · exact .inr ⟨g, cap, cur, h1, Nat.le_trans hb h2, r⟩
theorem bys_own {w : World} {base : Nat} {v : Value} {L : List Nat} (h : w.ownsRow base 5 1 v L.length (bvs L)) (hb : ∀ x ∈ L, x < 256) : ∃ p c, v = .slice p L.length c ∧ ByS w p c L := by
  obtain ⟨p, b, c, rfl, _, h1, h2⟩ := Bs.of_own h hb
  exact ⟨p, c, rfl, ByS.of_bs h2 h1⟩
set_option maxRecDepth 100000 in
set_option maxHeartbeats 4000000 in
theorem rNumber_any (n : Nat) (w : World) (hn : n < 9223372036854775808) : Calls Try.prog 134 #[.int .i64 (n : Nat)] w (NewB w (nB n)) := by
  have hN := hidp hn
  clear hn
  go_enter Try.func134, Try.ntmps134
  go_wp2
  go_loopw [0, 3] (fun m v wr => ∃ j : Nat, m = .int .i64 ((n / 256 ^ j : Nat) : Int) ∧ Hid (NumI w wr n j v)) (fun m _ _ => (Go.RowKit.intOf m).toNat)
  case atStart => exact ⟨0, by simp, hidp ⟨⟨none, 0, rfl, ⟨by simp [loD], by simp [loD], fun _ => rfl, fun x hx => by cases hx⟩⟩, Below.refl _ _, fun h => absurd h (by decide), by decide⟩⟩
  case round =>
    obtain ⟨j, rfl, hr⟩ := hrel
    have hle : n / 256 ^ j ≤ n := Nat.div_le_self _ _
    obtain ⟨p, c, rfl, hbs⟩ := hr.out.bs
    obtain ⟨m, hm⟩ : ∃ m, m = n / 256 ^ j := ⟨_, rfl⟩
    rw [← hm]
    have hlen := loD_len j n
    by_cases hpos : 0 < m
    · have hj8 : j < 8 := by
        rcases Nat.lt_or_ge j 8 with h | h
        · exact h
        · have h1 : n / 256 ^ j = 0 := Nat.div_eq_of_lt (by have := Nat.pow_le_pow_right (n := 256) (by decide) h; have := hN.out; omega)
          omega
      have hp2 : (0 : Int) < (m : Int) := by omega
      have hms : m < 9223372036854775808 := by have := hN.out; omega
      have hwr : IntKind.u8.wrap (m : Int) = ((m % 256 : Nat) : Int) := by rw [IntKind.wrap_u8]; omega
      have hwr2 : (m : Int) % 256 = ((m % 256 : Nat) : Int) := by omega
      have hnx : n / 256 ^ (j + 1) = m / 256 := by rw [hm, Nat.div_div_eq_div_mul, ← Nat.pow_succ]
      have hlo : 256 ^ j ≤ n := by
        rcases Nat.lt_or_ge n (256 ^ j) with h | h
        · rw [hm, Nat.div_eq_of_lt h] at hpos; omega
        · exact h
      have HJ := hidp (And.intro hnx (And.intro hlo hj8))
      have hd : loD (j + 1) n = m % 256 :: loD j n := by simp [loD, hm]
      have HD := hidp hd
      have HL := hidp (loD_byte (j + 1) n)
      have HO := hidp (own_lit1 wr (m % 256))
      have HS := hidp (hbs.below ((Below.refl wr.heap.size wr).alloc (Nat.le_refl _) (.cells (bvs [m % 256]).toArray 5)))
      have hn1 := hidp (show 1 + (loD j n).length ≤ 4000000 by omega)
      have hz1 := hidp (show wr.heap.size ≤ (wr.alloc (.cells (bvs [m % 256]).toArray 5)).heap.size by simp)
      have hlen' := hidp hlen
      have HM := hidp hm
      clear hle hbs hm hnx hlo hd hlen
      obtain ⟨d, hd⟩ : ∃ d, d = m % 256 := ⟨_, rfl⟩
      rw [← hd] at hwr hwr2 HO HS hz1 HD
      replace hd := hidp hd
      rw [← hlen'.out]
      go_wp2_with (at_builtin; refine wpList_append_byS rfl _ _ rfl wr.heap.size 1 (bvs [d]) _ rfl HO.out p c (loD j n) rfl HS.out hn1.out hz1.out ?_; intro v' w1 hown' hgrow; have hO := hidp hown'; have T1 := hidp (((Below.refl wr.heap.size wr).alloc (Nat.le_refl _) _).grown hgrow hz1.out (fun k hk => (HO.out.lt k hk).1)); clear hown' hgrow)
      have hO2 : w1.ownsRow wr.heap.size 5 1 v' (loD (j + 1) n).length (bvs (loD (j + 1) n)) := by
        have q := hO.out
        rw [loD_len, HD.out]
        rw [hlen'.out, Nat.add_comm] at q
        exact q
      obtain ⟨p', c', rfl, hs⟩ := bys_own hO2 HL.out
      rw [loD_len] at *
      refine ⟨⟨j + 1, congrArg (Value.int .i64) (by rw [HJ.out.1]; omega), hidp ⟨⟨p', c', rfl, hs⟩, hr.out.bel.trans (T1.out.mono hr.out.bel.size), fun _ => HJ.out.2.1, by have := HJ.out.2.2; omega⟩⟩, ?_⟩
      simp [Go.RowKit.intOf]
      omega
    · have h0 : m = 0 := by omega
      subst h0
      have hdig : Digs n j := ⟨by
        rcases Nat.lt_or_ge n (256 ^ j) with h | h
        · exact h
        · have := Nat.div_pos h (Nat.pow_pos (n := j) (by decide : 0 < 256))
          omega, hr.out.lo, hr.out.j8⟩
      have hall := loD_all hdig (by have := hN.out; omega)
      have hjj := digs_dg hdig (by have := hN.out; omega)
      have hbel := hidp hr.out.bel
      have hj8 := hr.out.j8
      have hby := loD_byte j n
      have hnb : nB n = j :: loD j n := by unfold nB; rw [← hall, ← hjj]
      clear hr hdig hall hjj hm hle hpos
      generalize loD j n = L at *
      subst hlen
      have HNB := hidp hnb
      clear hnb
      have hwr : IntKind.u8.wrap (L.length : Int) = (L.length : Int) := by rw [IntKind.wrap_u8]; omega
      have hwr2 : (L.length : Int) % 256 = (L.length : Int) := by omega
      have HO := hidp (own_lit1 wr L.length)
      have HS := hidp (hbs.below ((Below.refl wr.heap.size wr).alloc (Nat.le_refl _) (.cells (bvs [L.length]).toArray 5)))
      have hn1 := hidp (show 1 + L.length ≤ 4000000 by omega)
      have hz1 := hidp (show wr.heap.size ≤ (wr.alloc (.cells (bvs [L.length]).toArray 5)).heap.size by simp)
      have hBY := hidp (show ∀ x ∈ L.length :: L, x < 256 from fun x hx => by
        rcases List.mem_cons.1 hx with rfl | hx
        · omega
        · exact hby x hx)
      clear hbs hby
      go_wp2_with (at_builtin; refine wpList_append_byS rfl _ _ rfl wr.heap.size 1 (bvs [L.length]) _ rfl HO.out p c L rfl HS.out hn1.out hz1.out ?_; intro v' w1 hown' hgrow; have hO := hidp hown'; have T1 := hidp (((Below.refl wr.heap.size wr).alloc (Nat.le_refl _) _).grown hgrow hz1.out (fun k hk => (HO.out.lt k hk).1)); clear hown' hgrow)
      have hO2 : w1.ownsRow wr.heap.size 5 1 v' (L.length :: L).length (bvs (L.length :: L)) := by
        have q := hO.out
        rw [show 1 + L.length = (L.length :: L).length by rw [List.length_cons]; omega] at q
        exact q
      obtain ⟨p', c', rfl, hs⟩ := bys_own hO2 hBY.out
      go_ret
      exact ⟨⟨p', c', by rw [HNB.out]; rfl, by rw [HNB.out]; exact hs, by rw [HNB.out]; exact ownsRow_base hO2 hbel.out.size⟩, hbel.out.trans (T1.out.mono hbel.out.size)⟩
end Go.Proofs.Ytdiklimikkplcaa

/-! R4x: The reference of layer 4: its writer over bytes: Counted, NewWriter, Put. -/
namespace Go.Proofs.Ytdiklimikkplcaa
set_option linter.unusedSimpArgs false
open Go.RowKit Go.Lib

theorem bvs_appR (a b : List Nat) : bvs (a ++ b) = bvs a ++ bvs b := by unfold bvs; rw [List.map_append]
/-- What stands ahead of counted bytes, and they. -/
def ctB (L : List Nat) : List Nat := nB L.length ++ L
set_option maxRecDepth 100000 in
set_option maxHeartbeats 4000000 in
theorem rCounted_any {w : World} {p : Option Addr} {cap : Nat} {L : List Nat} (h : ByS w p cap L) (hn : L.length ≤ 3000000) : Calls Try.prog 135 #[.slice p L.length cap] w (NewB w (ctB L)) := by
  have hlt : L.length < 9223372036854775808 := by omega
  have HN := hidp hn
  have HS := hidp h
  have HD := hidp (rNumber_any L.length w hlt)
  have hnl : Hid ((nB L.length).length ≤ 9) := hidp (by
    have q := dg_le L.length
    unfold nB
    rw [List.length_cons, dB_len]
    omega)
  have hbn : Hid (∀ x ∈ nB L.length, x < 256) := hidp (nB_byte L.length)
  have HC : Hid (ctB L = nB L.length ++ L) := hidp rfl
  clear h hn hlt
  generalize nB L.length = M at *
  go_enter Try.func135, Try.ntmps135
  go_wp2_with fail
  refine HD.out.mono ?_
  rintro e wx ⟨⟨q, c, rfl, hs, ho⟩, hb⟩
  have HO := hidp ho
  have HB := hidp hb
  have HS1 := hidp (HS.out.below HB.out)
  have hz := hidp hb.size
  clear hs ho hb HD
  have hn1 : Hid (M.length + L.length ≤ 4000000) := hidp (by have := hnl.out; have := HN.out; omega)
  go_wp2_with (at_builtin; refine wpList_append_byS rfl _ _ rfl w.heap.size M.length (bvs M) _ rfl HO.out p cap L rfl HS1.out hn1.out hz.out ?_; intro v' w1 hown' hgrow; have hO := hidp hown'; have T1 := hidp (HB.out.grown hgrow hz.out (fun k hk => (HO.out.lt k hk).1)); clear hown' hgrow)
  have hO2 : w1.ownsRow w.heap.size 5 1 v' (ctB L).length (bvs (ctB L)) := by
    have q := hO.out
    rw [HC.out, List.length_append, bvs_appR]
    exact q
  obtain ⟨p', c', rfl, hs⟩ := bys_own hO2 (by
    intro x hx
    rw [HC.out] at hx
    rcases List.mem_append.1 hx with h | h
    · exact hbn.out x h
    · exact HS.out.byte x h)
  go_ret
  exact ⟨⟨p', c', rfl, hs, hO2⟩, T1.out⟩
/-- The answer's writer without a fault. -/
structure WQ (w : World) (g lim : Nat) (L : List Nat) : Prop where
  q : ∃ p b c, Blk w g [.int .i64 (lim : Nat), .slice p L.length c, .int .i64 0] 93 ∧ Bs w p b 0 L c ∧ (0 < c → b ≠ g)
theorem WQ.below {w w' : World} {g lim : Nat} {L : List Nat} (H : WQ w g lim L) (h : Below w.heap.size w w') : WQ w' g lim L := by
  obtain ⟨p, b, c, h1, h2, h3⟩ := H.q
  exact ⟨p, b, c, h1.below h h1.lt, h2.below h, h3⟩
theorem WQ.glt {w : World} {g lim : Nat} {L : List Nat} (H : WQ w g lim L) : g < w.heap.size := by obtain ⟨p, b, c, h1, _⟩ := H.q; exact h1.lt
set_option maxRecDepth 100000 in
set_option maxHeartbeats 4000000 in
theorem rNewW_any (w : World) (lim : Nat) (hl : lim ≤ 1048576) : Calls Try.prog 16 #[.int .i64 (lim : Nat)] w fun e w' => ∃ g, e = .returned (.tuple #[.pointer (some ⟨g, 0, none⟩), .int .i64 0]) ∧ w.heap.size ≤ g ∧ WQ w' g lim [] ∧ Below w.heap.size w w' := by
  have h1 : decide ((lim : Int) < 0) = false := decide_eq_false (by omega)
  have h2 : decide ((1048576 : Int) < (lim : Int)) = false := decide_eq_false (by omega)
  clear hl
  go_enter Try.func16, Try.ntmps16
  go_wp2_with fail
  exact bodyPost_ret (v := .tuple #[.pointer (some ⟨w.heap.size, 0, none⟩), .int .i64 0]) (by simp [results, Try.results16, go_sem]) rfl ⟨w.heap.size, rfl, Nat.le_refl _, ⟨none, 0, 0, Blk.new w [.int .i64 (lim : Nat), .slice none 0 0, .int .i64 0] _, ⟨by simp, by simp, fun h => absurd h (by omega), fun i hi => absurd hi (by simp)⟩, fun h => absurd h (by omega)⟩, (Below.refl _ w).alloc (Nat.le_refl _) _⟩
set_option maxRecDepth 100000 in
set_option maxHeartbeats 4000000 in
theorem rPut_any {w : World} {g lim : Nat} {L X : List Nat} {p : Option Addr} {c : Nat} (H : WQ w g lim L) (hS : ByS w p c X) (hl : L.length + X.length ≤ lim) (hlim : lim ≤ 1048576) :
    Calls Try.prog 133 #[.pointer (some ⟨g, 0, none⟩), .slice p X.length c] w fun e w' => e = .returned (.int .i64 0) ∧ WQ w' g lim (L ++ X) ∧ Bex g w w' := by
  obtain ⟨p0, b0, c0, hb, hs0, hne⟩ := H.q
  have HB := hidp hb
  have HS0 := hidp (ByS.of_bs hs0 hs0.none_cap)
  have HL := hidp (And.intro hl hlim)
  have HS := hidp hS
  have k0 := hb.cell 0
  have k1 := hb.cell 1
  have k2 := hb.cell 2
  simp only [List.getElem?_cons_zero, List.getElem?_cons_succ] at k0 k1 k2
  have hw1 : IntKind.i64.wrap ((L.length : Int) + (X.length : Int)) = (L.length : Int) + (X.length : Int) := by rw [IntKind.wrap_i64]; omega
  have hw2 : wrap64 ((L.length : Int) + (X.length : Int)) = (L.length : Int) + (X.length : Int) := by rw [w64 _ (by omega)]
  have hd : decide ((lim : Int) < (L.length : Int) + (X.length : Int)) = false := decide_eq_false (by omega)
  clear H hb hs0 hne hS hl hlim
  go_enter Try.func133, Try.ntmps133
  go_wp2_with fail
  go_quiet (fail)
  have H1 := hidp (HB.out.drewN nq)
  have hx := hidp ((Bex.refl g w).drewN nq)
  have HT : Hid (ByS (w.drewN nq) p0 c0 L ∧ ByS (w.drewN nq) p c X) := hidp ⟨⟨HS0.out.byte, HS0.out.le, HS0.out.none, HS0.out.cell⟩, ⟨HS.out.byte, HS.out.le, HS.out.none, HS.out.cell⟩⟩
  clear k0 k1 k2 HB HS0 HS hw1 hw2 hd
  generalize w.drewN nq = w1 at H1 hx HT ⊢
  have k1 := H1.out.cell 1
  have k2 := H1.out.cell 2
  simp only [List.getElem?_cons_zero, List.getElem?_cons_succ] at k1 k2
  have f1 := H1.out.free 1
  have hlt := H1.out.lt
  have hown := hidp (own_nothing w1)
  have hby := hidp (show ∀ x ∈ L ++ X, x < 256 from fun x hx => by
    rcases List.mem_append.1 hx with h | h
    · exact HT.out.1.byte x h
    · exact HT.out.2.byte x h)
  have hA := hidp ((Below.refl w1.heap.size w1).alloc (Nat.le_refl _) (.cells #[] 5))
  have HSA := hidp (HT.out.1.below hA.out)
  have hz0 := hidp hA.out.size
  have hn1 : Hid (0 + L.length ≤ 4000000) := hidp (by have := HL.out; omega)
  have hn2 : Hid (0 + L.length + X.length ≤ 4000000) := hidp (by have := HL.out; omega)
  go_wp2_with (first
    | (at_builtin; refine wpList_append_byS rfl _ _ rfl w1.heap.size 0 [] _ rfl hown.out p0 c0 L rfl HSA.out hn1.out hz0.out ?_; intro v' w2 hown' hgrow; have hO := hidp hown'; have T1 := hidp (hA.out.grown hgrow hz0.out (fun k hk => (hown.out.lt k hk).1)); have hz1 := hidp T1.out.size; have HSX := hidp (HT.out.2.below T1.out); clear hown' hgrow)
    | (at_builtin; refine wpList_append_byS rfl _ _ rfl w1.heap.size (0 + L.length) ([] ++ bvs L) _ rfl hO.out p c X rfl HSX.out hn2.out hz1.out ?_; intro v'' w3 hown' hgrow; have hO2 := hidp hown'; have T2 := hidp (T1.out.grown hgrow hz1.out (fun k hk => (hO.out.lt k hk).1)); clear hown' hgrow; have K3 := hidp (H1.out.below T2.out hlt); have kf := K3.out.free 1; have kl := K3.out.lt; have kc := K3.out.cell 2; have kd := K3.out.cell 1; simp only [List.getElem?_cons_zero, List.getElem?_cons_succ] at kc kd; obtain ⟨p3, b3, c3, rfl, hb3, _, hs3⟩ := Bs.of_own (L := L ++ X) (by have q := hO2.out; rw [List.nil_append, ← bvs_appR, Nat.zero_add, ← List.length_append] at q; exact q) hby.out; have HS3 := hidp (And.intro hb3 hs3); clear hb3 hs3; rw [List.length_append] at *))
  have hq : Bex g w3 (w3.setCell ⟨g, 1, none⟩ (.slice p3 (L ++ X).length c3)) := (Bex.refl g w3).setCell 1 _
  have hW : WQ (w3.setCell ⟨g, 1, none⟩ (.slice p3 (L ++ X).length c3)) g lim (L ++ X) := ⟨p3, b3, c3, K3.out.set 1 _, HS3.out.2.bex hq (fun _ => by have := HS3.out.1; omega), fun _ => by have := HS3.out.1; omega⟩
  rw [List.length_append] at hq hW
  go_ret
  exact ⟨rfl, hW, hx.out.trans ((Bex.of_below T2.out).trans hq)⟩
end Go.Proofs.Ytdiklimikkplcaa

/-! R4y: The reference of layer 4: its writer over bytes: Num, Text, Hash, Done. -/
namespace Go.Proofs.Ytdiklimikkplcaa
set_option linter.unusedSimpArgs false
open Go.RowKit Go.Lib

/-- What a write that fits leaves. -/
def WP (w : World) (g lim : Nat) (L : List Nat) (e : Ending) (w' : World) : Prop := e = .returned (.int .i64 0) ∧ WQ w' g lim L ∧ Bex g w w'
theorem WP.low {w0 w w' : World} {g lim : Nat} {L : List Nat} {e : Ending} (h : WP w g lim L e w') (hb : Below w0.heap.size w0 w) : WP w0 g lim L e w' := ⟨h.1, h.2.1, (Bex.of_below hb).trans h.2.2⟩
set_option maxRecDepth 100000 in
set_option maxHeartbeats 4000000 in
theorem rWNum_any {w : World} {g lim : Nat} {L : List Nat} (H : WQ w g lim L) (n : Nat) (hn : n < 9223372036854775808) (hl : L.length + (nB n).length ≤ lim) (hlim : lim ≤ 1048576) :
    Calls Try.prog 70 #[.pointer (some ⟨g, 0, none⟩), .int .i64 (n : Nat)] w (WP w g lim (L ++ nB n)) := by
  obtain ⟨p0, b0, c0, hb, _, _⟩ := H.q
  have k2 := hb.cell 2
  simp only [List.getElem?_cons_zero, List.getElem?_cons_succ] at k2
  have HH := hidp H
  have hlt := hb.lt
  have HD := hidp (rNumber_any n w hn)
  have HL := hidp (And.intro hl hlim)
  have hd : decide ((n : Int) < 0) = false := decide_eq_false (by omega)
  clear H hn hl hlim hb
  generalize nB n = M at *
  go_enter Try.func70, Try.ntmps70
  go_wp2_with fail
  refine HD.out.mono ?_
  rintro e wx ⟨⟨q, c, rfl, hs, _⟩, hB⟩
  have HP := hidp ((rPut_any (HH.out.below hB) hs HL.out.1 HL.out.2).mono fun e w' (h : WP wx g lim (L ++ M) e w') => h.low hB)
  clear HD hs hB k2
  go_wp2_with fail
  refine HP.out.mono ?_
  rintro e w2 ⟨rfl, h1, h2⟩
  have h1 := hidp h1
  have h2 := hidp h2
  clear HP
  go_wp2_with fail
  go_ret
  exact ⟨rfl, h1.out, h2.out⟩
set_option maxRecDepth 100000 in
set_option maxHeartbeats 4000000 in
theorem rWText_any {w : World} {g lim : Nat} {L : List Nat} (H : WQ w g lim L) (s : ByteArray) (hl : L.length + (ctB (strL s)).length ≤ lim) (hlim : lim ≤ 1048576) :
    Calls Try.prog 71 #[.pointer (some ⟨g, 0, none⟩), .string s] w (WP w g lim (L ++ ctB (strL s))) := by
  have kc := fun W : World => _root_.Go.Lib.run_convert_string_bytes (P := Try.prog) W 9 32 5 s Try.underlying9 Try.underlying32 Try.underlying5
  have HB0 := hidp (bytesW_below w s)
  have hle : (strL s).length ≤ 3000000 := by
    unfold ctB at hl
    rw [List.length_append] at hl
    omega
  have Q := hidp (rCounted_any (ByS.of_bs (bytesW_bs w s) (bytesW_bs w s).none_cap) hle)
  rw [strL_len] at Q
  have HH := hidp (H.below HB0.out)
  have HL := hidp (And.intro hl hlim)
  clear H hl hlim hle
  generalize ctB (strL s) = M at *
  go_enter Try.func71, Try.ntmps71
  go_wp2_with fail
  refine Q.out.mono ?_
  rintro e wx ⟨⟨q, c, rfl, hs, _⟩, hB⟩
  have HP := hidp ((rPut_any (HH.out.below hB) hs HL.out.1 HL.out.2).mono fun e w' (h : WP wx g lim (L ++ M) e w') => h.low (HB0.out.trans (hB.mono HB0.out.size)))
  clear Q hs hB
  go_wp2_with fail
  refine HP.out.mono ?_
  rintro e w2 ⟨rfl, h1, h2⟩
  have h1 := hidp h1
  have h2 := hidp h2
  clear HP
  go_wp2_with fail
  go_ret
  exact ⟨rfl, h1.out, h2.out⟩
set_option maxRecDepth 100000 in
set_option maxHeartbeats 4000000 in
theorem rWHash_any {w : World} {g lim : Nat} {L : List Nat} (H : WQ w g lim L) (a : List Nat) (ha : Bytes 32 a) (hl : L.length + 32 ≤ lim) (hlim : lim ≤ 1048576) :
    Calls Try.prog 73 #[.pointer (some ⟨g, 0, none⟩), .agg (bvs a).toArray] w (WP w g lim (L ++ a)) := by
  have hsl := fun w' => run_sliceAt_all (P := Try.prog) (t := 34) (e := 5) (n := 32) Try.underlying34 (by kernel_rfl) (by decide) w.heap.size 0 w'
  have hA := hidp (((Below.refl w.heap.size w).alloc (Nat.le_refl _) (.cells (bvs a).toArray 34)).alloc (by simp) (.cells #[] 5))
  have hk := hidp ((Blk.new w (bvs a) 34).alloc (.cells #[] 5))
  have HH := hidp H
  have HL := hidp (And.intro hl hlim)
  have hown : Hid (((w.alloc (.cells (bvs a).toArray 34)).alloc (.cells #[] 5)).ownsRow (w.heap.size + 1) 5 1 (.slice (some ⟨w.heap.size + 1, 0, none⟩) 0 0) 0 []) := by
    have q := own_nothing (w.alloc (.cells (bvs a).toArray 34))
    rw [show (w.alloc (.cells (bvs a).toArray 34)).heap.size = w.heap.size + 1 by simp] at q
    exact hidp q
  have HSA : Hid (ByS ((w.alloc (.cells (bvs a).toArray 34)).alloc (.cells #[] 5)) (some ⟨w.heap.size, 0, none⟩) 32 a) := hidp (ByS.of_bs (b := w.heap.size) (o := 0) ⟨ha.2, by rw [ha.1]; exact Nat.le_refl _, fun _ => ⟨rfl, hk.out.lt⟩, fun i hi => by
    rw [Nat.zero_add, hk.out.cell i]
    exact bvs_get hi⟩ (fun h => by cases h))
  have hz0 : Hid (w.heap.size + 1 ≤ ((w.alloc (.cells (bvs a).toArray 34)).alloc (.cells #[] 5)).heap.size) := hidp (by simp)
  have hla := hidp ha.1
  have hby := hidp ha.2
  have hn1 : Hid (0 + a.length ≤ 4000000) := hidp (by rw [ha.1]; decide)
  have hln : Hid (L.length + a.length ≤ lim) := hidp (by rw [ha.1]; exact hl)
  clear H hl hlim ha
  go_enter Try.func73, Try.ntmps73
  go_wp2_with (at_builtin; refine wpList_append_byS rfl _ _ rfl (w.heap.size + 1) 0 [] _ rfl hown.out (some ⟨w.heap.size, 0, none⟩) 32 a (by rw [hla.out]; rfl) HSA.out hn1.out hz0.out ?_; intro v' w1 hown' hgrow; have hB1 := hidp (hA.out.grown hgrow (by simp; omega) (fun j hj => by have := (hown.out.lt j hj).1; omega)); have HH1 := hidp (HH.out.below hB1.out); rw [Nat.zero_add, List.nil_append] at hown'; obtain ⟨q, b, c, rfl, hqb, hq0, hs⟩ := Bs.of_own hown' hby.out; have hS := hidp (ByS.of_bs hs hq0); clear hown' hgrow hqb hq0 hs)
  have HP := hidp ((rPut_any HH1.out hS.out hln.out HL.out.2).mono fun e w' (h : WP w1 g lim (L ++ a) e w') => h.low hB1.out)
  refine HP.out.mono ?_
  rintro e w2 ⟨rfl, h1, h2⟩
  have h1 := hidp h1
  have h2 := hidp h2
  clear HP
  go_wp2_with fail
  go_ret
  exact ⟨rfl, h1.out, h2.out⟩
set_option maxRecDepth 100000 in
set_option maxHeartbeats 4000000 in
theorem rDone_any {w : World} {g lim : Nat} {L : List Nat} (H : WQ w g lim L) (hL : L.length ≤ 3000000) :
    Calls Try.prog 23 #[.pointer (some ⟨g, 0, none⟩)] w (DoneP w L) := by
  obtain ⟨p0, b0, c0, hb, hs, _⟩ := H.q
  have k1 := hb.cell 1
  have k2 := hb.cell 2
  simp only [List.getElem?_cons_zero, List.getElem?_cons_succ] at k1 k2
  have hlt := hb.lt
  have hby := hidp hs.byte
  have hB : Hid (Below w.heap.size w (w.alloc (.cells #[] 5))) := hidp ((Below.refl _ w).alloc (Nat.le_refl _) _)
  have HS := hidp ((ByS.of_bs hs hs.none_cap).below hB.out)
  have hown := hidp (own_nothing w)
  have HN := hidp hL
  clear H hs hL hb
  go_enter Try.func23, Try.ntmps23
  go_wp2_with (at_builtin; refine wpList_append_byS rfl _ _ rfl w.heap.size 0 [] _ rfl hown.out p0 c0 L rfl HS.out (by have := HN.out; omega) (by simp) ?_; intro v' w1 hown' hgrow; have hB1 := hidp (hB.out.grown hgrow (by simp) (fun j hj => (hown.out.lt j hj).1)); rw [Nat.zero_add, List.nil_append] at hown'; obtain ⟨q, b, c, rfl, hqb, hq0, hs⟩ := Bs.of_own hown' hby.out; have hS := hidp (And.intro hqb (And.intro hq0 hs)); clear hown' hgrow hqb hq0 hs)
  exact bodyPost_ret (v := .tuple #[.slice q L.length c, .int .i64 0]) (by simp [results, Try.results23, go_sem]) rfl ⟨⟨q, b, c, rfl, hS.out⟩, hB1.out⟩
end Go.Proofs.Ytdiklimikkplcaa

/-! L6s: The reference of layer 6: Put, Encode, Hash. -/
namespace Go.Proofs.Ytdiklimikkplcaa
set_option linter.unusedSimpArgs false
open Go.RowKit Go.Lib

structure PE (w wr : World) (g : Nat) (x : Hdr) (X : List Nat) : Prop where
  q : WQ wr g 1048576 X
  kh : Blk wr w.heap.size (hC x) 68
  x : Bex g w wr
theorem PE.put {w wr w1 : World} {g : Nat} {x : Hdr} {X Y : List Nat} (H : PE w wr g x X) (hg : g < w.heap.size) (h1 : WQ w1 g 1048576 Y) (h2 : Bex g wr w1) : PE w w1 g x Y := ⟨h1, h2.blk H.kh (by omega), H.x.trans h2⟩
theorem PE.rp {w wr : World} {g : Nat} {x : Hdr} {X : List Nat} (H : PE w wr g x X) : wr.rangeAt w.heap.size 3 (bvs x.p) := fun j v hj => (H.kh.cell _).trans (hC_p j v hj)
theorem PE.rv {w wr : World} {g : Nat} {x : Hdr} {X : List Nat} (H : PE w wr g x X) (hx : HdrOk x) : wr.rangeAt w.heap.size 35 (bvs x.v) := fun j v hj => (H.kh.cell _).trans (hC_v hx j v hj)
theorem PE.rn {w wr : World} {g : Nat} {x : Hdr} {X : List Nat} (H : PE w wr g x X) (hx : HdrOk x) : wr.rangeAt w.heap.size 67 (bvs x.n) := fun j v hj => (H.kh.cell _).trans (hC_n hx j v hj)
theorem PE.ra {w wr : World} {g : Nat} {x : Hdr} {X : List Nat} (H : PE w wr g x X) (hx : HdrOk x) : wr.rangeAt w.heap.size 99 (bvs x.a) := fun j v hj => (H.kh.cell _).trans (hC_a hx j v hj)
theorem ctB_len (X : List Nat) : (ctB X).length = dg X.length + 1 + X.length := by unfold ctB; rw [List.length_append, nB_len]
set_option maxRecDepth 100000 in
set_option maxHeartbeats 4000000 in
theorem rHPut_any {w : World} {g : Nat} (x : Hdr) (hG : HGood x) (H : WQ w g 1048576 []) :
    Calls Try.prog 103 #[.pointer (some ⟨g, 0, none⟩), .agg (hC x).toArray] w fun e w' => e = .returned (.tuple #[]) ∧ WQ w' g 1048576 (encH x) ∧ Bex g w w' := by
  have HQ := hidp (chkH_ok hG.c)
  have HS := hidp (nmS_size HQ.out.1)
  have HX := hidp hG.ok
  have hgl := hidp H.glt
  obtain ⟨n, hn⟩ : ∃ n : Nat, x.h = n := ⟨x.h.toNat, by have := HQ.out; omega⟩
  obtain ⟨t, ht⟩ : ∃ t : Nat, x.t = t := ⟨x.t.toNat, by have := HQ.out; omega⟩
  have HN := hidp (show (n ≤ 1073741824 ∧ t ≤ 1099511627776) ∧ x.h.toNat = n ∧ x.t.toNat = t by have := HQ.out; omega)
  have hnn := hidp hn
  have htt := hidp ht
  have hA := (Below.refl w.heap.size w).alloc (Nat.le_refl _) (.cells (hC x).toArray 68)
  have E0 : Hid (PE w (w.alloc (.cells (hC x).toArray 68)) g x []) := hidp ⟨H.below hA, Blk.new w (hC x) _, Bex.of_below hA⟩
  obtain ⟨Z, hZ⟩ : ∃ Z, Z = encH x := ⟨_, rfl⟩
  rw [← hZ]
  replace hZ := hidp hZ
  clear H hG hA hn ht
  have c0 := E0.out.kh.cell 0
  rw [hC_0] at c0
  go_enter Try.func103, Try.ntmps103
  go_wp2_with fail
  refine (rWText_any E0.out.q x.s (by rw [ctB_len, strL_len]; have := HS.out; have := dg_le x.s.size; simp; omega) (by decide)).mono ?_
  rintro e w1 ⟨rfl, h1, h2⟩
  have E1 := hidp (E0.out.put hgl.out h1 h2)
  clear h1 h2 E0 c0
  have S1 := hidp (show ([] ++ ctB (strL x.s) : List Nat).length ≤ 41 by rw [List.nil_append, ctB_len, strL_len]; have := HS.out; have := dg_le x.s.size; omega)
  obtain ⟨X1, hX1⟩ : ∃ X, X = ([] ++ ctB (strL x.s) : List Nat) := ⟨_, rfl⟩
  rw [← hX1] at E1 S1
  replace hX1 := hidp hX1
  have c1 := E1.out.kh.cell 1
  rw [hC_1, hnn.out] at c1
  go_wp2_with fail
  refine (rWNum_any E1.out.q n (by have := HN.out; omega) (by rw [nB_len]; have := S1.out; have := dg_le n; omega) (by decide)).mono ?_
  rintro e w2 ⟨rfl, h1, h2⟩
  have E2 := hidp (E1.out.put hgl.out h1 h2)
  clear h1 h2 E1 c1
  have S2 := hidp (show (X1 ++ nB n).length ≤ 50 by rw [List.length_append, nB_len]; have := S1.out; have := dg_le n; omega)
  obtain ⟨X2, hX2⟩ : ∃ X, X = X1 ++ nB n := ⟨_, rfl⟩
  rw [← hX2] at E2 S2
  replace hX2 := hidp hX2
  have c2 := E2.out.kh.cell 2
  rw [hC_2, htt.out] at c2
  go_wp2_with fail
  refine (rWNum_any E2.out.q t (by have := HN.out; omega) (by rw [nB_len]; have := S2.out; have := dg_le t; omega) (by decide)).mono ?_
  rintro e w3 ⟨rfl, h1, h2⟩
  have E3 := hidp (E2.out.put hgl.out h1 h2)
  clear h1 h2 E2 c2
  have S3 := hidp (show (X2 ++ nB t).length ≤ 59 by rw [List.length_append, nB_len]; have := S2.out; have := dg_le t; omega)
  obtain ⟨X3, hX3⟩ : ∃ X, X = X2 ++ nB t := ⟨_, rfl⟩
  rw [← hX3] at E3 S3
  replace hX3 := hidp hX3
  go_wp2_with (refine wpList_load_mid rfl 34 _ rfl w.heap.size 3 rfl _ _ (E3.out.rp) Try.underlying34 rfl (by rw [bvs_len, HX.out.p.1]; kernel_rfl) ?_)
  refine (rWHash_any E3.out.q x.p HX.out.p (by have := S3.out; omega) (by decide)).mono ?_
  rintro e w4 ⟨rfl, h1, h2⟩
  have E4 := hidp (E3.out.put hgl.out h1 h2)
  clear h1 h2 E3
  have S4 := hidp (show (X3 ++ x.p).length ≤ 91 by rw [List.length_append, HX.out.p.1]; have := S3.out; omega)
  obtain ⟨X4, hX4⟩ : ∃ X, X = X3 ++ x.p := ⟨_, rfl⟩
  rw [← hX4] at E4 S4
  replace hX4 := hidp hX4
  go_wp2_with (refine wpList_load_mid rfl 34 _ rfl w.heap.size 35 rfl _ _ (E4.out.rv HX.out) Try.underlying34 rfl (by rw [bvs_len, HX.out.v.1]; kernel_rfl) ?_)
  refine (rWHash_any E4.out.q x.v HX.out.v (by have := S4.out; omega) (by decide)).mono ?_
  rintro e w5 ⟨rfl, h1, h2⟩
  have E5 := hidp (E4.out.put hgl.out h1 h2)
  clear h1 h2 E4
  have S5 := hidp (show (X4 ++ x.v).length ≤ 123 by rw [List.length_append, HX.out.v.1]; have := S4.out; omega)
  obtain ⟨X5, hX5⟩ : ∃ X, X = X4 ++ x.v := ⟨_, rfl⟩
  rw [← hX5] at E5 S5
  replace hX5 := hidp hX5
  go_wp2_with (refine wpList_load_mid rfl 34 _ rfl w.heap.size 67 rfl _ _ (E5.out.rn HX.out) Try.underlying34 rfl (by rw [bvs_len, HX.out.n.1]; kernel_rfl) ?_)
  refine (rWHash_any E5.out.q x.n HX.out.n (by have := S5.out; omega) (by decide)).mono ?_
  rintro e w6 ⟨rfl, h1, h2⟩
  have E6 := hidp (E5.out.put hgl.out h1 h2)
  clear h1 h2 E5
  have S6 := hidp (show (X5 ++ x.n).length ≤ 155 by rw [List.length_append, HX.out.n.1]; have := S5.out; omega)
  obtain ⟨X6, hX6⟩ : ∃ X, X = X5 ++ x.n := ⟨_, rfl⟩
  rw [← hX6] at E6 S6
  replace hX6 := hidp hX6
  go_wp2_with (refine wpList_load_mid rfl 34 _ rfl w.heap.size 99 rfl _ _ (E6.out.ra HX.out) Try.underlying34 rfl (by rw [bvs_len, HX.out.a.1]; kernel_rfl) ?_)
  refine (rWHash_any E6.out.q x.a HX.out.a (by have := S6.out; omega) (by decide)).mono ?_
  rintro e w7 ⟨rfl, h1, h2⟩
  have E7 := hidp (E6.out.put hgl.out h1 h2)
  clear h1 h2 E6
  have S7 := hidp (show (X6 ++ x.a).length ≤ 187 by rw [List.length_append, HX.out.a.1]; have := S6.out; omega)
  obtain ⟨X7, hX7⟩ : ∃ X, X = X6 ++ x.a := ⟨_, rfl⟩
  rw [← hX7] at E7 S7
  replace hX7 := hidp hX7
  have hE : X7 = Z := by
    rw [hX7.out, hX6.out, hX5.out, hX4.out, hX3.out, hX2.out, hX1.out, hZ.out]
    unfold encH ctB
    rw [HN.out.2.1, HN.out.2.2, strL_len]
  go_wp2_with fail
  refine bodyPost_end (results_none rfl _ _ _) rfl ?_
  refine ⟨rfl, ?_, E7.out.x⟩
  rw [← hE]
  exact E7.out.q
/-- What Encode tells of any header. -/
def encO (x : Hdr) : List Nat := if chkH x = 0 then encH x else []
def EncP (w : World) (x : Hdr) (e : Ending) (w' : World) : Prop := (∃ p b c, e = .returned (.tuple #[.slice p (encO x).length c, .int .i64 (chkH x : Nat)]) ∧ w.heap.size ≤ b ∧ (p = none → c = 0) ∧ Bs w' p b 0 (encO x) c) ∧ Below w.heap.size w w'
set_option maxRecDepth 100000 in
set_option maxHeartbeats 4000000 in
theorem rEncode_ok (x : Hdr) (hG : HGood x) (w : World) : Calls Try.prog 42 #[.agg (hC x).toArray] w (DoneP w (encH x)) := by
  have HC := hidp (fun W => rCheck_any x W (by have := nmS_size (chkH_ok hG.c).1; omega))
  rw [hG.c] at HC
  have HG := hidp hG
  have hLE := hidp (encH_le hG)
  have hl := hidp (hC_len hG.ok)
  have hA := hidp (Blk.new w (hC x) 68)
  have hBB := hidp ((Below.refl w.heap.size w).alloc (Nat.le_refl _) (.cells (hC x).toArray 68))
  clear hG
  go_enter Try.func42, Try.ntmps42
  go_wp2_with (with_reducible refine (?_ : wpList _ _ _ _ _ _); refine wpList_load_blk rfl 68 _ rfl w.heap.size (hC x) 68 rfl hA.out _ Try.underlying68 rfl (by rw [hl.out]; kernel_rfl) ?_)
  refine (HC.out _).mono ?_
  rintro e w1 ⟨rfl, hb⟩
  have hB := hidp (hBB.out.trans (hb.mono hBB.out.size))
  have hK := hidp (hb.blk' hA.out)
  clear hb HC hBB hA
  go_wp2_with fail
  refine (rNewW_any w1 1048576 (by decide)).mono ?_
  rintro e w2 ⟨g, rfl, hg, hq, hb⟩
  have hB2 := hidp (hB.out.trans (hb.mono hB.out.size))
  have hK2 := hidp (hb.blk' hK.out)
  have hQ := hidp hq
  have hgg := hidp (show w.heap.size ≤ g from Nat.le_trans hB.out.size hg)
  clear hb hB hK hq hg
  go_wp2_with (with_reducible refine (?_ : wpList _ _ _ _ _ _); refine wpList_load_blk rfl 68 _ rfl w.heap.size (hC x) 68 rfl hK2.out _ Try.underlying68 rfl (by rw [hl.out]; kernel_rfl) ?_)
  refine (rHPut_any x HG.out hQ.out).mono ?_
  rintro e w3 ⟨rfl, hq, hx⟩
  have hQ3 := hidp hq
  have hB3 := hidp (hB2.out.trans (hx.below hgg.out hB2.out.size))
  clear hq hx hB2 hK2 hQ
  go_wp2_with fail
  refine (rDone_any hQ3.out (by have := hLE.out; omega)).mono ?_
  rintro e w4 ⟨⟨p, pb, pc, rfl, h1, h2, h3⟩, h4⟩
  have HP := hidp (And.intro (Nat.le_trans hB3.out.size h1) (And.intro h2 h3))
  have hB4 := hidp (hB3.out.trans (h4.mono hB3.out.size))
  clear h1 h2 h3 h4 hB3 hQ3
  go_wp2_with fail
  exact bodyPost_ret (v := .tuple #[.slice p (encH x).length pc, .int .i64 0]) (by simp [results, Try.results42, go_sem]) rfl ⟨⟨p, pb, pc, rfl, HP.out⟩, hB4.out⟩
set_option maxRecDepth 100000 in
set_option maxHeartbeats 4000000 in
theorem rEncode_bad (x : Hdr) (hx : HdrOk x) (hs : x.s.size ≤ 9223372036854775806) (hc : chkH x ≠ 0) (w : World) : Calls Try.prog 42 #[.agg (hC x).toArray] w fun e w' => e = .returned (.tuple #[.slice none 0 0, .int .i64 (chkH x : Nat)]) ∧ Below w.heap.size w w' := by
  have HC := hidp (fun W => rCheck_any x W hs)
  have ht : (((chkH x : Nat) : Int) != 0) = true := by rw [bne_iff_ne]; omega
  have hl := hidp (hC_len hx)
  have hA := hidp (Blk.new w (hC x) 68)
  have hBB := hidp ((Below.refl w.heap.size w).alloc (Nat.le_refl _) (.cells (hC x).toArray 68))
  clear hc hx
  generalize chkH x = n at *
  go_enter Try.func42, Try.ntmps42
  go_wp2_with (with_reducible refine (?_ : wpList _ _ _ _ _ _); refine wpList_load_blk rfl 68 _ rfl w.heap.size (hC x) 68 rfl hA.out _ Try.underlying68 rfl (by rw [hl.out]; kernel_rfl) ?_)
  refine (HC.out _).mono ?_
  rintro e w1 ⟨rfl, hb⟩
  have hB := hidp (hBB.out.trans (hb.mono hBB.out.size))
  clear hb HC hBB hA
  go_wp2_with fail
  exact bodyPost_ret (v := .tuple #[.slice none 0 0, .int .i64 (n : Nat)]) (by simp [results, Try.results42, go_sem]) rfl ⟨rfl, hB.out⟩
set_option maxRecDepth 100000 in
set_option maxHeartbeats 2000000 in
theorem rHash_bad (x : Hdr) (hx : HdrOk x) (hs : x.s.size ≤ 9223372036854775806) (w : World) (hc : chkH x ≠ 0) :
    Calls Try.prog 44 #[.agg (hC x).toArray] w fun e w' => e = .returned (.tuple #[.agg (bvs z32).toArray, .int .i64 (chkH x : Nat)]) ∧ Below w.heap.size w w' := by
  have hz : ∀ w, (zeroValue 34).run Try.prog w = .ok (.agg (bvs z32).toArray) w := (zero_of_info (P := Try.prog) zero_hash).1
  have hl := hidp (hC_len hx)
  have HE := hidp (fun W => rEncode_bad x hx hs hc W)
  have hbn : (((chkH x : Nat) : Int) != 0) = true := by rw [bne_iff_ne]; omega
  have hA := hidp ((Blk.new w (hC x) 68).alloc (.cells (bvs z32).toArray 34))
  have hR := hidp (Blk.new' (w.alloc (.cells (hC x).toArray 68)) (bvs z32) 34 (w.heap.size + 1) (by simp))
  have hBB := hidp (((Below.refl w.heap.size w).alloc (Nat.le_refl _) (.cells (hC x).toArray 68)).alloc (by simp) (.cells (bvs z32).toArray 34))
  clear hc hx
  generalize chkH x = n at *
  go_enter Try.func44, Try.ntmps44
  go_wp2_with (with_reducible refine (?_ : wpList _ _ _ _ _ _); refine wpList_load_blk rfl 68 _ rfl w.heap.size (hC x) 68 rfl hA.out _ Try.underlying68 rfl (by rw [hl.out]; kernel_rfl) ?_)
  refine (HE.out _).mono ?_
  rintro e w1 ⟨rfl, hb⟩
  have hR1 := hidp (hb.blk' hR.out)
  have hB := hidp (hBB.out.trans (hb.mono hBB.out.size))
  clear hb HE hBB hA hR
  go_wp2_with first
    | (with_reducible refine (?_ : wpList _ _ _ _ _ _); refine wpList_buildG (by kernel_rfl) 34 _ rfl (bvs z32).toArray (by kernel_rfl) ?_)
    | (with_reducible refine (?_ : wpList _ _ _ _ _ _); refine wpList_store_blk rfl 34 _ _ rfl (w.heap.size + 1) (bvs z32) (bvs z32) 34 rfl rfl hR1.out (by kernel_rfl) rfl (bvs_one _) ?_; intro w6 hw6)
  have b2 : Blk w6 (w.heap.size + 1) (bvs z32) 34 := by rw [hw6.out]; exact hR1.out.row
  have hB6 : Below w.heap.size w w6 := by rw [hw6.out]; exact hB.out.trans (((But.refl (w.heap.size + 1) w1).setRow (bvs z32).toArray).below (by omega))
  refine bodyPost_ret (v := .tuple #[.agg (bvs z32).toArray, .int .i64 (n : Nat)]) ?_ rfl ⟨rfl, hB6⟩
  exact results_row2 Try.results44 _ _ (w.heap.size + 1) 34 _ _ rfl b2 Try.underlying34 rfl (by kernel_rfl)
set_option maxRecDepth 100000 in
set_option maxHeartbeats 2000000 in
theorem rHash_ok (x : Hdr) (hG : HGood x) (w : World) :
    Calls Try.prog 44 #[.agg (hC x).toArray] w fun e w' => e = .returned (.tuple #[.agg (bvs (hashH x)).toArray, .int .i64 0]) ∧ Below w.heap.size w w' := by
  have hz : ∀ w, (zeroValue 34).run Try.prog w = .ok (.agg (bvs z32).toArray) w := (zero_of_info (P := Try.prog) zero_hash).1
  have hl := hidp (hC_len hG.ok)
  have HE := hidp (fun W => rEncode_ok x hG W)
  have hA := hidp ((Blk.new w (hC x) 68).alloc (.cells (bvs z32).toArray 34))
  have hR := hidp (Blk.new' (w.alloc (.cells (hC x).toArray 68)) (bvs z32) 34 (w.heap.size + 1) (by simp))
  have hBB := hidp (((Below.refl w.heap.size w).alloc (Nat.le_refl _) (.cells (hC x).toArray 68)).alloc (by simp) (.cells (bvs z32).toArray 34))
  have hLE := hidp (encH_le hG)
  have hBY := hidp (encH_byte hG.ok)
  have hHH := hidp (show hashH x = hashL (72 :: encH x) from rfl)
  have hHl := hidp (hashH_len x)
  clear hG
  generalize hashH x = Z at *
  generalize encH x = L at *
  go_enter Try.func44, Try.ntmps44
  go_wp2_with (with_reducible refine (?_ : wpList _ _ _ _ _ _); refine wpList_load_blk rfl 68 _ rfl w.heap.size (hC x) 68 rfl hA.out _ Try.underlying68 rfl (by rw [hl.out]; kernel_rfl) ?_)
  refine (HE.out _).mono ?_
  rintro e w1 ⟨⟨p, b, cap, rfl, _, hpn, hs⟩, hb⟩
  have hR1 := hidp (hb.blk' hR.out)
  have hB := hidp (hBB.out.trans (hb.mono hBB.out.size))
  have HS := hidp (ByS.of_bs (hs.below ((Below.refl w1.heap.size w1).alloc (Nat.le_refl _) (.cells (bvs [72]).toArray 5))) hpn)
  have HO := hidp (own_lit w1 [72] (by decide))
  clear hb HE hBB hA hR hs hpn
  have hn1 := hidp (show 1 + L.length ≤ 4000000 by have := hLE.out; omega)
  have hZ0 := hidp (show w1.heap.size ≤ (w1.alloc (.cells (bvs [72]).toArray 5)).heap.size by simp)
  go_wp2_with (at_builtin; refine wpList_append_byS rfl _ _ rfl w1.heap.size 1 (bvs [72]) _ rfl HO.out p cap L rfl HS.out hn1.out hZ0.out ?_; intro v' w2 hown' hgrow; have hO := hidp hown'; have hG := hidp hgrow; clear hown' hgrow)
  have hT := hidp (((Below.refl w1.heap.size w1).alloc (Nat.le_refl _) _).grown hG.out hZ0.out (fun j hj => (HO.out.lt j hj).1))
  have hO2 : w2.ownsRow w1.heap.size 5 1 v' (72 :: L).length (bvs (72 :: L)) := by
    have q := hO.out
    rw [show 1 + L.length = (72 :: L).length by rw [List.length_cons]; omega] at q
    exact q
  obtain ⟨p2, b2, c2, rfl, _, _, hs⟩ := Bs.of_own hO2 (fun z hz => by
    rcases List.mem_cons.1 hz with rfl | h1
    · decide
    · exact hBY.out z h1)
  have HS2 := hidp hs
  have hR2 := hidp (hT.out.blk' hR1.out)
  have hB2 := hidp (hB.out.trans (hT.out.mono hB.out.size))
  clear hs hO hO2 HO hG hT hR1 hB HS
  refine (refSum_any (ByS.of_bs HS2.out HS2.out.none_cap) (by rw [List.length_cons]; have := hLE.out; omega)).mono ?_
  rintro e w3 ⟨rfl, hb⟩
  have hR3 := hidp (hb.blk' hR2.out)
  have hB3 := hidp (hB2.out.trans (hb.mono hB2.out.size))
  clear hb hR2 hB2 HS2
  rw [← hHH.out]
  go_wp2_with (with_reducible refine (?_ : wpList _ _ _ _ _ _); refine wpList_store_blk rfl 34 _ _ rfl (w.heap.size + 1) (bvs Z) (bvs z32) 34 rfl rfl hR3.out (by rw [bvs_len, hHl.out]; kernel_rfl) (by simp [bvs_len, hHl.out, z32]) (bvs_one _) ?_; intro w6 hw6)
  have b2 : Blk w6 (w.heap.size + 1) (bvs Z) 34 := by rw [hw6.out]; exact hR3.out.row
  have hB6 : Below w.heap.size w w6 := by rw [hw6.out]; exact hB3.out.trans (((But.refl (w.heap.size + 1) w3).setRow (bvs Z).toArray).below (by omega))
  refine bodyPost_ret (v := .tuple #[.agg (bvs Z).toArray, .int .i64 0]) ?_ rfl ⟨rfl, hB6⟩
  exact results_row2 Try.results44 _ _ (w.heap.size + 1) 34 _ _ rfl b2 Try.underlying34 rfl (by rw [bvs_len, hHl.out]; kernel_rfl)
end Go.Proofs.Ytdiklimikkplcaa

/-! L6t: Header: the walk of HeaderChecks. -/
namespace Go.Proofs.Ytdiklimikkplcaa
set_option linter.unusedSimpArgs false
open Go.RowKit Go.Lib

theorem OwnB.below {B : Nat} {w w' : World} {p : Option Addr} {bs : List Nat} {cap : Nat} (h : OwnB B w p bs cap) (k : Below w.heap.size w w') : OwnB B w' p bs cap :=
  ⟨h.1, fun h0 => by obtain ⟨g, rest, h1, h2, h3⟩ := h.2 h0; exact ⟨g, rest, h1, h2, k.blk' h3⟩⟩
theorem OwnB.lower {B C : Nat} {w : World} {p : Option Addr} {bs : List Nat} {cap : Nat} (h : OwnB B w p bs cap) (k : C ≤ B) : OwnB C w p bs cap :=
  ⟨h.1, fun h0 => by obtain ⟨g, rest, h1, h2, h3⟩ := h.2 h0; exact ⟨g, rest, h1, Nat.le_trans k h2, h3⟩⟩
theorem OwnB.nil (B : Nat) (w : World) (p : Option Addr) : OwnB B w p [] 0 := ⟨Nat.le_refl _, fun h => absurd h (by decide)⟩
theorem Bs.nil (w : World) (p : Option Addr) (b : Nat) : Bs w p b 0 [] 0 := ⟨by simp, by simp, fun h => absurd h (by omega), fun i hi => absurd hi (by simp)⟩
attribute [local go_sem] idx4_0 idx4_1 idx4_2 idx4_3
def DoneO (w : World) (L : List Nat) (e : Ending) (w' : World) : Prop := (∃ p b cap, e = .returned (.tuple #[.slice p L.length cap, .int .i64 0]) ∧ w.heap.size ≤ b ∧ (p = none → cap = 0) ∧ Bs w' p b 0 L cap ∧ OwnB w.heap.size w' p L cap) ∧ Below w.heap.size w w'
set_option maxRecDepth 20000 in
set_option maxHeartbeats 2000000 in
theorem clone_own (y : Addr) (cap : Nat) (L : List Nat) (w : World) (h : ByS w (some y) cap L) (hn : L.length ≤ 4000000) :
    Calls Try.prog 79 #[.slice (some y) L.length cap] w fun e w' => (∃ p b cap', e = .returned (.slice p L.length cap') ∧ w.heap.size ≤ b ∧ (p = none → cap' = 0) ∧ Bs w' p b 0 L cap' ∧ OwnB w.heap.size w' p L cap') ∧ Below w.heap.size w w' := by
  have hB : Hid (Below w.heap.size w (w.alloc (.cells #[] 5))) := hidp ((Below.refl _ w).alloc (Nat.le_refl _) _)
  have HS := hidp (h.below hB.out)
  have hown := hidp (own_nothing w)
  have HN := hidp hn
  have hby := hidp h.byte
  have q := fun w => run_sl_nil y L.length cap w
  clear h hn
  go_enter Try.func79, Try.ntmps79
  go_wp2_with (at_builtin; refine wpList_append_byS rfl _ _ rfl w.heap.size 0 [] _ rfl hown.out (some y) cap L rfl HS.out (by have := HN.out; omega) (by simp) ?_; intro v' w1 hown' hgrow; have hO := hidp hown'; have hB1 := hidp (hB.out.grown hgrow (by simp) (fun j hj => (hown.out.lt j hj).1)); clear hown' hgrow)
  have hO2 := hO.out
  rw [Nat.zero_add, List.nil_append] at hO2
  obtain ⟨p, b, c, rfl, hb, hp, hs⟩ := Bs.of_own hO2 hby.out
  have hO3 : OwnB w.heap.size w1 p L c := by
    obtain ⟨p2, c2, e2, h⟩ := OwnB.of hO.out
    cases e2
    exact h
  go_ret
  exact ⟨⟨p, b, c, rfl, hb, hp, hs, hO3⟩, hB1.out⟩
set_option maxRecDepth 20000 in
theorem wDone_own {w : World} {g lim : Nat} {v : Value} {L : List Nat} (H : Wr w g lim v L 0) :
    Calls Try.prog 22 #[.pointer (some ⟨g, 0, none⟩)] w (DoneO w L) := by
  have HR := hidp (refusal_any H)
  have h2 : w.cell? ⟨g, 2, none⟩ = some v := H.blk.cell 2
  have hlm := H.lim
  have hle := H.le
  rcases H.own.2 with ⟨rfl, hn⟩ | ⟨gr, c, cur, rfl, _⟩
  · obtain rfl : L = [] := List.eq_nil_of_length_eq_zero hn
    clear H hn
    go_enter Try.func22, Try.ntmps22
    go_wp2_with (go_at_call 78; refine HR.out.mono ?_; rintro e wx ⟨rfl, rfl⟩)
    refine (clone_none _).mono ?_
    rintro e wx ⟨rfl, rfl⟩
    go_wp2
    go_ret2
    exact ⟨⟨none, w.heap.size, 0, rfl, Nat.le_refl _, fun _ => rfl, ⟨by simp, by simp, fun h0 => absurd h0 (by omega), fun i hi => absurd hi (by simp)⟩, OwnB.nil _ _ _⟩, Below.refl _ _⟩
  · have HC := hidp (clone_own ⟨gr, 0, none⟩ c L w (own_byS H.own H.byte))
    have HL := hidp (show L.length ≤ 4000000 by omega)
    clear H hlm hle
    go_enter Try.func22, Try.ntmps22
    go_wp2_with (first | (go_at_call 78; refine HR.out.mono ?_; rintro e wx ⟨rfl, rfl⟩) | (go_at_call 79; refine (HC.out HL.out).mono ?_; rintro e wx ⟨⟨p, b, cap', rfl, hb, hp, hs⟩, hB⟩; have hX := hidp (And.intro hb (And.intro hp (And.intro hs hB))); clear hb hp hs hB))
    go_ret2
    exact ⟨⟨p, b, cap', rfl, hX.out.1, hX.out.2.1, hX.out.2.2.1⟩, hX.out.2.2.2⟩
set_option maxRecDepth 100000 in
set_option maxHeartbeats 2000000 in
theorem hencode_own (x : Hdr) (hx : HdrOk x) (w : World) (hc : chkH x = 0) :
    Calls Try.prog 41 #[.agg (hC x).toArray] w (DoneO w (encH x)) := by
  have HC := hidp (hcheck_any x hx)
  rw [hc] at HC
  have HQ := hidp (chkH_ok hc)
  have HS := hidp (nmS_size HQ.out.1)
  have hl := hidp (hC_len hx)
  have HX := hidp hx
  obtain ⟨n, hn⟩ : ∃ n : Nat, x.h = n := ⟨x.h.toNat, by have := HQ.out; omega⟩
  obtain ⟨t, ht⟩ : ∃ t : Nat, x.t = t := ⟨x.t.toNat, by have := HQ.out; omega⟩
  have HN := hidp (show (n ≤ 1073741824 ∧ t ≤ 1099511627776) ∧ x.h.toNat = n ∧ x.t.toNat = t by have := HQ.out; omega)
  have hnn := hidp hn
  have htt := hidp ht
  have hA := hidp (Blk.new w (hC x) 68)
  have hBB := hidp ((Below.refl w.heap.size w).alloc (Nat.le_refl _) (.cells (hC x).toArray 68))
  obtain ⟨Z, hZ⟩ : ∃ Z, Z = encH x := ⟨_, rfl⟩
  rw [← hZ]
  replace hZ := hidp hZ
  clear hc hx hn ht
  go_enter Try.func41, Try.ntmps41
  go_wp2_with (with_reducible refine (?_ : wpList _ _ _ _ _ _); refine wpList_load_blk rfl 68 _ rfl w.heap.size (hC x) 68 rfl hA.out _ Try.underlying68 rfl (by rw [hl.out]; kernel_rfl) ?_)
  refine (HC.out _).mono ?_
  rintro e w1 ⟨rfl, hb⟩
  have hB := hidp (hBB.out.trans (hb.mono hBB.out.size))
  have hK := hidp (hb.blk' hA.out)
  clear hb HC hBB hA
  go_wp2_with fail
  refine (newWriter_mx w1).mono ?_
  rintro e w2 ⟨rfl, hw, hb⟩
  have E0 : Hid (HEnc w w2 w1.heap.size x (.slice none 0 0) []) := hidp ⟨hw, hb.blk' hK.out, hB.out.trans (hb.mono hB.out.size), hK.out.lt⟩
  clear hw hb hB hK
  have c0 := E0.out.kh.cell 0
  rw [hC_0] at c0
  go_wp2_with fail
  refine (wText_n E0.out.wri x.s (by have := HS.out; omega) (by have := HS.out; simp; omega)).mono ?_
  rintro e w3 ⟨rfl, v3, hw, hf⟩
  have E1 := hidp (E0.out.put hw hf)
  clear hw hf E0 c0
  have S1 := hidp (show ([] ++ (nB x.s.size ++ strL x.s) : List Nat).length ≤ 41 by rw [List.nil_append, List.length_append, nB_len, strL_len]; have := HS.out; have := dg_le x.s.size; omega)
  obtain ⟨X1, hX1⟩ : ∃ X, X = ([] ++ (nB x.s.size ++ strL x.s) : List Nat) := ⟨_, rfl⟩
  rw [← hX1] at E1 S1
  replace hX1 := hidp hX1
  have c1 := E1.out.kh.cell 1
  rw [hC_1, hnn.out] at c1
  go_wp2_with fail
  refine (wNum_n E1.out.wri n (by have := HN.out; omega) (by have := S1.out; omega)).mono ?_
  rintro e w4 ⟨rfl, v4, hw, hf⟩
  have E2 := hidp (E1.out.put hw hf)
  clear hw hf E1 c1
  have S2 := hidp (show (X1 ++ nB n).length ≤ 50 by rw [List.length_append, nB_len]; have := S1.out; have := dg_le n; omega)
  obtain ⟨X2, hX2⟩ : ∃ X, X = X1 ++ nB n := ⟨_, rfl⟩
  rw [← hX2] at E2 S2
  replace hX2 := hidp hX2
  have c2 := E2.out.kh.cell 2
  rw [hC_2, htt.out] at c2
  go_wp2_with fail
  refine (wNum_n E2.out.wri t (by have := HN.out; omega) (by have := S2.out; omega)).mono ?_
  rintro e w5 ⟨rfl, v5, hw, hf⟩
  have E3 := hidp (E2.out.put hw hf)
  clear hw hf E2 c2
  have S3 := hidp (show (X2 ++ nB t).length ≤ 59 by rw [List.length_append, nB_len]; have := S2.out; have := dg_le t; omega)
  obtain ⟨X3, hX3⟩ : ∃ X, X = X2 ++ nB t := ⟨_, rfl⟩
  rw [← hX3] at E3 S3
  replace hX3 := hidp hX3
  go_wp2_with fail
  refine (hashes_any w.heap.size _).mono ?_
  rintro e w6 ⟨rfl, hb⟩
  replace E3 := hidp (E3.out.below hb)
  clear hb
  go_wp2_with fail
  refine wp_loop_rounds 5 ?_
  rw [rounds_succ]
  go_wp2_with (refine wpList_load_mid rfl 34 _ rfl w.heap.size 3 rfl _ _ (E3.out.rp) Try.underlying34 rfl (by rw [bvs_len, HX.out.p.1]; kernel_rfl) ?_)
  refine (wHash_ok E3.out.wri x.p HX.out.p (by have := S3.out; omega)).mono ?_
  rintro e w7 ⟨rfl, v7, hw, hf⟩
  have E4 := hidp (E3.out.put hw hf)
  clear hw hf E3
  have S4 := hidp (show (X3 ++ x.p).length ≤ 91 by rw [List.length_append, HX.out.p.1]; have := S3.out; omega)
  obtain ⟨X4, hX4⟩ : ∃ X, X = X3 ++ x.p := ⟨_, rfl⟩
  rw [← hX4] at E4 S4
  replace hX4 := hidp hX4
  go_wp2_with fail
  rw [rounds_succ]
  go_wp2_with (refine wpList_load_mid rfl 34 _ rfl w.heap.size 35 rfl _ _ (E4.out.rv HX.out) Try.underlying34 rfl (by rw [bvs_len, HX.out.v.1]; kernel_rfl) ?_)
  refine (wHash_ok E4.out.wri x.v HX.out.v (by have := S4.out; omega)).mono ?_
  rintro e w8 ⟨rfl, v8, hw, hf⟩
  have E5 := hidp (E4.out.put hw hf)
  clear hw hf E4
  have S5 := hidp (show (X4 ++ x.v).length ≤ 123 by rw [List.length_append, HX.out.v.1]; have := S4.out; omega)
  obtain ⟨X5, hX5⟩ : ∃ X, X = X4 ++ x.v := ⟨_, rfl⟩
  rw [← hX5] at E5 S5
  replace hX5 := hidp hX5
  go_wp2_with fail
  rw [rounds_succ]
  go_wp2_with (refine wpList_load_mid rfl 34 _ rfl w.heap.size 67 rfl _ _ (E5.out.rn HX.out) Try.underlying34 rfl (by rw [bvs_len, HX.out.n.1]; kernel_rfl) ?_)
  refine (wHash_ok E5.out.wri x.n HX.out.n (by have := S5.out; omega)).mono ?_
  rintro e w9 ⟨rfl, v9, hw, hf⟩
  have E6 := hidp (E5.out.put hw hf)
  clear hw hf E5
  have S6 := hidp (show (X5 ++ x.n).length ≤ 155 by rw [List.length_append, HX.out.n.1]; have := S5.out; omega)
  obtain ⟨X6, hX6⟩ : ∃ X, X = X5 ++ x.n := ⟨_, rfl⟩
  rw [← hX6] at E6 S6
  replace hX6 := hidp hX6
  go_wp2_with fail
  rw [rounds_succ]
  go_wp2_with (refine wpList_load_mid rfl 34 _ rfl w.heap.size 99 rfl _ _ (E6.out.ra HX.out) Try.underlying34 rfl (by rw [bvs_len, HX.out.a.1]; kernel_rfl) ?_)
  refine (wHash_ok E6.out.wri x.a HX.out.a (by have := S6.out; omega)).mono ?_
  rintro e w10 ⟨rfl, v10, hw, hf⟩
  have E7 := hidp (E6.out.put hw hf)
  clear hw hf E6
  have S7 := hidp (show (X6 ++ x.a).length ≤ 187 by rw [List.length_append, HX.out.a.1]; have := S6.out; omega)
  obtain ⟨X7, hX7⟩ : ∃ X, X = X6 ++ x.a := ⟨_, rfl⟩
  rw [← hX7] at E7 S7
  replace hX7 := hidp hX7
  go_wp2_with fail
  rw [rounds_succ]
  go_wp2_with fail
  refine (wDone_own E7.out.wri).mono ?_
  rintro e w11 ⟨⟨p, pb, pc, rfl, h1, h2, h3, h3o⟩, h4⟩
  have HP := hidp (And.intro h1 (And.intro h2 (And.intro h3 h3o)))
  have HB := hidp (E7.out.bel.trans (h4.mono E7.out.bel.size))
  have HZ := hidp E7.out.bel.size
  have hZ7 := hidp (show X7 = Z by rw [hX7.out, hX6.out, hX5.out, hX4.out, hX3.out, hX2.out, hX1.out, hZ.out, ← HN.out.2.1, ← HN.out.2.2]; rfl)
  clear h1 h2 h3 h3o h4 E7
  go_wp2_with fail
  refine bodyPost_ret (v := .tuple #[.slice p X7.length pc, .int .i64 0]) (by simp [results, Try.results41, go_sem]) rfl ⟨⟨p, pb, pc, ?_, Nat.le_trans HZ.out HP.out.1, HP.out.2.1, ?_, ?_⟩, HB.out⟩
  · rw [hZ7.out]
  · rw [← hZ7.out]; exact HP.out.2.2.1
  · rw [← hZ7.out]; exact HP.out.2.2.2.lower HZ.out
theorem hencodeO (x : Hdr) (hx : HdrOk x) (w : World) : Calls Try.prog 41 #[.agg (hC x).toArray] w fun e w' => (∃ p b c, e = .returned (.tuple #[.slice p (encO x).length c, .int .i64 (chkH x : Nat)]) ∧ Bs w' p b 0 (encO x) c ∧ OwnB w.heap.size w' p (encO x) c) ∧ Below w.heap.size w w' := by
  unfold encO
  by_cases hc : chkH x = 0
  · rw [if_pos hc, hc]
    exact (hencode_own x hx w hc).mono fun e w' h => by obtain ⟨⟨p, b, c, rfl, _, _, h1, h2⟩, h3⟩ := h; exact ⟨⟨p, b, c, rfl, h1, h2⟩, h3⟩
  · rw [if_neg hc]
    exact (hencode_bad x hx w hc).mono fun e w' h => by obtain ⟨rfl, h3⟩ := h; exact ⟨⟨none, 0, 0, rfl, Bs.nil _ _ _, OwnB.nil _ _ _⟩, h3⟩
theorem rEncodeO (x : Hdr) (hx : HdrOk x) (hs : x.s.size ≤ 9223372036854775806) (w : World) : Calls Try.prog 42 #[.agg (hC x).toArray] w fun e w' => (∃ p b c, e = .returned (.tuple #[.slice p (encO x).length c, .int .i64 (chkH x : Nat)]) ∧ Bs w' p b 0 (encO x) c) ∧ Below w.heap.size w w' := by
  unfold encO
  by_cases hc : chkH x = 0
  · rw [if_pos hc, hc]
    exact (rEncode_ok x ⟨hx, hc⟩ w).mono fun e w' h => by obtain ⟨⟨p, b, c, rfl, _, _, h1⟩, h3⟩ := h; exact ⟨⟨p, b, c, rfl, h1⟩, h3⟩
  · rw [if_neg hc]
    exact (rEncode_bad x hx hs hc w).mono fun e w' h => by obtain ⟨rfl, h3⟩ := h; exact ⟨⟨none, 0, 0, rfl, Bs.nil _ _ _⟩, h3⟩
theorem rHashO (x : Hdr) (hx : HdrOk x) (hs : x.s.size ≤ 9223372036854775806) (w : World) :
    Calls Try.prog 44 #[.agg (hC x).toArray] w fun e w' => e = .returned (.tuple #[.agg (bvs (hashO x)).toArray, .int .i64 (chkH x : Nat)]) ∧ Below w.heap.size w w' := by
  unfold hashO
  by_cases hc : chkH x = 0
  · rw [if_pos hc, hc]; exact rHash_ok x ⟨hx, hc⟩ w
  · rw [if_neg hc]; exact rHash_bad x hx hs w hc
theorem encO_le {x : Hdr} (hx : HdrOk x) : (encO x).length ≤ 300 := by
  unfold encO
  split
  · rename_i hc; exact (encH_le ⟨hx, hc⟩).2
  · simp
theorem rNameB (s : ByteArray) (w : World) (hs : s.size ≤ 9223372036854775806) : Calls Try.prog 48 #[.string s] w fun e w' => e = .returned (.bool (nmS s)) ∧ Below w.heap.size w w' :=
  (rName_any s w hs).mono fun e w' h => by obtain ⟨rfl, rfl⟩ := h; exact ⟨rfl, Below.refl _ _⟩
set_option maxRecDepth 100000 in
theorem hch_long (x : Hdr) (hx : 60 < x.s.size) (w : World) : Calls Try.prog 7 #[.agg (hC x).toArray] w fun e w' => e = .returned (.bool true) ∧ Below w.heap.size w w' := by
  have c0 := (Blk.new w (hC x) 68).cell 0
  rw [hC_0] at c0
  have hA := hidp (fun o : Obj => (Below.refl w.heap.size w).alloc (Nat.le_refl _) o)
  go_enter Try.func7, Try.ntmps7
  go_wp2_with fail
  refine (hawake_any _).mono ?_
  rintro e w1 ⟨rfl, hb⟩
  have hB := hidp ((hA.out _).trans (hb.mono (hA.out _).size))
  clear hb c0
  go_wp2
  go_ret
  exact ⟨rfl, hB.out⟩
set_option maxRecDepth 100000 in
set_option maxHeartbeats 16000000 in
theorem hch_in (x : Hdr) (hx : HdrOk x) (hs : x.s.size ≤ 60) (w : World) : Calls Try.prog 7 #[.agg (hC x).toArray] w fun e w' => e = .returned (.bool true) ∧ Below w.heap.size w w' := by
  have hz : ∀ w, (zeroValue 34).run Try.prog w = .ok (.agg (bvs z32).toArray) w := (zero_of_info (P := Try.prog) zero_hash).1
  have hs2 : x.s.size ≤ 9223372036854775806 := by omega
  have hla := hidp (hC_len hx)
  have HE := hidp (fun W => hencodeO x hx W)
  have HF := hidp (fun W => rEncodeO x hx hs2 W)
  have HA := hidp (fun W => hhash_any x hx W)
  have HB := hidp (fun W => rHashO x hx hs2 W)
  have CA := hidp (fun W => hcheck_any x hx W)
  have CB := hidp (fun W => rCheck_any x W hs2)
  have NA := hidp (fun W => name_any x.s W)
  have NB := hidp (fun W => rNameB x.s W hs2)
  have hxl := hidp (hashO_len x)
  have hLe := hidp (encO_le hx)
  have hc60 : decide ((60 : Int) < (x.s.size : Int)) = false := decide_eq_false (by omega)
  generalize hashO x = X at *
  generalize encO x = L at *
  generalize chkH x = n at *
  generalize nmS x.s = m at *
  have eXX := run_eql_hash X X hxl.out hxl.out
  rw [decide_eq_true rfl] at eXX
  have hgd := guard_hash
  have hnn : ((n : Int) == (n : Int)) = true := beq_self_eq_true _
  have hmm : (m == m) = true := beq_self_eq_true _
  have hV : Hid (Below w.heap.size w w) := hidp (Below.refl _ _)
  have hA := (Below.refl w.heap.size w).alloc (Nat.le_refl _) (.cells (hC x).toArray 68)
  have hK : Hid (Kp w [(w.heap.size, hC x, 68)] (w.alloc (.cells (hC x).toArray 68))) := hidp (Kp.cons (Kp.nil hA) (Blk.new w (hC x) _))
  have c0 := (hK.out.at 0 rfl).cell 0
  rw [hC_0] at c0
  clear hA hs hx
  go_enter Try.func7, Try.ntmps7
  go_wp2_with (with_reducible refine (?_ : wpList _ _ _ _ _ _); refine wpList_load_blkG (by kernel_rfl) 68 _ rfl w.heap.size (hC x) 68 rfl (hK.out.at 0 rfl) _ Try.underlying68 rfl (by rw [hla.out]; kernel_rfl) ?_)
  obtain ⟨w0, hw0⟩ : ∃ W, W = w.alloc (.cells (hC x).toArray 68) := ⟨_, rfl⟩
  rw [← hw0] at hK c0 ⊢
  clear hw0
  have hW0 := hidp hK.out.1.size
  refine (HE.out _).mono ?_
  rintro e u1 ⟨⟨p, bp, cp, rfl, hs, ho⟩, hB⟩
  have hT := hidp (show Below w0.heap.size w0 u1 from hB)
  replace hK := hidp (hK.out.step hT.out)
  have P := hidp (hs)
  have O := hidp (ho.lower hW0.out)
  clear hB hT hs ho HE c0
  go_wp2_with (with_reducible refine (?_ : wpList _ _ _ _ _ _); refine wpList_load_blkG (by kernel_rfl) 68 _ rfl w.heap.size (hC x) 68 rfl (hK.out.at 0 rfl) _ Try.underlying68 rfl (by rw [hla.out]; kernel_rfl) ?_)
  refine (HF.out _).mono ?_
  rintro e u2 ⟨⟨q, bq, cq, rfl, hs⟩, hB⟩
  have hT := hidp (show Below u1.heap.size u1 u2 from hB)
  replace hK := hidp (hK.out.step hT.out)
  replace P := hidp (P.out.below hT.out)
  replace O := hidp (O.out.below hT.out)
  have Q := hidp (hs)
  clear hB hT hs HF
  go_wp2_with (with_reducible refine (?_ : wpList _ _ _ _ _ _); refine wpList_load_blkG (by kernel_rfl) 68 _ rfl w.heap.size (hC x) 68 rfl (hK.out.at 0 rfl) _ Try.underlying68 rfl (by rw [hla.out]; kernel_rfl) ?_)
  refine (HA.out _).mono ?_
  rintro e u3 ⟨rfl, hB⟩
  have hT := hidp (show Below u2.heap.size u2 u3 from hB)
  replace hK := hidp (hK.out.step hT.out)
  replace P := hidp (P.out.below hT.out)
  replace O := hidp (O.out.below hT.out)
  replace Q := hidp (Q.out.below hT.out)
  clear hB hT HA
  go_wp2_with first
    | (with_reducible refine (?_ : wpList _ _ _ _ _ _); refine wpList_store_blk rfl 34 _ _ rfl u3.heap.size (bvs X) (bvs z32) 34 rfl rfl (Blk.new u3 (bvs z32) _) (by rw [bvs_len, hxl.out]; kernel_rfl) (by simp [bvs_len, hxl.out, z32]) (bvs_one _) ?_; intro t1 ht1; have L1 := hidp (lay_hash ht1.out); clear ht1)
    | (with_reducible refine (?_ : wpList _ _ _ _ _ _); refine wpList_load_blkG (by kernel_rfl) 68 _ rfl w.heap.size (hC x) 68 rfl ((hK.out.step L1.out.1).at 0 rfl) _ Try.underlying68 rfl (by rw [hla.out]; kernel_rfl) ?_)
  have BX := hidp L1.out.2
  replace hK := hidp (hK.out.step L1.out.1)
  replace P := hidp (P.out.below L1.out.1)
  replace O := hidp (O.out.below L1.out.1)
  replace Q := hidp (Q.out.below L1.out.1)
  clear L1
  refine (HB.out _).mono ?_
  rintro e u4 ⟨rfl, hB⟩
  have hT := hidp (show Below t1.heap.size t1 u4 from hB)
  replace hK := hidp (hK.out.step hT.out)
  replace P := hidp (P.out.below hT.out)
  replace O := hidp (O.out.below hT.out)
  replace Q := hidp (Q.out.below hT.out)
  replace BX := hidp (hT.out.blk' BX.out)
  clear hB hT HB
  go_wp2_with (with_reducible refine (?_ : wpList _ _ _ _ _ _); refine wpList_store_blk rfl 34 _ _ rfl u4.heap.size (bvs X) (bvs z32) 34 rfl rfl (Blk.new u4 (bvs z32) _) (by rw [bvs_len, hxl.out]; kernel_rfl) (by simp [bvs_len, hxl.out, z32]) (bvs_one _) ?_; intro t2 ht2; have L1 := hidp (lay_hash ht2.out); clear ht2)
  have BY := hidp L1.out.2
  replace hK := hidp (hK.out.step L1.out.1)
  replace P := hidp (P.out.below L1.out.1)
  replace O := hidp (O.out.below L1.out.1)
  replace Q := hidp (Q.out.below L1.out.1)
  replace BX := hidp (L1.out.1.blk' BX.out)
  clear L1
  have hT := hidp (Kp.cons (Kp.cons hK.out BY.out) BX.out)
  refine wp_region_held_drew (S := Kp w [(u3.heap.size, bvs X, 34), (u4.heap.size, bvs X, 34), (w.heap.size, hC x, 68)]) (by kernel_rfl) hT.out.drew (fun hHeld => ?_)
  replace hT := hidp hT.out.drew
  try simp only [Act.put, List.setIfInBounds_toArray, List.set_cons_zero, List.set_cons_succ]
  replace P := hidp (P.out.below (Below.refl _ t2).drew)
  replace Q := hidp (Q.out.below (Below.refl _ t2).drew)
  replace O := hidp (O.out.below (Below.refl _ t2).drew)
  clear hK BX BY
  refine wpAnyH_takeTo2 (i := 0) (oi := _) (v := ?_) (some 37) rfl rfl (by kernel_rfl) (by kernel_rfl) (by kernel_rfl) (fun _ _ _ h => h) (Or.inl ⟨by rfl, ?_⟩) hHeld ?_
  rotate_left
  · intro w hSw
    go_simp
    try with_reducible rfl
  try simp only [Act.put, List.setIfInBounds_toArray, List.set_cons_zero, List.set_cons_succ]
  refine wpAnyH_takeTo2 (i := 1) (oi := _) (v := ?_) (some 38) rfl rfl (by kernel_rfl) (by kernel_rfl) (by kernel_rfl) (fun _ _ _ h => h) (Or.inl ⟨by rfl, ?_⟩) hHeld ?_
  rotate_left
  · intro w hSw
    go_simp
    try with_reducible rfl
  try simp only [Act.put, List.setIfInBounds_toArray, List.set_cons_zero, List.set_cons_succ]
  refine wpAnyH_ready (rs := [2]) (by kernel_rfl) (by simp) ?_
  refine AllReadyH.cons (o := _) rfl (fun K hK => ?_) AllReadyH.nil
  go_simp
  refine (sameBytes_b P.out Q.out true (decide_eq_true rfl)).mono ?_
  rintro e wN ⟨rfl, hN⟩
  replace hT := hidp (hT.out.step hN)
  replace P := hidp (P.out.below hN)
  replace Q := hidp (Q.out.below hN)
  replace O := hidp (O.out.below hN)
  clear hN
  go_wp2_with fail
  refine hK.out _ _ hT.out (fun hHeld' => ?_)
  clear hK K hHeld
  have hHeld := hHeld'
  clear hHeld'
  try simp only [Act.put, List.setIfInBounds_toArray, List.set_cons_zero, List.set_cons_succ]
  refine wpAnyH_takeTo2 (i := 3) (oi := _) (v := ?_) (some 40) rfl rfl (by kernel_rfl) (by kernel_rfl) (by kernel_rfl) (fun _ _ _ h => h) (Or.inl ⟨by rfl, ?_⟩) hHeld ?_
  rotate_left
  · intro w hSw
    go_simp
    try with_reducible rfl
  try simp only [Act.put, List.setIfInBounds_toArray, List.set_cons_zero, List.set_cons_succ]
  refine wpAnyH_takeTo2 (i := 4) (oi := _) (v := ?_) (some 41) rfl rfl (by kernel_rfl) (by kernel_rfl) (by kernel_rfl) (fun _ _ _ h => h) (Or.inl ⟨by rfl, ?_⟩) hHeld ?_
  rotate_left
  · intro w hSw
    go_simp
    try with_reducible rfl
  try simp only [Act.put, List.setIfInBounds_toArray, List.set_cons_zero, List.set_cons_succ]
  refine wpAnyH_takeTo2 (i := 5) (oi := _) (v := ?_) (some 42) rfl rfl (by kernel_rfl) (by kernel_rfl) (by kernel_rfl) (fun _ _ _ h => h) (Or.inl ⟨by rfl, ?_⟩) hHeld ?_
  rotate_left
  · intro w hSw
    go_simp
    try with_reducible rfl
  try simp only [Act.put, List.setIfInBounds_toArray, List.set_cons_zero, List.set_cons_succ]
  refine wpAnyH_takeTo2 (i := 6) (oi := _) (v := ?_) (some 43) rfl rfl (by kernel_rfl) (by kernel_rfl) (by kernel_rfl) (fun _ _ _ h => h) (Or.inl ⟨by rfl, ?_⟩) hHeld ?_
  rotate_left
  · intro w hSw
    go_simp
    try with_reducible rfl
  try simp only [Act.put, List.setIfInBounds_toArray, List.set_cons_zero, List.set_cons_succ]
  refine wpAnyH_takeTo2 (i := 7) (oi := _) (v := ?_) (some 44) rfl rfl (by kernel_rfl) (by kernel_rfl) (by kernel_rfl) (fun _ _ _ h => h) (Or.inl ⟨by rfl, ?_⟩) hHeld ?_
  rotate_left
  · intro w hSw
    go_simp
    try with_reducible rfl
  try simp only [Act.put, List.setIfInBounds_toArray, List.set_cons_zero, List.set_cons_succ]
  refine wpAnyH_takeTo2 (i := 8) (oi := _) (v := ?_) (some 45) rfl rfl (by kernel_rfl) (by kernel_rfl) (by kernel_rfl) (fun _ _ _ h => h) (Or.inl ⟨by rfl, ?_⟩) hHeld ?_
  rotate_left
  · intro w hSw
    go_simp
    try with_reducible rfl
  try simp only [Act.put, List.setIfInBounds_toArray, List.set_cons_zero, List.set_cons_succ]
  refine wpAnyH_takeTo2 (i := 9) (oi := _) (v := .agg (bvs X).toArray) (some 46) rfl rfl (by kernel_rfl) (by kernel_rfl) (by kernel_rfl) (fun _ _ _ h => h) (yieldsIf_load_mid (by rfl) 34 _ rfl (u3.heap.size) 0 rfl (bvs X) _ (fun w' hw' j v hj => by rw [Nat.zero_add]; exact ((hw'.at 0 rfl).cell j).trans hj) Try.underlying34 rfl (by rw [bvs_len, hxl.out]; kernel_rfl)) hHeld ?_
  try simp only [Act.put, List.setIfInBounds_toArray, List.set_cons_zero, List.set_cons_succ]
  refine wpAnyH_takeTo2 (i := 10) (oi := _) (v := .agg (bvs X).toArray) (some 47) rfl rfl (by kernel_rfl) (by kernel_rfl) (by kernel_rfl) (fun _ _ _ h => h) (yieldsIf_load_mid (by rfl) 34 _ rfl (u4.heap.size) 0 rfl (bvs X) _ (fun w' hw' j v hj => by rw [Nat.zero_add]; exact ((hw'.at 1 rfl).cell j).trans hj) Try.underlying34 rfl (by rw [bvs_len, hxl.out]; kernel_rfl)) hHeld ?_
  try simp only [Act.put, List.setIfInBounds_toArray, List.set_cons_zero, List.set_cons_succ]
  refine wpAnyH_takeTo2 (i := 11) (oi := _) (v := ?_) (some 48) rfl rfl (by kernel_rfl) (by kernel_rfl) (by kernel_rfl) (fun _ _ _ h => h) (Or.inl ⟨by rfl, ?_⟩) hHeld ?_
  rotate_left
  · intro w hSw
    go_simp
    try with_reducible rfl
  try simp only [Act.put, List.setIfInBounds_toArray, List.set_cons_zero, List.set_cons_succ]
  refine wpAnyH_takeTo2 (i := 12) (oi := _) (v := ?_) (some 49) rfl rfl (by kernel_rfl) (by kernel_rfl) (by kernel_rfl) (fun _ _ _ h => h) (Or.inl ⟨by rfl, ?_⟩) hHeld ?_
  rotate_left
  · intro w hSw
    go_simp
    try with_reducible rfl
  try simp only [Act.put, List.setIfInBounds_toArray, List.set_cons_zero, List.set_cons_succ]
  refine wpAnyH_takeTo2 (i := 13) (oi := _) (v := ?_) (some 50) rfl rfl (by kernel_rfl) (by kernel_rfl) (by kernel_rfl) (fun _ _ _ h => h) (Or.inl ⟨by rfl, ?_⟩) hHeld ?_
  rotate_left
  · intro w hSw
    go_simp
    try with_reducible rfl
  try simp only [Act.put, List.setIfInBounds_toArray, List.set_cons_zero, List.set_cons_succ]
  refine wpAnyH_takeTo2 (i := 14) (oi := _) (v := ?_) (some 51) rfl rfl (by kernel_rfl) (by kernel_rfl) (by kernel_rfl) (fun _ _ _ h => h) (Or.inl ⟨by rfl, ?_⟩) hHeld ?_
  rotate_left
  · intro w hSw
    go_simp
    try with_reducible rfl
  try simp only [Act.put, List.setIfInBounds_toArray, List.set_cons_zero, List.set_cons_succ]
  refine wpAnyH_takeTo2 (i := 15) (oi := _) (v := ?_) (some 52) rfl rfl (by kernel_rfl) (by kernel_rfl) (by kernel_rfl) (fun _ _ _ h => h) (Or.inl ⟨by rfl, ?_⟩) hHeld ?_
  rotate_left
  · intro w hSw
    go_simp
    try with_reducible rfl
  try simp only [Act.put, List.setIfInBounds_toArray, List.set_cons_zero, List.set_cons_succ]
  refine wpAnyH_takeTo2 (i := 16) (oi := _) (v := ?_) (some 53) rfl rfl (by kernel_rfl) (by kernel_rfl) (by kernel_rfl) (fun _ _ _ h => h) (Or.inl ⟨by rfl, ?_⟩) hHeld ?_
  rotate_left
  · intro w hSw
    go_simp
    try with_reducible rfl
  try simp only [Act.put, List.setIfInBounds_toArray, List.set_cons_zero, List.set_cons_succ]
  refine wpAnyH_takeTo2 (i := 17) (oi := _) (v := ?_) (some 54) rfl rfl (by kernel_rfl) (by kernel_rfl) (by kernel_rfl) (fun _ _ _ h => h) (Or.inl ⟨by rfl, ?_⟩) hHeld ?_
  rotate_left
  · intro w hSw
    go_simp
    try with_reducible rfl
  try simp only [Act.put, List.setIfInBounds_toArray, List.set_cons_zero, List.set_cons_succ]
  refine wpAnyH_takeTo2 (i := 18) (oi := _) (v := ?_) (some 55) rfl rfl (by kernel_rfl) (by kernel_rfl) (by kernel_rfl) (fun _ _ _ h => h) (Or.inl ⟨by rfl, ?_⟩) hHeld ?_
  rotate_left
  · intro w hSw
    go_simp
    try with_reducible rfl
  try simp only [Act.put, List.setIfInBounds_toArray, List.set_cons_zero, List.set_cons_succ]
  refine wpAnyH_takeTo2 (i := 19) (oi := _) (v := .agg (hC x).toArray) (some 56) rfl rfl (by kernel_rfl) (by kernel_rfl) (by kernel_rfl) (fun _ _ _ h => h) (yieldsIf_load_mid (by rfl) 68 _ rfl (w.heap.size) 0 rfl (hC x) _ (fun w' hw' j v hj => by rw [Nat.zero_add]; exact ((hw'.at 2 rfl).cell j).trans hj) Try.underlying68 rfl (by rw [hla.out]; kernel_rfl)) hHeld ?_
  try simp only [Act.put, List.setIfInBounds_toArray, List.set_cons_zero, List.set_cons_succ]
  refine wpAnyH_takeTo2 (i := 21) (oi := _) (v := .agg (hC x).toArray) (some 58) rfl rfl (by kernel_rfl) (by kernel_rfl) (by kernel_rfl) (fun _ _ _ h => h) (yieldsIf_load_mid (by rfl) 68 _ rfl (w.heap.size) 0 rfl (hC x) _ (fun w' hw' j v hj => by rw [Nat.zero_add]; exact ((hw'.at 2 rfl).cell j).trans hj) Try.underlying68 rfl (by rw [hla.out]; kernel_rfl)) hHeld ?_
  try simp only [Act.put, List.setIfInBounds_toArray, List.set_cons_zero, List.set_cons_succ]
  refine wpAnyH_ready (rs := [20]) (by kernel_rfl) (by simp) ?_
  refine AllReadyH.cons (o := _) rfl (fun K hK => ?_) AllReadyH.nil
  go_simp
  refine (CA.out _).mono ?_
  rintro e wN ⟨rfl, hN⟩
  replace hT := hidp (hT.out.step hN)
  replace P := hidp (P.out.below hN)
  replace Q := hidp (Q.out.below hN)
  replace O := hidp (O.out.below hN)
  clear hN
  go_wp2_with fail
  refine hK.out _ _ hT.out (fun hHeld' => ?_)
  clear hK K hHeld
  have hHeld := hHeld'
  clear hHeld'
  try simp only [Act.put, List.setIfInBounds_toArray, List.set_cons_zero, List.set_cons_succ]
  refine wpAnyH_ready (rs := [22]) (by kernel_rfl) (by simp) ?_
  refine AllReadyH.cons (o := _) rfl (fun K hK => ?_) AllReadyH.nil
  go_simp
  refine (CB.out _).mono ?_
  rintro e wN ⟨rfl, hN⟩
  replace hT := hidp (hT.out.step hN)
  replace P := hidp (P.out.below hN)
  replace Q := hidp (Q.out.below hN)
  replace O := hidp (O.out.below hN)
  clear hN
  go_wp2_with fail
  refine hK.out _ _ hT.out (fun hHeld' => ?_)
  clear hK K hHeld
  have hHeld := hHeld'
  clear hHeld'
  try simp only [Act.put, List.setIfInBounds_toArray, List.set_cons_zero, List.set_cons_succ]
  refine wpAnyH_takeTo2 (i := 23) (oi := _) (v := ?_) (some 60) rfl rfl (by kernel_rfl) (by kernel_rfl) (by kernel_rfl) (fun _ _ _ h => h) (Or.inl ⟨by rfl, ?_⟩) hHeld ?_
  rotate_left
  · intro w hSw
    go_simp
    try with_reducible rfl
  try simp only [Act.put, List.setIfInBounds_toArray, List.set_cons_zero, List.set_cons_succ]
  refine wpAnyH_takeTo2 (i := 24) (oi := _) (v := ?_) (some 61) rfl rfl (by kernel_rfl) (by kernel_rfl) (by kernel_rfl) (fun _ _ _ h => h) (Or.inl ⟨by rfl, ?_⟩) hHeld ?_
  rotate_left
  · intro w hSw
    go_simp
    try with_reducible rfl
  try simp only [Act.put, List.setIfInBounds_toArray, List.set_cons_zero, List.set_cons_succ]
  refine wpAnyH_takeTo2 (i := 25) (oi := _) (v := ?_) (some 62) rfl rfl (by kernel_rfl) (by kernel_rfl) (by kernel_rfl) (fun _ _ _ h => h) (Or.inl ⟨by rfl, ?_⟩) hHeld ?_
  rotate_left
  · intro w hSw
    go_simp
    try with_reducible rfl
  try simp only [Act.put, List.setIfInBounds_toArray, List.set_cons_zero, List.set_cons_succ]
  refine wpAnyH_takeTo2 (i := 26) (oi := _) (v := ?_) (some 63) rfl rfl (by kernel_rfl) (by kernel_rfl) (by kernel_rfl) (fun _ _ _ h => h) (Or.inl ⟨by rfl, ?_⟩) hHeld ?_
  rotate_left
  · intro w hSw
    go_simp
    try with_reducible rfl
  try simp only [Act.put, List.setIfInBounds_toArray, List.set_cons_zero, List.set_cons_succ]
  refine wpAnyH_takeTo2 (i := 27) (oi := _) (v := .string x.s) (some 64) rfl rfl (by kernel_rfl) (by kernel_rfl) (by kernel_rfl) (fun _ _ _ h => h) (Or.inl ⟨by rfl, ?_⟩) hHeld ?_
  · intro w' hSw
    have q := (hSw.at 2 rfl).cell 0
    rw [hC_0] at q
    first | (go_simp; done) | (simp [q, go_sem]; done) | (simp [q, go_sem, execOp]; done) | (go_simp; simp [q, go_sem])
  try simp only [Act.put, List.setIfInBounds_toArray, List.set_cons_zero, List.set_cons_succ]
  refine wpAnyH_takeTo2 (i := 29) (oi := _) (v := ?_) (some 66) rfl rfl (by kernel_rfl) (by kernel_rfl) (by kernel_rfl) (fun _ _ _ h => h) (Or.inl ⟨by rfl, ?_⟩) hHeld ?_
  rotate_left
  · intro w hSw
    go_simp
    try with_reducible rfl
  try simp only [Act.put, List.setIfInBounds_toArray, List.set_cons_zero, List.set_cons_succ]
  refine wpAnyH_takeTo2 (i := 30) (oi := _) (v := .string x.s) (some 67) rfl rfl (by kernel_rfl) (by kernel_rfl) (by kernel_rfl) (fun _ _ _ h => h) (Or.inl ⟨by rfl, ?_⟩) hHeld ?_
  · intro w' hSw
    have q := (hSw.at 2 rfl).cell 0
    rw [hC_0] at q
    first | (go_simp; done) | (simp [q, go_sem]; done) | (simp [q, go_sem, execOp]; done) | (go_simp; simp [q, go_sem])
  try simp only [Act.put, List.setIfInBounds_toArray, List.set_cons_zero, List.set_cons_succ]
  refine wpAnyH_ready (rs := [28]) (by kernel_rfl) (by simp) ?_
  refine AllReadyH.cons (o := _) rfl (fun K hK => ?_) AllReadyH.nil
  go_simp
  refine (NA.out _).mono ?_
  rintro e wN ⟨rfl, hN⟩
  replace hT := hidp (hT.out.step hN)
  replace P := hidp (P.out.below hN)
  replace Q := hidp (Q.out.below hN)
  replace O := hidp (O.out.below hN)
  clear hN
  go_wp2_with fail
  refine hK.out _ _ hT.out (fun hHeld' => ?_)
  clear hK K hHeld
  have hHeld := hHeld'
  clear hHeld'
  try simp only [Act.put, List.setIfInBounds_toArray, List.set_cons_zero, List.set_cons_succ]
  refine wpAnyH_ready (rs := [31]) (by kernel_rfl) (by simp) ?_
  refine AllReadyH.cons (o := _) rfl (fun K hK => ?_) AllReadyH.nil
  go_simp
  refine (NB.out _).mono ?_
  rintro e wN ⟨rfl, hN⟩
  replace hT := hidp (hT.out.step hN)
  replace P := hidp (P.out.below hN)
  replace Q := hidp (Q.out.below hN)
  replace O := hidp (O.out.below hN)
  clear hN
  go_wp2_with fail
  refine hK.out _ _ hT.out (fun hHeld' => ?_)
  clear hK K hHeld
  have hHeld := hHeld'
  clear hHeld'
  try simp only [Act.put, List.setIfInBounds_toArray, List.set_cons_zero, List.set_cons_succ]
  refine wpAnyH_takeTo2 (i := 32) (oi := _) (v := ?_) (some 69) rfl rfl (by kernel_rfl) (by kernel_rfl) (by kernel_rfl) (fun _ _ _ h => h) (Or.inl ⟨by rfl, ?_⟩) hHeld ?_
  rotate_left
  · intro w hSw
    go_simp
    try with_reducible rfl
  try simp only [Act.put, List.setIfInBounds_toArray, List.set_cons_zero, List.set_cons_succ]
  refine wpAnyH_takeTo2 (i := 33) (oi := _) (v := ?_) (some 70) rfl rfl (by kernel_rfl) (by kernel_rfl) (by kernel_rfl) (fun _ _ _ h => h) (Or.inl ⟨by rfl, ?_⟩) hHeld ?_
  rotate_left
  · intro w hSw
    go_simp
    try with_reducible rfl
  try simp only [Act.put, List.setIfInBounds_toArray, List.set_cons_zero, List.set_cons_succ]
  refine wpAnyH_takeTo2 (i := 34) (oi := _) (v := ?_) (some 11) rfl rfl (by kernel_rfl) (by kernel_rfl) (by kernel_rfl) (fun _ _ _ h => h) (Or.inl ⟨by rfl, ?_⟩) hHeld ?_
  rotate_left
  · intro w hSw
    go_simp
    try with_reducible rfl
  try simp only [Act.put, List.setIfInBounds_toArray, List.set_cons_zero, List.set_cons_succ]
  refine wpAnyH_done (by kernel_rfl) ?_ _
  clear hHeld
  go_wp2_with fail
  refine (over_any w.heap.size L p cp _ O.out (by have := hLe.out; omega)).mono ?_
  rintro e wO ⟨rfl, hN⟩
  have hB8 := hidp (hT.out.1.trans hN)
  clear hN hT O P Q
  go_wp2_with fail
  refine (hawake_any _).mono ?_
  rintro e wP ⟨rfl, hN⟩
  have hB9 := hidp (hB8.out.trans (hN.mono hB8.out.size))
  clear hN hB8
  go_wp2
  go_ret
  exact ⟨rfl, hB9.out⟩

theorem hch_any (x : Hdr) (w : World) (hx : HdrOk x) : Calls Try.prog 7 #[.agg (hC x).toArray] w fun e w' => e = .returned (.bool true) ∧ Below w.heap.size w w' := by
  by_cases h : 60 < x.s.size
  · exact hch_long x h w
  · exact hch_in x hx (by omega) w
end Go.Proofs.Ytdiklimikkplcaa
