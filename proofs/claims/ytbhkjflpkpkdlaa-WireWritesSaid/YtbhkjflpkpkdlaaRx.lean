/-
  The answer's writer: Word, Key.
-/
import Derived.Test.YtbhkjflpkpkdlaaRw
import Derived.Test.YtbhkjflpkpkdlaaQe
import Derived.LoopN

/-! Word, Key. -/
namespace Go.Proofs.Ytbhkjflpkpkdlaa
set_option linter.unusedSimpArgs false
open Go.RowKit Go.Lib

/-- What the loop of Word knows. -/
structure WrdI (w wr : World) (n j : Nat) (v : Value) : Prop where
  bs : ∃ p c, v = .slice p j c ∧ ByS wr p c (loD j n)
  own : wr.ownsRow w.heap.size 5 1 v j (bvs (loD j n))
  bel : Below w.heap.size w wr
set_option maxRecDepth 100000 in
set_option maxHeartbeats 4000000 in
theorem rWord_any (n : Nat) (w : World) (hn : n < 18446744073709551616) : Calls Try.prog 149 #[.int .u64 (n : Nat)] w (NewB w (loD 8 n)) := by
  have hN := hidp hn
  clear hn
  go_enter Try.func149, Try.ntmps149
  go_wp2
  go_loopw [0, 3, 4] (fun m v x wr => ∃ j : Nat, j ≤ 8 ∧ x = .int .i64 j ∧ m = .int .u64 ((n / 256 ^ j : Nat) : Int) ∧ Hid (WrdI w wr n j v)) (fun _ _ x _ => 8 - (Go.RowKit.intOf x).toNat)
  case atStart => exact ⟨0, by omega, rfl, by simp, hidp ⟨⟨none, 0, rfl, ⟨by simp [loD], by simp [loD], fun _ => rfl, fun x hx => by cases hx⟩⟩, ⟨rfl, .inl ⟨rfl, rfl⟩⟩, Below.refl _ _⟩⟩
  case round =>
    obtain ⟨j, hj, rfl, rfl, hr⟩ := hrel
    have hle : n / 256 ^ j ≤ n := Nat.div_le_self _ _
    obtain ⟨p, c, rfl, hbs⟩ := hr.out.bs
    obtain ⟨m, hm⟩ : ∃ m, m = n / 256 ^ j := ⟨_, rfl⟩
    rw [← hm]
    have hlen := loD_len j n
    by_cases hlt : j < 8
    · have hjz : (j : Int) < 8 := by omega
      have hms : m < 18446744073709551616 := by have := hN.out; omega
      have hwr : IntKind.u8.wrap (m : Int) = ((m % 256 : Nat) : Int) := by rw [IntKind.wrap_u8]; omega
      have hwr2 : (m : Int) % 256 = ((m % 256 : Nat) : Int) := by omega
      have hnx : n / 256 ^ (j + 1) = m / 256 := by rw [hm, Nat.div_div_eq_div_mul, ← Nat.pow_succ]
      have HJ := hidp (And.intro hnx hlt)
      have hadd := w64_nat (n := j) (by omega)
      have hd : loD (j + 1) n = m % 256 :: loD j n := by simp [loD, hm]
      have HD := hidp hd
      have HL := hidp (loD_byte (j + 1) n)
      have HO := hidp (own_lit1 wr (m % 256))
      have HS := hidp (hbs.below ((Below.refl wr.heap.size wr).alloc (Nat.le_refl _) (.cells (bvs [m % 256]).toArray 5)))
      have hn1 := hidp (show 1 + (loD j n).length ≤ 4000000 by omega)
      have hz1 := hidp (show wr.heap.size ≤ (wr.alloc (.cells (bvs [m % 256]).toArray 5)).heap.size by simp)
      have hlen' := hidp hlen
      have HM := hidp hm
      clear hle hbs hm hnx hd hlen hlt hj
      obtain ⟨d, hd⟩ : ∃ d, d = m % 256 := ⟨_, rfl⟩
      rw [← hd] at hwr hwr2 HO HS hz1 HD
      replace hd := hidp hd
      rw [← hlen'.out]
      rw [← hlen'.out] at hadd hjz
      go_wp2_with (at_builtin; refine wpList_append_byS rfl _ _ rfl wr.heap.size 1 (bvs [d]) _ rfl HO.out p c (loD j n) rfl HS.out hn1.out hz1.out ?_; intro v' w1 hown' hgrow; have hO := hidp hown'; have T1 := hidp (((Below.refl wr.heap.size wr).alloc (Nat.le_refl _) _).grown hgrow hz1.out (fun k hk => (HO.out.lt k hk).1)); clear hown' hgrow)
      have hO2 : w1.ownsRow wr.heap.size 5 1 v' (loD (j + 1) n).length (bvs (loD (j + 1) n)) := by
        have q := hO.out
        rw [loD_len, HD.out]
        rw [hlen'.out, Nat.add_comm] at q
        exact q
      obtain ⟨p', c', rfl, hs⟩ := bys_own hO2 HL.out
      rw [loD_len] at hO2
      rw [hlen'.out]
      refine ⟨⟨j + 1, by have := HJ.out.2; omega, rfl, congrArg (Value.int .u64) (by rw [HJ.out.1]; omega), hidp ⟨⟨p', c', by rw [loD_len], hs⟩, by rw [loD_len]; exact ownsRow_base hO2 hr.out.bel.size, hr.out.bel.trans (T1.out.mono hr.out.bel.size)⟩⟩, ?_⟩
      have := HJ.out.2
      show 8 - ((j + 1 : Nat) : Int).toNat < 8 - ((j : Nat) : Int).toNat
      omega
    · obtain rfl : j = 8 := by omega
      have hX := hidp hr.out
      clear hr hle hm hlt hj
      go_wp2
      go_ret
      exact ⟨⟨p, c, by rw [loD_len]; rfl, hbs, by have q := hX.out.own; rw [loD_len]; exact q⟩, hX.out.bel⟩
theorem loD_word (n : Nat) : loD 8 n = wordB n := by
  unfold wordB formW
  simp [List.range_succ, loD]
set_option maxRecDepth 100000 in
set_option maxHeartbeats 4000000 in
theorem rWWord_any {w : World} {g lim : Nat} {L : List Nat} (H : WQ w g lim L) (n : Nat) (hn : n < 18446744073709551616) (hl : L.length + 8 ≤ lim) (hlim : lim ≤ 1048576) :
    Calls Try.prog 81 #[.pointer (some ⟨g, 0, none⟩), .int .u64 (n : Nat)] w (WP w g lim (L ++ loD 8 n)) := by
  obtain ⟨p0, b0, c0, hb, _, _⟩ := H.q
  have k2 := hb.cell 2
  simp only [List.getElem?_cons_zero, List.getElem?_cons_succ] at k2
  have HH := hidp H
  have hlt := hb.lt
  have HD := hidp (rWord_any n w hn)
  have HL := hidp (And.intro (show L.length + (loD 8 n).length ≤ lim by rw [loD_len]; exact hl) hlim)
  clear H hn hl hlim hb
  generalize loD 8 n = M at *
  go_enter Try.func81, Try.ntmps81
  go_wp2_with fail
  refine HD.out.mono ?_
  rintro e wx ⟨⟨q, c, rfl, hs, _⟩, hB⟩
  have HP := hidp ((rPut_any (HH.out.below hB) hs HL.out.1 HL.out.2).mono fun e w' (h : WP wx g lim (L ++ M) e w') => h.low hB)
  clear HD hs hB k2
  go_wp2_with fail
  refine HP.out.mono ?_
  rintro e w2 ⟨rfl, h1, h2⟩
  have h1 := hidp h1
  have h2 := hidp h2
  clear HP
  go_wp2_with fail
  go_ret
  exact ⟨rfl, h1.out, h2.out⟩
set_option maxRecDepth 100000 in
set_option maxHeartbeats 4000000 in
theorem rWKey_any {w : World} {g lim : Nat} {L : List Nat} (H : WQ w g lim L) (a : List Nat) (ha : Bytes 4 a) (hl : L.length + 4 ≤ lim) (hlim : lim ≤ 1048576) :
    Calls Try.prog 80 #[.pointer (some ⟨g, 0, none⟩), .agg (bvs a).toArray] w (WP w g lim (L ++ a)) := by
  have hsl := fun w' => run_sliceAt_all (P := Try.prog) (t := 36) (e := 5) (n := 4) Try.underlying36 (by kernel_rfl) (by decide) w.heap.size 0 w'
  have hA := hidp (((Below.refl w.heap.size w).alloc (Nat.le_refl _) (.cells (bvs a).toArray 36)).alloc (by simp) (.cells #[] 5))
  have hk := hidp ((Blk.new w (bvs a) 36).alloc (.cells #[] 5))
  have HH := hidp H
  have HL := hidp (And.intro hl hlim)
  have hown : Hid (((w.alloc (.cells (bvs a).toArray 36)).alloc (.cells #[] 5)).ownsRow (w.heap.size + 1) 5 1 (.slice (some ⟨w.heap.size + 1, 0, none⟩) 0 0) 0 []) := by
    have q := own_nothing (w.alloc (.cells (bvs a).toArray 36))
    rw [show (w.alloc (.cells (bvs a).toArray 36)).heap.size = w.heap.size + 1 by simp] at q
    exact hidp q
  have HSA : Hid (ByS ((w.alloc (.cells (bvs a).toArray 36)).alloc (.cells #[] 5)) (some ⟨w.heap.size, 0, none⟩) 4 a) := hidp (ByS.of_bs (b := w.heap.size) (o := 0) ⟨ha.2, by rw [ha.1]; exact Nat.le_refl _, fun _ => ⟨rfl, hk.out.lt⟩, fun i hi => by
    rw [Nat.zero_add, hk.out.cell i]
    exact bvs_get hi⟩ (fun h => by cases h))
  have hz0 : Hid (w.heap.size + 1 ≤ ((w.alloc (.cells (bvs a).toArray 36)).alloc (.cells #[] 5)).heap.size) := hidp (by simp)
  have hla := hidp ha.1
  have hby := hidp ha.2
  have hn1 : Hid (0 + a.length ≤ 4000000) := hidp (by rw [ha.1]; decide)
  have hln : Hid (L.length + a.length ≤ lim) := hidp (by rw [ha.1]; exact hl)
  clear H hl hlim ha
  go_enter Try.func80, Try.ntmps80
  go_wp2_with (at_builtin; refine wpList_append_byS rfl _ _ rfl (w.heap.size + 1) 0 [] _ rfl hown.out (some ⟨w.heap.size, 0, none⟩) 4 a (by rw [hla.out]; rfl) HSA.out hn1.out hz0.out ?_; intro v' w1 hown' hgrow; have hB1 := hidp (hA.out.grown hgrow (by simp; omega) (fun j hj => by have := (hown.out.lt j hj).1; omega)); have HH1 := hidp (HH.out.below hB1.out); rw [Nat.zero_add, List.nil_append] at hown'; obtain ⟨q, b, c, rfl, hqb, hq0, hs⟩ := Bs.of_own hown' hby.out; have hS := hidp (ByS.of_bs hs hq0); clear hown' hgrow hqb hq0 hs)
  have HP := hidp ((rPut_any HH1.out hS.out hln.out HL.out.2).mono fun e w' (h : WP w1 g lim (L ++ a) e w') => h.low hB1.out)
  refine HP.out.mono ?_
  rintro e w2 ⟨rfl, h1, h2⟩
  have h1 := hidp h1
  have h2 := hidp h2
  clear HP
  go_wp2_with fail
  go_ret
  exact ⟨rfl, h1.out, h2.out⟩
end Go.Proofs.Ytbhkjflpkpkdlaa
