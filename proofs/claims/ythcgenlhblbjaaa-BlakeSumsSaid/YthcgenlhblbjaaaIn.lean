/-
  The walk of landfalllaw03's BlakeSums.
-/
import Derived.Test.YthcgenlhblbjaaaIm
import Derived.Test.YthcgenlhblbjaaaIr
namespace Go.Proofs.Ythcgenlhblbjaaa
open Go.RowKit Go.Lib

theorem Lent.bsl {B : Nat} {w : World} {g c : Nat} {L : List Nat} (h : Lent B w g c L) (hb : ∀ x ∈ L, x < 256) : Bsl w (some ⟨g, 0, none⟩) g 0 L c := by
  obtain ⟨h1, h2, rest, h3, h4⟩ := h
  refine ⟨hb, by omega, fun _ => ⟨rfl, h3.lt⟩, fun i hi => ?_⟩
  rw [Nat.zero_add, h3.cell i, List.getElem?_append_left (by rw [bvs_len, List.length_append]; omega)]
  rw [bvs_get (by rw [List.length_append]; omega)]
  rw [List.getD_eq_getElem?_getD, List.getElem?_append_left hi, ← List.getD_eq_getElem?_getD]
/-- What is known of what came in and of what was lent. -/
structure Su (w wr : World) (a : Option Addr) (cap g c : Nat) (L : List Nat) : Prop where
  bel : Below w.heap.size w wr
  inn : ByS wr a cap L
  lent : Lent w.heap.size wr g c L
theorem Su.below {w wr w' : World} {a : Option Addr} {cap g c : Nat} {L : List Nat} (h : Su w wr a cap g c L) (hb : Below wr.heap.size wr w') : Su w w' a cap g c L :=
  ⟨btrans h.bel hb, h.inn.below hb, h.lent.below hb⟩

set_option maxRecDepth 20000 in
set_option maxHeartbeats 8000000 in
theorem lawSums_w (a : Option Addr) (len cap : Nat) (zs : List Int) (w : World) (h0 : IsRow .u8 w a len cap zs) :
    Calls Try.prog 3 #[.slice a len cap] w fun e w' => e = .returned (.bool true) ∧ Below w.heap.size w w' := by
  by_cases h1000 : 1000 < len
  · have ht : decide ((1000 : Int) < ((len : Nat) : Int)) = true := decide_eq_true (by omega)
    clear h1000 h0
    go_enter Try.func3, Try.ntmps3
    go_wp2_with fail
    refine (awake_any _).mono ?_
    rintro e w1 ⟨rfl, hB1⟩
    have h1 := hidp hB1
    clear hB1
    go_wp2
    go_ret
    exact ⟨rfl, h1.out⟩
  have hgd := guard_hash
  have hu := Try.underlying26
  obtain ⟨L, rfl, hL⟩ := ByS.of_row h0
  have HL := hidp hL
  have hle := hidp h1000
  have ht0 : decide ((1000 : Int) < ((L.length : Nat) : Int)) = false := decide_eq_false (by omega)
  have hlen := hidp (hashL_len L)
  obtain ⟨X, hX⟩ : ∃ X, X = hashL L := ⟨_, rfl⟩
  rw [← hX] at hlen
  have heql : ∀ w, (binOp .eql 26 (.agg (bvs X).toArray) (.agg (bvs X).toArray)).run Try.prog w = .ok (.bool true) w := fun w => by rw [run_eql_hash X X hlen.out hlen.out w, decide_eq_true rfl]
  replace hX := hidp hX
  clear h0 hL h1000
  go_enter Try.func3, Try.ntmps3
  go_wp2_with fail
  refine (lent_any HL.out (by have := hle.out; omega)).mono ?_
  rintro e w1 ⟨⟨g, c, rfl, hlent⟩, hB1⟩
  have H1 := hidp (Su.mk hB1 (HL.out.below hB1) hlent)
  clear hB1 hlent
  go_wp2_with fail
  refine (sum_any L _ g 0 c w1 (H1.out.lent.bsl HL.out.byte) (by have := hle.out; omega)).mono ?_
  rintro e w2 ⟨rfl, hB2⟩
  rw [← hX.out]
  have H2 := hidp (H1.out.below hB2)
  clear hB2 H1
  go_wp2_with fail
  refine (refSum_any H2.out.inn (by have := hle.out; omega)).mono ?_
  rintro e w3 ⟨rfl, hB3⟩
  rw [← hX.out]
  have H3 := hidp (H2.out.below hB3)
  clear hB3 H2
  go_wp2_with fail
  refine (kept_any H3.out.lent H3.out.inn (by have := hle.out; omega)).mono ?_
  rintro e w4 ⟨rfl, hB4⟩
  have H4 := hidp (H3.out.below hB4)
  clear hB4 H3
  go_wp2_with fail
  refine (awake_any _).mono ?_
  rintro e w5 ⟨rfl, hB5⟩
  have H5 := hidp (H4.out.below hB5)
  clear hB5 H4
  go_wp2
  go_ret
  exact ⟨rfl, H5.out.bel⟩
end Go.Proofs.Ythcgenlhblbjaaa
