/-
  A thing among a law's arguments.
-/
import Derived.Test.YtbhkjflpkpkdlaaQf
import Derived.ProofKit
import Derived.OpenShut
import Derived.Lib.SmallJoins
import Derived.ChangeSlices
namespace Go.Proofs.Ytbhkjflpkpkdlaa
open Go.RowKit Go.WideShapes Go.Joins Go.ChangeAt Go.ChangeShapes

theorem IsRow.lit {k : IntKind} {w : World} {a : Option Addr} {len cap : Nat} {zs : List Int} (h : IsRow k w a len cap zs) : len ≤ cap := by
  rcases h with ⟨_, rfl, rfl, _⟩ | ⟨_, _, h2, _⟩
  · exact Nat.le_refl _
  · exact h2
theorem Bs.of_row {w : World} {a : Option Addr} {len cap : Nat} {zs : List Int} (h : IsRow .u8 w a len cap zs) : ∃ (L : List Nat) (b o : Nat), L.length = len ∧ Bs w a b o L cap := by
  obtain ⟨L, hl, hS⟩ := ByS.of_row h
  rcases h with ⟨rfl, rfl, rfl, rfl⟩ | ⟨x, rfl, h2, h3, h4, h5, h6⟩
  · exact ⟨L, 0, 0, hl, hS.byte, hS.le, fun h0 => absurd h0 (by omega), fun i hi => absurd hi (by omega)⟩
  · by_cases h0 : 0 < cap
    · have c0 := h5 0 (by omega)
      have hsp : x.spot = .none := by
        have h1 := World.cell?_spot c0
        simpa [Addr.add] using h1
      have hlt : x.block < w.heap.size := by
        have h1 := cell_lt c0
        simpa [Addr.add] using h1
      obtain ⟨bb, bo, sp⟩ := x
      simp only at hsp hlt
      subst hsp
      refine ⟨L, bb, bo, hl, hS.byte, hS.le, fun _ => ⟨rfl, hlt⟩, fun i hi => ?_⟩
      rw [← Addr.add_mid]
      exact hS.cell _ rfl i hi
    · exact ⟨L, 0, 0, hl, hS.byte, hS.le, fun h => absurd h h0, fun i hi => absurd hi (by omega)⟩

section
variable {H : Type} {enc : TypeId × Value → H}
theorem arr_of_trod {W : World} {base : Nat} {spare : Nat → Bool} {held : Bool} {n fuel : Nat} {t : TypeId} {cs : List Value} {x : DataW H × List MemPlace} (hu : Try.prog.underlying t = some (.array n 5)) (hn : Try.prog.cellsOf t = n)
    (h : DataW.trod enc Try.prog W base spare held fuel t cs = some x) : ∃ a : List Nat, Bytes n a ∧ cs = bvs a := by
  have he : Try.prog.cellsOf 5 = 1 := by kernel_rfl
  obtain ⟨xs, m, _, _, hsz, hx, hi⟩ := DataW.trod_array hu h
  rw [he] at hi
  have hl32 : cs.length = n := hsz.trans hn
  have key : ∀ i, i < n → ∃ y : Nat, y < 256 ∧ cs[i]? = some (.int .u8 (y : Nat)) := by
    intro i hlt
    have h1 := hi i hlt
    rw [Nat.mul_one, List.getElem?_eq_getElem (by omega)] at h1
    obtain ⟨y, e1, _, hw⟩ := DataW.trod_int Try.underlying5 h1
    have hb : 0 ≤ y ∧ y ≤ 255 := by
      have q : IntKind.u8.min ≤ y ∧ y ≤ IntKind.u8.max := by simpa [Lit.wf] using hw
      exact q
    refine ⟨y.toNat, by omega, ?_⟩
    have e2 : cs.drop i = cs[i]'(by omega) :: cs.drop (i + 1) := (List.getElem_cons_drop (by omega)).symm
    have e1 : (cs.drop i).take 1 = [.int .u8 y] := e1
    rw [e2] at e1
    simp only [List.take_succ_cons, List.take_zero, List.cons.injEq, and_true] at e1
    rw [List.getElem?_eq_getElem (by omega), e1, Int.toNat_of_nonneg hb.1]
  refine ⟨(List.range n).map fun i => (RowKit.intOf (cs.getD i undef)).toNat, ⟨by simp, ?_⟩, ?_⟩
  · intro x hx
    simp only [List.mem_map, List.mem_range] at hx
    obtain ⟨i, hlt, rfl⟩ := hx
    obtain ⟨y, hn, e⟩ := key i hlt
    rw [List.getD_eq_getElem?_getD, e]
    show ((y : Int)).toNat < 256
    omega
  · apply List.ext_getElem?
    intro i
    unfold bvs
    by_cases hlt : i < n
    · obtain ⟨y, hn, e⟩ := key i hlt
      rw [e]
      simp only [List.getElem?_map, List.getElem?_range hlt, Option.map_some]
      rw [List.getD_eq_getElem?_getD, e]
      show some (Value.int .u8 (y : Int)) = some (Value.int .u8 (((y : Int)).toNat : Int))
      congr 2
    · rw [List.getElem?_eq_none (by omega), List.getElem?_eq_none (by simp; omega)]

theorem split7 {α : Type} (l : List α) : l = (l.drop 0).take 1 ++ ((l.drop 1).take 1 ++ ((l.drop 2).take 1 ++ ((l.drop 3).take 32 ++ ((l.drop 35).take 4 ++ ((l.drop 39).take 1 ++ l.drop 40))))) := by
  have h : ∀ i n, (l.drop i).take n ++ l.drop (i + n) = l.drop i := fun i n => by rw [← List.drop_drop]; exact List.take_append_drop n _
  rw [h 39 1, h 35 4, h 3 32, h 2 1, h 1 1, h 0 1, List.drop_zero]
/-- What a thing's cells are. -/
theorem thing_of_trod {W : World} {base fuel : Nat} {held : Bool} {cs : List Value} {x : DataW H × List MemPlace}
    (h : DataW.trod enc Try.prog W base (fun _ => true) held fuel 39 cs = some x) :
    ∃ (kind n : Int) (p : Option Addr) (b o len cap : Nat) (L hs ks : List Nat) (x : Nat) (is : Bool), cs = thL kind n p len cap hs ks x is ∧ L.length = len ∧ Bs W p b o L cap ∧ Bytes 32 hs ∧ Bytes 4 ks ∧ x < 18446744073709551616 ∧
      (-9223372036854775808 ≤ kind ∧ kind ≤ 9223372036854775807) ∧ (-9223372036854775808 ≤ n ∧ n ≤ 9223372036854775807) ∧ (p = none → cap = 0) := by
  obtain ⟨xs, m, _, _, hsz, hl, hf⟩ := DataW.trod_struct Try.underlying39 h
  have hC : Try.prog.cellsOf 39 = 41 := by kernel_rfl
  rw [hC] at hsz
  have hl7 : xs.length = 7 := hl
  have ci : Try.prog.cellsOf 3 = 1 := by kernel_rfl
  have cb : Try.prog.cellsOf 32 = 1 := by kernel_rfl
  have ch : Try.prog.cellsOf 34 = 32 := by kernel_rfl
  have ck : Try.prog.cellsOf 36 = 4 := by kernel_rfl
  have cu : Try.prog.cellsOf 37 = 1 := by kernel_rfl
  have cl : Try.prog.cellsOf 4 = 1 := by kernel_rfl
  have t0 : DataW.trod enc Try.prog W base (fun _ => true) held m 3 ((cs.drop 0).take (Try.prog.cellsOf 3)) = xs[0]? := hf 0 _ rfl
  have t1 : DataW.trod enc Try.prog W base (fun _ => true) held m 3 ((cs.drop 1).take (Try.prog.cellsOf 3)) = xs[1]? := hf 1 _ rfl
  have t2 : DataW.trod enc Try.prog W base (fun _ => true) held m 32 ((cs.drop 2).take (Try.prog.cellsOf 32)) = xs[2]? := hf 2 _ rfl
  have t3 : DataW.trod enc Try.prog W base (fun _ => true) held m 34 ((cs.drop 3).take (Try.prog.cellsOf 34)) = xs[3]? := hf 3 _ rfl
  have t4 : DataW.trod enc Try.prog W base (fun _ => true) held m 36 ((cs.drop 35).take (Try.prog.cellsOf 36)) = xs[4]? := hf 4 _ rfl
  have t5 : DataW.trod enc Try.prog W base (fun _ => true) held m 37 ((cs.drop 39).take (Try.prog.cellsOf 37)) = xs[5]? := hf 5 _ rfl
  have t6 : DataW.trod enc Try.prog W base (fun _ => true) held m 4 ((cs.drop 40).take (Try.prog.cellsOf 4)) = xs[6]? := hf 6 _ rfl
  rw [ci, List.getElem?_eq_getElem (by omega)] at t0 t1
  rw [cb, List.getElem?_eq_getElem (by omega)] at t2
  rw [ch, List.getElem?_eq_getElem (by omega)] at t3
  rw [ck, List.getElem?_eq_getElem (by omega)] at t4
  rw [cu, List.getElem?_eq_getElem (by omega)] at t5
  rw [cl, List.getElem?_eq_getElem (by omega)] at t6
  obtain ⟨kind, e0, _, w0⟩ := DataW.trod_int Try.underlying3 t0
  obtain ⟨n, e1, _, w1⟩ := DataW.trod_int Try.underlying3 t1
  obtain ⟨hs, hh, e3⟩ := arr_of_trod Try.underlying34 ch t3
  obtain ⟨ks, hk, e4⟩ := arr_of_trod Try.underlying36 ck t4
  obtain ⟨u, e5, _, w5⟩ := DataW.trod_int Try.underlying37 t5
  obtain ⟨is, e6, _⟩ := DataW.trod_bool Try.underlying4 t6
  have b0 : -9223372036854775808 ≤ kind ∧ kind ≤ 9223372036854775807 := by
    have q : IntKind.i64.min ≤ kind ∧ kind ≤ IntKind.i64.max := by simpa [Lit.wf] using w0
    exact q
  have b1 : -9223372036854775808 ≤ n ∧ n ≤ 9223372036854775807 := by
    have q : IntKind.i64.min ≤ n ∧ n ≤ IntKind.i64.max := by simpa [Lit.wf] using w1
    exact q
  have b5 : 0 ≤ u ∧ u ≤ 18446744073709551615 := by
    have q : IntKind.u64.min ≤ u ∧ u ≤ IntKind.u64.max := by simpa [Lit.wf] using w5
    exact q
  have e6' : cs.drop 40 = [.bool is] := by
    have h1 : (cs.drop 40).take 1 = cs.drop 40 := List.take_of_length_le (by rw [List.length_drop]; omega)
    rw [← h1]; exact e6
  have key : ∀ (p : Option Addr) (len cap : Nat), (cs.drop 2).take 1 = [.slice p len cap] → cs = thL kind n p len cap hs ks u.toNat is := by
    intro p len cap e2
    have h1 := split7 cs
    rw [e0, e1, e2, e3, e4, e5, e6'] at h1
    rw [h1]
    unfold thL
    rw [Int.toNat_of_nonneg b5.1]
    rfl
  rcases open_ints Try.underlying32 Try.underlying5 (by kernel_rfl) t2 with ⟨e2, _⟩ | ⟨a, len, cap, zs, e2, _, hle, hm, hz, _, hcell, hwz⟩
  · exact ⟨kind, n, none, 0, 0, 0, 0, [], hs, ks, u.toNat, is, key _ _ _ e2, rfl, ⟨by simp, by simp, fun h0 => absurd h0 (by omega), fun i hi => absurd hi (by simp)⟩, hh, hk, by omega, b0, b1, fun _ => rfl⟩
  · have hr : IsRow .u8 W (some a) len cap zs := .inr ⟨_, rfl, hle, hm, by simpa using hz, hcell, hwz⟩
    obtain ⟨L, b, o, hl, hB⟩ := Bs.of_row hr
    exact ⟨kind, n, some a, b, o, len, cap, L, hs, ks, u.toNat, is, key _ _ _ e2, hl, hB, hh, hk, by omega, b0, b1, fun h => by cases h⟩
set_option maxRecDepth 100000 in
theorem open_thing {W : World} {r : Reach} {b0 base : Nat} {held : Bool} {v : Value} {d : DataW H} {p : List MemPlace} (hv : Value.okWide Try.prog W r b0 39 v) (h : DataW.Trod enc Try.prog W base (fun _ => true) held 39 v d p) :
    ∃ (kind n : Int) (p : Option Addr) (b o len cap : Nat) (L hs ks : List Nat) (x : Nat) (is : Bool), v = .agg (thL kind n p len cap hs ks x is).toArray ∧ L.length = len ∧ Bs W p b o L cap ∧ Bytes 32 hs ∧ Bytes 4 ks ∧ x < 18446744073709551616 ∧
      (-9223372036854775808 ≤ kind ∧ kind ≤ 9223372036854775807) ∧ (-9223372036854775808 ≤ n ∧ n ≤ 9223372036854775807) ∧ (p = none → cap = 0) := by
  obtain ⟨cs, rfl, _⟩ := okWide_struct Try.underlying39 hv
  obtain ⟨fuel, hf⟩ := h
  obtain ⟨kind, n, p, b, o, len, cap, L, hs, ks, x, is, h1, h2⟩ := thing_of_trod hf
  refine ⟨kind, n, p, b, o, len, cap, L, hs, ks, x, is, ?_, h2⟩
  congr 1
  exact Array.toList_inj.1 h1
end
end Go.Proofs.Ytbhkjflpkpkdlaa
