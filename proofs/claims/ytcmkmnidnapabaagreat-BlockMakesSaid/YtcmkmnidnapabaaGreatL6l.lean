/-
  A header among a law's arguments.
-/
import Derived.Test.YtcmkmnidnapabaaGreatLA
import Derived.Test.YtcmkmnidnapabaaGreatJU
namespace Go.Proofs.YtcmkmnidnapabaaGreat
open Go.RowKit Go.WideShapes Go.Joins Go.ChangeAt Go.ChangeShapes

section
variable {H : Type} {enc : TypeId × Value → H}
theorem splitH {α : Type} (l : List α) : l = (l.drop 0).take 1 ++ ((l.drop 1).take 1 ++ ((l.drop 2).take 1 ++ ((l.drop 3).take 32 ++ ((l.drop 35).take 32 ++ ((l.drop 67).take 32 ++ l.drop 99))))) := by
  have h : ∀ i n, (l.drop i).take n ++ l.drop (i + n) = l.drop i := fun i n => by rw [← List.drop_drop]; exact List.take_append_drop n _
  rw [h 67 32, h 35 32, h 3 32, h 2 1, h 1 1, h 0 1, List.drop_zero]
theorem hdr_of_trod {W : World} {base fuel : Nat} {held : Bool} {cs : List Value} {x : DataW H × List MemPlace}
    (h : DataW.trod enc Tryz.prog W base (fun _ => true) held fuel 79 cs = some x) : ∃ y : Hdr, cs = hC y ∧ HdrOk y := by
  obtain ⟨xs, m, _, _, hsz, hl, hf⟩ := DataW.trod_struct Tryz.underlying79 h
  have hC' : Tryz.prog.cellsOf 79 = 131 := by kernel_rfl
  rw [hC'] at hsz
  have hl7 : xs.length = 7 := hl
  have ci : Tryz.prog.cellsOf 3 = 1 := by kernel_rfl
  have cb : Tryz.prog.cellsOf 9 = 1 := by kernel_rfl
  have ch : Tryz.prog.cellsOf 39 = 32 := by kernel_rfl
  have t0 : DataW.trod enc Tryz.prog W base (fun _ => true) held m 9 ((cs.drop 0).take (Tryz.prog.cellsOf 9)) = xs[0]? := hf 0 _ rfl
  have t1 : DataW.trod enc Tryz.prog W base (fun _ => true) held m 3 ((cs.drop 1).take (Tryz.prog.cellsOf 3)) = xs[1]? := hf 1 _ rfl
  have t2 : DataW.trod enc Tryz.prog W base (fun _ => true) held m 3 ((cs.drop 2).take (Tryz.prog.cellsOf 3)) = xs[2]? := hf 2 _ rfl
  have t3 : DataW.trod enc Tryz.prog W base (fun _ => true) held m 39 ((cs.drop 3).take (Tryz.prog.cellsOf 39)) = xs[3]? := hf 3 _ rfl
  have t4 : DataW.trod enc Tryz.prog W base (fun _ => true) held m 39 ((cs.drop 35).take (Tryz.prog.cellsOf 39)) = xs[4]? := hf 4 _ rfl
  have t5 : DataW.trod enc Tryz.prog W base (fun _ => true) held m 39 ((cs.drop 67).take (Tryz.prog.cellsOf 39)) = xs[5]? := hf 5 _ rfl
  have t6 : DataW.trod enc Tryz.prog W base (fun _ => true) held m 39 ((cs.drop 99).take (Tryz.prog.cellsOf 39)) = xs[6]? := hf 6 _ rfl
  rw [ci, List.getElem?_eq_getElem (by omega)] at t1 t2
  rw [cb, List.getElem?_eq_getElem (by omega)] at t0
  rw [ch, List.getElem?_eq_getElem (by omega)] at t3 t4 t5 t6
  obtain ⟨s, e0, _⟩ := DataW.trod_string Tryz.underlying9 t0
  obtain ⟨n1, e1, _, w1⟩ := DataW.trod_int Tryz.underlying3 t1
  obtain ⟨n2, e2, _, w2⟩ := DataW.trod_int Tryz.underlying3 t2
  obtain ⟨a3, h3, e3⟩ := arr_of_trod Tryz.underlying39 ch t3
  obtain ⟨a4, h4, e4⟩ := arr_of_trod Tryz.underlying39 ch t4
  obtain ⟨a5, h5, e5⟩ := arr_of_trod Tryz.underlying39 ch t5
  obtain ⟨a6, h6, e6⟩ := arr_of_trod Tryz.underlying39 ch t6
  have b1 : -9223372036854775808 ≤ n1 ∧ n1 ≤ 9223372036854775807 := by
    have q : IntKind.i64.min ≤ n1 ∧ n1 ≤ IntKind.i64.max := by simpa [Lit.wf] using w1
    exact q
  have b2 : -9223372036854775808 ≤ n2 ∧ n2 ≤ 9223372036854775807 := by
    have q : IntKind.i64.min ≤ n2 ∧ n2 ≤ IntKind.i64.max := by simpa [Lit.wf] using w2
    exact q
  have e6' : cs.drop 99 = bvs a6 := by
    have h1 : (cs.drop 99).take 32 = cs.drop 99 := List.take_of_length_le (by rw [List.length_drop]; omega)
    rw [← h1]; exact e6
  refine ⟨⟨s, n1, n2, a3, a4, a5, a6⟩, ?_, ⟨b1, b2, h3, h4, h5, h6⟩⟩
  have h1 := splitH cs
  rw [e0, e1, e2, e3, e4, e5, e6'] at h1
  rw [h1]
  rfl
set_option maxRecDepth 100000 in
theorem open_hdr {W : World} {r : Reach} {b0 base : Nat} {held : Bool} {v : Value} {d : DataW H} {p : List MemPlace} (hv : Value.okWide Tryz.prog W r b0 79 v) (h : DataW.Trod enc Tryz.prog W base (fun _ => true) held 79 v d p) :
    ∃ y : Hdr, HdrOk y ∧ v = .agg (hC y).toArray := by
  obtain ⟨cs, rfl, _⟩ := okWide_struct Tryz.underlying79 hv
  obtain ⟨fuel, hf⟩ := h
  obtain ⟨y, h1, h2⟩ := hdr_of_trod hf
  refine ⟨y, h2, ?_⟩
  congr 1
  exact Array.toList_inj.1 h1
end
end Go.Proofs.YtcmkmnidnapabaaGreat
