/-
  A signature among a law's arguments.
-/
import Derived.Test.YtbhkjflpkpkdlaaS8a
import Derived.Test.YtbhkjflpkpkdlaaJw
namespace Go.Proofs.Ytbhkjflpkpkdlaa
open Go.RowKit Go.WideShapes Go.Joins Go.ChangeAt Go.ChangeShapes Go.Deep

section
variable {H : Type} {enc : TypeId × Value → H}
theorem sig_of_trod {W : World} {base fuel : Nat} {held : Bool} {cs : List Value} {x : DataW H × List MemPlace}
    (h : DataW.trod enc Try.prog W base (fun _ => true) held fuel 97 cs = some x) : ∃ s : Sg, SgOk s ∧ cs = sC s := by
  obtain ⟨xs, m, _, _, hsz, hl, hf⟩ := DataW.trod_struct Try.underlying97 h
  have hC : Try.prog.cellsOf 97 = 37 := by kernel_rfl
  rw [hC] at hsz
  have hl3 : xs.length = 3 := hl
  have ck : Try.prog.cellsOf 36 = 4 := by kernel_rfl
  have ch : Try.prog.cellsOf 34 = 32 := by kernel_rfl
  have cu : Try.prog.cellsOf 37 = 1 := by kernel_rfl
  have t0 : DataW.trod enc Try.prog W base (fun _ => true) held m 36 ((cs.drop 0).take (Try.prog.cellsOf 36)) = xs[0]? := hf 0 _ rfl
  have t1 : DataW.trod enc Try.prog W base (fun _ => true) held m 34 ((cs.drop 4).take (Try.prog.cellsOf 34)) = xs[1]? := hf 1 _ rfl
  have t2 : DataW.trod enc Try.prog W base (fun _ => true) held m 37 ((cs.drop 36).take (Try.prog.cellsOf 37)) = xs[2]? := hf 2 _ rfl
  rw [ck, List.getElem?_eq_getElem (by omega)] at t0
  rw [ch, List.getElem?_eq_getElem (by omega)] at t1
  rw [cu, List.getElem?_eq_getElem (by omega)] at t2
  obtain ⟨k, hk, e0⟩ := arr_of_trod Try.underlying36 ck t0
  obtain ⟨p, hp, e1⟩ := arr_of_trod Try.underlying34 ch t1
  obtain ⟨u, e2, _, w2⟩ := DataW.trod_int Try.underlying37 t2
  have b2 : 0 ≤ u ∧ u ≤ 18446744073709551615 := by
    have q : IntKind.u64.min ≤ u ∧ u ≤ IntKind.u64.max := by simpa [Lit.wf] using w2
    exact q
  have e2' : cs.drop 36 = [.int .u64 u] := by
    have h1 : (cs.drop 36).take 1 = cs.drop 36 := List.take_of_length_le (by rw [List.length_drop]; omega)
    rw [← h1]; exact e2
  refine ⟨⟨k, p, u.toNat⟩, ⟨hk, hp, by show u.toNat < 18446744073709551616; omega⟩, ?_⟩
  have hs : ∀ i n, (cs.drop i).take n ++ cs.drop (i + n) = cs.drop i := fun i n => by rw [← List.drop_drop]; exact List.take_append_drop n _
  have h1 : cs = (cs.drop 0).take 4 ++ ((cs.drop 4).take 32 ++ cs.drop 36) := by rw [hs 4 32, hs 0 4, List.drop_zero]
  rw [e0, e1, e2'] at h1
  rw [h1]
  unfold sC
  rw [Int.toNat_of_nonneg b2.1]
set_option maxRecDepth 100000 in
theorem open_sig {W : World} {r : Reach} {b0 base : Nat} {held : Bool} {v : Value} {d : DataW H} {p : List MemPlace} (hv : Value.okWide Try.prog W r b0 97 v) (h : DataW.Trod enc Try.prog W base (fun _ => true) held 97 v d p) :
    ∃ s : Sg, SgOk s ∧ v = .agg (sC s).toArray := by
  obtain ⟨cs, rfl, _⟩ := okWide_struct Try.underlying97 hv
  obtain ⟨fuel, hf⟩ := h
  obtain ⟨s, hs, h1⟩ := sig_of_trod hf
  refine ⟨s, hs, ?_⟩
  congr 1
  exact Array.toList_inj.1 h1
end
end Go.Proofs.Ytbhkjflpkpkdlaa
