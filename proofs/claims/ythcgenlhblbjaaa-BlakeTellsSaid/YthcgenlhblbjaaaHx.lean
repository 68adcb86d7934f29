/-
  A hash among a law's arguments.
-/
import Derived.Test.YthcgenlhblbjaaaHd
import Derived.ProofKit
import Derived.OpenShut
import Derived.Lib.SmallJoins
namespace Go.Proofs.Ythcgenlhblbjaaa
open Go.RowKit Go.WideShapes Go.Joins

section
variable {H : Type} {enc : TypeId × Value → H}
theorem okWide_hash {W : World} {r : Reach} {b0 : Nat} {v : Value} (hv : Value.okWide Try.prog W r b0 26 v) : ∃ cs : Array Value, v = .agg cs ∧ cs.size = 32 := by
  have hC : Try.prog.cellsOf 26 = 32 := by kernel_rfl
  simp only [Value.okWide, Try.underlying26] at hv
  obtain ⟨cs, h1, h2, _⟩ := hv
  exact ⟨cs, h1, h2.trans hC⟩
theorem open_hash {W : World} {r : Reach} {b0 base : Nat} {spare : Nat → Bool} {held : Bool} {v : Value} {d : DataW H} {p : List MemPlace} (hv : Value.okWide Try.prog W r b0 26 v) (h : DataW.Trod enc Try.prog W base spare held 26 v d p) :
    ∃ a : List Nat, Bytes 32 a ∧ v = .agg (bvs a).toArray := by
  obtain ⟨cs, rfl, hsz⟩ := okWide_hash hv
  obtain ⟨fuel, hf⟩ := h
  have he : Try.prog.cellsOf 5 = 1 := by kernel_rfl
  obtain ⟨xs, m, _, _, hl, hx, hi⟩ := DataW.trod_array Try.underlying26 hf
  rw [he] at hi
  have hl32 : cs.toList.length = 32 := by simpa using hsz
  have key : ∀ i, i < 32 → ∃ n : Nat, n < 256 ∧ cs.toList[i]? = some (.int .u8 (n : Nat)) := by
    intro i hlt
    have h1 := hi i hlt
    rw [Nat.mul_one, List.getElem?_eq_getElem (by omega)] at h1
    obtain ⟨n, e1, _, hw⟩ := DataW.trod_int Try.underlying5 h1
    have hb : 0 ≤ n ∧ n ≤ 255 := by
      have q : IntKind.u8.min ≤ n ∧ n ≤ IntKind.u8.max := by simpa [Lit.wf] using hw
      exact q
    refine ⟨n.toNat, by omega, ?_⟩
    have e2 : cs.toList.drop i = cs.toList[i]'(by omega) :: cs.toList.drop (i + 1) := (List.getElem_cons_drop (by omega)).symm
    have e1 : (cs.toList.drop i).take 1 = [.int .u8 n] := e1
    rw [e2] at e1
    simp only [List.take_succ_cons, List.take_zero, List.cons.injEq, and_true] at e1
    rw [List.getElem?_eq_getElem (by omega), e1]
    congr 2; omega
  refine ⟨(List.range 32).map fun i => (RowKit.intOf (cs.toList.getD i undef)).toNat, ⟨by simp, ?_⟩, ?_⟩
  · intro x hx
    simp only [List.mem_map, List.mem_range] at hx
    obtain ⟨i, hlt, rfl⟩ := hx
    obtain ⟨n, hn, e⟩ := key i hlt
    rw [List.getD_eq_getElem?_getD, e]
    show ((n : Int)).toNat < 256
    omega
  · congr 1
    apply Array.toList_inj.1
    apply List.ext_getElem?
    intro i
    unfold bvs
    by_cases hlt : i < 32
    · obtain ⟨n, hn, e⟩ := key i hlt
      rw [e]
      simp only [List.getElem?_map, List.getElem?_range hlt, Option.map_some]
      rw [List.getD_eq_getElem?_getD, e]
      show some (Value.int .u8 (n : Int)) = some (Value.int .u8 (((n : Int)).toNat : Int))
      congr 2
    · rw [List.getElem?_eq_none (by omega), List.getElem?_eq_none (by simp; omega)]
end
end Go.Proofs.Ythcgenlhblbjaaa
