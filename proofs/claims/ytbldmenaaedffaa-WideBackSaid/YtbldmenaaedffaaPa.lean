/-
  WideMore: whatever the input, true; the input reads as it did.
-/
import Derived.Test.YtbldmenaaedffaaLa
import Derived.WalkKit
import Derived.ProofKit
import Derived.OpenShut
import Derived.ShutString
import Derived.ChangeOld
import Derived.Below
import Derived.Lib.SmallJoins
namespace Go.Proofs.Ytbldmenaaedffaa.lawMore
open Go.ChangeShapes Go.WideShapes Go.ChangeAt Go.RowKit Go.Joins
set_option linter.unusedVariables false

theorem own : ownKnob Try.prog.godebug = none := by kernel_rfl
theorem laidOut : laidOutB Try.prog = true := by kernel_rfl

/-- A pair of words that came in is the wide value of a number. -/
theorem as_wide {x y : Int} (hx : (Lit.int .u64 x).wf = true) (hy : (Lit.int .u64 y).wf = true) : ∃ n, n < W128 ∧ Value.agg #[.int .u64 x, .int .u64 y] = wv n := by
  have hx' : 0 ≤ x ∧ x ≤ 18446744073709551615 := by
    have q : IntKind.u64.min ≤ x ∧ x ≤ IntKind.u64.max := by simpa [Lit.wf] using hx
    exact q
  have hy' : 0 ≤ y ∧ y ≤ 18446744073709551615 := by
    have q : IntKind.u64.min ≤ y ∧ y ≤ IntKind.u64.max := by simpa [Lit.wf] using hy
    exact q
  refine ⟨x.toNat * B64 + y.toNat, ?_, ?_⟩
  · unfold B64 W128; omega
  · have e1 : (hiw (x.toNat * B64 + y.toNat) : Int) = x := by unfold hiw B64; omega
    have e2 : (low (x.toNat * B64 + y.toNat) : Int) = y := by unfold low B64; omega
    unfold wv
    rw [e1, e2]

set_option maxRecDepth 100000 in
theorem lifted (os : Os) (started : os.Started) (H : Type) (enc : TypeId × Value → H) :
    ReturnsInHanded {} Try.checked os 4 .any (Rows.wideMoreSpec.pre6 enc Try.prog Try.f4 Rows.wideMoreRow.domain false) (Rows.wideMoreSpec.post enc Try.prog Try.f4 false true false false) := by
  refine returnsInHanded_of_change (C := Try.checked) own started (by kernel_rfl) Try.func4
    (ChangeSpec.witness6 (enc := enc) (C := Try.checked) false ⟨#[], #[.agg #[.int .u64 0, .int .u64 0], .int .i64 0, .agg #[.int .u64 0, .int .u64 0], .int .i64 0], []⟩ 8 (by kernel_rfl) (by kernel_rfl) (by kernel_rfl) (by kernel_rfl)) ?_
  intro W base args ds gs before hval0 hW hcnd _
  have hval : ∀ (j : Nat) t v, Try.f4.params[j]? = some t → args[j]? = some v → Value.okWide Try.prog W .any base t v := hval0
  have hW' := hW
  obtain ⟨p, q, hA0, hV, rfl, hfz, hnd⟩ := hW
  have hA : DataW.TrodAll enc Try.prog W 0 (fun _ => true) true Try.f4.params.toList args.toList ds p := hA0
  rw [Try.params4] at hA hval
  obtain ⟨v0, vs0, d0, ds0, p0, q0, hargs, rfl, rfl, h0, r0⟩ := trodAll_cons hA
  obtain ⟨v1, vs1, d1, ds1, p1, q1, rfl, rfl, rfl, h1, r1⟩ := trodAll_cons r0
  obtain ⟨v2, vs2, d2, ds2, p2, q2, rfl, rfl, rfl, h2, r2⟩ := trodAll_cons r1
  obtain ⟨v3, vs3, d3, ds3, p3, q3, rfl, rfl, rfl, h3, r3⟩ := trodAll_cons r2
  obtain ⟨rfl, rfl, rfl⟩ := trodAll_nil r3
  obtain rfl : args = #[v0, v1, v2, v3] := by cases args; simp_all
  obtain ⟨rfl, rfl⟩ := trodVars_none hV
  have k0 := h0
  have lt0 : ∀ x ∈ p0, x.block < W.heap.size := by obtain ⟨m, hm⟩ := k0; exact DataW.trod_lt m _ _ _ hm
  have k2 := h2
  have lt2 : ∀ x ∈ p2, x.block < W.heap.size := by obtain ⟨m, hm⟩ := k2; exact DataW.trod_lt m _ _ _ hm
  obtain ⟨a, ha, rfl⟩ : ∃ n, n < W128 ∧ v0 = wv n := by
    obtain ⟨x, y, y0, y1, n, rfl, _, _, t0, t1⟩ := open_agg2 Try.underlying24 (by kernel_rfl) (by kernel_rfl) (hval 0 24 v0 rfl rfl) h0
    obtain ⟨x', e0, _, w0⟩ := DataW.trod_int Try.underlying22 t0
    obtain ⟨y', e1, _, w1⟩ := DataW.trod_int Try.underlying22 t1
    obtain rfl : x = .int .u64 x' := by simpa using e0
    obtain rfl : y = .int .u64 y' := by simpa using e1
    exact as_wide w0 w1
  obtain ⟨b, hb, rfl⟩ : ∃ n, n < W128 ∧ v2 = wv n := by
    obtain ⟨x, y, y0, y1, n, rfl, _, _, t0, t1⟩ := open_agg2 Try.underlying24 (by kernel_rfl) (by kernel_rfl) (hval 2 24 v2 rfl rfl) h2
    obtain ⟨x', e0, _, w0⟩ := DataW.trod_int Try.underlying22 t0
    obtain ⟨y', e1, _, w1⟩ := DataW.trod_int Try.underlying22 t1
    obtain rfl : x = .int .u64 x' := by simpa using e0
    obtain rfl : y = .int .u64 y' := by simpa using e1
    exact as_wide w0 w1
  obtain ⟨n, rfl, rfl, rfl, w1⟩ := open_int Try.underlying3 (hval 1 3 v1 rfl rfl) h1
  obtain ⟨m, rfl, rfl, rfl, w3⟩ := open_int Try.underlying3 (hval 3 3 v3 rfl rfl) h3
  have hn : -9223372036854775808 ≤ n ∧ n ≤ 9223372036854775807 := by
    have q : IntKind.i64.min ≤ n ∧ n ≤ IntKind.i64.max := by simpa [Lit.wf] using w1
    exact q
  have hm : -9223372036854775808 ≤ m ∧ m ≤ 9223372036854775807 := by
    have q : IntKind.i64.min ≤ m ∧ m ≤ IntKind.i64.max := by simpa [Lit.wf] using w3
    exact q
  clear hA0 hval0
  refine (lawMore_any a b n m W ha hb hn.2 hm.2).mono fun e W' ⟨he, bel⟩ => ?_
  subst he
  exact ⟨_, rfl, _, _, _, [], _, [], hW', trodAll_mk1 (shut_bool Try.underlying4 _), (trodAll_cons_mk (Below.trod laidOut (by kernel_rfl) (of_decide_eq_true (by kernel_rfl)) k0 bel lt0) (trodAll_cons_mk (shut_int Try.underlying3 w1) (trodAll_cons_mk (Below.trod laidOut (by kernel_rfl) (of_decide_eq_true (by kernel_rfl)) k2 bel lt2) (trodAll_cons_mk (shut_int Try.underlying3 w3) trodAll_mk0)))), rfl, bel.frame _, fun h => by cases h⟩

theorem over : Rows.wideMoreRow.holds Try.pinned (OpenSpec.ofChange Rows.wideMoreSpec) :=
  OpenClaim.holds_of_wide 4 Try.f4 rfl rfl rfl rfl rfl rfl rfl ⟨rfl, rfl, rfl, rfl, rfl⟩ rfl rfl rfl rfl rfl (by kernel_rfl) Try.func4 (by kernel_rfl)
    (of_decide_eq_true (by kernel_rfl)) (by unfold Func.isWrapper; first | (rw [if_pos (by decide +kernel)]; kernel_rfl) | (rw [if_neg (by decide +kernel)]; exact ⟨rfl, rfl⟩))
    (fun os started H enc _ => lifted os started H enc)

/-- The statement. -/
theorem proved : Rows.WideMoreSaid := over
end Go.Proofs.Ytbldmenaaedffaa.lawMore
