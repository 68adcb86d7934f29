/-
  == of faults; CopyBytes.
-/
import Derived.Test.YtcmkmnidnapabaaGreatQh
import Derived.OwnWalk
namespace Go.Proofs.YtcmkmnidnapabaaGreat
open Go.RowKit Go.Lib Go.Maps

theorem fields_fault : (Tryz.prog.fieldsOf 52).toList.map (fun f => (f.type, f.offset, f.name == "_")) = [(30, 0, false), (3, 1, false)] := by kernel_rfl
theorem struct_fault : Tryz.prog.underlying 52 = some (.struct (Tryz.prog.fieldsOf 52)) := by kernel_rfl
theorem part_f0 (a b : Value) (w : World) : (part 30 #[a, b] 0).run Tryz.prog w = .ok a w := by kernel_rfl
theorem part_f1 (a b : Value) (w : World) : (part 3 #[a, b] 1).run Tryz.prog w = .ok b w := by kernel_rfl
set_option maxRecDepth 20000 in
theorem run_eqIn_fault (d : Nat) (x y a b : Int) (w : World) : (Op.equalIn (d + 3) 52 (.agg #[.int .i64 x, .int .i64 y]) (.agg #[.int .i64 a, .int .i64 b])).run Tryz.prog w = .ok (x == a && y == b) w := by
  rw [show d + 3 = (d + 2) + 1 from rfl, run_equalIn_agg w (d + 2) 52 _ _ struct_fault (by kernel_rfl)]
  have hf := fields_fault
  obtain ⟨f0, r, h0, h1, h2⟩ := List.map_eq_cons_iff.1 hf
  obtain ⟨f1, r', h3, h4, h5⟩ := List.map_eq_cons_iff.1 h2
  obtain rfl := List.map_eq_nil_iff.1 h5
  rw [h0, h3]
  simp only [Prod.mk.injEq, beq_eq_false_iff_ne] at h1 h4
  obtain ⟨t0, o0, n0⟩ := h1
  obtain ⟨t1, o1, n1⟩ := h4
  simp only [Op.eqFields, n0, n1, t0, t1, o0, o1, ne_eq, not_false_eq_true, if_true, Sem.run_bind, part_f0, Result.andThen_ok, run_equalIn_int w (d + 1) 30 .i64 .i64 _ _ Tryz.underlying30]
  cases (x == a)
  · rfl
  · simp only [Bool.not_true, Bool.false_eq_true, if_false, Sem.run_bind, part_f1, Result.andThen_ok, run_equalIn_int w (d + 1) 3 .i64 .i64 _ _ Tryz.underlying3]
    cases (y == b) <;> rfl
theorem eqF (x y a b : Int) (w : World) : (binOp .eql 52 (.agg #[.int .i64 x, .int .i64 y]) (.agg #[.int .i64 a, .int .i64 b])).run Tryz.prog w = .ok (.bool (x == a && y == b)) w := by
  rw [run_eql_struct, run_eqIn_fault 9997 x y a b]; rfl
end Go.Proofs.YtcmkmnidnapabaaGreat
