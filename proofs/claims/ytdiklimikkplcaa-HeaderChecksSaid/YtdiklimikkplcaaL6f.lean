/-
  Header: == of headers and faults.
-/
import Derived.Test.YtdiklimikkplcaaL6e
import Derived.Test.YtdiklimikkplcaaUa
namespace Go.Proofs.Ytdiklimikkplcaa
set_option linter.unusedSimpArgs false
open Go.RowKit Go.Lib

theorem fields_hdr : (Try.prog.fieldsOf 68).toList.map (fun f => (f.type, f.offset, f.name == "_")) = [(9, 0, false), (3, 1, false), (3, 2, false), (34, 3, false), (34, 35, false), (34, 67, false), (34, 99, false)] := by kernel_rfl
theorem struct_hdr : Try.prog.underlying 68 = some (.struct (Try.prog.fieldsOf 68)) := by kernel_rfl
theorem part_hash (cs : List Value) (o : Nat) (w : World) : (part 34 cs.toArray o).run Try.prog w = .ok (.agg ((cs.drop o).take 32).toArray) w := by
  have hagg : (isAgg 34).run Try.prog w = .ok true w := by
    unfold isAgg
    rw [Sem.run_bind, run_underlying Try.underlying34 w]
    rfl
  have hs : (sizeOf 34).run Try.prog w = .ok 32 w := by
    obtain ⟨j, hj⟩ : ∃ j, Try.prog.info? 34 = some j := Option.isSome_iff_exists.1 (by kernel_rfl)
    have h1 : (Try.prog.info? 34).map (·.size) = some 32 := by kernel_rfl
    rw [hj] at h1
    simp only [Option.map_some, Option.some.injEq] at h1
    simp [sizeOf, typeInfo, hj, h1]
  simp [part, hagg, hs]
theorem part_one {T : TypeId} {d : TypeDesc} (hT : Try.prog.underlying T = some d) (hd : (match d with | .struct _ | .array _ _ => true | _ => false) = false) (cs : List Value) (o : Nat) (v : Value) (h : cs[o]? = some v) (w : World) : (part T cs.toArray o).run Try.prog w = .ok v w := by
  have hagg : (isAgg T).run Try.prog w = .ok false w := by
    unfold isAgg
    rw [Sem.run_bind, run_underlying hT w]
    cases d <;> simp_all
  simp [part, hagg, h]
theorem drop_p (x : Hdr) (hx : HdrOk x) : ((hC x).drop 3).take 32 = bvs x.p := List.take_left' (by rw [bvs_len, hx.p.1])
theorem drop_v (x : Hdr) (hx : HdrOk x) : ((hC x).drop 35).take 32 = bvs x.v := by
  have e : hC x = ([.string x.s, .int .i64 x.h, .int .i64 x.t] ++ bvs x.p) ++ (bvs x.v ++ (bvs x.n ++ bvs x.a)) := by unfold hC; simp
  rw [e, List.drop_left' (by simp [bvs_len, hx.p.1]), List.take_left' (by rw [bvs_len, hx.v.1])]
theorem drop_n (x : Hdr) (hx : HdrOk x) : ((hC x).drop 67).take 32 = bvs x.n := by
  have e : hC x = ([.string x.s, .int .i64 x.h, .int .i64 x.t] ++ bvs x.p ++ bvs x.v) ++ (bvs x.n ++ bvs x.a) := by unfold hC; simp
  rw [e, List.drop_left' (by simp [bvs_len, hx.p.1, hx.v.1]), List.take_left' (by rw [bvs_len, hx.n.1])]
theorem drop_a (x : Hdr) (hx : HdrOk x) : ((hC x).drop 99).take 32 = bvs x.a := by
  have e : hC x = ([.string x.s, .int .i64 x.h, .int .i64 x.t] ++ bvs x.p ++ bvs x.v ++ bvs x.n) ++ bvs x.a := by unfold hC; simp
  rw [e, List.drop_left' (by simp [bvs_len, hx.p.1, hx.v.1, hx.n.1]), List.take_of_length_le (by rw [bvs_len, hx.a.1]; omega)]
theorem str_eq (a b : ByteArray) : (a.toList == b.toList) = decide (a = b) := by
  rw [Bool.eq_iff_iff, beq_iff_eq, decide_eq_true_iff, ByteArray.toList_eq, ByteArray.toList_eq]
  constructor
  · intro h
    obtain ⟨⟨l⟩⟩ := a
    obtain ⟨⟨m⟩⟩ := b
    simp only at h
    rw [h]
  · rintro rfl; rfl
instance hdrDec : DecidableEq Hdr := fun x y => by
  obtain ⟨s, h, t, p, v, n, a⟩ := x
  obtain ⟨s', h', t', p', v', n', a'⟩ := y
  exact decidable_of_iff (s = s' ∧ h = h' ∧ t = t' ∧ p = p' ∧ v = v' ∧ n = n' ∧ a = a') (by simp)
set_option maxRecDepth 20000 in
set_option maxHeartbeats 1000000 in
theorem run_eqIn_hdr (d : Nat) (x y : Hdr) (hx : HdrOk x) (hy : HdrOk y) (w : World) : (Op.equalIn (d + 3) 68 (.agg (hC x).toArray) (.agg (hC y).toArray)).run Try.prog w = .ok (decide (x = y)) w := by
  rw [show d + 3 = (d + 2) + 1 from rfl, run_equalIn_agg w (d + 2) 68 _ _ struct_hdr (by kernel_rfl)]
  have hf := fields_hdr
  obtain ⟨f0, r0, h0, g0, k0⟩ := List.map_eq_cons_iff.1 hf
  obtain ⟨f1, r1, h1, g1, k1⟩ := List.map_eq_cons_iff.1 k0
  obtain ⟨f2, r2, h2, g2, k2⟩ := List.map_eq_cons_iff.1 k1
  obtain ⟨f3, r3, h3, g3, k3⟩ := List.map_eq_cons_iff.1 k2
  obtain ⟨f4, r4, h4, g4, k4⟩ := List.map_eq_cons_iff.1 k3
  obtain ⟨f5, r5, h5, g5, k5⟩ := List.map_eq_cons_iff.1 k4
  obtain ⟨f6, r6, h6, g6, k6⟩ := List.map_eq_cons_iff.1 k5
  obtain rfl := List.map_eq_nil_iff.1 k6
  rw [h0, h1, h2, h3, h4, h5, h6]
  simp only [Prod.mk.injEq, beq_eq_false_iff_ne] at g0 g1 g2 g3 g4 g5 g6
  obtain ⟨t0, o0, n0⟩ := g0
  obtain ⟨t1, o1, n1⟩ := g1
  obtain ⟨t2, o2, n2⟩ := g2
  obtain ⟨t3, o3, n3⟩ := g3
  obtain ⟨t4, o4, n4⟩ := g4
  obtain ⟨t5, o5, n5⟩ := g5
  obtain ⟨t6, o6, n6⟩ := g6
  have e : decide (x = y) = (decide (x.s = y.s) && ((x.h == y.h) && ((x.t == y.t) && (decide (x.p = y.p) && (decide (x.v = y.v) && (decide (x.n = y.n) && decide (x.a = y.a))))))) := by
    obtain ⟨s, h, t, p, v, n, a⟩ := x
    obtain ⟨s', h', t', p', v', n', a'⟩ := y
    rw [Bool.eq_iff_iff]
    simp
  rw [e]
  have p0 := fun (z : Hdr) w => part_one Try.underlying9 rfl (hC z) 0 _ (hC_0 z) w
  have p1 := fun (z : Hdr) w => part_one Try.underlying3 rfl (hC z) 1 _ (hC_1 z) w
  have p2 := fun (z : Hdr) w => part_one Try.underlying3 rfl (hC z) 2 _ (hC_2 z) w
  simp only [Op.eqFields, n0, t0, o0, ne_eq, not_false_eq_true, if_true, Sem.run_bind, p0, Result.andThen_ok, run_equalIn_string w (d + 1) 9 _ _ Try.underlying9, str_eq]
  cases decide (x.s = y.s)
  · rfl
  simp only [Op.eqFields, n1, t1, o1, ne_eq, not_false_eq_true, if_true, Bool.not_true, Bool.false_eq_true, if_false, Sem.run_bind, p1, Result.andThen_ok, run_equalIn_int w (d + 1) 3 .i64 .i64 _ _ Try.underlying3]
  cases (x.h == y.h)
  · rfl
  simp only [Op.eqFields, n2, t2, o2, ne_eq, not_false_eq_true, if_true, Bool.not_true, Bool.false_eq_true, if_false, Sem.run_bind, p2, Result.andThen_ok, run_equalIn_int w (d + 1) 3 .i64 .i64 _ _ Try.underlying3]
  cases (x.t == y.t)
  · rfl
  simp only [Op.eqFields, n3, t3, o3, ne_eq, not_false_eq_true, if_true, Bool.not_true, Bool.false_eq_true, if_false, Sem.run_bind, part_hash, drop_p x hx, drop_p y hy, Result.andThen_ok, run_equalIn_arr Try.underlying34 d x.p y.p hx.p.1 hy.p.1]
  cases decide (x.p = y.p)
  · rfl
  simp only [Op.eqFields, n4, t4, o4, ne_eq, not_false_eq_true, if_true, Bool.not_true, Bool.false_eq_true, if_false, Sem.run_bind, part_hash, drop_v x hx, drop_v y hy, Result.andThen_ok, run_equalIn_arr Try.underlying34 d x.v y.v hx.v.1 hy.v.1]
  cases decide (x.v = y.v)
  · rfl
  simp only [Op.eqFields, n5, t5, o5, ne_eq, not_false_eq_true, if_true, Bool.not_true, Bool.false_eq_true, if_false, Sem.run_bind, part_hash, drop_n x hx, drop_n y hy, Result.andThen_ok, run_equalIn_arr Try.underlying34 d x.n y.n hx.n.1 hy.n.1]
  cases decide (x.n = y.n)
  · rfl
  simp only [Op.eqFields, n6, t6, o6, ne_eq, not_false_eq_true, if_true, Bool.not_true, Bool.false_eq_true, if_false, Sem.run_bind, part_hash, drop_a x hx, drop_a y hy, Result.andThen_ok, run_equalIn_arr Try.underlying34 d x.a y.a hx.a.1 hy.a.1]
  cases decide (x.a = y.a) <;> rfl
set_option maxRecDepth 20000 in
theorem eqH (x y : Hdr) (hx : HdrOk x) (hy : HdrOk y) (w : World) : (binOp .eql 68 (.agg (hC x).toArray) (.agg (hC y).toArray)).run Try.prog w = .ok (.bool (decide (x = y))) w := by
  rw [run_eql_struct, run_eqIn_hdr 9997 x y hx hy]; rfl
set_option maxRecDepth 20000 in
theorem neH (x y : Hdr) (hx : HdrOk x) (hy : HdrOk y) (w : World) : (binOp .neq 68 (.agg (hC x).toArray) (.agg (hC y).toArray)).run Try.prog w = .ok (.bool (!decide (x = y))) w := by
  rw [run_neq_struct, run_eqIn_hdr 9997 x y hx hy]; rfl
theorem guard_hdr : Try.prog.eqGuardType Try.prog.depth 68 = false := by kernel_rfl
theorem run_neq_hash (a b : List Nat) (ha : a.length = 32) (hb : b.length = 32) (w : World) : (binOp .neq 34 (.agg (bvs a).toArray) (.agg (bvs b).toArray)).run Try.prog w = .ok (.bool (!decide (a = b))) w := by
  rw [run_neq_struct, run_equalIn_arr Try.underlying34 9998 a b ha hb]; rfl
end Go.Proofs.Ytdiklimikkplcaa
