/-
  What ValsBack wants beside: == of two numbers' structs; CopyBytes; the place of each key; the sum so far.
-/
import Derived.Test.YtlfmmmlheloloaaUf
import Derived.Test.YtlfmmmlheloloaaVp
namespace Go.Proofs.Ytlfmmmlheloloaa
open Go.RowKit Go.Lib Go.Maps

theorem fields_fault : (Try.prog.fieldsOf 55).toList.map (fun f => (f.type, f.offset, f.name == "_")) = [(26, 0, false), (3, 1, false)] := by kernel_rfl
theorem struct_fault : Try.prog.underlying 55 = some (.struct (Try.prog.fieldsOf 55)) := by kernel_rfl
theorem part_f0 (a b : Value) (w : World) : (part 26 #[a, b] 0).run Try.prog w = .ok a w := by kernel_rfl
theorem part_f1 (a b : Value) (w : World) : (part 3 #[a, b] 1).run Try.prog w = .ok b w := by kernel_rfl
set_option maxRecDepth 20000 in
theorem run_eqIn_fault (d : Nat) (x y a b : Int) (w : World) : (Op.equalIn (d + 3) 55 (.agg #[.int .i64 x, .int .i64 y]) (.agg #[.int .i64 a, .int .i64 b])).run Try.prog w = .ok (x == a && y == b) w := by
  rw [show d + 3 = (d + 2) + 1 from rfl, run_equalIn_agg w (d + 2) 55 _ _ struct_fault (by kernel_rfl)]
  have hf := fields_fault
  obtain ⟨f0, r, h0, h1, h2⟩ := List.map_eq_cons_iff.1 hf
  obtain ⟨f1, r', h3, h4, h5⟩ := List.map_eq_cons_iff.1 h2
  obtain rfl := List.map_eq_nil_iff.1 h5
  rw [h0, h3]
  simp only [Prod.mk.injEq, beq_eq_false_iff_ne] at h1 h4
  obtain ⟨t0, o0, n0⟩ := h1
  obtain ⟨t1, o1, n1⟩ := h4
  simp only [Op.eqFields, n0, n1, t0, t1, o0, o1, ne_eq, not_false_eq_true, if_true, Sem.run_bind, part_f0, Result.andThen_ok, run_equalIn_int w (d + 1) 26 .i64 .i64 _ _ Try.underlying26]
  cases (x == a)
  · rfl
  · simp only [Bool.not_true, Bool.false_eq_true, if_false, Sem.run_bind, part_f1, Result.andThen_ok, run_equalIn_int w (d + 1) 3 .i64 .i64 _ _ Try.underlying3]
    cases (y == b) <;> rfl
theorem eqF (x y a b : Int) (w : World) : (binOp .eql 55 (.agg #[.int .i64 x, .int .i64 y]) (.agg #[.int .i64 a, .int .i64 b])).run Try.prog w = .ok (.bool (x == a && y == b)) w := by
  rw [run_eql_struct, run_eqIn_fault 9997 x y a b]; rfl
theorem neF (x y a b : Int) (w : World) : (binOp .neq 55 (.agg #[.int .i64 x, .int .i64 y]) (.agg #[.int .i64 a, .int .i64 b])).run Try.prog w = .ok (.bool (!(x == a && y == b))) w := by
  have q := run_eqIn_fault 9997 x y a b w
  simp only [binOp]
  simp [Op.equal, Op.maxDepth, q]
theorem fields_wide : (Try.prog.fieldsOf 100).toList.map (fun f => (f.type, f.offset, f.name == "_")) = [(37, 0, false), (37, 1, false)] := by kernel_rfl
theorem struct_wide : Try.prog.underlying 100 = some (.struct (Try.prog.fieldsOf 100)) := by kernel_rfl
theorem part_w0 (a b : Value) (w : World) : (part 37 #[a, b] 0).run Try.prog w = .ok a w := by kernel_rfl
theorem part_w1 (a b : Value) (w : World) : (part 37 #[a, b] 1).run Try.prog w = .ok b w := by kernel_rfl
set_option maxRecDepth 20000 in
theorem run_eqIn_wide (d : Nat) (x y : Int) (w : World) : (Op.equalIn (d + 3) 100 (.agg #[.int .u64 x, .int .u64 y]) (.agg #[.int .u64 x, .int .u64 y])).run Try.prog w = .ok true w := by
  rw [show d + 3 = (d + 2) + 1 from rfl, run_equalIn_agg w (d + 2) 100 _ _ struct_wide (by kernel_rfl)]
  have hf := fields_wide
  obtain ⟨f0, r, h0, h1, h2⟩ := List.map_eq_cons_iff.1 hf
  obtain ⟨f1, r', h3, h4, h5⟩ := List.map_eq_cons_iff.1 h2
  obtain rfl := List.map_eq_nil_iff.1 h5
  rw [h0, h3]
  simp only [Prod.mk.injEq, beq_eq_false_iff_ne] at h1 h4
  obtain ⟨t0, o0, n0⟩ := h1
  obtain ⟨t1, o1, n1⟩ := h4
  simp only [Op.eqFields, n0, n1, t0, t1, o0, o1, ne_eq, not_false_eq_true, if_true, Sem.run_bind, part_w0, part_w1, Result.andThen_ok, run_equalIn_int w (d + 1) 37 .u64 .u64 _ _ Try.underlying37, beq_self_eq_true, Bool.not_true, Bool.false_eq_true, if_false]
  rfl
theorem eqW (x y : Int) (w : World) : (binOp .eql 100 (.agg #[.int .u64 x, .int .u64 y]) (.agg #[.int .u64 x, .int .u64 y])).run Try.prog w = .ok (.bool true) w := by
  rw [run_eql_struct, run_eqIn_wide 9997 x y]; rfl

set_option maxRecDepth 20000 in
set_option maxHeartbeats 2000000 in
theorem copyBytes_any (p : Option Addr) (cap : Nat) (L : List Nat) (w : World) (h : ByS w p cap L) (hn : L.length ≤ 3000000) :
    Calls Try.prog 61 #[.slice p L.length cap] w fun e w' => ∃ v, e = .returned v ∧ w'.ownsRow w.heap.size 5 1 v L.length (bvs L) ∧ Below w.heap.size w w' := by
  have hB : Hid (Below w.heap.size w (w.alloc (.cells #[] 5))) := hidp ((Below.refl _ w).alloc (Nat.le_refl _) _)
  have HS := hidp (h.below hB.out)
  have hown := hidp (own_nothing w)
  have HN := hidp hn
  clear h hn
  go_enter Try.func61, Try.ntmps61
  go_wp2_with (at_builtin; refine wpList_append_byS rfl _ _ rfl w.heap.size 0 [] _ rfl hown.out p cap L rfl HS.out (by have := HN.out; omega) (by simp) ?_; intro v' w1 hown' hgrow; have hO := hidp hown'; have hB1 := hidp (hB.out.grown hgrow (by simp) (fun j hj => (hown.out.lt j hj).1)); clear hown' hgrow)
  have hO2 := hO.out
  rw [Nat.zero_add, List.nil_append] at hO2
  go_ret
  exact ⟨_, rfl, hO2, hB1.out⟩

theorem fnd_self {l : List Vd} (h : chk l = 0) {i : Nat} {v : Vd} (hv : l[i]? = some v) : fnd l v.k = some i := by
  have hs := (sorted_of (chk_ok h).2.2.1).1
  refine fnd_hit hv rfl fun j u hj hu e => ?_
  have := sorted_at hs hu hv hj
  omega
def sumP (l : List Vd) (i : Nat) : Nat := sumN ((l.take i).map (·.p))
theorem sumP_zero (l : List Vd) : sumP l 0 = 0 := by unfold sumP; rw [List.take_zero]; rfl
theorem sumP_all (l : List Vd) : sumP l l.length = sumN (l.map (·.p)) := by unfold sumP; rw [List.take_length]
theorem sumP_snoc {l : List Vd} {i : Nat} {v : Vd} (hv : l[i]? = some v) : sumP l (i + 1) = sumP l i + v.p.toNat := by
  obtain ⟨hlt, rfl⟩ := List.getElem?_eq_some_iff.1 hv
  have q := sumN_snoc (l.map (·.p)) i (by rw [List.length_map]; exact hlt)
  unfold sumP
  rw [List.map_take, List.map_take, q, List.getElem?_map, List.getElem?_eq_getElem hlt]
  rfl
theorem sumP_lt {l : List Vd} (h : chk l = 0) (i : Nat) : sumP l i < W128 := by
  have k := chk_ok h
  unfold sumP
  rw [List.map_take]
  refine sumN_lt _ i (by rw [List.length_map]; omega) fun z hz => ?_
  obtain ⟨v, hv, rfl⟩ := List.mem_map.1 hz
  have := k.2.2.2 v hv
  omega
end Go.Proofs.Ytlfmmmlheloloaa
