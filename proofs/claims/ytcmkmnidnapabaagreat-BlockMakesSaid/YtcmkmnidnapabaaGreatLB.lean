/-
  Texts L6e, L6f, L6g, L6h, one behind the other.
-/
import Derived.Test.YtcmkmnidnapabaaGreatL6d
import Derived.Test.YtcmkmnidnapabaaGreatUf
import Derived.Test.YtcmkmnidnapabaaGreatUa
import Derived.Test.YtcmkmnidnapabaaGreatLh
import Derived.Test.YtcmkmnidnapabaaGreatUj
import Derived.Deep.RegionHeld3

/-! L6e: Header, plain: what is encoded is decoded as it was, and nothing else is. -/
namespace Go.Proofs.YtcmkmnidnapabaaGreat
open Go.RowKit Go.Lib

theorem rd_step {α : Type} {pr : List Nat → PR α} {z : α} {A Z : List Nat} {v : α} {t : Nat} (h : pr (A ++ Z) = .ok v A.length) :
    rdV pr z ⟨t, A ++ Z, 0, 0⟩ = v ∧ rdN pr ⟨t, A ++ Z, 0, 0⟩ = ⟨t + A.length, Z, 0, 0⟩ := by
  constructor
  · unfold rdV; simp only [h]; simp
  · unfold rdN
    simp only [h]
    rw [List.drop_left' rfl]
    simp
theorem strB_strL (s : ByteArray) : strB (strL s) = s := by
  obtain ⟨⟨l⟩⟩ := s
  show (⟨((l.map (·.toNat)).map UInt8.ofNat).toArray⟩ : ByteArray) = _
  rw [List.map_map]
  have e : (UInt8.ofNat ∘ fun x : UInt8 => x.toNat) = id := by funext x; simp
  rw [e, List.map_id]
theorem strL_byte (s : ByteArray) : ∀ x ∈ strL s, x < 256 := by
  intro x hx
  unfold strL at hx
  obtain ⟨u, _, rfl⟩ := List.mem_map.1 hx
  exact u.toNat_lt
theorem pText_ok {T : List Nat} {most : Nat} (h : T.length ≤ most) (hm : most < 65536) (Z : List Nat) : pText ((nB T.length ++ T) ++ Z) most = .ok T (nB T.length ++ T).length := by
  have hn := pNum_nB (n := T.length) (by omega) (T ++ Z)
  unfold pText pLen
  rw [List.append_assoc, hn]
  simp only
  rw [if_neg (by omega)]
  simp only
  rw [List.drop_left' (nB_len _), if_neg (by rw [List.length_append, List.length_append, nB_len]; omega), List.take_left' rfl, List.length_append, nB_len]
theorem pRaw_app {A : List Nat} {m : Nat} (h : A.length = m) (Z : List Nat) : pRaw m (A ++ Z) = .ok A A.length := by
  unfold pRaw
  rw [if_neg (by rw [List.length_append]; omega), List.take_left' h, h]
theorem pNum_app {n : Nat} (h : n < 9223372036854775808) (Z : List Nat) : pNum (nB n ++ Z) = .ok n (nB n).length := by rw [pNum_nB h, nB_len]
def e1 (x : Hdr) : List Nat := nB (strL x.s).length ++ strL x.s
theorem encH_eq (x : Hdr) (Y : List Nat) : encH x ++ Y = e1 x ++ (nB x.h.toNat ++ (nB x.t.toNat ++ (x.p ++ (x.v ++ (x.n ++ (x.a ++ Y)))))) := by
  unfold encH e1
  rw [strL_len, List.nil_append]
  simp only [List.append_assoc]
theorem encH_len {x : Hdr} : (encH x).length = (e1 x).length + (nB x.h.toNat).length + (nB x.t.toNat).length + x.p.length + x.v.length + x.n.length + x.a.length := by
  have q := encH_eq x []
  rw [List.append_nil, List.append_nil] at q
  rw [q]
  simp only [List.length_append]
  omega
structure HGood (x : Hdr) : Prop where
  ok : HdrOk x
  c : chkH x = 0
theorem HGood.s {x : Hdr} (h : HGood x) : (strL x.s).length ≤ 32 ∧ 1 ≤ (strL x.s).length := by rw [strL_len]; have := nmS_size (chkH_ok h.c).1; omega
theorem HGood.nh {x : Hdr} (h : HGood x) : ((x.h.toNat : Nat) : Int) = x.h ∧ x.h.toNat < 9223372036854775808 := by have := chkH_ok h.c; omega
theorem HGood.nt {x : Hdr} (h : HGood x) : ((x.t.toNat : Nat) : Int) = x.t ∧ x.t.toNat < 9223372036854775808 := by have := chkH_ok h.c; omega
theorem hread {x : Hdr} (h : HGood x) (Y : List Nat) : hS7 (encH x ++ Y) = ⟨(encH x).length, Y, 0, 0⟩ ∧ rdH (encH x ++ Y) = x := by
  have s0 : hS0 (encH x ++ Y) = ⟨0, e1 x ++ (nB x.h.toNat ++ (nB x.t.toNat ++ (x.p ++ (x.v ++ (x.n ++ (x.a ++ Y)))))), 0, 0⟩ := by unfold hS0 rs0; rw [encH_eq]
  have r1 := rd_step (pr := fun R => pText R 32) (z := []) (t := 0) (pText_ok (most := 32) h.s.1 (by decide) (nB x.h.toNat ++ (nB x.t.toNat ++ (x.p ++ (x.v ++ (x.n ++ (x.a ++ Y)))))))
  have e1' : nB (strL x.s).length ++ strL x.s = e1 x := rfl
  rw [e1'] at r1
  have s1 : hS1 (encH x ++ Y) = _ := (congrArg (rdN (fun R => pText R 32)) s0).trans r1.2
  have r2 := rd_step (z := (0 : Nat)) (t := 0 + (e1 x).length) (pNum_app h.nh.2 (nB x.t.toNat ++ (x.p ++ (x.v ++ (x.n ++ (x.a ++ Y))))))
  have s2 : hS2 (encH x ++ Y) = _ := (congrArg (rdN pNum) s1).trans r2.2
  have r3 := rd_step (z := (0 : Nat)) (t := 0 + (e1 x).length + (nB x.h.toNat).length) (pNum_app h.nt.2 (x.p ++ (x.v ++ (x.n ++ (x.a ++ Y)))))
  have s3 : hS3 (encH x ++ Y) = _ := (congrArg (rdN pNum) s2).trans r3.2
  have r4 := rd_step (z := z32) (t := 0 + (e1 x).length + (nB x.h.toNat).length + (nB x.t.toNat).length) (pRaw_app h.ok.p.1 (x.v ++ (x.n ++ (x.a ++ Y))))
  have s4 : hS4 (encH x ++ Y) = _ := (congrArg (rdN (pRaw 32)) s3).trans r4.2
  have r5 := rd_step (z := z32) (t := 0 + (e1 x).length + (nB x.h.toNat).length + (nB x.t.toNat).length + x.p.length) (pRaw_app h.ok.v.1 (x.n ++ (x.a ++ Y)))
  have s5 : hS5 (encH x ++ Y) = _ := (congrArg (rdN (pRaw 32)) s4).trans r5.2
  have r6 := rd_step (z := z32) (t := 0 + (e1 x).length + (nB x.h.toNat).length + (nB x.t.toNat).length + x.p.length + x.v.length) (pRaw_app h.ok.n.1 (x.a ++ Y))
  have s6 : hS6 (encH x ++ Y) = _ := (congrArg (rdN (pRaw 32)) s5).trans r6.2
  have r7 := rd_step (z := z32) (t := 0 + (e1 x).length + (nB x.h.toNat).length + (nB x.t.toNat).length + x.p.length + x.v.length + x.n.length) (pRaw_app h.ok.a.1 Y)
  have r7' := r7.1
  have s7 : hS7 (encH x ++ Y) = _ := (congrArg (rdN (pRaw 32)) s6).trans r7.2
  have e : 0 + (e1 x).length + (nB x.h.toNat).length + (nB x.t.toNat).length + x.p.length + x.v.length + x.n.length + x.a.length = (encH x).length := by rw [encH_len]; omega
  rw [e] at s7
  constructor
  · exact s7
  · clear s7 e r7
    unfold rdH
    rw [s0, s1, s2, s3, s4, s5, s6, r1.1, r2.1, r3.1, r4.1, r5.1, r6.1, r7', strB_strL, h.nh.1, h.nt.1]
theorem endS_nil (t : Nat) : endS ⟨t, [], 0, 0⟩ = (0, 0) := rfl
theorem decH_back {x : Hdr} (h : HGood x) : decH (encH x) = (x, 0, 0) := by
  have q := hread h []
  rw [List.append_nil] at q
  rw [decH_ok (by rw [q.1, endS_nil]) (by rw [q.2]; exact h.c), q.2]
theorem encH_byte {x : Hdr} (h : HdrOk x) : ∀ y ∈ encH x, y < 256 := by
  intro y hy
  have q := encH_eq x []
  rw [List.append_nil, List.append_nil] at q
  rw [q] at hy
  unfold e1 at hy
  simp only [List.mem_append] at hy
  rcases hy with (hy | hy) | hy | hy | hy | hy | hy | hy
  · exact nB_byte _ y hy
  · exact strL_byte _ y hy
  · exact nB_byte _ y hy
  · exact nB_byte _ y hy
  · exact h.p.2 y hy
  · exact h.v.2 y hy
  · exact h.n.2 y hy
  · exact h.a.2 y hy
theorem encH_le {x : Hdr} (h : HGood x) : 131 ≤ (encH x).length ∧ (encH x).length ≤ 300 := by
  have q := encH_len (x := x)
  have h1 := dg_le x.h.toNat
  have h2 := dg_le x.t.toNat
  have h3 := dg_le (strL x.s).length
  have h4 := h.s
  have h5 : (e1 x).length = dg (strL x.s).length + 1 + (strL x.s).length := by unfold e1; rw [List.length_append, nB_len]
  have := nB_len x.h.toNat
  have := nB_len x.t.toNat
  have := h.ok.p.1
  have := h.ok.v.1
  have := h.ok.n.1
  have := h.ok.a.1
  omega
end Go.Proofs.YtcmkmnidnapabaaGreat

/-! L6f: Header: == of headers and faults. -/
namespace Go.Proofs.YtcmkmnidnapabaaGreat
set_option linter.unusedSimpArgs false
open Go.RowKit Go.Lib

theorem fields_hdr : (Tryz.prog.fieldsOf 79).toList.map (fun f => (f.type, f.offset, f.name == "_")) = [(9, 0, false), (3, 1, false), (3, 2, false), (39, 3, false), (39, 35, false), (39, 67, false), (39, 99, false)] := by kernel_rfl
theorem struct_hdr : Tryz.prog.underlying 79 = some (.struct (Tryz.prog.fieldsOf 79)) := by kernel_rfl
theorem part_hash (cs : List Value) (o : Nat) (w : World) : (part 39 cs.toArray o).run Tryz.prog w = .ok (.agg ((cs.drop o).take 32).toArray) w := by
  have hagg : (isAgg 39).run Tryz.prog w = .ok true w := by
    unfold isAgg
    rw [Sem.run_bind, run_underlying Tryz.underlying39 w]
    rfl
  have hs : (sizeOf 39).run Tryz.prog w = .ok 32 w := by
    obtain ⟨j, hj⟩ : ∃ j, Tryz.prog.info? 39 = some j := Option.isSome_iff_exists.1 (by kernel_rfl)
    have h1 : (Tryz.prog.info? 39).map (·.size) = some 32 := by kernel_rfl
    rw [hj] at h1
    simp only [Option.map_some, Option.some.injEq] at h1
    simp [sizeOf, typeInfo, hj, h1]
  simp [part, hagg, hs]
theorem part_one {T : TypeId} {d : TypeDesc} (hT : Tryz.prog.underlying T = some d) (hd : (match d with | .struct _ | .array _ _ => true | _ => false) = false) (cs : List Value) (o : Nat) (v : Value) (h : cs[o]? = some v) (w : World) : (part T cs.toArray o).run Tryz.prog w = .ok v w := by
  have hagg : (isAgg T).run Tryz.prog w = .ok false w := by
    unfold isAgg
    rw [Sem.run_bind, run_underlying hT w]
    cases d <;> simp_all
  simp [part, hagg, h]
theorem drop_p (x : Hdr) (hx : HdrOk x) : ((hC x).drop 3).take 32 = bvs x.p := List.take_left' (by rw [bvs_len, hx.p.1])
theorem drop_v (x : Hdr) (hx : HdrOk x) : ((hC x).drop 35).take 32 = bvs x.v := by
  have e : hC x = ([.string x.s, .int .i64 x.h, .int .i64 x.t] ++ bvs x.p) ++ (bvs x.v ++ (bvs x.n ++ bvs x.a)) := by unfold hC; simp
  rw [e, List.drop_left' (by simp [bvs_len, hx.p.1]), List.take_left' (by rw [bvs_len, hx.v.1])]
theorem drop_n (x : Hdr) (hx : HdrOk x) : ((hC x).drop 67).take 32 = bvs x.n := by
  have e : hC x = ([.string x.s, .int .i64 x.h, .int .i64 x.t] ++ bvs x.p ++ bvs x.v) ++ (bvs x.n ++ bvs x.a) := by unfold hC; simp
  rw [e, List.drop_left' (by simp [bvs_len, hx.p.1, hx.v.1]), List.take_left' (by rw [bvs_len, hx.n.1])]
theorem drop_a (x : Hdr) (hx : HdrOk x) : ((hC x).drop 99).take 32 = bvs x.a := by
  have e : hC x = ([.string x.s, .int .i64 x.h, .int .i64 x.t] ++ bvs x.p ++ bvs x.v ++ bvs x.n) ++ bvs x.a := by unfold hC; simp
  rw [e, List.drop_left' (by simp [bvs_len, hx.p.1, hx.v.1, hx.n.1]), List.take_of_length_le (by rw [bvs_len, hx.a.1]; omega)]
theorem str_eq (a b : ByteArray) : (a.toList == b.toList) = decide (a = b) := by
  rw [Bool.eq_iff_iff, beq_iff_eq, decide_eq_true_iff, ByteArray.toList_eq, ByteArray.toList_eq]
  constructor
  · intro h
    obtain ⟨⟨l⟩⟩ := a
    obtain ⟨⟨m⟩⟩ := b
    simp only at h
    rw [h]
  · rintro rfl; rfl
instance hdrDec : DecidableEq Hdr := fun x y => by
  obtain ⟨s, h, t, p, v, n, a⟩ := x
  obtain ⟨s', h', t', p', v', n', a'⟩ := y
  exact decidable_of_iff (s = s' ∧ h = h' ∧ t = t' ∧ p = p' ∧ v = v' ∧ n = n' ∧ a = a') (by simp)
set_option maxRecDepth 20000 in
set_option maxHeartbeats 1000000 in
theorem run_eqIn_hdr (d : Nat) (x y : Hdr) (hx : HdrOk x) (hy : HdrOk y) (w : World) : (Op.equalIn (d + 3) 79 (.agg (hC x).toArray) (.agg (hC y).toArray)).run Tryz.prog w = .ok (decide (x = y)) w := by
  rw [show d + 3 = (d + 2) + 1 from rfl, run_equalIn_agg w (d + 2) 79 _ _ struct_hdr (by kernel_rfl)]
  have hf := fields_hdr
  obtain ⟨f0, r0, h0, g0, k0⟩ := List.map_eq_cons_iff.1 hf
  obtain ⟨f1, r1, h1, g1, k1⟩ := List.map_eq_cons_iff.1 k0
  obtain ⟨f2, r2, h2, g2, k2⟩ := List.map_eq_cons_iff.1 k1
  obtain ⟨f3, r3, h3, g3, k3⟩ := List.map_eq_cons_iff.1 k2
  obtain ⟨f4, r4, h4, g4, k4⟩ := List.map_eq_cons_iff.1 k3
  obtain ⟨f5, r5, h5, g5, k5⟩ := List.map_eq_cons_iff.1 k4
  obtain ⟨f6, r6, h6, g6, k6⟩ := List.map_eq_cons_iff.1 k5
  obtain rfl := List.map_eq_nil_iff.1 k6
  rw [h0, h1, h2, h3, h4, h5, h6]
  simp only [Prod.mk.injEq, beq_eq_false_iff_ne] at g0 g1 g2 g3 g4 g5 g6
  obtain ⟨t0, o0, n0⟩ := g0
  obtain ⟨t1, o1, n1⟩ := g1
  obtain ⟨t2, o2, n2⟩ := g2
  obtain ⟨t3, o3, n3⟩ := g3
  obtain ⟨t4, o4, n4⟩ := g4
  obtain ⟨t5, o5, n5⟩ := g5
  obtain ⟨t6, o6, n6⟩ := g6
  have e : decide (x = y) = (decide (x.s = y.s) && ((x.h == y.h) && ((x.t == y.t) && (decide (x.p = y.p) && (decide (x.v = y.v) && (decide (x.n = y.n) && decide (x.a = y.a))))))) := by
    obtain ⟨s, h, t, p, v, n, a⟩ := x
    obtain ⟨s', h', t', p', v', n', a'⟩ := y
    rw [Bool.eq_iff_iff]
    simp
  rw [e]
  have p0 := fun (z : Hdr) w => part_one Tryz.underlying9 rfl (hC z) 0 _ (hC_0 z) w
  have p1 := fun (z : Hdr) w => part_one Tryz.underlying3 rfl (hC z) 1 _ (hC_1 z) w
  have p2 := fun (z : Hdr) w => part_one Tryz.underlying3 rfl (hC z) 2 _ (hC_2 z) w
  simp only [Op.eqFields, n0, t0, o0, ne_eq, not_false_eq_true, if_true, Sem.run_bind, p0, Result.andThen_ok, run_equalIn_string w (d + 1) 9 _ _ Tryz.underlying9, str_eq]
  cases decide (x.s = y.s)
  · rfl
  simp only [Op.eqFields, n1, t1, o1, ne_eq, not_false_eq_true, if_true, Bool.not_true, Bool.false_eq_true, if_false, Sem.run_bind, p1, Result.andThen_ok, run_equalIn_int w (d + 1) 3 .i64 .i64 _ _ Tryz.underlying3]
  cases (x.h == y.h)
  · rfl
  simp only [Op.eqFields, n2, t2, o2, ne_eq, not_false_eq_true, if_true, Bool.not_true, Bool.false_eq_true, if_false, Sem.run_bind, p2, Result.andThen_ok, run_equalIn_int w (d + 1) 3 .i64 .i64 _ _ Tryz.underlying3]
  cases (x.t == y.t)
  · rfl
  simp only [Op.eqFields, n3, t3, o3, ne_eq, not_false_eq_true, if_true, Bool.not_true, Bool.false_eq_true, if_false, Sem.run_bind, part_hash, drop_p x hx, drop_p y hy, Result.andThen_ok, run_equalIn_arr Tryz.underlying39 d x.p y.p hx.p.1 hy.p.1]
  cases decide (x.p = y.p)
  · rfl
  simp only [Op.eqFields, n4, t4, o4, ne_eq, not_false_eq_true, if_true, Bool.not_true, Bool.false_eq_true, if_false, Sem.run_bind, part_hash, drop_v x hx, drop_v y hy, Result.andThen_ok, run_equalIn_arr Tryz.underlying39 d x.v y.v hx.v.1 hy.v.1]
  cases decide (x.v = y.v)
  · rfl
  simp only [Op.eqFields, n5, t5, o5, ne_eq, not_false_eq_true, if_true, Bool.not_true, Bool.false_eq_true, if_false, Sem.run_bind, part_hash, drop_n x hx, drop_n y hy, Result.andThen_ok, run_equalIn_arr Tryz.underlying39 d x.n y.n hx.n.1 hy.n.1]
  cases decide (x.n = y.n)
  · rfl
  simp only [Op.eqFields, n6, t6, o6, ne_eq, not_false_eq_true, if_true, Bool.not_true, Bool.false_eq_true, if_false, Sem.run_bind, part_hash, drop_a x hx, drop_a y hy, Result.andThen_ok, run_equalIn_arr Tryz.underlying39 d x.a y.a hx.a.1 hy.a.1]
  cases decide (x.a = y.a) <;> rfl
set_option maxRecDepth 20000 in
theorem eqH (x y : Hdr) (hx : HdrOk x) (hy : HdrOk y) (w : World) : (binOp .eql 79 (.agg (hC x).toArray) (.agg (hC y).toArray)).run Tryz.prog w = .ok (.bool (decide (x = y))) w := by
  rw [run_eql_struct, run_eqIn_hdr 9997 x y hx hy]; rfl
theorem guard_hdr : Tryz.prog.eqGuardType Tryz.prog.depth 79 = false := by kernel_rfl
end Go.Proofs.YtcmkmnidnapabaaGreat

/-! L6g: Header: what the laws hold first: the chapter's header, some of its examples. -/
namespace Go.Proofs.YtcmkmnidnapabaaGreat
set_option linter.unusedSimpArgs false
open Go.RowKit Go.Lib

/-- All is as it was, and blocks hold what they hold. -/
def Kp (w : World) (l : List (Nat × List Value × TypeId)) (w' : World) : Prop := Below w.heap.size w w' ∧ ∀ x ∈ l, Blk w' x.1 x.2.1 x.2.2
theorem Kp.at {w w' : World} {l : List (Nat × List Value × TypeId)} (h : Kp w l w') (i : Nat) {b : Nat} {cs : List Value} {T : TypeId} (hi : l[i]? = some (b, cs, T)) : Blk w' b cs T := h.2 (b, cs, T) (List.mem_of_getElem? hi)
theorem Kp.step {w w1 w2 : World} {l : List (Nat × List Value × TypeId)} (h : Kp w l w1) (k : Below w1.heap.size w1 w2) : Kp w l w2 := ⟨h.1.trans (k.mono h.1.size), fun x hx => k.blk' (h.2 x hx)⟩
theorem Kp.drew {w w1 : World} {l : List (Nat × List Value × TypeId)} (h : Kp w l w1) : Kp w l w1.drew := ⟨h.1.drew, fun x hx => (h.2 x hx).drew⟩
theorem Kp.alloc {w w1 : World} {l : List (Nat × List Value × TypeId)} (h : Kp w l w1) (o : Obj) : Kp w l (w1.alloc o) := h.step ((Below.refl _ _).alloc (Nat.le_refl _) o)
theorem Kp.nil {w w1 : World} (h : Below w.heap.size w w1) : Kp w [] w1 := ⟨h, fun x hx => by cases hx⟩
theorem Kp.cons {w w1 : World} {l : List (Nat × List Value × TypeId)} (h : Kp w l w1) {b : Nat} {cs : List Value} {T : TypeId} (k : Blk w1 b cs T) : Kp w ((b, cs, T) :: l) w1 :=
  ⟨h.1, fun x hx => (List.mem_cons.1 hx).elim (fun e => e ▸ k) (h.2 x)⟩

def oneH : Hdr := ⟨⟨#[97]⟩, 1, 2, z32, z32, z32, z32⟩
/-- What Decode tells lies in two variables: the walk's state behind it. -/
structure Laid (w w2 : World) (b : Nat) (x : Hdr) (e a : Nat) : Prop where
  kp : Kp w [(b, hC x, 79), (b + 1, [.int .i64 (e : Nat), .int .i64 (a : Nat)], 52)] w2
end Go.Proofs.YtcmkmnidnapabaaGreat

/-! L6h: Header: the walk of the law's awake. -/
namespace Go.Proofs.YtcmkmnidnapabaaGreat
set_option linter.unusedSimpArgs false
open Go.RowKit Go.Lib

end Go.Proofs.YtcmkmnidnapabaaGreat
