/-
  The walk of landfalllaw04's WireNone.
-/
import Derived.Test.YtlfmmmlheloloaaQf
import Derived.Deep.CutRange
namespace Go.Proofs.Ytlfmmmlheloloaa
open Go.RowKit Go.Lib Go.Maps

def zW : List Value := [.pointer none, .int .i64 0, .slice none 0 0, .int .i64 0]
def zR : List Value := [.pointer none, .int .i64 0, .slice none 0 0, .int .i64 0, .int .i64 0]
/-- What the law knows between its statements. -/
structure NoS (w wr : World) (kind n : Int) (p : Option Addr) (b o cap : Nat) (L h k : List Nat) (x : Nat) (is : Bool) : Prop where
  th : Th wr w.heap.size kind n p L.length cap h k x is
  bw : Blk wr (w.heap.size + 1) zW 59
  ws : Blk wr (w.heap.size + 1 + 1) [.pointer none, .pointer (some ⟨w.heap.size + 1, 0, none⟩)] 25
  br : Blk wr (w.heap.size + 1 + 1 + 1) zR 64
  rs : Blk wr (w.heap.size + 1 + 1 + 1 + 1) [.pointer none, .pointer (some ⟨w.heap.size + 1 + 1 + 1, 0, none⟩)] 48
  bel : Below w.heap.size w wr
  bs : Bs wr p b o L cap
theorem NoS.below {w wr w' : World} {kind n : Int} {p : Option Addr} {b o cap : Nat} {L h k : List Nat} {x : Nat} {is : Bool} (H : NoS w wr kind n p b o cap L h k x is) (hB : Below wr.heap.size wr w') : NoS w w' kind n p b o cap L h k x is :=
  ⟨⟨H.th.blk.below hB H.th.blk.lt, H.th.hh, H.th.hk⟩, H.bw.below hB H.bw.lt, H.ws.below hB H.ws.lt, H.br.below hB H.br.lt, H.rs.below hB H.rs.lt, btrans H.bel hB, H.bs.below hB⟩
theorem NoS.drewN {w wr : World} {kind n : Int} {p : Option Addr} {b o cap : Nat} {L h k : List Nat} {x : Nat} {is : Bool} (H : NoS w wr kind n p b o cap L h k x is) (j : Nat) : NoS w (wr.drewN j) kind n p b o cap L h k x is :=
  ⟨⟨H.th.blk.drewN j, H.th.hh, H.th.hk⟩, H.bw.drewN j, H.ws.drewN j, H.br.drewN j, H.rs.drewN j, H.bel.drewN j, H.bs.drewN j⟩
theorem NoS.w1 {w wr : World} {kind n : Int} {p : Option Addr} {b o cap : Nat} {L h k : List Nat} {x : Nat} {is : Bool} (H : NoS w wr kind n p b o cap L h k x is) : BadW wr (.pointer (some ⟨w.heap.size + 1, 0, none⟩)) := .inr ⟨_, rfl, H.bw.cell 0⟩
theorem NoS.r1 {w wr : World} {kind n : Int} {p : Option Addr} {b o cap : Nat} {L h k : List Nat} {x : Nat} {is : Bool} (H : NoS w wr kind n p b o cap L h k x is) : BadR wr (.pointer (some ⟨w.heap.size + 1 + 1 + 1, 0, none⟩)) := .inr ⟨_, rfl, H.br.cell 0⟩
theorem NoS.w0 {w wr : World} {kind n : Int} {p : Option Addr} {b o cap : Nat} {L h k : List Nat} {x : Nat} {is : Bool} (_H : NoS w wr kind n p b o cap L h k x is) : BadW wr (.pointer none) := .inl rfl
theorem NoS.r0 {w wr : World} {kind n : Int} {p : Option Addr} {b o cap : Nat} {L h k : List Nat} {x : Nat} {is : Bool} (_H : NoS w wr kind n p b o cap L h k x is) : BadR wr (.pointer none) := .inl rfl

theorem NoS.start {w : World} {kind n : Int} {p : Option Addr} {b o cap : Nat} {L h k : List Nat} {x : Nat} {is : Bool} (hL : Bs w p b o L cap) (hh : Bytes 32 h) (hk : Bytes 4 k) :
    NoS w (((((w.alloc (.cells (thL kind n p L.length cap h k x is).toArray 39)).alloc (.cells zW.toArray 59)).alloc (.cells #[.pointer none, .pointer (some ⟨w.heap.size + 1, 0, none⟩)] 25)).alloc (.cells zR.toArray 64)).alloc (.cells #[.pointer none, .pointer (some ⟨w.heap.size + 1 + 1 + 1, 0, none⟩)] 48)) kind n p b o cap L h k x is := by
  have hB : Below w.heap.size w (((((w.alloc (.cells (thL kind n p L.length cap h k x is).toArray 39)).alloc (.cells zW.toArray 59)).alloc (.cells #[.pointer none, .pointer (some ⟨w.heap.size + 1, 0, none⟩)] 25)).alloc (.cells zR.toArray 64)).alloc (.cells #[.pointer none, .pointer (some ⟨w.heap.size + 1 + 1 + 1, 0, none⟩)] 48)) := by (repeat' (first | (with_reducible exact Below.refl _ _) | (with_reducible refine Below.alloc ?_ ?_ _) | (with_reducible refine Below.drew ?_) | (with_reducible refine Below.drewN ?_ _) | (with_reducible refine Below.setCell ?_ ?_ _) | go_size))
  exact ⟨⟨((((Blk.new w _ _).alloc _).alloc _).alloc _).alloc _, hh, hk⟩, (((Blk.new' _ zW _ _ (by simp)).alloc _).alloc _).alloc _, ((Blk.new' _ [.pointer none, .pointer (some ⟨w.heap.size + 1, 0, none⟩)] _ _ (by simp)).alloc _).alloc _, (Blk.new' _ zR _ _ (by simp)).alloc _, Blk.new' _ [.pointer none, .pointer (some ⟨w.heap.size + 1 + 1 + 1, 0, none⟩)] _ _ (by simp), hB, hL.below hB⟩
def zH : List Value := bvs (List.replicate 32 0)
def zK : List Value := bvs (List.replicate 4 0)
theorem mHash_bad2 {w : World} {x : Value} (h : BadR w x) : Calls Try.prog 36 #[x] w fun e w' => e = .returned (.agg zH.toArray) ∧ Below w.heap.size w w' := mHash_bad h
theorem mKey_bad2 {w : World} {x : Value} (h : BadR w x) : Calls Try.prog 37 #[x] w fun e w' => e = .returned (.agg zK.toArray) ∧ Below w.heap.size w w' := mKey_bad h
theorem ne_hash (w : World) : (binOp .neq 34 (.agg zH.toArray) (.agg zH.toArray)).run Try.prog w = .ok (.bool false) w := by kernel_rfl
theorem ne_key (w : World) : (binOp .neq 36 (.agg zK.toArray) (.agg zK.toArray)).run Try.prog w = .ok (.bool false) w := by kernel_rfl
theorem ne_fault (w : World) : (binOp .neq 55 (.agg #[.int .i64 1, .int .i64 0]) (.agg #[.int .i64 1, .int .i64 0])).run Try.prog w = .ok (.bool false) w := by kernel_rfl
theorem wpList_load_blkG {P : Program} {ops : Array Oper} {rest : List Oper} {o : Oper} {a : Act} {w : World} {Q : Exit → Act → World → Prop} (hw : Region.wanted o (yielded ops a.tmps) = true) (ty : TypeId) (x : Operand) (ho : o.op = .load ty x)
    (b : Nat) (cs : List Value) (T : TypeId) (hx : a.eval x = .pointer (some ⟨b, 0, none⟩)) (hb : Blk w b cs T) (d : TypeDesc)
    (hu : P.underlying ty = some d) (hd : (match d with | .struct _ | .array _ _ => true | _ => false) = true) (hi : (P.info? ty).map (·.size) = some cs.length)
    (h : wpList P ops Q rest (a.put o.dst (.agg cs.toArray)) w) : wpList P ops Q (o :: rest) a w :=
  wpList_step fun _ hK => by
    rw [if_pos hw]
    exact wp_load_row ty x ho b hx T cs.toArray (0, 0) d hb hu hd (by simpa using hi) (hK _ _ h)
theorem wpList_buildG {P : Program} {ops : Array Oper} {rest : List Oper} {o : Oper} {a : Act} {w : World} {Q : Exit → Act → World → Prop} (hw : Region.wanted o (yielded ops a.tmps) = true) (t : TypeId) (parts : Array (Nat × Operand)) (ho : o.op = .build t parts)
    (cells : Array Value) (hf : P.built t (parts.map fun (i, x) => (i, a.eval x)).toList = some cells)
    (h : wpList P ops Q rest (a.put o.dst (.agg cells)) w) : wpList P ops Q (o :: rest) a w :=
  wpList_step fun _ hK => by
    rw [if_pos hw]
    exact wp_build t parts ho (by rw [hf]; rfl) (by rw [hf]; exact hK _ _ h)
set_option maxRecDepth 100000 in
set_option maxHeartbeats 16000000 in
theorem lawNone_w (kind n : Int) (p : Option Addr) (b o len cap : Nat) (L h k : List Nat) (x : Nat) (is : Bool) (w : World) (hlen : L.length = len) (hL : Bs w p b o L cap) (hh : Bytes 32 h) (hk : Bytes 4 k) (hx : x < 18446744073709551616) :
    Calls Try.prog 5 #[.agg (thL kind n p len cap h k x is).toArray] w fun e w' => e = .returned (.bool true) ∧ Below w.heap.size w w' := by
  subst hlen
  have HT : Hid (Th (w.alloc (.cells (thL kind n p L.length cap h k x is).toArray 39)) w.heap.size kind n p L.length cap h k x is) := hidp ⟨Blk.new w _ _, hh, hk⟩
  have c2 := HT.out.c2
  by_cases h300 : 300 < L.length
  · have ht : decide ((300 : Int) < ((L.length : Nat) : Int)) = true := decide_eq_true (by omega)
    clear h300 hL hh hk hx
    go_enter Try.func5, Try.ntmps5
    go_wp2_with fail
    refine (awake_any _).mono ?_
    rintro e w1 ⟨rfl, hB⟩
    replace hB := hidp hB
    go_wp2
    go_ret
    exact ⟨rfl, ((Below.refl _ w).alloc (Nat.le_refl _) _).trans (hB.out.mono (by simp))⟩
  have ht : decide ((300 : Int) < ((L.length : Nat) : Int)) = false := decide_eq_false (by omega)
  have HL := hidp (And.intro hL (And.intro (Nat.le_of_not_lt h300) hx))
  have HS := hidp (NoS.start (kind := kind) (n := n) (x := x) (is := is) hL hh hk)
  clear h300 hL hh hk hx
  have hkc : ¬ 0 ≤ kind ∨ (0 ≤ kind ∧ ¬ kind ≤ 7) ∨ (0 ≤ kind ∧ kind ≤ 7) := by omega
  replace hkc := hidp hkc
  go_enter Try.func5, Try.ntmps5
  go_wp2_with fail
  clear c2 ht
  go_loopw [5] (fun y wr => ∃ i : Nat, i ≤ 2 ∧ y = .int .i64 i ∧ Hid (NoS w wr kind n p b o cap L h k x is)) (fun y _ => 2 - (Go.RowKit.intOf y).toNat)
  case atStart => exact ⟨0, by omega, rfl, HS⟩
  case round =>
    obtain ⟨i, hi, rfl, hr⟩ := hrel
    clear HS HT
    by_cases hi2 : i < 2
    · have hcase : i = 0 ∨ i = 1 := by omega
      clear hi hi2
      rcases hcase with rfl | rfl
      · simp only [Int.cast_ofNat_Int]
        have cw := hr.out.ws.cell 0
        have cr := hr.out.rs.cell 0
        try simp only [List.getElem?_cons_zero] at cw cr
        try simp only [List.getElem?_cons_succ, List.getElem?_cons_zero] at cw cr
        rcases hkc.out with h1 | ⟨h1, h2⟩ | ⟨h1, h2⟩
        · have d1 : decide (0 ≤ kind) = false := decide_eq_false (by omega)
          clear h1
          go_wp2
          go_quiet (fail)
          generalize hwq : wr.drewN _ = wq
          have H := hidp (show NoS w wq kind n p b o cap L h k x is from hwq ▸ hr.out.drewN _)
          clear hwq hr cw cr
          have c0 := H.out.th.c0
          have c1 := H.out.th.c1
          go_wp2_with fail
          refine (wDone_bad H.out.w0).mono ?_
          rintro e z0 ⟨rfl, rfl⟩
          go_wp2_with fail
          refine (mNum_bad H.out.r0).mono ?_
          rintro e z2 ⟨rfl, hB⟩
          replace H := hidp (H.out.below hB)
          clear hB c1
          have c1 := H.out.th.c1
          go_wp2_with fail
          refine (mText_bad H.out.r0 n).mono ?_
          rintro e z3 ⟨rfl, hB⟩
          replace H := hidp (H.out.below hB)
          clear hB c1
          have c1 := H.out.th.c1
          go_wp2_with fail
          refine (mBytes_bad H.out.r0 n).mono ?_
          rintro e z4 ⟨rfl, hB⟩
          replace H := hidp (H.out.below hB)
          clear hB c1
          have c1 := H.out.th.c1
          go_wp2_with fail
          refine (mHash_bad2 H.out.r0).mono ?_
          rintro e z5 ⟨rfl, hB⟩
          replace H := hidp (H.out.below hB)
          clear hB c1
          have c1 := H.out.th.c1
          have qh := fun w' => ne_hash w'
          go_wp2_with (refine wpList_buildG (by kernel_rfl) 34 _ rfl zH.toArray (by kernel_rfl) ?_)
          refine (mKey_bad2 H.out.r0).mono ?_
          rintro e z6 ⟨rfl, hB⟩
          replace H := hidp (H.out.below hB)
          clear hB c1
          have c1 := H.out.th.c1
          have qk := fun w' => ne_key w'
          go_wp2_with (refine wpList_buildG (by kernel_rfl) 36 _ rfl zK.toArray (by kernel_rfl) ?_)
          refine (mWord_bad H.out.r0).mono ?_
          rintro e z7 ⟨rfl, hB⟩
          replace H := hidp (H.out.below hB)
          clear hB c1
          have c1 := H.out.th.c1
          clear qh qk
          go_wp2_with fail
          refine (mPace_bad H.out.r0).mono ?_
          rintro e z8 ⟨rfl, hB⟩
          replace H := hidp (H.out.below hB)
          clear hB c1
          have c1 := H.out.th.c1
          go_wp2_with fail
          refine (mBool_bad H.out.r0).mono ?_
          rintro e z9 ⟨rfl, hB⟩
          replace H := hidp (H.out.below hB)
          clear hB c1
          have c1 := H.out.th.c1
          go_wp2_with fail
          refine (mRest_bad H.out.r0).mono ?_
          rintro e z10 ⟨rfl, rfl⟩
          go_wp2_with fail
          refine (mEnd_bad H.out.r0).mono ?_
          rintro e z11 ⟨rfl, hB⟩
          replace H := hidp (H.out.below hB)
          clear hB c1
          have c1 := H.out.th.c1
          have qf := fun w' => ne_fault w'
          clear c1
          try clear c0
          go_wp2
          exact ⟨⟨0 + 1, by decide, rfl, H⟩, by simp [Go.RowKit.intOf]⟩
        · have d1 : decide (0 ≤ kind) = true := decide_eq_true (by omega)
          have d2 : decide (kind ≤ 7) = false := decide_eq_false (by omega)
          clear h1 h2
          go_wp2
          go_quiet (fail)
          generalize hwq : wr.drewN _ = wq
          have H := hidp (show NoS w wq kind n p b o cap L h k x is from hwq ▸ hr.out.drewN _)
          clear hwq hr cw cr
          have c0 := H.out.th.c0
          have c1 := H.out.th.c1
          go_wp2_with fail
          refine (wDone_bad H.out.w0).mono ?_
          rintro e z0 ⟨rfl, rfl⟩
          go_wp2_with fail
          refine (mNum_bad H.out.r0).mono ?_
          rintro e z2 ⟨rfl, hB⟩
          replace H := hidp (H.out.below hB)
          clear hB c1
          have c1 := H.out.th.c1
          go_wp2_with fail
          refine (mText_bad H.out.r0 n).mono ?_
          rintro e z3 ⟨rfl, hB⟩
          replace H := hidp (H.out.below hB)
          clear hB c1
          have c1 := H.out.th.c1
          go_wp2_with fail
          refine (mBytes_bad H.out.r0 n).mono ?_
          rintro e z4 ⟨rfl, hB⟩
          replace H := hidp (H.out.below hB)
          clear hB c1
          have c1 := H.out.th.c1
          go_wp2_with fail
          refine (mHash_bad2 H.out.r0).mono ?_
          rintro e z5 ⟨rfl, hB⟩
          replace H := hidp (H.out.below hB)
          clear hB c1
          have c1 := H.out.th.c1
          have qh := fun w' => ne_hash w'
          go_wp2_with (refine wpList_buildG (by kernel_rfl) 34 _ rfl zH.toArray (by kernel_rfl) ?_)
          refine (mKey_bad2 H.out.r0).mono ?_
          rintro e z6 ⟨rfl, hB⟩
          replace H := hidp (H.out.below hB)
          clear hB c1
          have c1 := H.out.th.c1
          have qk := fun w' => ne_key w'
          go_wp2_with (refine wpList_buildG (by kernel_rfl) 36 _ rfl zK.toArray (by kernel_rfl) ?_)
          refine (mWord_bad H.out.r0).mono ?_
          rintro e z7 ⟨rfl, hB⟩
          replace H := hidp (H.out.below hB)
          clear hB c1
          have c1 := H.out.th.c1
          clear qh qk
          go_wp2_with fail
          refine (mPace_bad H.out.r0).mono ?_
          rintro e z8 ⟨rfl, hB⟩
          replace H := hidp (H.out.below hB)
          clear hB c1
          have c1 := H.out.th.c1
          go_wp2_with fail
          refine (mBool_bad H.out.r0).mono ?_
          rintro e z9 ⟨rfl, hB⟩
          replace H := hidp (H.out.below hB)
          clear hB c1
          have c1 := H.out.th.c1
          go_wp2_with fail
          refine (mRest_bad H.out.r0).mono ?_
          rintro e z10 ⟨rfl, rfl⟩
          go_wp2_with fail
          refine (mEnd_bad H.out.r0).mono ?_
          rintro e z11 ⟨rfl, hB⟩
          replace H := hidp (H.out.below hB)
          clear hB c1
          have c1 := H.out.th.c1
          have qf := fun w' => ne_fault w'
          clear c1
          try clear c0
          go_wp2
          exact ⟨⟨0 + 1, by decide, rfl, H⟩, by simp [Go.RowKit.intOf]⟩
        · have d1 : decide (0 ≤ kind) = true := decide_eq_true (by omega)
          have d2 : decide (kind ≤ 7) = true := decide_eq_true (by omega)
          have HK : Hid (0 ≤ kind ∧ kind ≤ 7) := hidp ⟨h1, h2⟩
          clear h1 h2
          go_wp2
          go_quiet (fail)
          generalize hwq : wr.drewN _ = wq
          have H := hidp (show NoS w wq kind n p b o cap L h k x is from hwq ▸ hr.out.drewN _)
          clear hwq hr cw cr
          have c0 := H.out.th.c0
          have c1 := H.out.th.c1
          go_wp2_with fail
          refine (wDone_bad H.out.w0).mono ?_
          rintro e z0 ⟨rfl, rfl⟩
          have hbt := H.out.th.blk
          have hln := thL_len kind n p L.length cap x is H.out.th.hh.1 H.out.th.hk.1
          go_wp2_with (refine wpList_load_blkG (by kernel_rfl) 39 _ rfl w.heap.size _ 39 rfl hbt _ Try.underlying39 rfl (by rw [hln]; kernel_rfl) ?_)
          refine (puts_bad H.out.w0 kind n p b o cap L h k x is HK.out.1 HK.out.2 H.out.bs (by have := HL.out.2.1; omega) H.out.th.hh H.out.th.hk HL.out.2.2).mono ?_
          rintro e z1 ⟨rfl, hB⟩
          replace H := hidp (H.out.below hB)
          clear hB c0 c1 hbt hln
          have c1 := H.out.th.c1
          go_wp2_with fail
          refine (mNum_bad H.out.r0).mono ?_
          rintro e z2 ⟨rfl, hB⟩
          replace H := hidp (H.out.below hB)
          clear hB c1
          have c1 := H.out.th.c1
          go_wp2_with fail
          refine (mText_bad H.out.r0 n).mono ?_
          rintro e z3 ⟨rfl, hB⟩
          replace H := hidp (H.out.below hB)
          clear hB c1
          have c1 := H.out.th.c1
          go_wp2_with fail
          refine (mBytes_bad H.out.r0 n).mono ?_
          rintro e z4 ⟨rfl, hB⟩
          replace H := hidp (H.out.below hB)
          clear hB c1
          have c1 := H.out.th.c1
          go_wp2_with fail
          refine (mHash_bad2 H.out.r0).mono ?_
          rintro e z5 ⟨rfl, hB⟩
          replace H := hidp (H.out.below hB)
          clear hB c1
          have c1 := H.out.th.c1
          have qh := fun w' => ne_hash w'
          go_wp2_with (refine wpList_buildG (by kernel_rfl) 34 _ rfl zH.toArray (by kernel_rfl) ?_)
          refine (mKey_bad2 H.out.r0).mono ?_
          rintro e z6 ⟨rfl, hB⟩
          replace H := hidp (H.out.below hB)
          clear hB c1
          have c1 := H.out.th.c1
          have qk := fun w' => ne_key w'
          go_wp2_with (refine wpList_buildG (by kernel_rfl) 36 _ rfl zK.toArray (by kernel_rfl) ?_)
          refine (mWord_bad H.out.r0).mono ?_
          rintro e z7 ⟨rfl, hB⟩
          replace H := hidp (H.out.below hB)
          clear hB c1
          have c1 := H.out.th.c1
          clear qh qk
          go_wp2_with fail
          refine (mPace_bad H.out.r0).mono ?_
          rintro e z8 ⟨rfl, hB⟩
          replace H := hidp (H.out.below hB)
          clear hB c1
          have c1 := H.out.th.c1
          go_wp2_with fail
          refine (mBool_bad H.out.r0).mono ?_
          rintro e z9 ⟨rfl, hB⟩
          replace H := hidp (H.out.below hB)
          clear hB c1
          have c1 := H.out.th.c1
          go_wp2_with fail
          refine (mRest_bad H.out.r0).mono ?_
          rintro e z10 ⟨rfl, rfl⟩
          go_wp2_with fail
          refine (mEnd_bad H.out.r0).mono ?_
          rintro e z11 ⟨rfl, hB⟩
          replace H := hidp (H.out.below hB)
          clear hB c1
          have c1 := H.out.th.c1
          have qf := fun w' => ne_fault w'
          clear c1
          try clear c0
          go_wp2
          exact ⟨⟨0 + 1, by decide, rfl, H⟩, by simp [Go.RowKit.intOf]⟩
      · simp only [Int.cast_ofNat_Int]
        have cw := hr.out.ws.cell 1
        have cr := hr.out.rs.cell 1
        try simp only [List.getElem?_cons_zero] at cw cr
        try simp only [List.getElem?_cons_succ, List.getElem?_cons_zero] at cw cr
        rcases hkc.out with h1 | ⟨h1, h2⟩ | ⟨h1, h2⟩
        · have d1 : decide (0 ≤ kind) = false := decide_eq_false (by omega)
          clear h1
          go_wp2
          go_quiet (fail)
          generalize hwq : wr.drewN _ = wq
          have H := hidp (show NoS w wq kind n p b o cap L h k x is from hwq ▸ hr.out.drewN _)
          clear hwq hr cw cr
          have c0 := H.out.th.c0
          have c1 := H.out.th.c1
          go_wp2_with fail
          refine (wDone_bad H.out.w1).mono ?_
          rintro e z0 ⟨rfl, rfl⟩
          go_wp2_with fail
          refine (mNum_bad H.out.r1).mono ?_
          rintro e z2 ⟨rfl, hB⟩
          replace H := hidp (H.out.below hB)
          clear hB c1
          have c1 := H.out.th.c1
          go_wp2_with fail
          refine (mText_bad H.out.r1 n).mono ?_
          rintro e z3 ⟨rfl, hB⟩
          replace H := hidp (H.out.below hB)
          clear hB c1
          have c1 := H.out.th.c1
          go_wp2_with fail
          refine (mBytes_bad H.out.r1 n).mono ?_
          rintro e z4 ⟨rfl, hB⟩
          replace H := hidp (H.out.below hB)
          clear hB c1
          have c1 := H.out.th.c1
          go_wp2_with fail
          refine (mHash_bad2 H.out.r1).mono ?_
          rintro e z5 ⟨rfl, hB⟩
          replace H := hidp (H.out.below hB)
          clear hB c1
          have c1 := H.out.th.c1
          have qh := fun w' => ne_hash w'
          go_wp2_with (refine wpList_buildG (by kernel_rfl) 34 _ rfl zH.toArray (by kernel_rfl) ?_)
          refine (mKey_bad2 H.out.r1).mono ?_
          rintro e z6 ⟨rfl, hB⟩
          replace H := hidp (H.out.below hB)
          clear hB c1
          have c1 := H.out.th.c1
          have qk := fun w' => ne_key w'
          go_wp2_with (refine wpList_buildG (by kernel_rfl) 36 _ rfl zK.toArray (by kernel_rfl) ?_)
          refine (mWord_bad H.out.r1).mono ?_
          rintro e z7 ⟨rfl, hB⟩
          replace H := hidp (H.out.below hB)
          clear hB c1
          have c1 := H.out.th.c1
          clear qh qk
          go_wp2_with fail
          refine (mPace_bad H.out.r1).mono ?_
          rintro e z8 ⟨rfl, hB⟩
          replace H := hidp (H.out.below hB)
          clear hB c1
          have c1 := H.out.th.c1
          go_wp2_with fail
          refine (mBool_bad H.out.r1).mono ?_
          rintro e z9 ⟨rfl, hB⟩
          replace H := hidp (H.out.below hB)
          clear hB c1
          have c1 := H.out.th.c1
          go_wp2_with fail
          refine (mRest_bad H.out.r1).mono ?_
          rintro e z10 ⟨rfl, rfl⟩
          go_wp2_with fail
          refine (mEnd_bad H.out.r1).mono ?_
          rintro e z11 ⟨rfl, hB⟩
          replace H := hidp (H.out.below hB)
          clear hB c1
          have c1 := H.out.th.c1
          have qf := fun w' => ne_fault w'
          clear c1
          try clear c0
          go_wp2
          exact ⟨⟨1 + 1, by decide, rfl, H⟩, by simp [Go.RowKit.intOf]⟩
        · have d1 : decide (0 ≤ kind) = true := decide_eq_true (by omega)
          have d2 : decide (kind ≤ 7) = false := decide_eq_false (by omega)
          clear h1 h2
          go_wp2
          go_quiet (fail)
          generalize hwq : wr.drewN _ = wq
          have H := hidp (show NoS w wq kind n p b o cap L h k x is from hwq ▸ hr.out.drewN _)
          clear hwq hr cw cr
          have c0 := H.out.th.c0
          have c1 := H.out.th.c1
          go_wp2_with fail
          refine (wDone_bad H.out.w1).mono ?_
          rintro e z0 ⟨rfl, rfl⟩
          go_wp2_with fail
          refine (mNum_bad H.out.r1).mono ?_
          rintro e z2 ⟨rfl, hB⟩
          replace H := hidp (H.out.below hB)
          clear hB c1
          have c1 := H.out.th.c1
          go_wp2_with fail
          refine (mText_bad H.out.r1 n).mono ?_
          rintro e z3 ⟨rfl, hB⟩
          replace H := hidp (H.out.below hB)
          clear hB c1
          have c1 := H.out.th.c1
          go_wp2_with fail
          refine (mBytes_bad H.out.r1 n).mono ?_
          rintro e z4 ⟨rfl, hB⟩
          replace H := hidp (H.out.below hB)
          clear hB c1
          have c1 := H.out.th.c1
          go_wp2_with fail
          refine (mHash_bad2 H.out.r1).mono ?_
          rintro e z5 ⟨rfl, hB⟩
          replace H := hidp (H.out.below hB)
          clear hB c1
          have c1 := H.out.th.c1
          have qh := fun w' => ne_hash w'
          go_wp2_with (refine wpList_buildG (by kernel_rfl) 34 _ rfl zH.toArray (by kernel_rfl) ?_)
          refine (mKey_bad2 H.out.r1).mono ?_
          rintro e z6 ⟨rfl, hB⟩
          replace H := hidp (H.out.below hB)
          clear hB c1
          have c1 := H.out.th.c1
          have qk := fun w' => ne_key w'
          go_wp2_with (refine wpList_buildG (by kernel_rfl) 36 _ rfl zK.toArray (by kernel_rfl) ?_)
          refine (mWord_bad H.out.r1).mono ?_
          rintro e z7 ⟨rfl, hB⟩
          replace H := hidp (H.out.below hB)
          clear hB c1
          have c1 := H.out.th.c1
          clear qh qk
          go_wp2_with fail
          refine (mPace_bad H.out.r1).mono ?_
          rintro e z8 ⟨rfl, hB⟩
          replace H := hidp (H.out.below hB)
          clear hB c1
          have c1 := H.out.th.c1
          go_wp2_with fail
          refine (mBool_bad H.out.r1).mono ?_
          rintro e z9 ⟨rfl, hB⟩
          replace H := hidp (H.out.below hB)
          clear hB c1
          have c1 := H.out.th.c1
          go_wp2_with fail
          refine (mRest_bad H.out.r1).mono ?_
          rintro e z10 ⟨rfl, rfl⟩
          go_wp2_with fail
          refine (mEnd_bad H.out.r1).mono ?_
          rintro e z11 ⟨rfl, hB⟩
          replace H := hidp (H.out.below hB)
          clear hB c1
          have c1 := H.out.th.c1
          have qf := fun w' => ne_fault w'
          clear c1
          try clear c0
          go_wp2
          exact ⟨⟨1 + 1, by decide, rfl, H⟩, by simp [Go.RowKit.intOf]⟩
        · have d1 : decide (0 ≤ kind) = true := decide_eq_true (by omega)
          have d2 : decide (kind ≤ 7) = true := decide_eq_true (by omega)
          have HK : Hid (0 ≤ kind ∧ kind ≤ 7) := hidp ⟨h1, h2⟩
          clear h1 h2
          go_wp2
          go_quiet (fail)
          generalize hwq : wr.drewN _ = wq
          have H := hidp (show NoS w wq kind n p b o cap L h k x is from hwq ▸ hr.out.drewN _)
          clear hwq hr cw cr
          have c0 := H.out.th.c0
          have c1 := H.out.th.c1
          go_wp2_with fail
          refine (wDone_bad H.out.w1).mono ?_
          rintro e z0 ⟨rfl, rfl⟩
          have hbt := H.out.th.blk
          have hln := thL_len kind n p L.length cap x is H.out.th.hh.1 H.out.th.hk.1
          go_wp2_with (refine wpList_load_blkG (by kernel_rfl) 39 _ rfl w.heap.size _ 39 rfl hbt _ Try.underlying39 rfl (by rw [hln]; kernel_rfl) ?_)
          refine (puts_bad H.out.w1 kind n p b o cap L h k x is HK.out.1 HK.out.2 H.out.bs (by have := HL.out.2.1; omega) H.out.th.hh H.out.th.hk HL.out.2.2).mono ?_
          rintro e z1 ⟨rfl, hB⟩
          replace H := hidp (H.out.below hB)
          clear hB c0 c1 hbt hln
          have c1 := H.out.th.c1
          go_wp2_with fail
          refine (mNum_bad H.out.r1).mono ?_
          rintro e z2 ⟨rfl, hB⟩
          replace H := hidp (H.out.below hB)
          clear hB c1
          have c1 := H.out.th.c1
          go_wp2_with fail
          refine (mText_bad H.out.r1 n).mono ?_
          rintro e z3 ⟨rfl, hB⟩
          replace H := hidp (H.out.below hB)
          clear hB c1
          have c1 := H.out.th.c1
          go_wp2_with fail
          refine (mBytes_bad H.out.r1 n).mono ?_
          rintro e z4 ⟨rfl, hB⟩
          replace H := hidp (H.out.below hB)
          clear hB c1
          have c1 := H.out.th.c1
          go_wp2_with fail
          refine (mHash_bad2 H.out.r1).mono ?_
          rintro e z5 ⟨rfl, hB⟩
          replace H := hidp (H.out.below hB)
          clear hB c1
          have c1 := H.out.th.c1
          have qh := fun w' => ne_hash w'
          go_wp2_with (refine wpList_buildG (by kernel_rfl) 34 _ rfl zH.toArray (by kernel_rfl) ?_)
          refine (mKey_bad2 H.out.r1).mono ?_
          rintro e z6 ⟨rfl, hB⟩
          replace H := hidp (H.out.below hB)
          clear hB c1
          have c1 := H.out.th.c1
          have qk := fun w' => ne_key w'
          go_wp2_with (refine wpList_buildG (by kernel_rfl) 36 _ rfl zK.toArray (by kernel_rfl) ?_)
          refine (mWord_bad H.out.r1).mono ?_
          rintro e z7 ⟨rfl, hB⟩
          replace H := hidp (H.out.below hB)
          clear hB c1
          have c1 := H.out.th.c1
          clear qh qk
          go_wp2_with fail
          refine (mPace_bad H.out.r1).mono ?_
          rintro e z8 ⟨rfl, hB⟩
          replace H := hidp (H.out.below hB)
          clear hB c1
          have c1 := H.out.th.c1
          go_wp2_with fail
          refine (mBool_bad H.out.r1).mono ?_
          rintro e z9 ⟨rfl, hB⟩
          replace H := hidp (H.out.below hB)
          clear hB c1
          have c1 := H.out.th.c1
          go_wp2_with fail
          refine (mRest_bad H.out.r1).mono ?_
          rintro e z10 ⟨rfl, rfl⟩
          go_wp2_with fail
          refine (mEnd_bad H.out.r1).mono ?_
          rintro e z11 ⟨rfl, hB⟩
          replace H := hidp (H.out.below hB)
          clear hB c1
          have c1 := H.out.th.c1
          have qf := fun w' => ne_fault w'
          clear c1
          try clear c0
          go_wp2
          exact ⟨⟨1 + 1, by decide, rfl, H⟩, by simp [Go.RowKit.intOf]⟩
    · obtain rfl : i = 2 := by omega
      simp only [Int.cast_ofNat_Int]
      go_wp2_with fail
      refine (awake_any _).mono ?_
      rintro e w1 ⟨rfl, hB⟩
      replace hB := hidp (btrans hr.out.bel hB)
      go_wp2
      go_ret
      exact ⟨rfl, hB.out⟩
end Go.Proofs.Ytlfmmmlheloloaa
