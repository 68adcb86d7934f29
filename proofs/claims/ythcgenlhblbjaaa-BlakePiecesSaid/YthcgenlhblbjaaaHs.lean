/-
  The walk of BlakeNone.
-/
import Derived.Test.YthcgenlhblbjaaaHr
import Derived.Test.YthcgenlhblbjaaaHq
import Derived.Test.YthcgenlhblbjaaaIr
namespace Go.Proofs.Ythcgenlhblbjaaa
open Go.RowKit Go.Lib

theorem wpList_load_blkG {P : Program} {ops : Array Oper} {rest : List Oper} {o : Oper} {a : Act} {w : World} {Q : Exit → Act → World → Prop} (hw : Region.wanted o (yielded ops a.tmps) = true) (ty : TypeId) (x : Operand) (ho : o.op = .load ty x)
    (b : Nat) (cs : List Value) (T : TypeId) (hx : a.eval x = .pointer (some ⟨b, 0, none⟩)) (hb : Blk w b cs T) (d : TypeDesc)
    (hu : P.underlying ty = some d) (hd : (match d with | .struct _ | .array _ _ => true | _ => false) = true) (hi : (P.info? ty).map (·.size) = some cs.length)
    (h : wpList P ops Q rest (a.put o.dst (.agg cs.toArray)) w) : wpList P ops Q (o :: rest) a w :=
  wpList_step fun _ hK => by
    rw [if_pos hw]
    exact wp_load_row ty x ho b hx T cs.toArray (0, 0) d hb hu hd (by simpa using hi) (hK _ _ h)
theorem wpList_buildG {P : Program} {ops : Array Oper} {rest : List Oper} {o : Oper} {a : Act} {w : World} {Q : Exit → Act → World → Prop} (hw : Region.wanted o (yielded ops a.tmps) = true) (t : TypeId) (parts : Array (Nat × Operand)) (ho : o.op = .build t parts)
    (cells : Array Value) (hf : P.built t (parts.map fun (i, x) => (i, a.eval x)).toList = some cells)
    (h : wpList P ops Q rest (a.put o.dst (.agg cells)) w) : wpList P ops Q (o :: rest) a w :=
  wpList_step fun _ hK => by
    rw [if_pos hw]
    exact wp_build t parts ho (by rw [hf]; rfl) (by rw [hf]; exact hK _ _ h)

/-- What the loop of BlakeNone knows. -/
structure NoS (w wr : World) : Prop where
  ps : Blk wr (w.heap.size + 1) [.pointer none, ptrV w.heap.size] 36
  st : St wr w.heap.size (.pointer none) 0 (List.replicate 8 0) (padL [])
  bel : Below w.heap.size w wr
theorem NoS.start (w : World) : NoS w ((w.alloc (.cells stZ.toArray 43)).alloc (.cells #[.pointer none, .pointer (some ⟨w.heap.size, 0, none⟩)] 36)) :=
  ⟨Blk.new' _ [.pointer none, ptrV w.heap.size] _ _ (by simp), ⟨(Blk.new w stZ _).alloc _, by refine ⟨rfl, ?_⟩; decide, padL_bytes (by decide) (fun x hx => absurd hx List.not_mem_nil)⟩, ((Below.refl _ w).alloc (Nat.le_refl _) _).alloc (by simp) _⟩
theorem NoS.step {w wr w2 : World} (H : NoS w wr) (hB : Below wr.heap.size wr w2) : NoS w w2 :=
  ⟨H.ps.below hB H.ps.lt, H.st.below hB, H.bel.trans (hB.mono H.bel.size)⟩
theorem NoS.but {w wr w2 : World} {b : Nat} (H : NoS w wr) (hB : But b wr w2) (hb : w.heap.size + 1 < b) : NoS w w2 :=
  ⟨hB.blk H.ps (by omega), ⟨hB.blk H.st.blk (by omega), H.st.words, H.st.bytes⟩, H.bel.trans (hB.below (by omega))⟩
theorem NoS.bad {w wr : World} (H : NoS w wr) : BadP wr (ptrV w.heap.size) := .inr ⟨_, _, _, _, rfl, H.st⟩

theorem NoS.mid {w wr w1 w2 : World} (H : NoS w wr) (hB : Below wr.heap.size wr w1) (hw2 : w2 = (w1.alloc (.cells z32.toArray 26)).setRow w1.heap.size z32.toArray) : NoS w w2 ∧ Blk w2 w1.heap.size z32 26 := by
  have hbt : But w1.heap.size (w1.alloc (.cells z32.toArray 26)) w2 := hw2 ▸ (But.refl _ _).setRow _
  have h1 := (H.step hB).step ((Below.refl w1.heap.size w1).alloc (Nat.le_refl _) (.cells z32.toArray 26))
  have h2 := (H.step hB).ps.lt
  exact ⟨h1.but hbt h2, hw2 ▸ Blk.row (Blk.new w1 z32 _)⟩

set_option maxRecDepth 20000 in
set_option maxHeartbeats 4000000 in
theorem lawNone_w (a : Option Addr) (len cap : Nat) (zs : List Int) (w : World) (_hr : IsRow .u8 w a len cap zs) :
    Calls Try.prog 5 #[.slice a len cap] w fun e w' => e = .returned (.bool true) ∧ Below w.heap.size w w' := by
  have hgd := guard_hash
  have hneq := run_neq_hash (List.replicate 32 0) (List.replicate 32 0) rfl rfl
  rw [decide_eq_true rfl] at hneq
  have hneq : ∀ w, (binOp .neq 26 (.agg z32.toArray) (.agg z32.toArray)).run Try.prog w = .ok (.bool false) w := hneq
  clear _hr
  by_cases h200 : 200 < len
  · have ht : decide ((200 : Int) < (len : Int)) = true := decide_eq_true (by omega)
    clear h200
    go_enter Try.func5, Try.ntmps5
    go_wp2_with (go_at_call 9; refine (awake_any _).mono ?_; rintro e w1 ⟨rfl, hB1⟩; have hB1 := hidp hB1)
    go_ret
    exact ⟨rfl, hB1.out⟩
  · have ht : decide ((200 : Int) < (len : Int)) = false := decide_eq_false (by omega)
    have h0 := hidp (NoS.start w)
    clear h200
    go_enter Try.func5, Try.ntmps5
    go_wp2_with (refine wpList_buildTo rfl 43 _ rfl _ rfl stZ.toArray (by kernel_rfl) ?_)
    go_loopw [4] (fun x wr => ∃ i : Nat, i ≤ 2 ∧ x = .int .i64 i ∧ Hid (NoS w wr)) (fun x _ => 2 - (RowKit.intOf x).toNat)
    case atStart => exact ⟨0, by omega, rfl, h0⟩
    case round =>
      obtain ⟨i, hi, rfl, hr⟩ := hrel
      clear h0
      rcases (show i = 2 ∨ i = 0 ∨ i = 1 by omega) with rfl | rfl | rfl
      · go_wp2_with (go_at_call 9; refine (awake_any _).mono ?_; rintro e w1 ⟨rfl, hB1⟩; have hB1 := hidp hB1)
        go_ret
        exact ⟨rfl, (hr.out.step hB1.out).bel⟩
      · have c0 : wr.cell? ⟨w.heap.size + 1, 0, none⟩ = some (.pointer none) := (hr.out.ps.cell 0).trans rfl
        go_wp2_with fail
        refine (sumM_bad (.pointer none) wr (.inl rfl)).mono ?_
        rintro e w1 ⟨rfl, hB1⟩
        have hB1 := hidp hB1
        have hz := hidp (Blk.new w1 z32 26)
        clear c0
        go_wp2_with (first | (refine wpList_store_blk rfl 26 _ _ rfl w1.heap.size z32 z32 26 rfl rfl hz.out (by kernel_rfl) rfl (bvs_one _) ?_; intro w2 hw2; have hm := hidp (hr.out.mid hB1.out hw2.out); have c0 : w2.cell? ⟨w.heap.size + 1, 0, none⟩ = some (.pointer none) := (hm.out.1.ps.cell 0).trans rfl) | (go_at_call 21; refine (write_bad (.pointer none) _ _ (.inl rfl)).mono ?_; rintro e wx ⟨rfl, rfl⟩) | (go_at_call 22; refine (len_bad (.pointer none) _ (.inl rfl)).mono ?_; rintro e wx ⟨rfl, rfl⟩) | refine wpList_load_blkG rfl 26 _ rfl w1.heap.size z32 26 rfl hm.out.2 _ Try.underlying26 rfl (by kernel_rfl) ?_ | refine wpList_buildG rfl 26 _ rfl z32.toArray (by kernel_rfl) ?_)
        exact ⟨⟨1, by decide, rfl, hidp hm.out.1⟩, by decide⟩
      · have c0 : wr.cell? ⟨w.heap.size + 1, 1, none⟩ = some (.pointer (some ⟨w.heap.size, 0, none⟩)) := (hr.out.ps.cell 1).trans rfl
        go_wp2_with fail
        refine (sumM_bad (ptrV w.heap.size) wr (hr.out.bad)).mono ?_
        rintro e w1 ⟨rfl, hB1⟩
        have hB1 := hidp hB1
        have hz := hidp (Blk.new w1 z32 26)
        clear c0
        go_wp2_with (first | (refine wpList_store_blk rfl 26 _ _ rfl w1.heap.size z32 z32 26 rfl rfl hz.out (by kernel_rfl) rfl (bvs_one _) ?_; intro w2 hw2; have hm := hidp (hr.out.mid hB1.out hw2.out); have c0 : w2.cell? ⟨w.heap.size + 1, 1, none⟩ = some (.pointer (some ⟨w.heap.size, 0, none⟩)) := (hm.out.1.ps.cell 1).trans rfl) | (go_at_call 21; refine (write_bad (ptrV w.heap.size) _ _ (hm.out.1.bad)).mono ?_; rintro e wx ⟨rfl, rfl⟩) | (go_at_call 22; refine (len_bad (ptrV w.heap.size) _ (hm.out.1.bad)).mono ?_; rintro e wx ⟨rfl, rfl⟩) | refine wpList_load_blkG rfl 26 _ rfl w1.heap.size z32 26 rfl hm.out.2 _ Try.underlying26 rfl (by kernel_rfl) ?_ | refine wpList_buildG rfl 26 _ rfl z32.toArray (by kernel_rfl) ?_)
        exact ⟨⟨2, by decide, rfl, hidp hm.out.1⟩, by decide⟩
end Go.Proofs.Ythcgenlhblbjaaa
