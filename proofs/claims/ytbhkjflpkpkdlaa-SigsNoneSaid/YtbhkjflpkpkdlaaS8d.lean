/-
  Sigs: tables that are none; the chapter's three signatures; awake.
-/
import Derived.Test.YtbhkjflpkpkdlaaS8c
import Derived.Test.YtbhkjflpkpkdlaaJv
namespace Go.Proofs.Ytbhkjflpkpkdlaa
open Go.RowKit Go.Lib Go.Maps
set_option linter.unusedSimpArgs false
set_option linter.unusedVariables false

def zS : Sg := ⟨List.replicate 4 0, List.replicate 32 0, 0⟩
def sA : Sg := ⟨[0, 0, 0, 1], List.replicate 32 0, 7⟩
def sB : Sg := ⟨[0, 0, 0, 1], List.replicate 32 0, 5⟩
def sD : Sg := ⟨[0, 0, 0, 2], List.replicate 32 0, 1⟩
theorem zh_bytes : Bytes 32 (List.replicate 32 0) := ⟨rfl, fun x hx => by rw [List.eq_of_mem_replicate hx]; decide⟩
theorem sA_ok : SgOk sA := ⟨⟨rfl, by decide⟩, zh_bytes, by decide⟩
theorem sB_ok : SgOk sB := ⟨⟨rfl, by decide⟩, zh_bytes, by decide⟩
theorem sD_ok : SgOk sD := ⟨⟨rfl, by decide⟩, zh_bytes, by decide⟩
theorem zero_sig : (Try.prog.info? 97).map (fun i => (i.zero, i.size)) = some (some (.agg (sC zS).toArray), 37) := by kernel_rfl
theorem results_rows3 {P : Program} {fn : Func} {p q r : Tmp} {ty : TypeId} (h : fn.results = #[.cell p ty, .cell q ty, .cell r ty]) (tmps : Array Value) (w : World) (g1 g2 g3 : Nat) (t : TypeId) (c1 c2 c3 : List Value) (d : TypeDesc)
    (hp : tmps.getD p undef = .pointer (some ⟨g1, 0, none⟩)) (hq : tmps.getD q undef = .pointer (some ⟨g2, 0, none⟩)) (hr : tmps.getD r undef = .pointer (some ⟨g3, 0, none⟩)) (b1 : Blk w g1 c1 t) (b2 : Blk w g2 c2 t) (b3 : Blk w g3 c3 t) (hu : P.underlying ty = some d) (hd : (match d with | .struct _ | .array _ _ => true | _ => false) = true)
    (h1 : (P.info? ty).map (·.size) = some c1.length) (h2 : (P.info? ty).map (·.size) = some c2.length) (h3 : (P.info? ty).map (·.size) = some c3.length) :
    (results fn tmps).run P w = .ok (.tuple #[.agg c1.toArray, .agg c2.toArray, .agg c3.toArray]) w := by
  have r1 := run_loadVar_row (P := P) w g1 t ty c1.toArray (0, 0) d b1 hu hd (by simpa using h1)
  have r2 := run_loadVar_row (P := P) w g2 t ty c2.toArray (0, 0) d b2 hu hd (by simpa using h2)
  have r3 := run_loadVar_row (P := P) w g3 t ty c3.toArray (0, 0) d b3 hu hd (by simpa using h3)
  have hp' : tmps[p]?.getD undef = .pointer (some ⟨g1, 0, none⟩) := by simpa using hp
  have hq' : tmps[q]?.getD undef = .pointer (some ⟨g2, 0, none⟩) := by simpa using hq
  have hr' : tmps[r]?.getD undef = .pointer (some ⟨g3, 0, none⟩) := by simpa using hr
  simp only [results, h]
  simp [hp', hq', hr', asAddr, r1, r2, r3, Sem.run_bind, Result.andThen]
theorem wpList_buildS (n : Nat) {P : Program} {ops : Array Oper} {rest : List Oper} {o : Oper} {a : Act} {w : World} {Q : Exit → Act → World → Prop} (_ : o.dst = some n) (hw : Region.wanted o (yielded ops a.tmps) = true) (t : TypeId) (parts : Array (Nat × Operand)) (ho : o.op = .build t parts)
    (cells : Array Value) (hf : P.built t (parts.map fun (i, x) => (i, a.eval x)).toList = some cells)
    (h : wpList P ops Q rest (a.put o.dst (.agg cells)) w) : wpList P ops Q (o :: rest) a w := wpList_buildG hw t parts ho cells hf h
/-- Three boxes of signatures. -/
structure Th3 (w W : World) (s : Nat) (x y z : Sg) : Prop where
  k1 : Blk W s (sC x) 97
  k2 : Blk W (s + 1) (sC y) 97
  k3 : Blk W (s + 2) (sC z) 97
  hs : w.heap.size ≤ s
  bel : Below w.heap.size w W
theorem Th3.below {w W W' : World} {s : Nat} {x y z : Sg} (H : Th3 w W s x y z) (hb : Below W.heap.size W W') : Th3 w W' s x y z := ⟨hb.blk' H.k1, hb.blk' H.k2, hb.blk' H.k3, H.hs, H.bel.trans (hb.mono H.bel.size)⟩
theorem Th3.start (w W : World) (hb : Below w.heap.size w W) : Th3 w (((W.alloc (.cells (sC zS).toArray 97)).alloc (.cells (sC zS).toArray 97)).alloc (.cells (sC zS).toArray 97)) W.heap.size zS zS zS :=
  ⟨((Blk.new W _ _).alloc _).alloc _, (Blk.new' _ _ _ _ (by simp)).alloc _, Blk.new' _ _ _ _ (by simp), hb.size, ((hb.alloc hb.size _).alloc (by have := hb.size; simp; omega) _).alloc (by have := hb.size; simp; omega) _⟩
theorem Th3.set1 {w W : World} {s : Nat} {x y z : Sg} (H : Th3 w W s x y z) (u : Sg) : Th3 w (W.setRow s (sC u).toArray) s u y z := by
  have hb := (But.refl s W).setRow (sC u).toArray
  exact ⟨H.k1.row, hb.blk H.k2 (by omega), hb.blk H.k3 (by omega), H.hs, H.bel.trans (hb.below H.hs)⟩
theorem Th3.set2 {w W : World} {s : Nat} {x y z : Sg} (H : Th3 w W s x y z) (u : Sg) : Th3 w (W.setRow (s + 1) (sC u).toArray) s x u z := by
  have hb := (But.refl (s + 1) W).setRow (sC u).toArray
  exact ⟨hb.blk H.k1 (by omega), H.k2.row, hb.blk H.k3 (by omega), H.hs, H.bel.trans (hb.below (by have := H.hs; omega))⟩
theorem Th3.set3 {w W : World} {s : Nat} {x y z : Sg} (H : Th3 w W s x y z) (u : Sg) : Th3 w (W.setRow (s + 2) (sC u).toArray) s x y u := by
  have hb := (But.refl (s + 2) W).setRow (sC u).toArray
  exact ⟨hb.blk H.k1 (by omega), hb.blk H.k2 (by omega), H.k3.row, H.hs, H.bel.trans (hb.below (by have := H.hs; omega))⟩
set_option maxRecDepth 100000 in
theorem tadd_bad {w : World} {x : Value} (h : BadT w x) (s : Sg) : Calls Try.prog 54 #[x, .agg (sC s).toArray] w fun e w' => e = .returned (.int .i64 1) ∧ Below w.heap.size w w' := by
  have hV := hidp ((Below.refl w.heap.size w).alloc (Nat.le_refl _) (.cells (sC s).toArray 97))
  have HB := hidp (tvalid_bad (h.below hV.out))
  clear h
  go_enter Try.func54, Try.ntmps54
  go_wp2_with fail
  refine (HB.out).mono ?_
  rintro e w1 ⟨rfl, rfl⟩
  go_wp2
  go_ret
  exact ⟨rfl, hV.out⟩
set_option maxRecDepth 100000 in
theorem thas_bad {w : World} {x : Value} (h : BadT w x) (s : Sg) : Calls Try.prog 58 #[x, .agg (sC s).toArray] w fun e w' => e = .returned (.bool false) ∧ Below w.heap.size w w' := by
  have hV := hidp ((Below.refl w.heap.size w).alloc (Nat.le_refl _) (.cells (sC s).toArray 97))
  have HB := hidp (tvalid_bad (h.below hV.out))
  clear h
  go_enter Try.func58, Try.ntmps58
  go_wp2_with fail
  refine (HB.out).mono ?_
  rintro e w1 ⟨rfl, rfl⟩
  go_wp2
  go_ret
  exact ⟨rfl, hV.out⟩
set_option maxRecDepth 100000 in
theorem twho_bad {w : World} {x : Value} (h : BadT w x) (p : List Nat) : Calls Try.prog 59 #[x, .agg (bvs p).toArray] w fun e w' => e = .returned (.slice none 0 0) ∧ Below w.heap.size w w' := by
  have hV := hidp ((Below.refl w.heap.size w).alloc (Nat.le_refl _) (.cells (bvs p).toArray 34))
  have HB := hidp (tvalid_bad (h.below hV.out))
  clear h
  go_enter Try.func59, Try.ntmps59
  go_wp2_with fail
  refine (HB.out).mono ?_
  rintro e w1 ⟨rfl, rfl⟩
  go_wp2
  go_ret
  exact ⟨rfl, hV.out⟩
set_option maxRecDepth 100000 in
theorem tlen_bad {w : World} {x : Value} (h : BadT w x) : Calls Try.prog 60 #[x] w fun e w' => e = .returned (.int .i64 0) ∧ Below w.heap.size w w' := by
  have HB := hidp (tvalid_bad h)
  have hV := hidp (Below.refl w.heap.size w)
  clear h
  go_enter Try.func60, Try.ntmps60
  go_wp2_with fail
  refine (HB.out).mono ?_
  rintro e w1 ⟨rfl, rfl⟩
  go_wp2
  go_ret
  exact ⟨rfl, hV.out⟩
set_option maxRecDepth 100000 in
theorem tlist_bad {w : World} {x : Value} (h : BadT w x) : Calls Try.prog 61 #[x] w fun e w' => e = .returned (.slice none 0 0) ∧ Below w.heap.size w w' := by
  have HB := hidp (tvalid_bad h)
  have hV := hidp (Below.refl w.heap.size w)
  clear h
  go_enter Try.func61, Try.ntmps61
  go_wp2_with fail
  refine (HB.out).mono ?_
  rintro e w1 ⟨rfl, rfl⟩
  go_wp2
  go_ret
  exact ⟨rfl, hV.out⟩
set_option maxRecDepth 100000 in
theorem tencode_bad {w : World} {x : Value} (h : BadT w x) : Calls Try.prog 57 #[x] w fun e w' => e = .returned (.tuple #[.slice none 0 0, .int .i64 1]) ∧ Below w.heap.size w w' := by
  have HB := hidp (tvalid_bad h)
  have hV := hidp (Below.refl w.heap.size w)
  clear h
  go_enter Try.func57, Try.ntmps57
  go_wp2_with fail
  refine (HB.out).mono ?_
  rintro e w1 ⟨rfl, rfl⟩
  go_wp2
  go_ret2
  exact ⟨rfl, hV.out⟩
set_option maxRecDepth 100000 in
set_option maxHeartbeats 4000000 in
theorem three_any (w : World) : Calls Try.prog 114 #[] w fun e w' => e = .returned (.tuple #[.agg (sC sA).toArray, .agg (sC sB).toArray, .agg (sC sD).toArray]) ∧ Below w.heap.size w w' := by
  have hz0 : ∀ w, (zeroValue 97).run Try.prog w = .ok (.agg (sC zS).toArray) w := (zero_of_info (P := Try.prog) zero_sig).1
  have H0 := hidp (Th3.start w w (Below.refl _ _))
  go_enter Try.func114, Try.ntmps114
  go_wp2_with first
    | (with_reducible refine (?_ : wpList _ _ _ _ _ _); refine wpList_buildS 3 rfl (by kernel_rfl) 36 _ rfl (bvs [0, 0, 0, 1]).toArray (by kernel_rfl) ?_)
    | (with_reducible refine (?_ : wpList _ _ _ _ _ _); refine wpList_buildS 5 rfl (by kernel_rfl) 36 _ rfl (bvs [0, 0, 0, 1]).toArray (by kernel_rfl) ?_)
    | (with_reducible refine (?_ : wpList _ _ _ _ _ _); refine wpList_buildS 7 rfl (by kernel_rfl) 36 _ rfl (bvs [0, 0, 0, 2]).toArray (by kernel_rfl) ?_)
    | (with_reducible refine (?_ : wpList _ _ _ _ _ _); refine wpList_buildS 4 rfl (by kernel_rfl) 97 _ rfl (sC sA).toArray (by kernel_rfl) ?_)
    | (with_reducible refine (?_ : wpList _ _ _ _ _ _); refine wpList_buildS 6 rfl (by kernel_rfl) 97 _ rfl (sC sB).toArray (by kernel_rfl) ?_)
    | (with_reducible refine (?_ : wpList _ _ _ _ _ _); refine wpList_buildS 8 rfl (by kernel_rfl) 97 _ rfl (sC sD).toArray (by kernel_rfl) ?_)
    | (with_reducible refine (?_ : wpList _ _ _ _ _ _); refine wpList_store_blk rfl 97 _ _ rfl (w.heap.size) (sC sA) (sC zS) 97 rfl rfl (H0.out.k1) (by kernel_rfl) (by kernel_rfl) (sC_one _) ?_; intro w1 hw1; have H1 := hidp (hw1.out ▸ H0.out.set1 sA : Th3 w w1 w.heap.size sA zS zS))
    | (with_reducible refine (?_ : wpList _ _ _ _ _ _); refine wpList_store_blk rfl 97 _ _ rfl (w.heap.size + 1) (sC sB) (sC zS) 97 rfl rfl (H1.out.k2) (by kernel_rfl) (by kernel_rfl) (sC_one _) ?_; intro w2 hw2; have H2 := hidp (hw2.out ▸ H1.out.set2 sB : Th3 w w2 w.heap.size sA sB zS))
    | (with_reducible refine (?_ : wpList _ _ _ _ _ _); refine wpList_store_blk rfl 97 _ _ rfl (w.heap.size + 1 + 1) (sC sD) (sC zS) 97 rfl rfl (H2.out.k3) (by kernel_rfl) (by kernel_rfl) (sC_one _) ?_; intro w3 hw3; have H3 := hidp (hw3.out ▸ H2.out.set3 sD : Th3 w w3 w.heap.size sA sB sD))
  trace_state
  refine bodyPost_ret (v := .tuple #[.agg (sC sA).toArray, .agg (sC sB).toArray, .agg (sC sD).toArray]) ?_ rfl ⟨rfl, H3.out.bel⟩
  exact results_rows3 Try.results114 _ _ w.heap.size (w.heap.size + 1) (w.heap.size + 2) 97 _ _ _ _ rfl rfl rfl H3.out.k1 H3.out.k2 H3.out.k3 Try.underlying97 rfl (by kernel_rfl) (by kernel_rfl) (by kernel_rfl)
end Go.Proofs.Ytbhkjflpkpkdlaa
