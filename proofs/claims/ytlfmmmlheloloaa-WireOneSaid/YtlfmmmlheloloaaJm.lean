/-
  Contracts: a writer: refusal, fail, put.
-/
import Derived.Test.YtlfmmmlheloloaaJj
import Derived.Test.YtlfmmmlheloloaaJl
namespace Go.Proofs.Ytlfmmmlheloloaa
open Go.RowKit Go.Lib Go.Maps

/-- A writer lies in block g. -/
structure Wr (w : World) (g lim : Nat) (v : Value) (L : List Nat) (e : Nat) : Prop where
  blk : Blk w g [.pointer (some ⟨g, 0, none⟩), .int .i64 (lim : Nat), v, .int .i64 (e : Nat)] 59
  own : w.ownsRow (g + 1) 5 1 v L.length (bvs L)
  byte : ∀ x ∈ L, x < 256
  le : L.length ≤ lim
  lim : lim ≤ 1048576
theorem own_slice {w : World} {base : Nat} {v : Value} {n : Nat} {xs : List Value} (h : w.ownsRow base 5 1 v n xs) : ∃ p cap, v = .slice p n cap := by
  rcases h.2 with ⟨h1, h2⟩ | ⟨g, cap, cur, h1, _⟩
  · exact ⟨none, 0, by rw [h1, h2]⟩
  · exact ⟨_, _, h1⟩
theorem own_same {w w' : World} {base n : Nat} {v : Value} {xs : List Value} (h : w.ownsRow base 5 1 v n xs) (hk : ∀ k, v.ownBlock = some k → w'.heap[k]? = w.heap[k]?) : w'.ownsRow base 5 1 v n xs := by
  refine ⟨h.1, ?_⟩
  rcases h.2 with h2 | ⟨g, cap, cur, h1, h2, h3, h4⟩
  · exact .inl h2
  · refine .inr ⟨g, cap, cur, h1, h2, ?_, h4⟩
    rw [hk g (by rw [h1]; rfl)]; exact h3
theorem own_mono {w : World} {base base' n : Nat} {v : Value} {xs : List Value} (h : w.ownsRow base 5 1 v n xs) (hb : base' ≤ base) : w.ownsRow base' 5 1 v n xs := by
  refine ⟨h.1, ?_⟩
  rcases h.2 with h2 | ⟨g, cap, cur, h1, h2, h3⟩
  · exact .inl h2
  · exact .inr ⟨g, cap, cur, h1, Nat.le_trans hb h2, h3⟩
theorem grown_weak {w w' : World} {row : Option Nat} (h : w.grownBy w' none) : w.grownBy w' row := ⟨h.os, h.tape, h.output, h.size, fun k hk _ => h.block k hk (by simp)⟩
/-- Bytes that came in are hung onto a row of one's own: its row is the old one or new. -/
theorem wpList_append_byW {ops : Array Oper} {rest : List Oper} {o : Oper} {a : Act} {w : World} {Q : Exit → Act → World → Prop} (hgd : o.guard = none) (s x : Operand)
    (ho : o.op = .call { callee := .builtin .append, args := #[s, x], argTypes := #[32, 32] }) (base n : Nat) (xs : List Value) (v : Value) (hs : a.eval s = v)
    (hown : w.ownsRow base 5 1 v n xs) (p : Option Addr) (cap : Nat) (L : List Nat) (hx : a.eval x = .slice p L.length cap) (hb : ByS w p cap L) (hn : n + L.length ≤ 4000000) (hbase : base ≤ w.heap.size)
    (h : ∀ v' w', w'.ownsRow base 5 1 v' (n + L.length) (xs ++ bvs L) → w.grownBy w' v.ownBlock → (∀ k, v'.ownBlock = some k → v.ownBlock = some k ∨ w.heap.size ≤ k) → wpList Try.prog ops Q rest (a.put o.dst v') w') : wpList Try.prog ops Q (o :: rest) a w := by
  obtain ⟨i0, hi, hz0, hz1, hz2⟩ := info_parts info_byte
  cases hp : p with
  | none =>
    have h1 := hb.none hp
    have h2 := hb.le
    have hL : L = [] := List.eq_nil_of_length_eq_zero (by omega)
    subst hL
    refine wpList_append_own_none hgd s x 32 ho base 5 i0 1 Try.underlying32 hi v n xs hs hown (by rw [hx, hp, h1]; rfl) ?_
    exact h v w (by simpa [bvs] using hown) ⟨rfl, rfl, rfl, Nat.le_refl _, fun _ _ _ => rfl⟩ (fun _ hk => .inl hk)
  | some y =>
    have hsrc : ∀ j u, (bvs L)[j]? = some u → w.cell? (y.add j) = some u := fun j u hj => by
      have hj1 : j < L.length := by
        rcases Nat.lt_or_ge j L.length with h1 | h1
        · exact h1
        · rw [List.getElem?_eq_none (by rw [bvs_len]; exact h1)] at hj; cases hj
      rw [hb.cell y hp j hj1, ← hj, bvs_get hj1]
    have hln : (bvs L).length = L.length * 1 := by rw [bvs_len, Nat.mul_one]
    have hxe : a.eval x = .slice (some y) L.length cap := by rw [hx, hp]
    rcases hown.2 with ⟨rfl, rfl⟩ | ⟨g, cp, cur, rfl, hg1, hg2, hg3, hg4, hg5, hg6⟩
    · have hxs : xs = [] := List.eq_nil_of_length_eq_zero (by simpa using hown.1)
      subst hxs
      exact wpList_append_own _ hgd s x 32 ho w.heap.size 5 i0 (.int .u8 0) 1 1 Try.underlying32 hi hz0 hz1 hz2 rfl (by decide) _ 0 [] hs (World.ownsRow_nil w _ _ _) y L.length cap (bvs L) hxe hln hsrc (bvs_oneL _) (by unfold maxLen; omega) (by omega) (Nat.le_refl _)
        (fun v' w' h1 h2 _ => h v' w' (own_mono h1 hbase) h2 (fun k hk => .inr (h1.lt k hk).1))
    · by_cases hf : n + L.length ≤ cp
      · exact wpList_append_fits _ hgd s x 32 ho base 5 i0 1 Try.underlying32 hi hz1 g n cp xs hs hown y L.length cap (bvs L) hxe hln hsrc (bvs_oneL _) hf
          (fun w' h1 h2 => h _ w' h1 h2 (fun k hk => .inl hk))
      · exact wpList_append_grows _ hgd s x 32 ho 5 i0 (.int .u8 0) 1 1 Try.underlying32 hi hz0 hz1 hz2 rfl (by decide) (some ⟨g, 0, none⟩) n cp xs hs (fun e => by cases e) hown.1 (fun b e j u hj => by cases e; exact hown.cells (g := g) rfl j u hj) y L.length cap (bvs L) hxe hln hsrc (bvs_oneL _) (by omega) (by unfold maxLen; omega) (by omega)
          (fun v' w' h1 h2 => h v' w' (own_mono h1 hbase) (grown_weak h2) (fun k hk => .inr (h1.lt k hk).1))
/-- What a writer's method leaves as it was: all but its block and its row; its row is the old one or new. -/
structure Wfr (g : Nat) (v : Value) (w w' : World) (v' : Value) : Prop where
  os : w'.os = w.os
  tape : w'.tape = w.tape
  output : w'.output = w.output
  size : w.heap.size ≤ w'.heap.size
  block : ∀ k, k < w.heap.size → k ≠ g → v.ownBlock ≠ some k → w'.heap[k]? = w.heap[k]?
  row : ∀ k, v'.ownBlock = some k → v.ownBlock = some k ∨ w.heap.size ≤ k
theorem Wfr.refl (g : Nat) (v : Value) (w : World) : Wfr g v w w v := ⟨rfl, rfl, rfl, Nat.le_refl _, fun _ _ _ _ => rfl, fun _ h => .inl h⟩
theorem Wfr.trans {g : Nat} {v v1 v2 : Value} {w w1 w2 : World} (h : Wfr g v w w1 v1) (k : Wfr g v1 w1 w2 v2) : Wfr g v w w2 v2 := by
  refine ⟨k.os.trans h.os, k.tape.trans h.tape, k.output.trans h.output, Nat.le_trans h.size k.size, fun i hi hg hv => ?_, fun i hi => ?_⟩
  · refine (k.block i (Nat.lt_of_lt_of_le hi h.size) hg (fun e => ?_)).trans (h.block i hi hg hv)
    rcases h.row i e with e | e
    · exact hv e
    · omega
  · rcases k.row i hi with e | e
    · exact h.row i e
    · exact .inr (Nat.le_trans h.size e)
theorem Wfr.below {g : Nat} {v v' : Value} {w w1 w2 : World} (h : Wfr g v w w1 v') (k : Below w1.heap.size w1 w2) : Wfr g v w w2 v' :=
  h.trans ⟨k.os, k.tape, k.output, k.size, fun i hi _ _ => k.block i hi, fun _ e => .inl e⟩
theorem Wfr.ofBelow {g : Nat} {v : Value} {w w1 : World} (k : Below w.heap.size w w1) : Wfr g v w w1 v := (Wfr.refl g v w).below k
theorem Wr.ownGe {w : World} {g lim e k : Nat} {v : Value} {L : List Nat} (H : Wr w g lim v L e) (h : v.ownBlock = some k) : g + 1 ≤ k ∧ k < w.heap.size := H.own.lt k h
theorem Wr.below {w w' : World} {g lim e : Nat} {v : Value} {L : List Nat} (H : Wr w g lim v L e) (hB : Below w.heap.size w w') : Wr w' g lim v L e :=
  ⟨H.blk.below hB H.blk.lt, own_same H.own (fun k hk => hB.block k (H.ownGe hk).2), H.byte, H.le, H.lim⟩
theorem Wr.bex {w w' : World} {c g lim e : Nat} {v : Value} {L : List Nat} (H : Wr w g lim v L e) (hB : Bex c w w') (hg : g ≠ c) (hc : v.ownBlock ≠ some c) : Wr w' g lim v L e :=
  ⟨hB.blk H.blk hg, own_same H.own (fun k hk => hB.block k (H.ownGe hk).2 (fun e => hc (e ▸ hk))), H.byte, H.le, H.lim⟩
/-- Below a writer's block nothing turns. -/
theorem Wfr.toBelow {w w' : World} {g lim e : Nat} {v v' : Value} {L : List Nat} (h : Wfr g v w w' v') (H : Wr w g lim v L e) : Below g w w' :=
  ⟨h.os, h.tape, h.output, h.size, fun k hk => h.block k (by have := H.blk.lt; omega) (by omega) (fun e => by have := (H.ownGe e).1; omega)⟩

theorem w_eq_same (g : Nat) (w : World) : (binOp .neq 25 (.pointer (some ⟨g, 0, none⟩)) (.pointer (some ⟨g, 0, none⟩))).run Try.prog w = .ok (.bool false) w := by
  obtain ⟨j, hj⟩ : ∃ j, Try.prog.info? 59 = some j := Option.isSome_iff_exists.1 (by kernel_rfl)
  have q := run_eql_ptr_same (P := Try.prog) w ⟨g, 0, none⟩ Try.underlying25 hj
  simp only [binOp] at q ⊢
  have h2 : (Op.equal 25 (.pointer (some ⟨g, 0, none⟩)) (.pointer (some ⟨g, 0, none⟩))).run Try.prog w = .ok true w := by
    cases hq : (Op.equal 25 (.pointer (some ⟨g, 0, none⟩)) (.pointer (some ⟨g, 0, none⟩))).run Try.prog w with
    | ok b w2 => simp [hq] at q; obtain ⟨rfl, rfl⟩ := q; rfl
    | _ => simp [hq] at q
  simp [h2]
theorem w_ne_nil (a : Addr) (w : World) : (binOp .eql 25 (.pointer (some a)) (.pointer none)).run Try.prog w = .ok (.bool false) w := by
  have h : ∀ d : Nat, (Op.equalIn (d + 1) 25 (.pointer (some a)) (.pointer none)).run Try.prog w = .ok false w := fun d => by
    simp [Op.equalIn, run_underlying Try.underlying25]
  simp only [binOp]
  simp [Op.equal, Op.maxDepth, h 9999]

set_option maxRecDepth 20000 in
theorem refusal_any {w : World} {g lim e : Nat} {v : Value} {L : List Nat} (H : Wr w g lim v L e) :
    Calls Try.prog 83 #[.pointer (some ⟨g, 0, none⟩)] w fun e' w' => e' = .returned (.int .i64 (e : Nat)) ∧ w = w' := by
  have h0 : w.cell? ⟨g, 0, none⟩ = some (.pointer (some ⟨g, 0, none⟩)) := H.blk.cell 0
  have h3 : w.cell? ⟨g, 3, none⟩ = some (.int .i64 (e : Nat)) := H.blk.cell 3
  have q1 := w_eq_same g w
  have q2 := w_ne_nil ⟨g, 0, none⟩ w
  clear H
  go_enter Try.func83, Try.ntmps83
  go_wp2
  go_ret
  exact ⟨rfl, rfl⟩
theorem fail_any {w : World} {g lim e : Nat} {v : Value} {L : List Nat} (H : Wr w g lim v L e) (x : Nat) :
    Calls Try.prog 125 #[.pointer (some ⟨g, 0, none⟩), .int .i64 (x : Nat)] w fun e' w' => e' = .returned (.int .i64 (x : Nat)) ∧ Wr w' g lim (.slice none 0 0) [] x ∧ Bex g w w' := by
  have h2 : w.cell? ⟨g, 2, none⟩ = some v := H.blk.cell 2
  have h3 : w.cell? ⟨g, 3, none⟩ = some (.int .i64 (e : Nat)) := H.blk.cell 3
  have f2 := H.blk.free 2
  have f3 := H.blk.free 3
  have HH := hidp H
  clear H
  go_enter Try.func125, Try.ntmps125
  go_wp2
  go_ret
  exact ⟨rfl, ⟨(HH.out.blk.set 3 _).set 2 _, ⟨rfl, .inl ⟨rfl, rfl⟩⟩, by simp, by simp, HH.out.lim⟩, ((Bex.refl g w).setCell _ _).setCell _ _⟩

/-! Pieces. -/
structure Pc where
  p : Option Addr
  cap : Nat
  L : List Nat
def pcV (x : Pc) : Value := .slice x.p x.L.length x.cap
def joinP (l : List Pc) : List Nat := l.flatMap (·.L)
theorem joinP_take {l : List Pc} {i : Nat} (h : i < l.length) : joinP (l.take (i + 1)) = joinP (l.take i) ++ l[i].L := by
  unfold joinP
  rw [List.take_add_one, List.getElem?_eq_getElem h, List.flatMap_append]
  simp
/-- The pieces lie apart from the writer. -/
structure Pcs (w : World) (g : Nat) (v : Value) (pb : Nat) (l : List Pc) : Prop where
  blk : Blk w pb (l.map pcV) 32
  out : pb ≠ g ∧ v.ownBlock ≠ some pb
  bs : ∀ x ∈ l, ByS w x.p x.cap x.L
  apart : ∀ x ∈ l, ∀ a, x.p = some a → 0 < x.L.length → a.block ≠ g ∧ v.ownBlock ≠ some a.block
theorem Pcs.wfr {w w' : World} {g pb : Nat} {v v' : Value} {l : List Pc} (H : Pcs w g v pb l) (h : Wfr g v w w' v') : Pcs w' g v' pb l := by
  have hlt : ∀ k, k < w.heap.size → v.ownBlock ≠ some k → v'.ownBlock ≠ some k := fun k hk hv e => by
    rcases h.row k e with e | e
    · exact hv e
    · omega
  have cl : ∀ x ∈ l, ∀ a, x.p = some a → 0 < x.L.length → a.block < w.heap.size := fun x hx a ha h0 => by
    have := cell_lt ((H.bs x hx).cell a ha 0 h0)
    rwa [add_block] at this
  refine ⟨(h.block pb H.blk.lt H.out.1 H.out.2).trans H.blk, ⟨H.out.1, hlt pb H.blk.lt H.out.2⟩, fun x hx => ?_, fun x hx a ha h0 => ⟨(H.apart x hx a ha h0).1, hlt _ (cl x hx a ha h0) (H.apart x hx a ha h0).2⟩⟩
  have hb := H.bs x hx
  refine ⟨hb.byte, hb.le, hb.none, fun a ha i hi => ?_⟩
  rw [← hb.cell a ha i hi]
  have ho := H.apart x hx a ha (by omega)
  refine World.cell?_of_block ?_
  rw [add_block]
  exact h.block a.block (cl x hx a ha (by omega)) ho.1 ho.2
theorem Pcs.get {w : World} {g pb : Nat} {v : Value} {l : List Pc} (H : Pcs w g v pb l) {i : Nat} (hi : i < l.length) : w.cell? ⟨pb, i, none⟩ = some (.slice l[i].p l[i].L.length l[i].cap) := by
  rw [H.blk.cell i, List.getElem?_map, List.getElem?_eq_getElem hi]; rfl

theorem joinP_le (l : List Pc) (k : Nat) : (joinP (l.take k)).length ≤ (joinP l).length := by
  have h : joinP l = joinP (l.take k) ++ joinP (l.drop k) := by unfold joinP; rw [← List.flatMap_append, List.take_append_drop]
  rw [h, List.length_append]; omega
/-- A piece is hung on and stored. -/
theorem put_step {w w2 : World} {g lim n : Nat} {v v2 : Value} {L X : List Nat} (H : Wr w g lim v L 0) (ho : w2.ownsRow (g + 1) 5 1 v2 n (bvs L ++ bvs X)) (hg : w.grownBy w2 v.ownBlock) (hX : ∀ x ∈ X, x < 256) (hs : L.length + X.length ≤ lim) (hn : n = L.length + X.length) (hr : ∀ k, v2.ownBlock = some k → v.ownBlock = some k ∨ w.heap.size ≤ k) :
    w2.cell? ⟨g, 2, none⟩ = some v ∧ w2.frozen? ⟨g, 2, none⟩ = false ∧ Wr (w2.setCell ⟨g, 2, none⟩ v2) g lim v2 (L ++ X) 0 ∧ Wfr g v w (w2.setCell ⟨g, 2, none⟩ v2) v2 := by
  have hng : v.ownBlock ≠ some g := fun e => by have := (H.ownGe e).1; omega
  have hblk : Blk w2 g [.pointer (some ⟨g, 0, none⟩), .int .i64 (lim : Nat), v, .int .i64 (0 : Nat)] 59 := (hg.block g H.blk.lt (fun e => hng e.symm)).trans H.blk
  have hbt := (But.refl g w2).setCell 2 v2
  refine ⟨hblk.cell 2, hblk.free 2, ⟨hblk.set 2 v2, ?_, ?_, ?_, H.lim⟩, ?_⟩
  · subst hn
    have e : bvs (L ++ X) = bvs L ++ bvs X := by unfold bvs; rw [List.map_append]
    rw [e, List.length_append]
    exact own_same ho (fun k hk => hbt.block k (fun e => by have := (ho.lt k hk).1; omega))
  · intro x hx
    rcases List.mem_append.1 hx with h | h
    · exact H.byte x h
    · exact hX x h
  · rw [List.length_append]; exact hs
  · refine ⟨hbt.os.trans hg.os, hbt.tape.trans hg.tape, hbt.output.trans hg.output, by rw [hbt.size]; exact hg.size, fun k hk hkg hkv => (hbt.block k hkg).trans (hg.block k hk (fun e => hkv e.symm)), hr⟩
set_option maxRecDepth 20000 in
set_option maxHeartbeats 4000000 in
theorem put_ok {w : World} {g lim pb pcap : Nat} {v : Value} {L : List Nat} {l : List Pc} (H : Wr w g lim v L 0) (HP : Pcs w g v pb l) (hl : l.length ≤ 2) (hs : L.length + (joinP l).length ≤ lim) :
    Calls Try.prog 126 #[.pointer (some ⟨g, 0, none⟩), .slice (some ⟨pb, 0, none⟩) l.length pcap] w fun e' w' => e' = .returned (.int .i64 0) ∧ ∃ v', Wr w' g lim v' (L ++ joinP l) 0 ∧ Wfr g v w w' v' := by
  obtain ⟨p0, c0, rfl⟩ := own_slice H.own
  have HR := hidp (refusal_any H)
  have h1 : w.cell? ⟨g, 1, none⟩ = some (.int .i64 (lim : Nat)) := H.blk.cell 1
  have h2 : w.cell? ⟨g, 2, none⟩ = some (.slice p0 L.length c0) := H.blk.cell 2
  have HH := hidp H
  have HPP := hidp HP
  have HL : Hid (l.length ≤ 2 ∧ L.length + (joinP l).length ≤ 4000000 ∧ L.length + (joinP l).length ≤ lim) := hidp ⟨hl, by have := H.lim; omega, hs⟩
  have hlim := H.lim
  have hlen : L.length ≤ 1048576 := Nat.le_trans H.le H.lim
  clear H HP hl hs
  go_enter Try.func126, Try.ntmps126
  go_wp2_with (go_at_call 83; refine HR.out.mono ?_; rintro e wx ⟨rfl, rfl⟩)
  go_loopw [6, 23] (fun x i wr => ∃ k A : Nat, k ≤ l.length ∧ i = .int .i64 k ∧ x = .int .i64 A ∧ Hid (A = L.length + (joinP (l.take k)).length) ∧ w = wr) (fun _ i _ => l.length - (Go.RowKit.intOf i).toNat)
  case atStart => exact ⟨0, L.length, by omega, rfl, rfl, hidp (by simp [joinP]), rfl⟩
  case round =>
    obtain ⟨k, A, hk, rfl, rfl, hA, rfl⟩ := hrel
    by_cases hlt : k < l.length
    · have hc := HPP.out.get hlt
      have hj := joinP_take hlt
      have hjl : (joinP (l.take (k + 1))).length = (joinP (l.take k)).length + l[k].L.length := by rw [hj, List.length_append]
      have hjm := joinP_le l (k + 1)
      have hA2 : A + l[k].L.length ≤ 4000000 := by have := hA.out; have := HL.out.2.1; omega
      have hN : Hid (A + l[k].L.length = L.length + (joinP (l.take (k + 1))).length) := hidp (by rw [hjl, hA.out]; omega)
      generalize l[k].L.length = m at hc hA2 hN
      generalize l[k].p = pp at hc
      generalize l[k].cap = cc at hc
      have hw1 : wrap64 ((A : Int) + (m : Int)) = ((A + m : Nat) : Int) := by rw [w64 _ (by omega)]; omega
      have hw2 : (A : Int) + (m : Int) = ((A + m : Nat) : Int) := by omega
      have hll : l.length ≤ 2 := HL.out.1
      clear hj hjl hjm hA
      obtain ⟨A2, hA2e⟩ : ∃ A2, A2 = A + m := ⟨_, rfl⟩
      rw [← hA2e] at hw1 hw2 hN
      have hw3 : wrap64 (A2 : Int) = (A2 : Int) := w64 _ (by omega)
      have hw4 : Hid (wrap64 (A2 : Int) = (A2 : Int)) := hidp hw3
      clear hA2e hA2
      go_wp2
      exact ⟨⟨k + 1, A2, by omega, by go_num, by first | rfl | (rw [hw4.out]), hN, trivial⟩, by simp [Go.RowKit.intOf]; omega⟩
    · obtain rfl : k = l.length := by omega
      rw [List.take_length] at hA
      have hA := hidp hA.out
      have hgt : decide (lim < A) = false := decide_eq_false (by have := HL.out.2.2; have := hA.out; omega)
      clear hk hlt h2
      go_wp2
      clear hgt h1
      go_loopw [42] (fun i wr => ∃ k : Nat, k ≤ l.length ∧ i = .int .i64 k ∧ Hid (∃ v', Wr wr g lim v' (L ++ joinP (l.take k)) 0 ∧ Wfr g (.slice p0 L.length c0) w wr v')) (fun i _ => l.length - (Go.RowKit.intOf i).toNat)
      case atStart => exact ⟨0, by omega, rfl, hidp ⟨_, by simpa [joinP] using HH.out, Wfr.refl _ _ _⟩⟩
      case round =>
        obtain ⟨k, hk, rfl, hr⟩ := hrel
        by_cases hlt : k < l.length
        · obtain ⟨v', hW, hF⟩ := hr.out
          obtain ⟨p', c', rfl⟩ := own_slice hW.own
          have HPk := HPP.out.wfr hF
          have hc := HPk.get hlt
          have hb := hidp (HPk.bs _ (List.getElem_mem hlt))
          have hj := hidp (joinP_take hlt)
          have hc2 : wr.cell? ⟨g, 2, none⟩ = some (.slice p' (L ++ joinP (l.take k)).length c') := hW.blk.cell 2
          have hf2 := hW.blk.free 2
          have hjl : (joinP (l.take (k + 1))).length = (joinP (l.take k)).length + l[k].L.length := by rw [hj.out, List.length_append]
          have hjm := joinP_le l (k + 1)
          have hsum : Hid ((L ++ joinP (l.take k)).length + l[k].L.length ≤ lim) := hidp (by rw [List.length_append]; have := HL.out.2.2; omega)
          have hWW := hidp hW
          have hFF := hidp hF
          have hll : l.length ≤ 2 := HL.out.1
          generalize hX : l[k].L = X at hc hb hj hsum
          generalize l[k].p = pp at hc hb
          generalize l[k].cap = cc at hc hb
          obtain ⟨Lk, hLk⟩ : ∃ Lk, Lk = L ++ joinP (l.take k) := ⟨_, rfl⟩
          rw [← hLk] at hc2 hsum hWW hFF
          replace hLk := hidp hLk
          clear hr hW hF HPk hjl hjm hX
          go_wp2_with (at_builtin; refine wpList_append_byW rfl _ _ rfl (g + 1) Lk.length (bvs Lk) _ rfl hWW.out.own pp cc X rfl hb.out (by have := hsum.out; have := hWW.out.lim; omega) (by have := hWW.out.blk.lt; omega) ?_; intro v2 w2 hown2 hgrow2 hrow2; obtain ⟨p2, c2, rfl⟩ := own_slice hown2; have hS := hidp (put_step hWW.out hown2 hgrow2 hb.out.byte hsum.out rfl hrow2); have hc3 := hS.out.1; have hf3 := hS.out.2.1; clear hown2 hgrow2 hrow2)
          refine ⟨⟨k + 1, by omega, by go_num, hidp ⟨_, ?_, hFF.out.trans hS.out.2.2.2⟩⟩, by simp [Go.RowKit.intOf]; omega⟩
          have e : Lk ++ X = L ++ joinP (l.take (k + 1)) := by rw [hLk.out, List.append_assoc, ← hj.out]
          rw [← e]
          exact hS.out.2.2.1
        · obtain rfl : k = l.length := by omega
          rw [List.take_length] at hr
          have hr := hidp hr.out
          go_wp2
          go_ret
          obtain ⟨v', h1, h2⟩ := hr.out
          exact ⟨rfl, v', h1, h2⟩
set_option maxRecDepth 20000 in
set_option maxHeartbeats 4000000 in
theorem put_long {w : World} {g lim pb pcap : Nat} {v : Value} {L : List Nat} {l : List Pc} (H : Wr w g lim v L 0) (HP : Pcs w g v pb l) (hl : l.length ≤ 2) (hs : lim < L.length + (joinP l).length) (hb : (joinP l).length ≤ 2000000) :
    Calls Try.prog 126 #[.pointer (some ⟨g, 0, none⟩), .slice (some ⟨pb, 0, none⟩) l.length pcap] w fun e' w' => e' = .returned (.int .i64 4) ∧ Wr w' g lim (.slice none 0 0) [] 4 ∧ Bex g w w' := by
  obtain ⟨p0, c0, rfl⟩ := own_slice H.own
  have HR := hidp (refusal_any H)
  have HF := hidp (fail_any H 4)
  have h1 : w.cell? ⟨g, 1, none⟩ = some (.int .i64 (lim : Nat)) := H.blk.cell 1
  have h2 : w.cell? ⟨g, 2, none⟩ = some (.slice p0 L.length c0) := H.blk.cell 2
  have HPP := hidp HP
  have HL : Hid (l.length ≤ 2 ∧ L.length + (joinP l).length ≤ 4000000 ∧ lim < L.length + (joinP l).length) := hidp ⟨hl, by have := H.lim; have := H.le; omega, hs⟩
  have hlim := H.lim
  have hlen : L.length ≤ 1048576 := Nat.le_trans H.le H.lim
  clear H HP hl hs hb
  go_enter Try.func126, Try.ntmps126
  go_wp2_with (go_at_call 83; refine HR.out.mono ?_; rintro e wx ⟨rfl, rfl⟩)
  go_loopw [6, 23] (fun x i wr => ∃ k A : Nat, k ≤ l.length ∧ i = .int .i64 k ∧ x = .int .i64 A ∧ Hid (A = L.length + (joinP (l.take k)).length) ∧ w = wr) (fun _ i _ => l.length - (Go.RowKit.intOf i).toNat)
  case atStart => exact ⟨0, L.length, by omega, rfl, rfl, hidp (by simp [joinP]), rfl⟩
  case round =>
    obtain ⟨k, A, hk, rfl, rfl, hA, rfl⟩ := hrel
    by_cases hlt : k < l.length
    · have hc := HPP.out.get hlt
      have hj := joinP_take hlt
      have hjl : (joinP (l.take (k + 1))).length = (joinP (l.take k)).length + l[k].L.length := by rw [hj, List.length_append]
      have hjm := joinP_le l (k + 1)
      have hA2 : A + l[k].L.length ≤ 4000000 := by have := hA.out; have := HL.out.2.1; omega
      have hN : Hid (A + l[k].L.length = L.length + (joinP (l.take (k + 1))).length) := hidp (by rw [hjl, hA.out]; omega)
      generalize l[k].L.length = m at hc hA2 hN
      generalize l[k].p = pp at hc
      generalize l[k].cap = cc at hc
      have hw1 : wrap64 ((A : Int) + (m : Int)) = ((A + m : Nat) : Int) := by rw [w64 _ (by omega)]; omega
      have hw2 : (A : Int) + (m : Int) = ((A + m : Nat) : Int) := by omega
      have hll : l.length ≤ 2 := HL.out.1
      clear hj hjl hjm hA
      obtain ⟨A2, hA2e⟩ : ∃ A2, A2 = A + m := ⟨_, rfl⟩
      rw [← hA2e] at hw1 hw2 hN
      have hw3 : wrap64 (A2 : Int) = (A2 : Int) := w64 _ (by omega)
      have hw4 : Hid (wrap64 (A2 : Int) = (A2 : Int)) := hidp hw3
      clear hA2e hA2
      go_wp2
      exact ⟨⟨k + 1, A2, by omega, by go_num, by first | rfl | (rw [hw4.out]), hN, trivial⟩, by simp [Go.RowKit.intOf]; omega⟩
    · obtain rfl : k = l.length := by omega
      rw [List.take_length] at hA
      have hA := hidp hA.out
      have hgt : decide (lim < A) = true := decide_eq_true (by have := HL.out.2.2; have := hA.out; omega)
      clear hk hlt h2
      go_wp2_with fail
      refine HF.out.mono ?_
      rintro e w2 ⟨rfl, hx, hy⟩
      have HX := hidp (And.intro hx hy)
      clear hx hy
      go_wp2
      go_ret
      exact ⟨rfl, HX.out⟩
set_option maxRecDepth 20000 in
theorem put_dead {w : World} {g lim e : Nat} {v : Value} {L : List Nat} (H : Wr w g lim v L e) (he : e ≠ 0) (s : Value) :
    Calls Try.prog 126 #[.pointer (some ⟨g, 0, none⟩), s] w fun e' w' => e' = .returned (.int .i64 (e : Nat)) ∧ w = w' := by
  have HR := hidp (refusal_any H)
  have hz : ((e : Int) == 0) = false := by rw [beq_eq_false_iff_ne]; omega
  have hz2 : ((e : Int) != 0) = true := by rw [bne_iff_ne]; omega
  clear H he
  go_enter Try.func126, Try.ntmps126
  go_wp2_with (go_at_call 83; refine HR.out.mono ?_; rintro e wx ⟨rfl, rfl⟩)
  go_ret
  exact ⟨rfl, rfl⟩
end Go.Proofs.Ytlfmmmlheloloaa
