/-
  Texts Jm, Jn, Jo, Jp, Jq, one behind the other.
-/
import Derived.Test.YtcmkmnidnapabaaGreatQd
import Derived.Lib.ConvBytes
import Derived.Below

/-! Jm: Contracts: a writer: refusal, fail, put. -/
namespace Go.Proofs.YtcmkmnidnapabaaGreat
open Go.RowKit Go.Lib Go.Maps

/-- A writer lies in block g. -/
structure Wr (w : World) (g lim : Nat) (v : Value) (L : List Nat) (e : Nat) : Prop where
  blk : Blk w g [.pointer (some ⟨g, 0, none⟩), .int .i64 (lim : Nat), v, .int .i64 (e : Nat)] 193
  own : w.ownsRow (g + 1) 5 1 v L.length (bvs L)
  byte : ∀ x ∈ L, x < 256
  le : L.length ≤ lim
  lim : lim ≤ 1048576
theorem own_slice {w : World} {base : Nat} {v : Value} {n : Nat} {xs : List Value} (h : w.ownsRow base 5 1 v n xs) : ∃ p cap, v = .slice p n cap := by
  rcases h.2 with ⟨h1, h2⟩ | ⟨g, cap, cur, h1, _⟩
  · exact ⟨none, 0, by rw [h1, h2]⟩
  · exact ⟨_, _, h1⟩
theorem own_same {w w' : World} {base n : Nat} {v : Value} {xs : List Value} (h : w.ownsRow base 5 1 v n xs) (hk : ∀ k, v.ownBlock = some k → w'.heap[k]? = w.heap[k]?) : w'.ownsRow base 5 1 v n xs := by
  refine ⟨h.1, ?_⟩
  rcases h.2 with h2 | ⟨g, cap, cur, h1, h2, h3, h4⟩
  · exact .inl h2
  · refine .inr ⟨g, cap, cur, h1, h2, ?_, h4⟩
    rw [hk g (by rw [h1]; rfl)]; exact h3
theorem own_mono {w : World} {base base' n : Nat} {v : Value} {xs : List Value} (h : w.ownsRow base 5 1 v n xs) (hb : base' ≤ base) : w.ownsRow base' 5 1 v n xs := by
  refine ⟨h.1, ?_⟩
  rcases h.2 with h2 | ⟨g, cap, cur, h1, h2, h3⟩
  · exact .inl h2
  · exact .inr ⟨g, cap, cur, h1, Nat.le_trans hb h2, h3⟩
theorem grown_weak {w w' : World} {row : Option Nat} (h : w.grownBy w' none) : w.grownBy w' row := ⟨h.os, h.tape, h.output, h.size, fun k hk _ => h.block k hk (by simp)⟩
/-- Bytes that came in are hung onto a row of one's own: its row is the old one or new. -/
theorem wpList_append_byW {ops : Array Oper} {rest : List Oper} {o : Oper} {a : Act} {w : World} {Q : Exit → Act → World → Prop} (hgd : o.guard = none) (s x : Operand)
    (ho : o.op = .call { callee := .builtin .append, args := #[s, x], argTypes := #[35, 35] }) (base n : Nat) (xs : List Value) (v : Value) (hs : a.eval s = v)
    (hown : w.ownsRow base 5 1 v n xs) (p : Option Addr) (cap : Nat) (L : List Nat) (hx : a.eval x = .slice p L.length cap) (hb : ByS w p cap L) (hn : n + L.length ≤ 4000000) (hbase : base ≤ w.heap.size)
    (h : ∀ v' w', w'.ownsRow base 5 1 v' (n + L.length) (xs ++ bvs L) → w.grownBy w' v.ownBlock → (∀ k, v'.ownBlock = some k → v.ownBlock = some k ∨ w.heap.size ≤ k) → wpList Tryz.prog ops Q rest (a.put o.dst v') w') : wpList Tryz.prog ops Q (o :: rest) a w := by
  obtain ⟨i0, hi, hz0, hz1, hz2⟩ := info_parts info_byte
  cases hp : p with
  | none =>
    have h1 := hb.none hp
    have h2 := hb.le
    have hL : L = [] := List.eq_nil_of_length_eq_zero (by omega)
    subst hL
    refine wpList_append_own_none hgd s x 35 ho base 5 i0 1 Tryz.underlying35 hi v n xs hs hown (by rw [hx, hp, h1]; rfl) ?_
    exact h v w (by simpa [bvs] using hown) ⟨rfl, rfl, rfl, Nat.le_refl _, fun _ _ _ => rfl⟩ (fun _ hk => .inl hk)
  | some y =>
    have hsrc : ∀ j u, (bvs L)[j]? = some u → w.cell? (y.add j) = some u := fun j u hj => by
      have hj1 : j < L.length := by
        rcases Nat.lt_or_ge j L.length with h1 | h1
        · exact h1
        · rw [List.getElem?_eq_none (by rw [bvs_len]; exact h1)] at hj; cases hj
      rw [hb.cell y hp j hj1, ← hj, bvs_get hj1]
    have hln : (bvs L).length = L.length * 1 := by rw [bvs_len, Nat.mul_one]
    have hxe : a.eval x = .slice (some y) L.length cap := by rw [hx, hp]
    rcases hown.2 with ⟨rfl, rfl⟩ | ⟨g, cp, cur, rfl, hg1, hg2, hg3, hg4, hg5, hg6⟩
    · have hxs : xs = [] := List.eq_nil_of_length_eq_zero (by simpa using hown.1)
      subst hxs
      exact wpList_append_own _ hgd s x 35 ho w.heap.size 5 i0 (.int .u8 0) 1 1 Tryz.underlying35 hi hz0 hz1 hz2 rfl (by decide) _ 0 [] hs (World.ownsRow_nil w _ _ _) y L.length cap (bvs L) hxe hln hsrc (bvs_oneL _) (by unfold maxLen; omega) (by omega) (Nat.le_refl _)
        (fun v' w' h1 h2 _ => h v' w' (own_mono h1 hbase) h2 (fun k hk => .inr (h1.lt k hk).1))
    · by_cases hf : n + L.length ≤ cp
      · exact wpList_append_fits _ hgd s x 35 ho base 5 i0 1 Tryz.underlying35 hi hz1 g n cp xs hs hown y L.length cap (bvs L) hxe hln hsrc (bvs_oneL _) hf
          (fun w' h1 h2 => h _ w' h1 h2 (fun k hk => .inl hk))
      · exact wpList_append_grows _ hgd s x 35 ho 5 i0 (.int .u8 0) 1 1 Tryz.underlying35 hi hz0 hz1 hz2 rfl (by decide) (some ⟨g, 0, none⟩) n cp xs hs (fun e => by cases e) hown.1 (fun b e j u hj => by cases e; exact hown.cells (g := g) rfl j u hj) y L.length cap (bvs L) hxe hln hsrc (bvs_oneL _) (by omega) (by unfold maxLen; omega) (by omega)
          (fun v' w' h1 h2 => h v' w' (own_mono h1 hbase) (grown_weak h2) (fun k hk => .inr (h1.lt k hk).1))
/-- What a writer's method leaves as it was: all but its block and its row; its row is the old one or new. -/
structure Wfr (g : Nat) (v : Value) (w w' : World) (v' : Value) : Prop where
  os : w'.os = w.os
  tape : w'.tape = w.tape
  output : w'.output = w.output
  size : w.heap.size ≤ w'.heap.size
  block : ∀ k, k < w.heap.size → k ≠ g → v.ownBlock ≠ some k → w'.heap[k]? = w.heap[k]?
  row : ∀ k, v'.ownBlock = some k → v.ownBlock = some k ∨ w.heap.size ≤ k
theorem Wfr.refl (g : Nat) (v : Value) (w : World) : Wfr g v w w v := ⟨rfl, rfl, rfl, Nat.le_refl _, fun _ _ _ _ => rfl, fun _ h => .inl h⟩
theorem Wfr.trans {g : Nat} {v v1 v2 : Value} {w w1 w2 : World} (h : Wfr g v w w1 v1) (k : Wfr g v1 w1 w2 v2) : Wfr g v w w2 v2 := by
  refine ⟨k.os.trans h.os, k.tape.trans h.tape, k.output.trans h.output, Nat.le_trans h.size k.size, fun i hi hg hv => ?_, fun i hi => ?_⟩
  · refine (k.block i (Nat.lt_of_lt_of_le hi h.size) hg (fun e => ?_)).trans (h.block i hi hg hv)
    rcases h.row i e with e | e
    · exact hv e
    · omega
  · rcases k.row i hi with e | e
    · exact h.row i e
    · exact .inr (Nat.le_trans h.size e)
theorem Wfr.below {g : Nat} {v v' : Value} {w w1 w2 : World} (h : Wfr g v w w1 v') (k : Below w1.heap.size w1 w2) : Wfr g v w w2 v' :=
  h.trans ⟨k.os, k.tape, k.output, k.size, fun i hi _ _ => k.block i hi, fun _ e => .inl e⟩
theorem Wfr.ofBelow {g : Nat} {v : Value} {w w1 : World} (k : Below w.heap.size w w1) : Wfr g v w w1 v := (Wfr.refl g v w).below k
theorem Wr.ownGe {w : World} {g lim e k : Nat} {v : Value} {L : List Nat} (H : Wr w g lim v L e) (h : v.ownBlock = some k) : g + 1 ≤ k ∧ k < w.heap.size := H.own.lt k h
theorem Wr.below {w w' : World} {g lim e : Nat} {v : Value} {L : List Nat} (H : Wr w g lim v L e) (hB : Below w.heap.size w w') : Wr w' g lim v L e :=
  ⟨H.blk.below hB H.blk.lt, own_same H.own (fun k hk => hB.block k (H.ownGe hk).2), H.byte, H.le, H.lim⟩
theorem Wr.bex {w w' : World} {c g lim e : Nat} {v : Value} {L : List Nat} (H : Wr w g lim v L e) (hB : Bex c w w') (hg : g ≠ c) (hc : v.ownBlock ≠ some c) : Wr w' g lim v L e :=
  ⟨hB.blk H.blk hg, own_same H.own (fun k hk => hB.block k (H.ownGe hk).2 (fun e => hc (e ▸ hk))), H.byte, H.le, H.lim⟩
/-- Below a writer's block nothing turns. -/
theorem Wfr.toBelow {w w' : World} {g lim e : Nat} {v v' : Value} {L : List Nat} (h : Wfr g v w w' v') (H : Wr w g lim v L e) : Below g w w' :=
  ⟨h.os, h.tape, h.output, h.size, fun k hk => h.block k (by have := H.blk.lt; omega) (by omega) (fun e => by have := (H.ownGe e).1; omega)⟩

theorem w_eq_same (g : Nat) (w : World) : (binOp .neq 115 (.pointer (some ⟨g, 0, none⟩)) (.pointer (some ⟨g, 0, none⟩))).run Tryz.prog w = .ok (.bool false) w := by
  obtain ⟨j, hj⟩ : ∃ j, Tryz.prog.info? 193 = some j := Option.isSome_iff_exists.1 (by kernel_rfl)
  have q := run_eql_ptr_same (P := Tryz.prog) w ⟨g, 0, none⟩ Tryz.underlying115 hj
  simp only [binOp] at q ⊢
  have h2 : (Op.equal 115 (.pointer (some ⟨g, 0, none⟩)) (.pointer (some ⟨g, 0, none⟩))).run Tryz.prog w = .ok true w := by
    cases hq : (Op.equal 115 (.pointer (some ⟨g, 0, none⟩)) (.pointer (some ⟨g, 0, none⟩))).run Tryz.prog w with
    | ok b w2 => simp [hq] at q; obtain ⟨rfl, rfl⟩ := q; rfl
    | _ => simp [hq] at q
  simp [h2]
theorem w_ne_nil (a : Addr) (w : World) : (binOp .eql 115 (.pointer (some a)) (.pointer none)).run Tryz.prog w = .ok (.bool false) w := by
  have h : ∀ d : Nat, (Op.equalIn (d + 1) 115 (.pointer (some a)) (.pointer none)).run Tryz.prog w = .ok false w := fun d => by
    simp [Op.equalIn, run_underlying Tryz.underlying115]
  simp only [binOp]
  simp [Op.equal, Op.maxDepth, h 9999]

set_option maxRecDepth 20000 in
theorem refusal_any {w : World} {g lim e : Nat} {v : Value} {L : List Nat} (H : Wr w g lim v L e) :
    Calls Tryz.prog 148 #[.pointer (some ⟨g, 0, none⟩)] w fun e' w' => e' = .returned (.int .i64 (e : Nat)) ∧ w = w' := by
  have h0 : w.cell? ⟨g, 0, none⟩ = some (.pointer (some ⟨g, 0, none⟩)) := H.blk.cell 0
  have h3 : w.cell? ⟨g, 3, none⟩ = some (.int .i64 (e : Nat)) := H.blk.cell 3
  have q1 := w_eq_same g w
  have q2 := w_ne_nil ⟨g, 0, none⟩ w
  clear H
  go_enter Tryz.func148, Tryz.ntmps148
  go_wp2
  go_ret
  exact ⟨rfl, rfl⟩
/-! Pieces. -/
structure Pc where
  p : Option Addr
  cap : Nat
  L : List Nat
def pcV (x : Pc) : Value := .slice x.p x.L.length x.cap
def joinP (l : List Pc) : List Nat := l.flatMap (·.L)
theorem joinP_take {l : List Pc} {i : Nat} (h : i < l.length) : joinP (l.take (i + 1)) = joinP (l.take i) ++ l[i].L := by
  unfold joinP
  rw [List.take_add_one, List.getElem?_eq_getElem h, List.flatMap_append]
  simp
/-- The pieces lie apart from the writer. -/
structure Pcs (w : World) (g : Nat) (v : Value) (pb : Nat) (l : List Pc) : Prop where
  blk : Blk w pb (l.map pcV) 35
  out : pb ≠ g ∧ v.ownBlock ≠ some pb
  bs : ∀ x ∈ l, ByS w x.p x.cap x.L
  apart : ∀ x ∈ l, ∀ a, x.p = some a → 0 < x.L.length → a.block ≠ g ∧ v.ownBlock ≠ some a.block
theorem Pcs.wfr {w w' : World} {g pb : Nat} {v v' : Value} {l : List Pc} (H : Pcs w g v pb l) (h : Wfr g v w w' v') : Pcs w' g v' pb l := by
  have hlt : ∀ k, k < w.heap.size → v.ownBlock ≠ some k → v'.ownBlock ≠ some k := fun k hk hv e => by
    rcases h.row k e with e | e
    · exact hv e
    · omega
  have cl : ∀ x ∈ l, ∀ a, x.p = some a → 0 < x.L.length → a.block < w.heap.size := fun x hx a ha h0 => by
    have := cell_lt ((H.bs x hx).cell a ha 0 h0)
    rwa [add_block] at this
  refine ⟨(h.block pb H.blk.lt H.out.1 H.out.2).trans H.blk, ⟨H.out.1, hlt pb H.blk.lt H.out.2⟩, fun x hx => ?_, fun x hx a ha h0 => ⟨(H.apart x hx a ha h0).1, hlt _ (cl x hx a ha h0) (H.apart x hx a ha h0).2⟩⟩
  have hb := H.bs x hx
  refine ⟨hb.byte, hb.le, hb.none, fun a ha i hi => ?_⟩
  rw [← hb.cell a ha i hi]
  have ho := H.apart x hx a ha (by omega)
  refine World.cell?_of_block ?_
  rw [add_block]
  exact h.block a.block (cl x hx a ha (by omega)) ho.1 ho.2
theorem Pcs.get {w : World} {g pb : Nat} {v : Value} {l : List Pc} (H : Pcs w g v pb l) {i : Nat} (hi : i < l.length) : w.cell? ⟨pb, i, none⟩ = some (.slice l[i].p l[i].L.length l[i].cap) := by
  rw [H.blk.cell i, List.getElem?_map, List.getElem?_eq_getElem hi]; rfl

theorem joinP_le (l : List Pc) (k : Nat) : (joinP (l.take k)).length ≤ (joinP l).length := by
  have h : joinP l = joinP (l.take k) ++ joinP (l.drop k) := by unfold joinP; rw [← List.flatMap_append, List.take_append_drop]
  rw [h, List.length_append]; omega
/-- A piece is hung on and stored. -/
theorem put_step {w w2 : World} {g lim n : Nat} {v v2 : Value} {L X : List Nat} (H : Wr w g lim v L 0) (ho : w2.ownsRow (g + 1) 5 1 v2 n (bvs L ++ bvs X)) (hg : w.grownBy w2 v.ownBlock) (hX : ∀ x ∈ X, x < 256) (hs : L.length + X.length ≤ lim) (hn : n = L.length + X.length) (hr : ∀ k, v2.ownBlock = some k → v.ownBlock = some k ∨ w.heap.size ≤ k) :
    w2.cell? ⟨g, 2, none⟩ = some v ∧ w2.frozen? ⟨g, 2, none⟩ = false ∧ Wr (w2.setCell ⟨g, 2, none⟩ v2) g lim v2 (L ++ X) 0 ∧ Wfr g v w (w2.setCell ⟨g, 2, none⟩ v2) v2 := by
  have hng : v.ownBlock ≠ some g := fun e => by have := (H.ownGe e).1; omega
  have hblk : Blk w2 g [.pointer (some ⟨g, 0, none⟩), .int .i64 (lim : Nat), v, .int .i64 (0 : Nat)] 193 := (hg.block g H.blk.lt (fun e => hng e.symm)).trans H.blk
  have hbt := (But.refl g w2).setCell 2 v2
  refine ⟨hblk.cell 2, hblk.free 2, ⟨hblk.set 2 v2, ?_, ?_, ?_, H.lim⟩, ?_⟩
  · subst hn
    have e : bvs (L ++ X) = bvs L ++ bvs X := by unfold bvs; rw [List.map_append]
    rw [e, List.length_append]
    exact own_same ho (fun k hk => hbt.block k (fun e => by have := (ho.lt k hk).1; omega))
  · intro x hx
    rcases List.mem_append.1 hx with h | h
    · exact H.byte x h
    · exact hX x h
  · rw [List.length_append]; exact hs
  · refine ⟨hbt.os.trans hg.os, hbt.tape.trans hg.tape, hbt.output.trans hg.output, by rw [hbt.size]; exact hg.size, fun k hk hkg hkv => (hbt.block k hkg).trans (hg.block k hk (fun e => hkv e.symm)), hr⟩
set_option maxRecDepth 20000 in
set_option maxHeartbeats 4000000 in
theorem put_ok {w : World} {g lim pb pcap : Nat} {v : Value} {L : List Nat} {l : List Pc} (H : Wr w g lim v L 0) (HP : Pcs w g v pb l) (hl : l.length ≤ 2) (hs : L.length + (joinP l).length ≤ lim) :
    Calls Tryz.prog 150 #[.pointer (some ⟨g, 0, none⟩), .slice (some ⟨pb, 0, none⟩) l.length pcap] w fun e' w' => e' = .returned (.int .i64 0) ∧ ∃ v', Wr w' g lim v' (L ++ joinP l) 0 ∧ Wfr g v w w' v' := by
  obtain ⟨p0, c0, rfl⟩ := own_slice H.own
  have HR := hidp (refusal_any H)
  have h1 : w.cell? ⟨g, 1, none⟩ = some (.int .i64 (lim : Nat)) := H.blk.cell 1
  have h2 : w.cell? ⟨g, 2, none⟩ = some (.slice p0 L.length c0) := H.blk.cell 2
  have HH := hidp H
  have HPP := hidp HP
  have HL : Hid (l.length ≤ 2 ∧ L.length + (joinP l).length ≤ 4000000 ∧ L.length + (joinP l).length ≤ lim) := hidp ⟨hl, by have := H.lim; omega, hs⟩
  have hlim := H.lim
  have hlen : L.length ≤ 1048576 := Nat.le_trans H.le H.lim
  clear H HP hl hs
  go_enter Tryz.func150, Tryz.ntmps150
  go_wp2_with (go_at_call 148; refine HR.out.mono ?_; rintro e wx ⟨rfl, rfl⟩)
  go_loopw [6, 23] (fun x i wr => ∃ k A : Nat, k ≤ l.length ∧ i = .int .i64 k ∧ x = .int .i64 A ∧ Hid (A = L.length + (joinP (l.take k)).length) ∧ w = wr) (fun _ i _ => l.length - (Go.RowKit.intOf i).toNat)
  case atStart => exact ⟨0, L.length, by omega, rfl, rfl, hidp (by simp [joinP]), rfl⟩
  case round =>
    obtain ⟨k, A, hk, rfl, rfl, hA, rfl⟩ := hrel
    by_cases hlt : k < l.length
    · have hc := HPP.out.get hlt
      have hj := joinP_take hlt
      have hjl : (joinP (l.take (k + 1))).length = (joinP (l.take k)).length + l[k].L.length := by rw [hj, List.length_append]
      have hjm := joinP_le l (k + 1)
      have hA2 : A + l[k].L.length ≤ 4000000 := by have := hA.out; have := HL.out.2.1; omega
      have hN : Hid (A + l[k].L.length = L.length + (joinP (l.take (k + 1))).length) := hidp (by rw [hjl, hA.out]; omega)
      generalize l[k].L.length = m at hc hA2 hN
      generalize l[k].p = pp at hc
      generalize l[k].cap = cc at hc
      have hw1 : wrap64 ((A : Int) + (m : Int)) = ((A + m : Nat) : Int) := by rw [w64 _ (by omega)]; omega
      have hw2 : (A : Int) + (m : Int) = ((A + m : Nat) : Int) := by omega
      have hll : l.length ≤ 2 := HL.out.1
      clear hj hjl hjm hA
      obtain ⟨A2, hA2e⟩ : ∃ A2, A2 = A + m := ⟨_, rfl⟩
      rw [← hA2e] at hw1 hw2 hN
      have hw3 : wrap64 (A2 : Int) = (A2 : Int) := w64 _ (by omega)
      have hw4 : Hid (wrap64 (A2 : Int) = (A2 : Int)) := hidp hw3
      clear hA2e hA2
      go_wp2
      exact ⟨⟨k + 1, A2, by omega, by go_num, by first | rfl | (rw [hw4.out]), hN, trivial⟩, by simp [Go.RowKit.intOf]; omega⟩
    · obtain rfl : k = l.length := by omega
      rw [List.take_length] at hA
      have hA := hidp hA.out
      have hgt : decide (lim < A) = false := decide_eq_false (by have := HL.out.2.2; have := hA.out; omega)
      clear hk hlt h2
      go_wp2
      clear hgt h1
      go_loopw [42] (fun i wr => ∃ k : Nat, k ≤ l.length ∧ i = .int .i64 k ∧ Hid (∃ v', Wr wr g lim v' (L ++ joinP (l.take k)) 0 ∧ Wfr g (.slice p0 L.length c0) w wr v')) (fun i _ => l.length - (Go.RowKit.intOf i).toNat)
      case atStart => exact ⟨0, by omega, rfl, hidp ⟨_, by simpa [joinP] using HH.out, Wfr.refl _ _ _⟩⟩
      case round =>
        obtain ⟨k, hk, rfl, hr⟩ := hrel
        by_cases hlt : k < l.length
        · obtain ⟨v', hW, hF⟩ := hr.out
          obtain ⟨p', c', rfl⟩ := own_slice hW.own
          have HPk := HPP.out.wfr hF
          have hc := HPk.get hlt
          have hb := hidp (HPk.bs _ (List.getElem_mem hlt))
          have hj := hidp (joinP_take hlt)
          have hc2 : wr.cell? ⟨g, 2, none⟩ = some (.slice p' (L ++ joinP (l.take k)).length c') := hW.blk.cell 2
          have hf2 := hW.blk.free 2
          have hjl : (joinP (l.take (k + 1))).length = (joinP (l.take k)).length + l[k].L.length := by rw [hj.out, List.length_append]
          have hjm := joinP_le l (k + 1)
          have hsum : Hid ((L ++ joinP (l.take k)).length + l[k].L.length ≤ lim) := hidp (by rw [List.length_append]; have := HL.out.2.2; omega)
          have hWW := hidp hW
          have hFF := hidp hF
          have hll : l.length ≤ 2 := HL.out.1
          generalize hX : l[k].L = X at hc hb hj hsum
          generalize l[k].p = pp at hc hb
          generalize l[k].cap = cc at hc hb
          obtain ⟨Lk, hLk⟩ : ∃ Lk, Lk = L ++ joinP (l.take k) := ⟨_, rfl⟩
          rw [← hLk] at hc2 hsum hWW hFF
          replace hLk := hidp hLk
          clear hr hW hF HPk hjl hjm hX
          go_wp2_with (at_builtin; refine wpList_append_byW rfl _ _ rfl (g + 1) Lk.length (bvs Lk) _ rfl hWW.out.own pp cc X rfl hb.out (by have := hsum.out; have := hWW.out.lim; omega) (by have := hWW.out.blk.lt; omega) ?_; intro v2 w2 hown2 hgrow2 hrow2; obtain ⟨p2, c2, rfl⟩ := own_slice hown2; have hS := hidp (put_step hWW.out hown2 hgrow2 hb.out.byte hsum.out rfl hrow2); have hc3 := hS.out.1; have hf3 := hS.out.2.1; clear hown2 hgrow2 hrow2)
          refine ⟨⟨k + 1, by omega, by go_num, hidp ⟨_, ?_, hFF.out.trans hS.out.2.2.2⟩⟩, by simp [Go.RowKit.intOf]; omega⟩
          have e : Lk ++ X = L ++ joinP (l.take (k + 1)) := by rw [hLk.out, List.append_assoc, ← hj.out]
          rw [← e]
          exact hS.out.2.2.1
        · obtain rfl : k = l.length := by omega
          rw [List.take_length] at hr
          have hr := hidp hr.out
          go_wp2
          go_ret
          obtain ⟨v', h1, h2⟩ := hr.out
          exact ⟨rfl, v', h1, h2⟩
end Go.Proofs.YtcmkmnidnapabaaGreat

/-! Jn: Contracts: a writer's methods. -/
namespace Go.Proofs.YtcmkmnidnapabaaGreat
open Go.RowKit Go.Lib Go.Maps

theorem joinP_one (x : Pc) : joinP [x] = x.L := by simp [joinP]
theorem joinP_two (x y : Pc) : joinP [x, y] = x.L ++ y.L := by simp [joinP]
theorem pcs_one {w w2 : World} {g lim : Nat} {v : Value} {L : List Nat} {e : Nat} (H : Wr w g lim v L e) {p : Option Addr} {b o cap : Nat} {X : List Nat} (hs : Bs w2 p b o X cap) (hb : 0 < cap → w.heap.size ≤ b) (hp : p = none → cap = 0) {pb : Nat} (hpb : w.heap.size ≤ pb)
    (hblk : Blk w2 pb [.slice p X.length cap] 35) : Pcs w2 g v pb [⟨p, cap, X⟩] := by
  have hg := H.blk.lt
  have hv : ∀ k, w.heap.size ≤ k → v.ownBlock ≠ some k := fun k hk e => by have := (H.ownGe e).2; omega
  refine ⟨hblk, ⟨by omega, hv pb hpb⟩, fun x hx => ?_, fun x hx a ha h0 => ?_⟩
  · simp only [List.mem_singleton] at hx
    subst hx
    exact ByS.of_bs hs hp
  · simp only [List.mem_singleton] at hx
    subst hx
    have h1 := hs.le
    simp only at h0 ha
    obtain ⟨h2, h3⟩ := hs.ptr (by omega)
    rw [ha] at h2
    cases h2
    have h4 := hb (by omega)
    exact ⟨by simp only; omega, hv b h4⟩
/-- What a method that writes leaves. -/
def PutP (w : World) (g lim : Nat) (v : Value) (L : List Nat) (e : Ending) (w' : World) : Prop := e = .returned (.int .i64 0) ∧ ∃ v', Wr w' g lim v' L 0 ∧ Wfr g v w w' v'
theorem PutP.of {w w1 w' : World} {g lim : Nat} {v : Value} {L : List Nat} (hB : Below w.heap.size w w1) (h : ∃ v', Wr w' g lim v' L 0 ∧ Wfr g v w1 w' v') : PutP w g lim v L (.returned (.int .i64 0)) w' := by
  obtain ⟨v', h1, h2⟩ := h
  exact ⟨rfl, v', h1, (Wfr.ofBelow hB).trans h2⟩

/-- What a method that is too long leaves. -/
def LongP (w : World) (g lim : Nat) (e : Ending) (w' : World) : Prop := e = .returned (.int .i64 4) ∧ Wr w' g lim (.slice none 0 0) [] 4 ∧ Bex g w w'
theorem put1 {w w2 : World} {g lim : Nat} {v : Value} {L : List Nat} (H : Wr w g lim v L 0) (hB : Below w.heap.size w w2) {p : Option Addr} {b o cap : Nat} {X : List Nat} (hs : Bs w2 p b o X cap) (hb : 0 < cap → w.heap.size ≤ b) (hp : p = none → cap = 0) {pb : Nat} (hpb : w.heap.size ≤ pb)
    (hblk : Blk w2 pb [.slice p X.length cap] 35) (hfit : L.length + X.length ≤ lim) (pcap : Nat) :
    Calls Tryz.prog 150 #[.pointer (some ⟨g, 0, none⟩), .slice (some ⟨pb, 0, none⟩) 1 pcap] w2 (PutP w g lim v (L ++ X)) := by
  have q := put_ok (pcap := pcap) (H.below hB) (pcs_one H hs hb hp hpb hblk) (by simp) (by rw [joinP_one]; exact hfit)
  rw [joinP_one] at q
  exact q.mono fun e w' ⟨he, h⟩ => by subst he; exact PutP.of hB h
/-! Num. -/
theorem num_piece {w w1 : World} {n k : Nat} (hk : k ≤ 8) (hb : Blk w1 w.heap.size (bvs (numF n k)) 256) (o : Obj) : Bs (w1.alloc o) (some ⟨w.heap.size, 8 - k, none⟩) w.heap.size (8 - k) (numB n k) (k + 1) := numF_bs hk (hb.alloc o)

set_option maxRecDepth 20000 in
theorem wNum_ok {w : World} {g lim : Nat} {v : Value} {L : List Nat} (H : Wr w g lim v L 0) (n k : Nat) (hn : n < 9223372036854775808) (hd : Digs n k) (hs : L.length + (k + 1) ≤ lim) :
    Calls Tryz.prog 77 #[.pointer (some ⟨g, 0, none⟩), .int .i64 (n : Nat)] w (PutP w g lim v (L ++ numB n k)) := by
  have HR := hidp (refusal_any H)
  have HN := hidp (numForm_any n k w hn hd)
  have HH := hidp H
  have HS := hidp (And.intro hs hd.2.2)
  have hnn : decide ((n : Int) < 0) = false := decide_eq_false (by omega)
  clear H hn hd hs
  go_enter Tryz.func77, Tryz.ntmps77
  go_wp2_with (first | (go_at_call 148; refine HR.out.mono ?_; rintro e wx ⟨rfl, rfl⟩) | (go_at_call 151; refine HN.out.mono ?_; rintro e w1 ⟨rfl, hb1, hB1⟩; have hb1 := hidp hb1; have hB1 := hidp hB1) | fail)
  have hsz := hB1.out.size
  have hlen := numB_len n HS.out.2
  refine (put1 HH.out (hB1.out.alloc hsz _) (num_piece HS.out.2 hb1.out _) (fun _ => Nat.le_refl _) (fun h => by cases h) hsz (by rw [hlen]; exact Blk.new _ _ _) (by rw [hlen]; exact HS.out.1) _).mono ?_
  rintro e w2 ⟨rfl, h⟩
  replace h := hidp h
  clear hsz hlen
  go_wp2
  go_ret
  exact ⟨rfl, h.out⟩

/-! Bool. -/
theorem new_piece (w : World) (X : List Nat) (hX : ∀ x ∈ X, x < 256) (T : TypeId) (o : Obj) : Bs ((w.alloc (.cells (bvs X).toArray T)).alloc o) (some ⟨w.heap.size, 0, none⟩) w.heap.size 0 X X.length :=
  ⟨hX, Nat.le_refl _, fun _ => ⟨rfl, by simp; omega⟩, fun i hi => by rw [Nat.zero_add, ((Blk.new w (bvs X) T).alloc o).cell i]; exact bvs_get hi⟩
def bN (is : Bool) : Nat := if is then 1 else 0

end Go.Proofs.YtcmkmnidnapabaaGreat

/-! Jo: Contracts: a writer's Word, Bytes, Text, Done; new writers and readers. -/
namespace Go.Proofs.YtcmkmnidnapabaaGreat
open Go.RowKit Go.Lib Go.Maps

/-! Word. -/
def formW (n i : Nat) : List Nat := (List.range 8).map fun j => if 8 - i ≤ j then n / 256 ^ (7 - j) % 256 else 0
theorem formW_len (n i : Nat) : (formW n i).length = 8 := by unfold formW; simp
theorem formW_zero (n : Nat) : formW n 0 = List.replicate 8 0 := by unfold formW; rfl
theorem formW_set (n : Nat) {i : Nat} (hi : i < 8) : (formW n i).set (7 - i) (n / 256 ^ i % 256) = formW n (i + 1) := by
  apply List.ext_getElem?
  intro j
  unfold formW
  rw [List.getElem?_set]
  by_cases h : 7 - i = j
  · subst h
    rw [if_pos rfl, if_pos (by simp; omega), List.getElem?_map, List.getElem?_range (by omega), Option.map_some, if_pos (by omega), show 7 - (7 - i) = i by omega]
  · rw [if_neg h, List.getElem?_map, List.getElem?_map]
    by_cases hj : j < 8
    · rw [List.getElem?_range hj, Option.map_some, Option.map_some]
      by_cases h2 : 8 - i ≤ j
      · rw [if_pos h2, if_pos (by omega)]
      · rw [if_neg h2, if_neg (by omega)]
    · rw [List.getElem?_eq_none (by simp; omega)]; rfl
def wordB (n : Nat) : List Nat := formW n 8
theorem wordB_len (n : Nat) : (wordB n).length = 8 := formW_len n 8
theorem formW_byte (n i : Nat) : ∀ x ∈ formW n i, x < 256 := by
  intro x hx
  unfold formW at hx
  simp only [List.mem_map] at hx
  obtain ⟨j, _, rfl⟩ := hx
  split
  · exact Nat.mod_lt _ (by decide)
  · decide
theorem arr_bs {w : World} {B : Nat} {X : List Nat} {T : TypeId} (hX : ∀ x ∈ X, x < 256) (h : Blk w B (bvs X) T) : Bs w (some ⟨B, 0, none⟩) B 0 X X.length :=
  ⟨hX, Nat.le_refl _, fun _ => ⟨rfl, h.lt⟩, fun i hi => by rw [Nat.zero_add, h.cell i]; exact bvs_get hi⟩

set_option maxRecDepth 20000 in
set_option maxHeartbeats 4000000 in
theorem wWord_ok {w : World} {g lim : Nat} {v : Value} {L : List Nat} (H : Wr w g lim v L 0) (n : Nat) (hn : n < 18446744073709551616) (hs : L.length + 8 ≤ lim) :
    Calls Tryz.prog 107 #[.pointer (some ⟨g, 0, none⟩), .int .u64 (n : Nat)] w (PutP w g lim v (L ++ wordB n)) := by
  have HH := hidp H
  have HS := hidp hs
  have h0 := hidp (Blk.new w (bvs (formW n 0)) 229)
  have hB := hidp ((Below.refl _ w).alloc (Nat.le_refl _) (.cells (bvs (formW n 0)).toArray 229))
  rw [formW_zero] at h0 hB
  clear H hs
  go_enter Tryz.func107, Tryz.ntmps107
  go_wp2
  go_loopw [7] (fun x wr => ∃ i : Nat, i ≤ 8 ∧ x = .int .i64 i ∧ Hid (Blk wr w.heap.size (bvs (formW n i)) 229 ∧ Below w.heap.size w wr)) (fun x _ => 8 - (Go.RowKit.intOf x).toNat)
  case atStart => exact ⟨0, by omega, rfl, by rw [formW_zero]; exact hidp ⟨h0.out, hB.out⟩⟩
  case round =>
    obtain ⟨i, hi, rfl, hr⟩ := hrel
    by_cases hik : i < 8
    · have hset := hidp (formW_set n hik)
      obtain ⟨vo, ho⟩ : ∃ v, wr.cell? ⟨w.heap.size, 7 - i, none⟩ = some v := ⟨_, (hr.out.1.cell (7 - i)).trans (bvs_get (by rw [formW_len]; omega))⟩
      have hfree := hr.out.1.free (7 - i)
      have h8 : i = 0 ∨ i = 1 ∨ i = 2 ∨ i = 3 ∨ i = 4 ∨ i = 5 ∨ i = 6 ∨ i = 7 := by omega
      clear h0 hB hi hik
      rcases h8 with rfl | rfl | rfl | rfl | rfl | rfl | rfl | rfl
      · simp only [Int.cast_ofNat_Int]
        have hv : Hid (((n / 256 ^ 0 % 256 : Nat) : Int) = (n : Int) % 256) := hidp (by omega)
        go_wp2
        refine ⟨⟨0 + 1, by omega, rfl, ?_⟩, by simp [Go.RowKit.intOf]⟩
        rw [← hset.out]
        have hE := hv.out
        try rw [← hE]
        exact hidp ⟨bvs_set _ _ _ ▸ hr.out.1.set _ _, hr.out.2.setCell (by simp) _⟩
      · simp only [Int.cast_ofNat_Int]
        have hv : Hid (((n / 256 ^ 1 % 256 : Nat) : Int) = (n : Int) / 256 % 256) := hidp (by omega)
        go_wp2
        refine ⟨⟨1 + 1, by omega, rfl, ?_⟩, by simp [Go.RowKit.intOf]⟩
        rw [← hset.out]
        have hE := hv.out
        try rw [← hE]
        exact hidp ⟨bvs_set _ _ _ ▸ hr.out.1.set _ _, hr.out.2.setCell (by simp) _⟩
      · simp only [Int.cast_ofNat_Int]
        have hv : Hid (((n / 256 ^ 2 % 256 : Nat) : Int) = (n : Int) / 65536 % 256) := hidp (by omega)
        go_wp2
        refine ⟨⟨2 + 1, by omega, rfl, ?_⟩, by simp [Go.RowKit.intOf]⟩
        rw [← hset.out]
        have hE := hv.out
        try rw [← hE]
        exact hidp ⟨bvs_set _ _ _ ▸ hr.out.1.set _ _, hr.out.2.setCell (by simp) _⟩
      · simp only [Int.cast_ofNat_Int]
        have hv : Hid (((n / 256 ^ 3 % 256 : Nat) : Int) = (n : Int) / 16777216 % 256) := hidp (by omega)
        go_wp2
        refine ⟨⟨3 + 1, by omega, rfl, ?_⟩, by simp [Go.RowKit.intOf]⟩
        rw [← hset.out]
        have hE := hv.out
        try rw [← hE]
        exact hidp ⟨bvs_set _ _ _ ▸ hr.out.1.set _ _, hr.out.2.setCell (by simp) _⟩
      · simp only [Int.cast_ofNat_Int]
        have hv : Hid (((n / 256 ^ 4 % 256 : Nat) : Int) = (n : Int) / 4294967296 % 256) := hidp (by omega)
        go_wp2
        refine ⟨⟨4 + 1, by omega, rfl, ?_⟩, by simp [Go.RowKit.intOf]⟩
        rw [← hset.out]
        have hE := hv.out
        try rw [← hE]
        exact hidp ⟨bvs_set _ _ _ ▸ hr.out.1.set _ _, hr.out.2.setCell (by simp) _⟩
      · simp only [Int.cast_ofNat_Int]
        have hv : Hid (((n / 256 ^ 5 % 256 : Nat) : Int) = (n : Int) / 1099511627776 % 256) := hidp (by omega)
        go_wp2
        refine ⟨⟨5 + 1, by omega, rfl, ?_⟩, by simp [Go.RowKit.intOf]⟩
        rw [← hset.out]
        have hE := hv.out
        try rw [← hE]
        exact hidp ⟨bvs_set _ _ _ ▸ hr.out.1.set _ _, hr.out.2.setCell (by simp) _⟩
      · simp only [Int.cast_ofNat_Int]
        have hv : Hid (((n / 256 ^ 6 % 256 : Nat) : Int) = (n : Int) / 281474976710656 % 256) := hidp (by omega)
        go_wp2
        refine ⟨⟨6 + 1, by omega, rfl, ?_⟩, by simp [Go.RowKit.intOf]⟩
        rw [← hset.out]
        have hE := hv.out
        try rw [← hE]
        exact hidp ⟨bvs_set _ _ _ ▸ hr.out.1.set _ _, hr.out.2.setCell (by simp) _⟩
      · simp only [Int.cast_ofNat_Int]
        have hv : Hid (((n / 256 ^ 7 % 256 : Nat) : Int) = (n : Int) / 72057594037927936) := hidp (by omega)
        go_wp2
        refine ⟨⟨7 + 1, by omega, rfl, ?_⟩, by simp [Go.RowKit.intOf]⟩
        rw [← hset.out]
        have hE := hv.out
        try rw [← hE]
        exact hidp ⟨bvs_set _ _ _ ▸ hr.out.1.set _ _, hr.out.2.setCell (by simp) _⟩
    · obtain rfl : i = 8 := by omega
      simp only [Int.cast_ofNat_Int]
      have hsl := fun w' => run_sliceAt_all (P := Tryz.prog) (t := 229) (e := 5) (n := 8) Tryz.underlying229 (by kernel_rfl) (by decide) w.heap.size 0 w'
      clear h0 hB hi hik
      go_wp2_with fail
      have hsz := hr.out.2.size
      have hlt := hr.out.1.lt
      have hb := (arr_bs (formW_byte n 8) hr.out.1)
      rw [formW_len] at hb
      have hlw : (formW n 8).length = 8 := formW_len n 8
      refine (put1 (X := wordB n) HH.out (hr.out.2.alloc hsz _) (hb.below ((Below.refl _ wr).alloc (Nat.le_refl _) _)) (fun _ => Nat.le_refl _) (fun h => by cases h) hsz (by rw [wordB_len]; exact Blk.new _ _ _) (by rw [wordB_len]; exact HS.out) _).mono ?_
      rintro e w2 ⟨rfl, h⟩
      replace h := hidp h
      clear hsz hlt hb hsl
      go_wp2
      go_ret
      exact ⟨rfl, h.out⟩

end Go.Proofs.YtcmkmnidnapabaaGreat

/-! Jp: Contracts: a writer's Bytes, Text, Done; new writers and readers. -/
namespace Go.Proofs.YtcmkmnidnapabaaGreat
open Go.RowKit Go.Lib Go.Maps

theorem PutP.lift {w w1 w' : World} {g lim : Nat} {v : Value} {L : List Nat} {e : Ending} (hB : Below w.heap.size w w1) (h : PutP w1 g lim v L e w') : PutP w g lim v L e w' := by
  obtain ⟨h1, h2⟩ := h
  rw [h1]
  exact PutP.of hB h2
theorem Bs.apart {w : World} {g lim e : Nat} {v : Value} {L : List Nat} (H : Wr w g lim v L e) {w2 : World} {p : Option Addr} {b o cap : Nat} {X : List Nat} (hs : Bs w2 p b o X cap) (hb : 0 < cap → w.heap.size ≤ b) : ∀ a, p = some a → 0 < X.length → a.block ≠ g ∧ v.ownBlock ≠ some a.block := by
  intro a ha h0
  have h1 := hs.le
  obtain ⟨h2, _⟩ := hs.ptr (by omega)
  rw [ha] at h2
  cases h2
  have h4 := hb (by omega)
  have hg := H.blk.lt
  exact ⟨by simp only; omega, fun e => by have h5 : b < w.heap.size := (H.ownGe e).2; omega⟩
set_option maxRecDepth 20000 in
theorem wBytes_ok {w : World} {g lim : Nat} {v : Value} {L : List Nat} (H : Wr w g lim v L 0) (p : Option Addr) (b o cap : Nat) (X : List Nat) (hX : Bs w p b o X cap) (hp : p = none → cap = 0) (hap : ∀ a, p = some a → 0 < X.length → a.block ≠ g ∧ v.ownBlock ≠ some a.block)
    (k : Nat) (hd : Digs X.length k) (hs : L.length + (k + 1) + X.length ≤ lim) :
    Calls Tryz.prog 116 #[.pointer (some ⟨g, 0, none⟩), .slice p X.length cap] w (PutP w g lim v (L ++ (numB X.length k ++ X))) := by
  have hlm := H.lim
  have HN := hidp (numForm_any X.length k w (by omega) hd)
  have HH := hidp H
  have HX := hidp (And.intro hX (And.intro hp hap))
  have HS := hidp (And.intro hs hd.2.2)
  clear H hd hs hX hp hap hlm
  go_enter Tryz.func116, Tryz.ntmps116
  go_wp2_with (first | (go_at_call 151; refine HN.out.mono ?_; rintro e w1 ⟨rfl, hb1, hB1⟩; have hb1 := hidp hb1; have hB1 := hidp hB1) | fail)
  have hsz := hB1.out.size
  have hlen := numB_len X.length HS.out.2
  have hB2 : Below w.heap.size w (w1.alloc (.cells #[.slice (some ⟨w.heap.size, 8 - k, none⟩) (k + 1) (k + 1), .slice p X.length cap] 35)) := hB1.out.alloc hsz _
  have hpb : Blk (w1.alloc (.cells #[.slice (some ⟨w.heap.size, 8 - k, none⟩) (k + 1) (k + 1), .slice p X.length cap] 35)) w1.heap.size [.slice (some ⟨w.heap.size, 8 - k, none⟩) (numB X.length k).length (k + 1), .slice p X.length cap] 35 := by rw [hlen]; exact Blk.new _ _ _
  have hg := HH.out.blk.lt
  have hPc : Pcs (w1.alloc (.cells #[.slice (some ⟨w.heap.size, 8 - k, none⟩) (k + 1) (k + 1), .slice p X.length cap] 35)) g v w1.heap.size [⟨some ⟨w.heap.size, 8 - k, none⟩, k + 1, numB X.length k⟩, ⟨p, cap, X⟩] := by
    refine ⟨hpb, ⟨by omega, fun e => by have := (HH.out.ownGe e).2; omega⟩, fun x hx => ?_, fun x hx a ha h0 => ?_⟩
    · simp only [List.mem_cons, List.not_mem_nil, or_false] at hx
      rcases hx with rfl | rfl
      · exact ByS.of_bs (num_piece HS.out.2 hb1.out _) (fun h => by cases h)
      · exact ByS.of_bs (HX.out.1.below hB2) HX.out.2.1
    · simp only [List.mem_cons, List.not_mem_nil, or_false] at hx
      rcases hx with rfl | rfl
      · exact Bs.apart HH.out (num_piece HS.out.2 hb1.out (.cells #[] 5)) (fun _ => Nat.le_refl _) a ha h0
      · exact HX.out.2.2 a ha h0
  have q := put_ok (pcap := 2) (HH.out.below hB2) hPc (by simp) (by rw [joinP_two]; simp only [List.length_append, hlen]; have := HS.out.1; omega)
  rw [joinP_two] at q
  refine q.mono ?_
  rintro e w2 ⟨rfl, h⟩
  have h := hidp (PutP.of hB2 h)
  clear q hPc hpb hB2 hsz hlen
  go_wp2
  go_ret
  exact h.out

/-! Text. -/
def strL (s : ByteArray) : List Nat := s.data.toList.map (·.toNat)
theorem strL_len (s : ByteArray) : (strL s).length = s.size := by unfold strL; rw [List.length_map, Array.length_toList]; rfl
theorem bytesW_below (w : World) (s : ByteArray) : Below w.heap.size w (bytesWorld w 5 s) := by
  refine ⟨rfl, rfl, rfl, by rw [bytesWorld_size]; omega, fun k hk => bytesWorld_at_old w _ s k hk⟩
theorem bytesW_bs (w : World) (s : ByteArray) : Bs (bytesWorld w 5 s) (some ⟨w.heap.size, 0, none⟩) w.heap.size 0 (strL s) (grownCap w s.size 0 5) := by
  refine ⟨fun x hx => ?_, by rw [strL_len]; exact grownCap_ge _ _ _ _, fun _ => ⟨rfl, by rw [bytesWorld_size]; omega⟩, fun i hi => ?_⟩
  · unfold strL at hx
    obtain ⟨y, _, rfl⟩ := List.mem_map.1 hx
    exact y.toNat_lt
  · rw [strL_len] at hi
    rw [Nat.zero_add, bytesWorld_cell w _ s i hi]
    unfold strL
    have h2 : i < s.data.toList.length := by rw [Array.length_toList]; exact hi
    rw [List.getD_eq_getElem?_getD, List.getD_eq_getElem?_getD, List.getElem?_map, List.getElem?_eq_getElem h2]
    rfl
set_option maxRecDepth 20000 in
theorem wText_ok {w : World} {g lim : Nat} {v : Value} {L : List Nat} (H : Wr w g lim v L 0) (s : ByteArray) (k : Nat) (hd : Digs s.size k) (hs : L.length + (k + 1) + s.size ≤ lim) :
    Calls Tryz.prog 179 #[.pointer (some ⟨g, 0, none⟩), .string s] w (PutP w g lim v (L ++ (numB s.size k ++ strL s))) := by
  have kc := fun W : World => _root_.Go.Lib.run_convert_string_bytes (P := Tryz.prog) W 9 35 5 s Tryz.underlying9 Tryz.underlying35 Tryz.underlying5
  have q := wBytes_ok (H.below (bytesW_below w s)) _ _ _ _ (strL s) (bytesW_bs w s) (fun h => by cases h) (Bs.apart H (bytesW_bs w s) (fun _ => Nat.le_refl _)) k (by rw [strL_len]; exact hd) (by rw [strL_len]; exact hs)
  rw [strL_len] at q
  have Q := hidp (q.mono fun e w' h => PutP.lift (bytesW_below w s) h)
  clear q H hd hs
  go_enter Tryz.func179, Tryz.ntmps179
  go_wp2_with fail
  refine Q.out.mono ?_
  rintro e w2 ⟨rfl, h⟩
  replace h := hidp h
  go_wp2
  go_ret
  exact ⟨rfl, h.out⟩

/-! Done. -/
def DoneP (w : World) (L : List Nat) (e : Ending) (w' : World) : Prop := (∃ p b cap, e = .returned (.tuple #[.slice p L.length cap, .int .i64 0]) ∧ w.heap.size ≤ b ∧ (p = none → cap = 0) ∧ Bs w' p b 0 L cap) ∧ Below w.heap.size w w'
theorem own_byS {w : World} {base g c : Nat} {L : List Nat} (h : w.ownsRow base 5 1 (.slice (some ⟨g, 0, none⟩) L.length c) L.length (bvs L)) (hb : ∀ x ∈ L, x < 256) : ByS w (some ⟨g, 0, none⟩) c L := by
  refine ⟨hb, ?_, fun h => (by cases h), fun x hx i hi => ?_⟩
  · rcases h.2 with ⟨h1, _⟩ | ⟨g', cap, cur, h1, _, _, h4, _⟩
    · cases h1
    · cases h1; exact h4
  · cases hx
    have := h.cells (g := g) rfl i (.int .u8 (L.getD i 0 : Nat)) (bvs_get hi)
    exact this
set_option maxRecDepth 20000 in
theorem wDone_ok {w : World} {g lim : Nat} {v : Value} {L : List Nat} (H : Wr w g lim v L 0) :
    Calls Tryz.prog 79 #[.pointer (some ⟨g, 0, none⟩)] w (DoneP w L) := by
  have HR := hidp (refusal_any H)
  have h2 : w.cell? ⟨g, 2, none⟩ = some v := H.blk.cell 2
  have hlm := H.lim
  have hle := H.le
  rcases H.own.2 with ⟨rfl, hn⟩ | ⟨gr, c, cur, rfl, _⟩
  · obtain rfl : L = [] := List.eq_nil_of_length_eq_zero hn
    clear H hn
    go_enter Tryz.func79, Tryz.ntmps79
    go_wp2_with (go_at_call 148; refine HR.out.mono ?_; rintro e wx ⟨rfl, rfl⟩)
    refine (clone_none _).mono ?_
    rintro e wx ⟨rfl, rfl⟩
    go_wp2
    go_ret2
    exact ⟨⟨none, w.heap.size, 0, rfl, Nat.le_refl _, fun _ => rfl, by simp, by simp, fun h0 => absurd h0 (by omega), fun i hi => absurd hi (by simp)⟩, Below.refl _ _⟩
  · have HC := hidp (clone_some ⟨gr, 0, none⟩ c L w (own_byS H.own H.byte))
    have HL := hidp (show L.length ≤ 4000000 by omega)
    clear H hlm hle
    go_enter Tryz.func79, Tryz.ntmps79
    go_wp2_with (first | (go_at_call 148; refine HR.out.mono ?_; rintro e wx ⟨rfl, rfl⟩) | (go_at_call 152; refine (HC.out HL.out).mono ?_; rintro e wx ⟨⟨p, b, cap', rfl, hb, hp, hs⟩, hB⟩; have hX := hidp (And.intro hb (And.intro hp (And.intro hs hB))); clear hb hp hs hB))
    go_ret2
    exact ⟨⟨p, b, cap', rfl, hX.out.1, hX.out.2.1, hX.out.2.2.1⟩, hX.out.2.2.2⟩
/-! New ones. -/
set_option maxRecDepth 20000 in
theorem newWriter_any (lim : Nat) (w : World) (hl : lim ≤ 1048576) :
    Calls Tryz.prog 76 #[.int .i64 (lim : Nat)] w fun e w' => e = .returned (.tuple #[.pointer (some ⟨w.heap.size, 0, none⟩), .int .i64 0]) ∧ Wr w' w.heap.size lim (.slice none 0 0) [] 0 ∧ Below w.heap.size w w' := by
  have h1 : decide ((lim : Int) < 0) = false := decide_eq_false (by omega)
  have h2 : decide ((1048576 : Int) < (lim : Int)) = false := decide_eq_false (by omega)
  have HL := hidp hl
  clear hl
  go_enter Tryz.func76, Tryz.ntmps76
  go_wp2
  go_ret2
  refine ⟨rfl, ⟨?_, ⟨rfl, .inl ⟨rfl, rfl⟩⟩, by simp, by simp, HL.out⟩, by (repeat' (first | (with_reducible exact Below.refl _ _) | (with_reducible refine Below.alloc ?_ ?_ _) | (with_reducible refine Below.drew ?_) | (with_reducible refine Below.drewN ?_ _) | (with_reducible refine Below.setCell ?_ ?_ _) | go_size))⟩
  exact Blk.new w [.pointer (some ⟨w.heap.size, 0, none⟩), .int .i64 (lim : Nat), .slice none 0 0, .int .i64 (0 : Nat)] _
def NewP (w : World) (L : List Nat) (e : Ending) (w' : World) : Prop := ∃ g b, e = .returned (.pointer (some ⟨g, 0, none⟩)) ∧ w.heap.size ≤ g ∧ w.heap.size ≤ b ∧ RdX w' g 0 b L 0 0 ∧ Below w.heap.size w w'
end Go.Proofs.YtcmkmnidnapabaaGreat

/-! Jq: Contracts: SameBytes, written, awake. -/
namespace Go.Proofs.YtcmkmnidnapabaaGreat
open Go.RowKit Go.Lib Go.Maps

def wrL : List Nat := [0, 1, 255, 2, 1, 0, 1, 2, 97, 98, 0, 0, 0, 0, 0, 0, 0, 1, 1]
instance Digs.dec (n k : Nat) : Decidable (Digs n k) := inferInstanceAs (Decidable (_ ∧ _ ∧ _))
/-- A reader's world, reading: what was known below it stays. -/
theorem Bex.keep {B g : Nat} {w w' : World} (h : Bex g w w') (hg : B ≤ g) (hB : B ≤ w.heap.size) : Below B w w' := h.below hg hB

end Go.Proofs.YtcmkmnidnapabaaGreat
