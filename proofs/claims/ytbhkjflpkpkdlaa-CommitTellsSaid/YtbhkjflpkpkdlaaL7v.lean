/-
  Commit: the walk of CommitBack.
-/
import Derived.Test.YtbhkjflpkpkdlaaL7n
import Derived.Test.YtbhkjflpkpkdlaaL7t
import Derived.Test.YtbhkjflpkpkdlaaUj
namespace Go.Proofs.Ytbhkjflpkpkdlaa
set_option linter.unusedSimpArgs false
open Go.RowKit Go.Lib

def DecP (w : World) (D : DC) (e : Ending) (w' : World) : Prop := ∃ a b cap n, e = .returned (.tuple #[.agg (cC D.h D.p (.slice a n cap)).toArray, .agg #[.int .i64 (D.e : Nat), .int .i64 D.f]]) ∧ n = D.l.length ∧ Ts w' a b 0 cap D.l ∧ Below w.heap.size w w'
theorem clong_any (h : Int) (p : List Nat) (hp : p.length = 32) (a : Option Addr) (n cap : Nat) (w : World) : Calls Try.prog 32 #[.agg (cC h p (.slice a n cap)).toArray] w fun e w' => e = .returned (.bool (decide ((70 : Int) < ((n : Nat) : Int)))) ∧ Below w.heap.size w w' := by
  have hA := Blk.new w (cC h p (.slice a n cap)) 63
  have hB := hidp ((Below.refl w.heap.size w).alloc (Nat.le_refl _) (.cells (cC h p (.slice a n cap)).toArray 63))
  have c33 := hA.cell 33
  rw [cC_33 hp] at c33
  go_enter Try.func32, Try.ntmps32
  go_wp2
  go_ret
  exact ⟨rfl, hB.out⟩
theorem sameBytesC {w : World} {p q : Option Addr} {b o cap b2 o2 cap2 : Nat} {X Y : List Nat} (h : Bs w p b o X cap) (k : Bs w q b2 o2 Y cap2) (e : X = Y) :
    Calls Try.prog 21 #[.slice p X.length cap, .slice q Y.length cap2] w fun e w' => e = .returned (.bool true) ∧ w = w' := by
  subst e
  exact sameBytes_yes h k
/-- A row is hung onto a row of one's own, in a guarded region too. -/
theorem wpList_append_bsC {ops : Array Oper} {rest : List Oper} {o : Oper} {a : Act} {w : World} {Q : Exit → Act → World → Prop} (hw : Region.wanted o (yielded ops a.tmps) = true) (s x : Operand)
    (ho : o.op = .call { callee := .builtin .append, args := #[s, x], argTypes := #[32, 32] }) (base n : Nat) (xs : List Value) (v : Value) (hs : a.eval s = v)
    (hown : w.ownsRow base 5 1 v n xs) (B : Nat) (L : List Nat) (hx : a.eval x = .slice (some ⟨B, 0, none⟩) L.length L.length) (hb : Blk w B (bvs L) 5) (hn : n + L.length ≤ 4000000) (hbase : base ≤ w.heap.size)
    (h : ∀ v' w', w'.ownsRow base 5 1 v' (n + L.length) (xs ++ bvs L) → w.grownBy w' v.ownBlock → wpList Try.prog ops Q rest (a.put o.dst v') w') : wpList Try.prog ops Q (o :: rest) a w := by
  obtain ⟨i0, hi, hz0, hz1, hz2⟩ := info_parts info_byte
  refine wpList_step fun _ hK => ?_
  rw [if_pos hw]
  exact wp_append_own _ s x 32 ho base 5 i0 (.int .u8 0) 1 1 Try.underlying32 hi hz0 hz1 hz2 rfl (by decide) v n xs hs hown ⟨B, 0, none⟩ L.length L.length (bvs L) hx (by rw [bvs_len, Nat.mul_one])
      (fun j u hj => by
        have e : (⟨B, 0, none⟩ : Addr).add j = ⟨B, j, none⟩ := by by_cases hj0 : j = 0 <;> simp [Addr.add, hj0]
        rw [e, hb.cell j]; exact hj) (bvs_oneL _) (by unfold maxLen; omega) (by omega) hbase (fun v' w' h1 h2 _ => hK _ _ (h v' w' h1 h2))
/-- What Decode told is laid in two boxes. -/
theorem dres_row {u t : World} {cs : List Value} (h : t = ((u.alloc (.cells (cC 0 zh32 (.slice none 0 0)).toArray 63)).alloc (.cells #[.int .i64 0, .int .i64 0] 55)).setRow u.heap.size cs.toArray) : DRes u t cs 0 0 := by
  have HZ : DRes u ((u.alloc (.cells (cC 0 zh32 (.slice none 0 0)).toArray 63)).alloc (.cells #[.int .i64 0, .int .i64 0] 55)) (cC 0 zh32 (.slice none 0 0)) 0 0 := ⟨(Blk.new u (cC 0 zh32 (.slice none 0 0)) _).alloc _, Blk.new' _ [.int .i64 0, .int .i64 0] _ _ (by simp), ((Below.refl u.heap.size u).alloc (Nat.le_refl _) (.cells (cC 0 zh32 (.slice none 0 0)).toArray 63)).alloc (by simp) _⟩
  rw [h]
  exact HZ.row (ds := cs)
theorem Pick_wide (x : Int) (n : Nat) (w : World) (hn : 0 < n) (hn2 : n ≤ 1200) :
    Calls Try.prog 31 #[.int .i64 x, .int .i64 n] w fun e w' => (∃ r : Nat, r < n ∧ e = .returned (.int .i64 r)) ∧ w' = w := by
  have hm := Int.tmod_lt_of_pos x (show (0 : Int) < (n : Int) by omega)
  have hm2 : -(n : Int) < x.tmod n := by
    have h1 := Int.tmod_lt_of_pos (-x) (show (0 : Int) < (n : Int) by omega)
    rw [Int.neg_tmod] at h1
    omega
  have hz : ((n : Int) == 0) = false := by rw [beq_eq_false_iff_ne]; omega
  have hle : decide ((n : Int) ≤ 0) = false := decide_eq_false (by omega)
  have hnz : ¬ (n : Int) = 0 := by omega
  generalize hr : x.tmod (n : Int) = r at hm hm2
  by_cases h0 : r < 0
  · have ht : decide (r < 0) = true := decide_eq_true h0
    have hw : wrap64 (r + n) = r + n := w64 _ (by omega)
    have hw0 : wrap64 r = r := w64 _ (by omega)
    have HH := hidp (And.intro hm (And.intro hm2 h0))
    clear hm hm2 h0
    go_enter Try.func31, Try.ntmps31
    go_wp2
    go_ret
    exact ⟨⟨(r + n).toNat, by have := HH.out; omega, ret_int (by have := HH.out; omega)⟩, rfl⟩
  · have ht : decide (r < 0) = false := decide_eq_false h0
    have hw0 : wrap64 r = r := w64 _ (by omega)
    have HH := hidp (And.intro hm (And.intro hm2 h0))
    clear hm hm2 h0
    go_enter Try.func31, Try.ntmps31
    go_wp2
    go_ret
    exact ⟨⟨r.toNat, by have := HH.out; omega, ret_int (by have := HH.out; omega)⟩, rfl⟩

theorem sameC_self (h : Int) (p : List Nat) (l : List Vt) : sameC h p l h p l = true := by unfold sameC; simp
end Go.Proofs.Ytbhkjflpkpkdlaa
