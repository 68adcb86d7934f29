/-
  Commit: votes, commits as cells; what Check and Of tell.
-/
import Derived.Test.YtbhkjflpkpkdlaaUa
import Derived.LoopN
namespace Go.Proofs.Ytbhkjflpkpkdlaa
open Go.RowKit Go.Lib

/-- A vote: a place, a signature. -/
structure Vt where
  a : Int
  s : Nat
  deriving DecidableEq
structure VtOk (v : Vt) : Prop where
  a : -9223372036854775808 ≤ v.a ∧ v.a ≤ 9223372036854775807
  s : v.s < 18446744073709551616
def tL (v : Vt) : List Value := [.int .i64 v.a, .int .u64 (v.s : Nat)]
/-- A slice of votes. -/
structure Ts (w : World) (a : Option Addr) (b o cap : Nat) (l : List Vt) : Prop where
  ok : ∀ v ∈ l, VtOk v
  le : l.length ≤ cap
  ptr : 0 < cap → a = some ⟨b, o, none⟩ ∧ b < w.heap.size
  cell : ∀ i v, l[i]? = some v → ∀ j c, (tL v)[j]? = some c → w.cell? ⟨b, o + i * 2 + j, none⟩ = some c
theorem Ts.below {w w' : World} {a : Option Addr} {b o cap : Nat} {l : List Vt} (h : Ts w a b o cap l) (hB : Below w.heap.size w w') : Ts w' a b o cap l :=
  ⟨h.ok, h.le, fun h0 => ⟨(h.ptr h0).1, Nat.lt_of_lt_of_le (h.ptr h0).2 hB.size⟩, fun i v hi j c hc => (hB.cell (cell_lt (h.cell i v hi j c hc))).trans (h.cell i v hi j c hc)⟩
theorem Ts.bex {g : Nat} {w w' : World} {a : Option Addr} {b o cap : Nat} {l : List Vt} (h : Ts w a b o cap l) (hB : Bex g w w') (hne : 0 < cap → g ≠ b) : Ts w' a b o cap l :=
  ⟨h.ok, h.le, fun h0 => ⟨(h.ptr h0).1, Nat.lt_of_lt_of_le (h.ptr h0).2 hB.size⟩, fun i v hi j c hc => by
    have h0 : 0 < cap := by
      have h1 := h.le
      have h2 := (List.getElem?_eq_some_iff.1 hi).1
      omega
    have hc0 := h.cell i v hi j c hc
    rw [← hc0]
    unfold World.cell?
    simp only
    rw [hB.block b (h.ptr h0).2 (fun e => hne h0 e.symm)]⟩
theorem Ts.at {w : World} {a : Option Addr} {b o cap : Nat} {l : List Vt} (h : Ts w a b o cap l) {i : Nat} (hi : i < l.length) :
    ∃ v, l[i]? = some v ∧ VtOk v ∧ a = some ⟨b, o, none⟩ ∧ b < w.heap.size ∧ w.cell? ⟨b, o + i * 2, none⟩ = some (.int .i64 v.a) ∧ w.cell? ⟨b, o + i * 2 + 1, none⟩ = some (.int .u64 (v.s : Nat)) := by
  have hv := List.getElem?_eq_getElem hi
  have h0 : 0 < cap := by have := h.le; omega
  exact ⟨l[i], hv, h.ok _ (List.getElem_mem hi), (h.ptr h0).1, (h.ptr h0).2, h.cell i _ hv 0 _ rfl, h.cell i _ hv 1 _ rfl⟩
theorem Ts.nil (w : World) (b o : Nat) : Ts w none b o 0 [] := ⟨by simp, by simp, fun h => absurd h (by omega), fun i v hi => by simp at hi⟩

/-- A commit's cells, and when they are some. -/
def cC (h : Int) (p : List Nat) (sl : Value) : List Value := .int .i64 h :: (bvs p ++ [sl])
theorem cC_len {h : Int} {p : List Nat} {sl : Value} (hp : p.length = 32) : (cC h p sl).length = 34 := by unfold cC; simp [bvs_len, hp]
theorem cC_0 (h : Int) (p : List Nat) (sl : Value) : (cC h p sl)[0]? = some (.int .i64 h) := rfl
theorem cC_33 {h : Int} {p : List Nat} {sl : Value} (hp : p.length = 32) : (cC h p sl)[33]? = some sl := by
  have l1 : (bvs p).length = 32 := by rw [bvs_len, hp]
  unfold cC
  rw [List.getElem?_cons_succ, List.getElem?_append_right (by omega), l1]
  rfl
theorem cC_p {h : Int} {p : List Nat} {sl : Value} (j : Nat) (v : Value) (hj : (bvs p)[j]? = some v) : (cC h p sl)[1 + j]? = some v := by
  have hlt := (List.getElem?_eq_some_iff.1 hj).1
  rw [Nat.add_comm]
  unfold cC
  rw [List.getElem?_cons_succ, List.getElem?_append_left hlt]
  exact hj
theorem cC_one (h : Int) (p : List Nat) (a : Option Addr) (n c : Nat) : (cC h p (.slice a n c)).toArray.all (·.oneCell') = true := by
  rw [List.all_toArray, List.all_eq_true]
  intro y hy
  unfold cC at hy
  simp only [List.mem_cons, List.mem_append, List.not_mem_nil, or_false] at hy
  rcases hy with rfl | h | rfl
  · rfl
  · exact bvs_oneL _ y h
  · rfl

def nextV (q : Int) (v : Vt) : Nat := if v.a < 0 ∨ 63 < v.a then 3 else if v.a ≤ q then 9 else 0
def chkV : Int → List Vt → Nat
  | _, [] => 0
  | q, v :: r => if nextV q v = 0 then chkV v.a r else nextV q v
def chkC (h : Int) (l : List Vt) : Nat := if h < 1 ∨ 1073741824 < h then 3 else if 64 < l.length then 4 else chkV (-1) l
def isP (n : Int) : Bool := decide (0 ≤ n) && decide (n ≤ 63)

theorem isPlace_any (n : Int) (w : World) : Calls Try.prog 109 #[.int .i64 n] w fun e w' => e = .returned (.bool (isP n)) ∧ w' = w := by
  unfold isP
  cases h0 : decide (0 ≤ n) <;> cases h1 : decide (n ≤ 63)
  all_goals
    go_enter Try.func109, Try.ntmps109
    go_wp2
    go_ret
    exact ⟨rfl, rfl⟩
theorem cascent_any (w : World) : Calls Try.prog 106 #[] w fun e w' => e = .returned (.func (.func 169) #[] #[.pointer (some ⟨w.heap.size, 0, none⟩)]) ∧ Blk w' w.heap.size [.int .i64 (-1)] 3 ∧ Below w.heap.size w w' := by
  have hmf : ∀ (fn : Fn) (first cap : Array Value) (w : World), (Instr.makeFunc fn first cap).run Try.prog w = .ok (.func fn first cap) w := fun _ _ _ _ => rfl
  go_enter Try.func106, Try.ntmps106
  go_wp2
  go_ret
  exact ⟨rfl, Blk.new w [.int .i64 (-1)] _, (Below.refl _ w).alloc (Nat.le_refl _) _⟩
set_option maxRecDepth 20000 in
set_option maxHeartbeats 1000000 in
theorem ascent1_any {w : World} {g : Nat} (q : Int) (v : Vt) (H : Blk w g [.int .i64 q] 3) :
    Calls Try.prog 169 #[.agg #[.int .i64 v.a, .int .u64 (v.s : Nat)], .pointer (some ⟨g, 0, none⟩)] w fun e w' => e = .returned (.int .i64 (nextV q v : Nat)) ∧ (nextV q v = 0 → Blk w' g [.int .i64 v.a] 3) ∧ Bex g w w' := by
  have hlt := H.lt
  have HP := hidp (fun W => isPlace_any v.a W)
  have hA := hidp (Blk.new w [.int .i64 v.a, .int .u64 (v.s : Nat)] 83)
  have hG := hidp (H.alloc (.cells #[.int .i64 v.a, .int .u64 (v.s : Nat)] 83))
  have hX := hidp ((Bex.refl g w).alloc (.cells #[.int .i64 v.a, .int .u64 (v.s : Nat)] 83))
  have H := hidp H
  unfold nextV
  by_cases h3 : v.a < 0 ∨ 63 < v.a
  · have hp : isP v.a = false := by unfold isP; rw [Bool.and_eq_false_iff, decide_eq_false_iff_not, decide_eq_false_iff_not]; omega
    rw [hp] at HP
    rw [if_pos h3]
    clear h3
    go_enter Try.func169, Try.ntmps169
    go_wp2_with fail
    refine (HP.out _).mono ?_
    rintro e w1 ⟨rfl, rfl⟩
    go_wp2_with fail
    go_ret
    exact ⟨rfl, (fun h => absurd h (by decide)), hX.out⟩
  have hp : isP v.a = true := by unfold isP; rw [Bool.and_eq_true, decide_eq_true_eq, decide_eq_true_eq]; omega
  rw [hp] at HP
  rw [if_neg h3]
  have g0 := hG.out.cell 0
  have gf := hG.out.free 0
  simp only [List.getElem?_cons_zero] at g0
  by_cases h9 : v.a ≤ q
  · have ht : decide (v.a ≤ q) = true := decide_eq_true h9
    rw [if_pos h9]
    clear h3 h9
    go_enter Try.func169, Try.ntmps169
    go_wp2_with fail
    refine (HP.out _).mono ?_
    rintro e w1 ⟨rfl, rfl⟩
    go_wp2_with fail
    go_ret
    exact ⟨rfl, (fun h => absurd h (by decide)), hX.out⟩
  · have ht : decide (v.a ≤ q) = false := decide_eq_false h9
    rw [if_neg h9]
    clear h3 h9
    go_enter Try.func169, Try.ntmps169
    go_wp2_with fail
    refine (HP.out _).mono ?_
    rintro e w1 ⟨rfl, rfl⟩
    go_wp2_with fail
    go_ret
    exact ⟨rfl, (fun _ => (H.out.set 0 _).alloc _), ((Bex.refl g w).setCell 0 _).alloc _⟩

/-- What is kept from round to round. -/
structure CkI (w wr : World) (g i : Nat) (l : List Vt) (q : Int) : Prop where
  asc : Blk wr g [.int .i64 q] 3
  bel : Below w.heap.size w wr
  hg : w.heap.size ≤ g
  e : chkV (-1) l = chkV q (l.drop i)
theorem CkI.next {w wr w' : World} {g i : Nat} {l : List Vt} {q : Int} {v : Vt} (H : CkI w wr g i l q) (hv : l[i]? = some v) {o : Obj} (h0 : nextV q v = 0) (ha : Blk w' g [.int .i64 v.a] 3) (hx : Bex g (wr.alloc o) w') : CkI w w' g (i + 1) l v.a := by
  refine ⟨ha, (H.bel.alloc (by have := H.bel.size; omega) o).trans (hx.below H.hg (by have := H.bel.size; simp; omega)), H.hg, ?_⟩
  rw [H.e]
  obtain ⟨hlt, rfl⟩ := List.getElem?_eq_some_iff.1 hv
  rw [List.drop_eq_getElem_cons hlt]
  simp only [chkV, h0, if_true]
theorem CkI.fail {w wr w' : World} {g i : Nat} {l : List Vt} {q : Int} {v : Vt} (H : CkI w wr g i l q) (hv : l[i]? = some v) {o : Obj} (h0 : nextV q v ≠ 0) (hx : Bex g (wr.alloc o) w') : chkV (-1) l = nextV q v ∧ Below w.heap.size w w' := by
  refine ⟨?_, (H.bel.alloc (by have := H.bel.size; omega) o).trans (hx.below H.hg (by have := H.bel.size; simp; omega))⟩
  rw [H.e]
  obtain ⟨hlt, rfl⟩ := List.getElem?_eq_some_iff.1 hv
  rw [List.drop_eq_getElem_cons hlt]
  simp only [chkV]
  rw [if_neg h0]
theorem CkI.last {w wr : World} {g i : Nat} {l : List Vt} {q : Int} (H : CkI w wr g i l q) (hi : l.length ≤ i) : chkV (-1) l = 0 := by
  rw [H.e, List.drop_eq_nil_of_le hi]
  rfl

set_option maxRecDepth 100000 in
set_option maxHeartbeats 1000000 in
theorem ccheck_any (h : Int) (p : List Nat) (hp : p.length = 32) (a : Option Addr) (b o cap : Nat) (l : List Vt) (w : World) (hT : Ts w a b o cap l) :
    Calls Try.prog 43 #[.agg (cC h p (.slice a l.length cap)).toArray] w fun e w' => e = .returned (.int .i64 (chkC h l : Nat)) ∧ Below w.heap.size w w' := by
  have hA := Blk.new w (cC h p (.slice a l.length cap)) 63
  have hB := hidp ((Below.refl w.heap.size w).alloc (Nat.le_refl _) (.cells (cC h p (.slice a l.length cap)).toArray 63))
  have c0 := hA.cell 0
  have c33 := hA.cell 33
  rw [cC_0] at c0
  rw [cC_33 hp] at c33
  unfold chkC
  by_cases h3 : h < 1 ∨ 1073741824 < h
  · rw [if_pos h3]
    by_cases h1 : h < 1
    · have t1 : decide (h < 1) = true := decide_eq_true h1
      clear hA hT h3 h1
      go_enter Try.func43, Try.ntmps43
      go_wp2_with fail
      go_ret
      exact ⟨rfl, hB.out⟩
    · have t1 : decide (h < 1) = false := decide_eq_false h1
      have t2 : decide (1073741824 < h) = true := decide_eq_true (by omega)
      clear hA hT h3 h1
      go_enter Try.func43, Try.ntmps43
      go_wp2_with fail
      go_ret
      exact ⟨rfl, hB.out⟩
  have t1 : decide (h < 1) = false := decide_eq_false (by omega)
  have t2 : decide (1073741824 < h) = false := decide_eq_false (by omega)
  rw [if_neg h3]
  clear h3
  by_cases h4 : 64 < l.length
  · have t3 : decide ((64 : Int) < ((l.length : Nat) : Int)) = true := decide_eq_true (by omega)
    rw [if_pos h4]
    clear hA hT h4
    go_enter Try.func43, Try.ntmps43
    go_wp2_with fail
    go_ret
    exact ⟨rfl, hB.out⟩
  have t3 : decide ((64 : Int) < ((l.length : Nat) : Int)) = false := decide_eq_false (by omega)
  have H4 := hidp (show l.length ≤ 64 by omega)
  rw [if_neg h4]
  have HA := hidp hA
  have HT := hidp hT
  clear hA hT h4
  go_enter Try.func43, Try.ntmps43
  go_wp2_with fail
  refine (cascent_any _).mono ?_
  rintro e w1 ⟨rfl, hk, hb⟩
  have K1 := hb.blk' HA.out
  have d33 := K1.cell 33
  rw [cC_33 hp] at d33
  have H0 : Hid (CkI w w1 (w.alloc (.cells (cC h p (.slice a l.length cap)).toArray 63)).heap.size 0 l (-1)) := hidp ⟨hk, hB.out.trans (hb.mono hB.out.size), by simp, by rw [List.drop_zero]⟩
  clear hk hb c0 c33 K1
  generalize (w.alloc (.cells (cC h p (.slice a l.length cap)).toArray 63)).heap.size = g at *
  go_wp2_with fail
  go_loopw [23] (fun x wr => ∃ i : Nat, ∃ q, i ≤ l.length ∧ x = .int .i64 i ∧ Hid (CkI w wr g i l q)) (fun x _ => l.length - (Go.RowKit.intOf x).toNat)
  case atStart => exact ⟨0, -1, by omega, rfl, H0⟩
  case round =>
    obtain ⟨i, q, hi, rfl, hr⟩ := hrel
    clear H0 t1 t2 t3 d33
    by_cases hlt : i < l.length
    · obtain ⟨v, hv, hok, rfl, hbl, c0, c1⟩ := (HT.out.below hr.out.bel).at hlt
      have HV := hidp hv
      have HK := hidp (And.intro hlt hok)
      have hadd := w64_nat (n := i) (by have := H4.out; omega)
      clear hv hok
      go_wp2_with fail
      refine (ascent1_any q v (hr.out.asc.alloc _)).mono ?_
      rintro e w2 ⟨rfl, ha, hx⟩
      by_cases h0 : nextV q v = 0
      · have H2 := hidp (hr.out.next HV.out h0 (ha h0) hx)
        rw [h0]
        clear ha hx hr
        go_wp2_with fail
        rw [hadd]
        exact ⟨⟨i + 1, _, by have := HK.out.1; omega, rfl, H2⟩, by have h1 := HK.out.1; show l.length - ((i + 1 : Nat) : Int).toNat < l.length - ((i : Nat) : Int).toNat; omega⟩
      · obtain ⟨h1, h2⟩ := hr.out.fail HV.out h0 hx
        have hn : (((nextV q v : Nat) : Int) != 0) = true := by rw [bne_iff_ne]; omega
        replace h2 := hidp (And.intro h1 h2)
        clear ha hx hr h0 h1
        generalize nextV q v = n at *
        go_wp2_with fail
        go_ret
        exact ⟨by rw [h2.out.1]; rfl, h2.out.2⟩
    · have hl := hr.out.last (by omega)
      have hb := hidp (And.intro hl hr.out.bel)
      obtain rfl : i = l.length := by omega
      clear hr hl hlt
      go_wp2_with fail
      go_ret
      exact ⟨by rw [hb.out.1]; rfl, hb.out.2⟩
end Go.Proofs.Ytbhkjflpkpkdlaa
