/-
  Texts L7a, L7b, L7c, L7d, one behind the other.
-/
import Derived.Test.YtcmkmnidnapabaaGreatUa
import Derived.LoopN
import Derived.Deep.RegionHeld3
import Derived.Test.YtcmkmnidnapabaaGreatQh
import Derived.OwnWalk
import Derived.Lib.AppendZerosOnto
import Derived.Lib.Overlaps
import Derived.Shelf.Spec.SlicesInsertGrow
import Derived.Deep.AppendLies

/-! L7a: Commit: votes, commits as cells; what Check and Of tell. -/
namespace Go.Proofs.YtcmkmnidnapabaaGreat
open Go.RowKit Go.Lib

/-- A vote: a place, a signature. -/
structure Vt where
  a : Int
  s : Nat
  deriving DecidableEq
structure VtOk (v : Vt) : Prop where
  a : -9223372036854775808 ≤ v.a ∧ v.a ≤ 9223372036854775807
  s : v.s < 18446744073709551616
def tL (v : Vt) : List Value := [.int .i64 v.a, .int .u64 (v.s : Nat)]
/-- A slice of votes. -/
structure Ts (w : World) (a : Option Addr) (b o cap : Nat) (l : List Vt) : Prop where
  ok : ∀ v ∈ l, VtOk v
  le : l.length ≤ cap
  ptr : 0 < cap → a = some ⟨b, o, none⟩ ∧ b < w.heap.size
  cell : ∀ i v, l[i]? = some v → ∀ j c, (tL v)[j]? = some c → w.cell? ⟨b, o + i * 2 + j, none⟩ = some c
theorem Ts.below {w w' : World} {a : Option Addr} {b o cap : Nat} {l : List Vt} (h : Ts w a b o cap l) (hB : Below w.heap.size w w') : Ts w' a b o cap l :=
  ⟨h.ok, h.le, fun h0 => ⟨(h.ptr h0).1, Nat.lt_of_lt_of_le (h.ptr h0).2 hB.size⟩, fun i v hi j c hc => (hB.cell (cell_lt (h.cell i v hi j c hc))).trans (h.cell i v hi j c hc)⟩
theorem Ts.bex {g : Nat} {w w' : World} {a : Option Addr} {b o cap : Nat} {l : List Vt} (h : Ts w a b o cap l) (hB : Bex g w w') (hne : 0 < cap → g ≠ b) : Ts w' a b o cap l :=
  ⟨h.ok, h.le, fun h0 => ⟨(h.ptr h0).1, Nat.lt_of_lt_of_le (h.ptr h0).2 hB.size⟩, fun i v hi j c hc => by
    have h0 : 0 < cap := by
      have h1 := h.le
      have h2 := (List.getElem?_eq_some_iff.1 hi).1
      omega
    have hc0 := h.cell i v hi j c hc
    rw [← hc0]
    unfold World.cell?
    simp only
    rw [hB.block b (h.ptr h0).2 (fun e => hne h0 e.symm)]⟩
theorem Ts.at {w : World} {a : Option Addr} {b o cap : Nat} {l : List Vt} (h : Ts w a b o cap l) {i : Nat} (hi : i < l.length) :
    ∃ v, l[i]? = some v ∧ VtOk v ∧ a = some ⟨b, o, none⟩ ∧ b < w.heap.size ∧ w.cell? ⟨b, o + i * 2, none⟩ = some (.int .i64 v.a) ∧ w.cell? ⟨b, o + i * 2 + 1, none⟩ = some (.int .u64 (v.s : Nat)) := by
  have hv := List.getElem?_eq_getElem hi
  have h0 : 0 < cap := by have := h.le; omega
  exact ⟨l[i], hv, h.ok _ (List.getElem_mem hi), (h.ptr h0).1, (h.ptr h0).2, h.cell i _ hv 0 _ rfl, h.cell i _ hv 1 _ rfl⟩
theorem Ts.nil (w : World) (b o : Nat) : Ts w none b o 0 [] := ⟨by simp, by simp, fun h => absurd h (by omega), fun i v hi => by simp at hi⟩

/-- A commit's cells, and when they are some. -/
def cC (h : Int) (p : List Nat) (sl : Value) : List Value := .int .i64 h :: (bvs p ++ [sl])
theorem cC_len {h : Int} {p : List Nat} {sl : Value} (hp : p.length = 32) : (cC h p sl).length = 34 := by unfold cC; simp [bvs_len, hp]
theorem cC_0 (h : Int) (p : List Nat) (sl : Value) : (cC h p sl)[0]? = some (.int .i64 h) := rfl
theorem cC_33 {h : Int} {p : List Nat} {sl : Value} (hp : p.length = 32) : (cC h p sl)[33]? = some sl := by
  have l1 : (bvs p).length = 32 := by rw [bvs_len, hp]
  unfold cC
  rw [List.getElem?_cons_succ, List.getElem?_append_right (by omega), l1]
  rfl
theorem cC_p {h : Int} {p : List Nat} {sl : Value} (j : Nat) (v : Value) (hj : (bvs p)[j]? = some v) : (cC h p sl)[1 + j]? = some v := by
  have hlt := (List.getElem?_eq_some_iff.1 hj).1
  rw [Nat.add_comm]
  unfold cC
  rw [List.getElem?_cons_succ, List.getElem?_append_left hlt]
  exact hj
theorem cC_one (h : Int) (p : List Nat) (a : Option Addr) (n c : Nat) : (cC h p (.slice a n c)).toArray.all (·.oneCell') = true := by
  rw [List.all_toArray, List.all_eq_true]
  intro y hy
  unfold cC at hy
  simp only [List.mem_cons, List.mem_append, List.not_mem_nil, or_false] at hy
  rcases hy with rfl | h | rfl
  · rfl
  · exact bvs_oneL _ y h
  · rfl

def nextV (q : Int) (v : Vt) : Nat := if v.a < 0 ∨ 63 < v.a then 3 else if v.a ≤ q then 9 else 0
def chkV : Int → List Vt → Nat
  | _, [] => 0
  | q, v :: r => if nextV q v = 0 then chkV v.a r else nextV q v
def chkC (h : Int) (l : List Vt) : Nat := if h < 1 ∨ 1073741824 < h then 3 else if 64 < l.length then 4 else chkV (-1) l
def isP (n : Int) : Bool := decide (0 ≤ n) && decide (n ≤ 63)

theorem isPlace_any (n : Int) (w : World) : Calls Tryz.prog 279 #[.int .i64 n] w fun e w' => e = .returned (.bool (isP n)) ∧ w' = w := by
  unfold isP
  cases h0 : decide (0 ≤ n) <;> cases h1 : decide (n ≤ 63)
  all_goals
    go_enter Tryz.func279, Tryz.ntmps279
    go_wp2
    go_ret
    exact ⟨rfl, rfl⟩
theorem cascent_any (w : World) : Calls Tryz.prog 240 #[] w fun e w' => e = .returned (.func (.func 278) #[] #[.pointer (some ⟨w.heap.size, 0, none⟩)]) ∧ Blk w' w.heap.size [.int .i64 (-1)] 3 ∧ Below w.heap.size w w' := by
  have hmf : ∀ (fn : Fn) (first cap : Array Value) (w : World), (Instr.makeFunc fn first cap).run Tryz.prog w = .ok (.func fn first cap) w := fun _ _ _ _ => rfl
  go_enter Tryz.func240, Tryz.ntmps240
  go_wp2
  go_ret
  exact ⟨rfl, Blk.new w [.int .i64 (-1)] _, (Below.refl _ w).alloc (Nat.le_refl _) _⟩
set_option maxRecDepth 20000 in
set_option maxHeartbeats 1000000 in
theorem ascent1_any {w : World} {g : Nat} (q : Int) (v : Vt) (H : Blk w g [.int .i64 q] 3) :
    Calls Tryz.prog 278 #[.agg #[.int .i64 v.a, .int .u64 (v.s : Nat)], .pointer (some ⟨g, 0, none⟩)] w fun e w' => e = .returned (.int .i64 (nextV q v : Nat)) ∧ (nextV q v = 0 → Blk w' g [.int .i64 v.a] 3) ∧ Bex g w w' := by
  have hlt := H.lt
  have HP := hidp (fun W => isPlace_any v.a W)
  have hA := hidp (Blk.new w [.int .i64 v.a, .int .u64 (v.s : Nat)] 169)
  have hG := hidp (H.alloc (.cells #[.int .i64 v.a, .int .u64 (v.s : Nat)] 169))
  have hX := hidp ((Bex.refl g w).alloc (.cells #[.int .i64 v.a, .int .u64 (v.s : Nat)] 169))
  have H := hidp H
  unfold nextV
  by_cases h3 : v.a < 0 ∨ 63 < v.a
  · have hp : isP v.a = false := by unfold isP; rw [Bool.and_eq_false_iff, decide_eq_false_iff_not, decide_eq_false_iff_not]; omega
    rw [hp] at HP
    rw [if_pos h3]
    clear h3
    go_enter Tryz.func278, Tryz.ntmps278
    go_wp2_with fail
    refine (HP.out _).mono ?_
    rintro e w1 ⟨rfl, rfl⟩
    go_wp2_with fail
    go_ret
    exact ⟨rfl, (fun h => absurd h (by decide)), hX.out⟩
  have hp : isP v.a = true := by unfold isP; rw [Bool.and_eq_true, decide_eq_true_eq, decide_eq_true_eq]; omega
  rw [hp] at HP
  rw [if_neg h3]
  have g0 := hG.out.cell 0
  have gf := hG.out.free 0
  simp only [List.getElem?_cons_zero] at g0
  by_cases h9 : v.a ≤ q
  · have ht : decide (v.a ≤ q) = true := decide_eq_true h9
    rw [if_pos h9]
    clear h3 h9
    go_enter Tryz.func278, Tryz.ntmps278
    go_wp2_with fail
    refine (HP.out _).mono ?_
    rintro e w1 ⟨rfl, rfl⟩
    go_wp2_with fail
    go_ret
    exact ⟨rfl, (fun h => absurd h (by decide)), hX.out⟩
  · have ht : decide (v.a ≤ q) = false := decide_eq_false h9
    rw [if_neg h9]
    clear h3 h9
    go_enter Tryz.func278, Tryz.ntmps278
    go_wp2_with fail
    refine (HP.out _).mono ?_
    rintro e w1 ⟨rfl, rfl⟩
    go_wp2_with fail
    go_ret
    exact ⟨rfl, (fun _ => (H.out.set 0 _).alloc _), ((Bex.refl g w).setCell 0 _).alloc _⟩

/-- What is kept from round to round. -/
structure CkI (w wr : World) (g i : Nat) (l : List Vt) (q : Int) : Prop where
  asc : Blk wr g [.int .i64 q] 3
  bel : Below w.heap.size w wr
  hg : w.heap.size ≤ g
  e : chkV (-1) l = chkV q (l.drop i)
theorem CkI.next {w wr w' : World} {g i : Nat} {l : List Vt} {q : Int} {v : Vt} (H : CkI w wr g i l q) (hv : l[i]? = some v) {o : Obj} (h0 : nextV q v = 0) (ha : Blk w' g [.int .i64 v.a] 3) (hx : Bex g (wr.alloc o) w') : CkI w w' g (i + 1) l v.a := by
  refine ⟨ha, (H.bel.alloc (by have := H.bel.size; omega) o).trans (hx.below H.hg (by have := H.bel.size; simp; omega)), H.hg, ?_⟩
  rw [H.e]
  obtain ⟨hlt, rfl⟩ := List.getElem?_eq_some_iff.1 hv
  rw [List.drop_eq_getElem_cons hlt]
  simp only [chkV, h0, if_true]
theorem CkI.fail {w wr w' : World} {g i : Nat} {l : List Vt} {q : Int} {v : Vt} (H : CkI w wr g i l q) (hv : l[i]? = some v) {o : Obj} (h0 : nextV q v ≠ 0) (hx : Bex g (wr.alloc o) w') : chkV (-1) l = nextV q v ∧ Below w.heap.size w w' := by
  refine ⟨?_, (H.bel.alloc (by have := H.bel.size; omega) o).trans (hx.below H.hg (by have := H.bel.size; simp; omega))⟩
  rw [H.e]
  obtain ⟨hlt, rfl⟩ := List.getElem?_eq_some_iff.1 hv
  rw [List.drop_eq_getElem_cons hlt]
  simp only [chkV]
  rw [if_neg h0]
theorem CkI.last {w wr : World} {g i : Nat} {l : List Vt} {q : Int} (H : CkI w wr g i l q) (hi : l.length ≤ i) : chkV (-1) l = 0 := by
  rw [H.e, List.drop_eq_nil_of_le hi]
  rfl

set_option maxRecDepth 100000 in
set_option maxHeartbeats 1000000 in
theorem ccheck_any (h : Int) (p : List Nat) (hp : p.length = 32) (a : Option Addr) (b o cap : Nat) (l : List Vt) (w : World) (hT : Ts w a b o cap l) :
    Calls Tryz.prog 181 #[.agg (cC h p (.slice a l.length cap)).toArray] w fun e w' => e = .returned (.int .i64 (chkC h l : Nat)) ∧ Below w.heap.size w w' := by
  have hA := Blk.new w (cC h p (.slice a l.length cap)) 82
  have hB := hidp ((Below.refl w.heap.size w).alloc (Nat.le_refl _) (.cells (cC h p (.slice a l.length cap)).toArray 82))
  have c0 := hA.cell 0
  have c33 := hA.cell 33
  rw [cC_0] at c0
  rw [cC_33 hp] at c33
  unfold chkC
  by_cases h3 : h < 1 ∨ 1073741824 < h
  · rw [if_pos h3]
    by_cases h1 : h < 1
    · have t1 : decide (h < 1) = true := decide_eq_true h1
      clear hA hT h3 h1
      go_enter Tryz.func181, Tryz.ntmps181
      go_wp2_with fail
      go_ret
      exact ⟨rfl, hB.out⟩
    · have t1 : decide (h < 1) = false := decide_eq_false h1
      have t2 : decide (1073741824 < h) = true := decide_eq_true (by omega)
      clear hA hT h3 h1
      go_enter Tryz.func181, Tryz.ntmps181
      go_wp2_with fail
      go_ret
      exact ⟨rfl, hB.out⟩
  have t1 : decide (h < 1) = false := decide_eq_false (by omega)
  have t2 : decide (1073741824 < h) = false := decide_eq_false (by omega)
  rw [if_neg h3]
  clear h3
  by_cases h4 : 64 < l.length
  · have t3 : decide ((64 : Int) < ((l.length : Nat) : Int)) = true := decide_eq_true (by omega)
    rw [if_pos h4]
    clear hA hT h4
    go_enter Tryz.func181, Tryz.ntmps181
    go_wp2_with fail
    go_ret
    exact ⟨rfl, hB.out⟩
  have t3 : decide ((64 : Int) < ((l.length : Nat) : Int)) = false := decide_eq_false (by omega)
  have H4 := hidp (show l.length ≤ 64 by omega)
  rw [if_neg h4]
  have HA := hidp hA
  have HT := hidp hT
  clear hA hT h4
  go_enter Tryz.func181, Tryz.ntmps181
  go_wp2_with fail
  refine (cascent_any _).mono ?_
  rintro e w1 ⟨rfl, hk, hb⟩
  have K1 := hb.blk' HA.out
  have d33 := K1.cell 33
  rw [cC_33 hp] at d33
  have H0 : Hid (CkI w w1 (w.alloc (.cells (cC h p (.slice a l.length cap)).toArray 82)).heap.size 0 l (-1)) := hidp ⟨hk, hB.out.trans (hb.mono hB.out.size), by simp, by rw [List.drop_zero]⟩
  clear hk hb c0 c33 K1
  generalize (w.alloc (.cells (cC h p (.slice a l.length cap)).toArray 82)).heap.size = g at *
  go_wp2_with fail
  go_loopw [23] (fun x wr => ∃ i : Nat, ∃ q, i ≤ l.length ∧ x = .int .i64 i ∧ Hid (CkI w wr g i l q)) (fun x _ => l.length - (Go.RowKit.intOf x).toNat)
  case atStart => exact ⟨0, -1, by omega, rfl, H0⟩
  case round =>
    obtain ⟨i, q, hi, rfl, hr⟩ := hrel
    clear H0 t1 t2 t3 d33
    by_cases hlt : i < l.length
    · obtain ⟨v, hv, hok, rfl, hbl, c0, c1⟩ := (HT.out.below hr.out.bel).at hlt
      have HV := hidp hv
      have HK := hidp (And.intro hlt hok)
      have hadd := w64_nat (n := i) (by have := H4.out; omega)
      clear hv hok
      go_wp2_with fail
      refine (ascent1_any q v (hr.out.asc.alloc _)).mono ?_
      rintro e w2 ⟨rfl, ha, hx⟩
      by_cases h0 : nextV q v = 0
      · have H2 := hidp (hr.out.next HV.out h0 (ha h0) hx)
        rw [h0]
        clear ha hx hr
        go_wp2_with fail
        rw [hadd]
        exact ⟨⟨i + 1, _, by have := HK.out.1; omega, rfl, H2⟩, by have h1 := HK.out.1; show l.length - ((i + 1 : Nat) : Int).toNat < l.length - ((i : Nat) : Int).toNat; omega⟩
      · obtain ⟨h1, h2⟩ := hr.out.fail HV.out h0 hx
        have hn : (((nextV q v : Nat) : Int) != 0) = true := by rw [bne_iff_ne]; omega
        replace h2 := hidp (And.intro h1 h2)
        clear ha hx hr h0 h1
        generalize nextV q v = n at *
        go_wp2_with fail
        go_ret
        exact ⟨by rw [h2.out.1]; rfl, h2.out.2⟩
    · have hl := hr.out.last (by omega)
      have hb := hidp (And.intro hl hr.out.bel)
      obtain rfl : i = l.length := by omega
      clear hr hl hlt
      go_wp2_with fail
      go_ret
      exact ⟨by rw [hb.out.1]; rfl, hb.out.2⟩
end Go.Proofs.YtcmkmnidnapabaaGreat

/-! L7b: Commit: Of; where a place's vote stands. -/
namespace Go.Proofs.YtcmkmnidnapabaaGreat
open Go.RowKit Go.Lib

/-- The first vote for a place. -/
def ofT (l : List Vt) (n : Int) : Option Vt := l.find? (fun v => v.a == n)
theorem ofT_none {l : List Vt} {n : Int} (h : ofT l n = none) : ∀ v ∈ l, v.a ≠ n := by
  unfold ofT at h
  rw [List.find?_eq_none] at h
  intro v hv; simpa using h v hv

/-- What Of tells. -/
def ofR (l : List Vt) (n : Int) : Nat × Bool := match ofT l n with | some v => (v.s, true) | none => (0, false)
def cmpIT (a b : Int) : Int := if a < b then -1 else if b < a then 1 else 0
/-- Votes in order. -/
def SortedT (l : List Vt) : Prop := l.Pairwise (fun u v => u.a < v.a)
theorem SortedT.at {l : List Vt} (h : SortedT l) {i j : Nat} {u v : Vt} (hi : l[i]? = some u) (hj : l[j]? = some v) (hij : i < j) : u.a < v.a := by
  obtain ⟨h1, rfl⟩ := List.getElem?_eq_some_iff.1 hi
  obtain ⟨h2, rfl⟩ := List.getElem?_eq_some_iff.1 hj
  exact List.pairwise_iff_getElem.1 h i j h1 h2 hij
def hasT (l : List Vt) (n : Int) : Bool := l.any (fun v => v.a == n)
/-- Ahead of i stand lesser places, from i on those that are not less. -/
structure Cut (l : List Vt) (n : Int) (i : Nat) : Prop where
  le : i ≤ l.length
  lo : ∀ (m : Nat) (u : Vt), m < i → l[m]? = some u → u.a < n
  hi : ∀ (m : Nat) (u : Vt), i ≤ m → l[m]? = some u → n ≤ u.a
def ET (b f : Nat) (v : Vt) (W : World) : Prop := W.cell? ⟨b, f, none⟩ = some (.int .i64 v.a) ∧ W.cell? ⟨b, f + 1, none⟩ = some (.int .u64 (v.s : Nat))
theorem ET.drew {b f : Nat} {v : Vt} {W : World} (h : Hid (ET b f v W)) : Hid (ET b f v W.drew) := hidp h.out
theorem ET.below {b f : Nat} {v : Vt} {W W' : World} (h : Hid (ET b f v W)) (hB : Below W.heap.size W W') : Hid (ET b f v W') := by
  obtain ⟨h1, h2⟩ := h.out
  have q : ∀ {p : Addr} {u : Value}, W.cell? p = some u → W'.cell? p = some u := fun hc => (hB.cell (cell_lt hc)).trans hc
  exact hidp ⟨q h1, q h2⟩
structure BtI (w wr : World) (i j : Nat) (n : Int) (l : List Vt) : Prop where
  bel : Below w.heap.size w wr
  hij : i ≤ j
  hj : j ≤ l.length
  lo : ∀ (m : Nat) (u : Vt), m < i → l[m]? = some u → u.a < n
  hi : ∀ (m : Nat) (u : Vt), j ≤ m → l[m]? = some u → n ≤ u.a
end Go.Proofs.YtcmkmnidnapabaaGreat

/-! L7c: Commit: rows of votes of one's own; slices.Clone, slices.Insert. -/
namespace Go.Proofs.YtcmkmnidnapabaaGreat
open Go.RowKit Go.Lib
set_option linter.unusedSimpArgs false

theorem info_vote : (Tryz.prog.info? 169).map (fun i => (i.zero, i.size, i.bytes)) = some (some (.agg #[.int .i64 0, .int .u64 0]), 2, 16) := by kernel_rfl
/-- Votes in a row of one's own. -/
def OwnT (w : World) (base : Nat) (v : Value) (l : List Vt) : Prop := w.ownsRow base 169 2 v l.length (l.flatMap tL)
theorem tL_len (v : Vt) : (tL v).length = 2 := rfl
theorem flat2 : ∀ l : List Vt, (l.flatMap tL).length = l.length * 2
  | [] => rfl
  | v :: l => by rw [List.flatMap_cons, List.length_append, flat2 l, tL_len, List.length_cons]; omega
theorem flatT_at : ∀ (l : List Vt) (i : Nat) (v : Vt), l[i]? = some v → ∀ j c, (tL v)[j]? = some c → (l.flatMap tL)[i * 2 + j]? = some c
  | [], _, _, h, _, _, _ => by simp at h
  | u :: l, 0, v, h, j, c, hc => by
    simp only [List.getElem?_cons_zero, Option.some.injEq] at h
    subst h
    have hj : j < 2 := by rw [← tL_len u]; exact (List.getElem?_eq_some_iff.1 hc).1
    rw [List.flatMap_cons, List.getElem?_append_left (by rw [tL_len]; omega), Nat.zero_mul, Nat.zero_add]
    exact hc
  | u :: l, i + 1, v, h, j, c, hc => by
    rw [List.flatMap_cons, List.getElem?_append_right (by rw [tL_len]; omega), tL_len, show (i + 1) * 2 + j - 2 = i * 2 + j by omega]
    exact flatT_at l i v (by simpa using h) j c hc
theorem flatT_get {l : List Vt} {j : Nat} {u : Value} (h : (l.flatMap tL)[j]? = some u) : ∃ v, l[j / 2]? = some v ∧ (tL v)[j % 2]? = some u := by
  have hj := (List.getElem?_eq_some_iff.1 h).1
  rw [flat2] at hj
  have hlt : j / 2 < l.length := by omega
  refine ⟨l[j / 2], List.getElem?_eq_getElem hlt, ?_⟩
  have hm : j % 2 < (tL l[j / 2]).length := by rw [tL_len]; omega
  have q := flatT_at l (j / 2) _ (List.getElem?_eq_getElem hlt) (j % 2) _ (List.getElem?_eq_getElem hm)
  rw [show j / 2 * 2 + j % 2 = j by omega, h] at q
  rw [List.getElem?_eq_getElem hm, ← q]
theorem tL_one (v : Vt) : ∀ u ∈ tL v, u.oneCell' = true := by
  intro u hu
  simp only [tL, List.mem_cons, List.not_mem_nil, or_false] at hu
  rcases hu with rfl | rfl <;> rfl
theorem flatT_one (l : List Vt) : ∀ u ∈ l.flatMap tL, u.oneCell' = true := by
  intro u hu
  obtain ⟨v, _, h⟩ := List.mem_flatMap.1 hu
  exact tL_one v u h
theorem OwnT.ts {w : World} {base : Nat} {v : Value} {l : List Vt} (h : OwnT w base v l) (hok : ∀ u ∈ l, VtOk u) : ∃ p b cap, v = .slice p l.length cap ∧ base ≤ b ∧ Ts w p b 0 cap l ∧ (p = none → cap = 0) := by
  rcases h.2 with ⟨h1, h2⟩ | ⟨g, cap, cur, h1, h2, h3, h4, h5, h6, h7⟩
  · have hl : l = [] := List.eq_nil_of_length_eq_zero h2
    subst hl
    exact ⟨none, base, 0, h1, Nat.le_refl _, Ts.nil _ _ _, fun _ => rfl⟩
  · refine ⟨some ⟨g, 0, none⟩, g, cap, h1, h2, ⟨hok, h4, fun _ => ⟨rfl, (Array.getElem?_eq_some_iff.1 h3).1⟩, fun i u hi j c hc => ?_⟩, fun e => by cases e⟩
    have h8 := flatT_at l i u hi j c hc
    rw [← h7] at h8
    simp only [World.cell?, h3]
    rw [Nat.zero_add]
    rw [List.getElem?_take] at h8
    split at h8
    · simpa using h8
    · cases h8
theorem OwnT.nil (w : World) (base : Nat) : OwnT w base (.slice none 0 0) [] := ⟨rfl, .inl ⟨rfl, rfl⟩⟩
theorem OwnT.kept {w w' : World} {base : Nat} {v : Value} {l : List Vt} {row : Option Nat} (h : OwnT w base v l) (hg : w.grownBy w' row) (hne : ∀ k, v.ownBlock = some k → row ≠ some k) : OwnT w' base v l := by
  refine ⟨h.1, ?_⟩
  rcases h.2 with h2 | ⟨g, cap, cur, h1, h2, h3, r⟩
  · exact .inl h2
  · exact .inr ⟨g, cap, cur, h1, h2, (hg.block g (Array.getElem?_eq_some_iff.1 h3).1 (fun e => hne g (by rw [h1]; rfl) e.symm)).trans h3, r⟩
theorem OwnT.below {w w' : World} {base : Nat} {v : Value} {l : List Vt} (h : OwnT w base v l) (hB : Below w.heap.size w w') : OwnT w' base v l := by
  refine ⟨h.1, ?_⟩
  rcases h.2 with h2 | ⟨g, cap, cur, h1, h2, h3, r⟩
  · exact .inl h2
  · exact .inr ⟨g, cap, cur, h1, h2, (hB.block g (Array.getElem?_eq_some_iff.1 h3).1).trans h3, r⟩
theorem OwnT.bex {w w' : World} {base g : Nat} {v : Value} {l : List Vt} (h : OwnT w base v l) (hB : Bex g w w') (hg : g < base) : OwnT w' base v l := by
  refine ⟨h.1, ?_⟩
  rcases h.2 with h2 | ⟨k, cap, cur, h1, h2, h3, r⟩
  · exact .inl h2
  · exact .inr ⟨k, cap, cur, h1, h2, (hB.block k (Array.getElem?_eq_some_iff.1 h3).1 (by omega)).trans h3, r⟩
theorem OwnT.lt {w : World} {B k : Nat} {v : Value} {l : List Vt} (h : OwnT w B v l) (hk : v.ownBlock = some k) : B ≤ k ∧ k < w.heap.size := World.ownsRow.lt h k hk
theorem OwnT.base {w : World} {B C : Nat} {v : Value} {l : List Vt} (h : OwnT w B v l) (hC : C ≤ B) : OwnT w C v l := by
  refine ⟨h.1, ?_⟩
  rcases h.2 with h2 | ⟨g, cap, cur, h1, h2, r⟩
  · exact .inl h2
  · exact .inr ⟨g, cap, cur, h1, Nat.le_trans hC h2, r⟩
theorem OwnT.snoc {w : World} {B : Nat} {v : Value} {l : List Vt} {u : Vt} (h : w.ownsRow B 169 2 v (l.length + 1) (l.flatMap tL ++ tL u)) : OwnT w B v (l ++ [u]) := by
  unfold OwnT
  rw [List.length_append, List.flatMap_append, List.flatMap_cons, List.flatMap_nil, List.append_nil]
  exact h
/-- Votes that came in are hung onto a row of one's own. -/
theorem wpList_append_ts {ops : Array Oper} {rest : List Oper} {o : Oper} {a : Act} {w : World} {Q : Exit → Act → World → Prop} (hgd : o.guard = none) (s x : Operand)
    (ho : o.op = .call { callee := .builtin .append, args := #[s, x], argTypes := #[80, 80] }) (base n : Nat) (xs : List Value) (v : Value) (hs : a.eval s = v)
    (hown : w.ownsRow base 169 2 v n xs) (p : Option Addr) (b oo cap : Nat) (l : List Vt) (hx : a.eval x = .slice p l.length cap) (hb : Ts w p b oo cap l) (hn : n + l.length ≤ 100000) (hbase : base ≤ w.heap.size)
    (h : ∀ v' w', w'.ownsRow base 169 2 v' (n + l.length) (xs ++ l.flatMap tL) → w.grownBy w' v.ownBlock → wpList Tryz.prog ops Q rest (a.put o.dst v') w') : wpList Tryz.prog ops Q (o :: rest) a w := by
  obtain ⟨i0, hi, hz0, hz1, hz2⟩ := info_parts info_vote
  cases hp : p with
  | none =>
    have h1 : cap = 0 := by
      rcases Nat.eq_zero_or_pos cap with h0 | h0
      · exact h0
      · have := (hb.ptr h0).1; rw [hp] at this; cases this
    have h2 := hb.le
    have hL : l = [] := List.eq_nil_of_length_eq_zero (by omega)
    subst hL
    refine wpList_append_own_none hgd s x 80 ho base 169 i0 2 Tryz.underlying80 hi v n xs hs hown (by rw [hx, hp, h1]; rfl) ?_
    exact h v w (by simpa using hown) ⟨rfl, rfl, rfl, Nat.le_refl _, fun _ _ _ => rfl⟩
  | some y =>
    exact wpList_append_own _ hgd s x 80 ho base 169 i0 _ 2 16 Tryz.underlying80 hi hz0 hz1 hz2 rfl (by decide) v n xs hs hown y l.length cap (l.flatMap tL) (by rw [hx, hp]) (flat2 l)
      (fun j u hj => by
        obtain ⟨v, h1, h2⟩ := flatT_get hj
        have hlt := (List.getElem?_eq_some_iff.1 h1).1
        have hy := (hb.ptr (by have := hb.le; omega)).1
        rw [hp] at hy
        cases hy
        have q := hb.cell _ _ h1 _ _ h2
        rw [Addr.add_mid, show oo + j = oo + j / 2 * 2 + j % 2 by omega]
        exact q) (flatT_one l) (by unfold maxLen; omega) (by omega) hbase (fun v' w' h1 h2 _ => h v' w' h1 h2)
theorem own_nothingT (w : World) : (w.alloc (.cells #[] 169)).ownsRow w.heap.size 169 2 (.slice (some ⟨w.heap.size, 0, none⟩) 0 0) 0 [] :=
  ⟨rfl, .inr ⟨w.heap.size, 0, #[], rfl, Nat.le_refl _, heap_alloc_new w _, by decide, by decide, rfl, rfl⟩⟩
def partT (a : Option Addr) (cap k : Nat) : Option Addr := if cap = k then a else a.map (·.add (k * 2))
/-- A list with one more at a place. -/
def insT (l : List Vt) (i : Nat) (v : Vt) : List Vt := l.take i ++ v :: l.drop i
theorem Bex.grownBy {g : Nat} {w w' : World} (h : Bex g w w') : w.grownBy w' (some g) := ⟨h.os, h.tape, h.output, h.size, fun k hk hne => h.block k hk (fun e => hne (by rw [e]))⟩

end Go.Proofs.YtcmkmnidnapabaaGreat

/-! L7d: Commit: slices.Insert between others. -/
namespace Go.Proofs.YtcmkmnidnapabaaGreat
open Go.RowKit Go.Lib
set_option linter.unusedSimpArgs false

end Go.Proofs.YtcmkmnidnapabaaGreat
