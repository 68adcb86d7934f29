/-
  Texts Vi, Vj, Vk, one behind the other.
-/
import Derived.Test.YtcmkmnidnapabaaGreatUa
import Derived.Test.YtcmkmnidnapabaaGreatUb
import Derived.Deep.RegionHeld3
import Derived.RangeFuncNested
import Derived.RangeFuncBound
import Derived.RangeFuncCalls
import Derived.RangeFuncLeaves
import Derived.Shelf.Abstract
import Derived.Shelf.RegionOpen
import Derived.OwnWalkIn
import Derived.TacticsInMore
import Derived.LoopNIn
import Derived.LoopIn
import Derived.ControlIn
import Derived.RegionTactic

/-! Vi: The first keys of two lists compared; a key found in a set; what is wrong with changes. -/
namespace Go.Proofs.YtcmkmnidnapabaaGreat
open Go.RowKit Go.Lib

def SortedK (l : List Vd) : Prop := l.Pairwise (fun u v => u.k < v.k)
def cmpF : List Vd → List Vd → Int
  | _, [] => -1
  | [], _ :: _ => 1
  | a :: _, b :: _ => cmpK a.k b.k
/-- A key stands in a list. -/
def hasK (l : List Vd) (k : Nat) : Bool := l.any (fun v => v.k == k)
/-- An element, and a key, lie in their blocks. -/
def ES (b f x k : Nat) (v : Vd) (W : World) : Prop :=
  W.cell? ⟨b, f, none⟩ = some (.int .u8 (kd v.k 3 : Nat)) ∧ W.cell? ⟨b, f + 1, none⟩ = some (.int .u8 (kd v.k 2 : Nat)) ∧ W.cell? ⟨b, f + 2, none⟩ = some (.int .u8 (kd v.k 1 : Nat)) ∧ W.cell? ⟨b, f + 3, none⟩ = some (.int .u8 (kd v.k 0 : Nat)) ∧ W.cell? ⟨b, f + 4, none⟩ = some (.int .i64 v.p) ∧
  W.cell? ⟨x, 0, none⟩ = some (.int .u8 (kd k 3 : Nat)) ∧ W.cell? ⟨x, 1, none⟩ = some (.int .u8 (kd k 2 : Nat)) ∧ W.cell? ⟨x, 2, none⟩ = some (.int .u8 (kd k 1 : Nat)) ∧ W.cell? ⟨x, 3, none⟩ = some (.int .u8 (kd k 0 : Nat))
theorem ES.drew {b f x k : Nat} {v : Vd} {W : World} (h : Hid (ES b f x k v W)) : Hid (ES b f x k v W.drew) := hidp h.out
theorem ES.below {b f x k : Nat} {v : Vd} {W W' : World} (h : Hid (ES b f x k v W)) (hB : Below W.heap.size W W') : Hid (ES b f x k v W') := by
  obtain ⟨h1, h2, h3, h4, h5, h6, h7, h8, h9⟩ := h.out
  have q : ∀ {p : Addr} {u : Value}, W.cell? p = some u → W'.cell? p = some u := fun hc => (hB.cell (cell_lt hc)).trans hc
  exact hidp ⟨q h1, q h2, q h3, q h4, q h5, q h6, q h7, q h8, q h9⟩
structure BsI (w wr : World) (i j k : Nat) (l : List Vd) : Prop where
  bel : Below w.heap.size w wr
  key : Blk wr w.heap.size [.int .u8 (kd k 3 : Nat), .int .u8 (kd k 2 : Nat), .int .u8 (kd k 1 : Nat), .int .u8 (kd k 0 : Nat)] 24
  hij : i ≤ j
  hj : j ≤ l.length
  lo : ∀ (m : Nat) (u : Vd), m < i → l[m]? = some u → u.k < k
  hi : ∀ (m : Nat) (u : Vd), j ≤ m → l[m]? = some u → k ≤ u.k
end Go.Proofs.YtcmkmnidnapabaaGreat

/-! Vj: What is wrong with changes. -/
namespace Go.Proofs.YtcmkmnidnapabaaGreat
open Go.RowKit Go.Lib

/-- What is wrong with changes. -/
def chgFrom (l : List Vd) : Option Nat → List Vd → Nat
  | _, [] => 0
  | q, v :: r => if nextE q v 0 = 0 then (if v.p = 0 ∧ hasK l v.k = false then 10 else chgFrom l (some v.k) r) else nextE q v 0
structure CcI (w wr : World) (g i : Nat) (l c : List Vd) (q : Option Nat) : Prop where
  asc : Asc wr g q
  bel : Below w.heap.size w wr
  hg : w.heap.size ≤ g
  hq : ∀ x, q = some x → x < 4294967296
  e : chgFrom l none c = chgFrom l q (c.drop i)
theorem CcI.split {w wr : World} {g i : Nat} {l c : List Vd} {q : Option Nat} {v : Vd} (H : CcI w wr g i l c q) (hv : c[i]? = some v) : chgFrom l none c = if nextE q v 0 = 0 then (if v.p = 0 ∧ hasK l v.k = false then 10 else chgFrom l (some v.k) (c.drop (i + 1))) else nextE q v 0 := by
  rw [H.e]
  obtain ⟨hlt, rfl⟩ := List.getElem?_eq_some_iff.1 hv
  rw [List.drop_eq_getElem_cons hlt]
  rfl
end Go.Proofs.YtcmkmnidnapabaaGreat

/-! Vk: The validators of a set and of its changes, merged: the iterator. -/
namespace Go.Proofs.YtcmkmnidnapabaaGreat
open Go.RowKit Go.Lib Go.Shelf
attribute [local go_sem] Oper.semAt_some

def mrg : List Vd → List Vd → List Vd
  | [], f => f
  | a :: o, [] => a :: o
  | a :: o, b :: f => if a.k < b.k then a :: mrg o (b :: f) else if b.k < a.k then b :: mrg (a :: o) f else b :: mrg o f
termination_by o f => o.length + f.length
/-- A slice's rest: its address. -/
def partV (a : Option Addr) (cap : Nat) : Option Addr := if cap = 1 then a else a.map (·.add 5)
theorem Vs.tail {w : World} {a : Option Addr} {b o cap : Nat} {v : Vd} {l : List Vd} (h : Vs w a b o cap (v :: l)) : Vs w (partV a cap) b (o + 5) (cap - 1) l := by
  have hle := h.le
  rw [List.length_cons] at hle
  refine ⟨fun u hu => h.ok u (by simp [hu]), by omega, fun h0 => ?_, fun i u hi j c hc => ?_⟩
  · obtain ⟨h1, h2⟩ := h.ptr (by omega)
    refine ⟨?_, h2⟩
    rw [h1]
    unfold partV
    rw [if_neg (by omega)]
    simp [Addr.add_mid]
  · have q := h.cell (i + 1) u (by simpa using hi) j c hc
    rw [show o + 5 + i * 5 + j = o + (i + 1) * 5 + j by omega]
    exact q
theorem Vs.lower {B : Nat} {w w' : World} {a : Option Addr} {b o cap : Nat} {l : List Vd} (h : Vs w a b o cap l) (hB : Below B w w') (hb : 0 < cap → b < B) : Vs w' a b o cap l :=
  ⟨h.ok, h.le, fun h0 => ⟨(h.ptr h0).1, Nat.lt_of_lt_of_le (h.ptr h0).2 hB.size⟩, fun i v hi j c hc => by
    have h0 : 0 < cap := by
      have h1 := h.le
      have h2 := (List.getElem?_eq_some_iff.1 hi).1
      omega
    exact (hB.cell (p := ⟨b, o + i * 5 + j, none⟩) (hb h0)).trans (h.cell i v hi j c hc)⟩
theorem grown_of_below {W W' : World} (h : Below W.heap.size W W') : W.grownBy W' none := ⟨h.os, h.tape, h.output, h.size, fun k hk _ => h.block k hk⟩
def lenV : Value → Nat
  | .slice _ n _ => n
  | _ => 0
/-- What stands from round to round. -/
structure MgI (J : List Vd → World → Prop) (n₀ b1 b2 : Nat) (lo lf : List Vd) (wr : World) (pre : List Vd) (a1 : Option Addr) (o1 cap1 : Nat) (l1 : List Vd) (a2 : Option Addr) (o2 cap2 : Nat) (l2 : List Vd) : Prop where
  v1 : Vs wr a1 b1 o1 cap1 l1
  v2 : Vs wr a2 b2 o2 cap2 l2
  h1 : 0 < cap1 → b1 < n₀
  h2 : 0 < cap2 → b2 < n₀
  e : mrg lo lf = pre ++ mrg l1 l2
  j : J pre wr
  n0 : n₀ ≤ wr.heap.size
theorem MgI.left {J : List Vd → World → Prop} {n₀ b1 b2 : Nat} {lo lf : List Vd} {wr W3 : World} {pre : List Vd} {a1 : Option Addr} {o1 cap1 : Nat} {x : Vd} {l1 : List Vd} {a2 : Option Addr} {o2 cap2 : Nat} {l2 : List Vd}
    (H : MgI J n₀ b1 b2 lo lf wr pre a1 o1 cap1 (x :: l1) a2 o2 cap2 l2) (hm : mrg (x :: l1) l2 = x :: mrg l1 l2) (hj : J (pre ++ [x]) W3) (hB : Below n₀ wr W3) : MgI J n₀ b1 b2 lo lf W3 (pre ++ [x]) (partV a1 cap1) (o1 + 5) (cap1 - 1) l1 a2 o2 cap2 l2 :=
  ⟨H.v1.tail.lower hB (fun h => H.h1 (by omega)), H.v2.lower hB H.h2, fun h => H.h1 (by omega), H.h2, by rw [H.e, hm]; simp, hj, Nat.le_trans H.n0 hB.size⟩
theorem MgI.right {J : List Vd → World → Prop} {n₀ b1 b2 : Nat} {lo lf : List Vd} {wr W3 : World} {pre : List Vd} {a1 : Option Addr} {o1 cap1 : Nat} {x : Vd} {l1 : List Vd} {a2 : Option Addr} {o2 cap2 : Nat} {l2 : List Vd}
    (H : MgI J n₀ b1 b2 lo lf wr pre a1 o1 cap1 l1 a2 o2 cap2 (x :: l2)) (hm : mrg l1 (x :: l2) = x :: mrg l1 l2) (hj : J (pre ++ [x]) W3) (hB : Below n₀ wr W3) : MgI J n₀ b1 b2 lo lf W3 (pre ++ [x]) a1 o1 cap1 l1 (partV a2 cap2) (o2 + 5) (cap2 - 1) l2 :=
  ⟨H.v1.lower hB H.h1, H.v2.tail.lower hB (fun h => H.h2 (by omega)), H.h1, fun h => H.h2 (by omega), by rw [H.e, hm]; simp, hj, Nat.le_trans H.n0 hB.size⟩
def fill5 (W : World) (r : Nat) (x : Vd) : World := ((((W.setCell ⟨r, 0, none⟩ (.int .u8 (kd x.k 3 : Nat))).setCell ⟨r, 1, none⟩ (.int .u8 (kd x.k 2 : Nat))).setCell ⟨r, 2, none⟩ (.int .u8 (kd x.k 1 : Nat))).setCell ⟨r, 3, none⟩ (.int .u8 (kd x.k 0 : Nat))).setCell ⟨r, 4, none⟩ (.int .i64 x.p)
theorem filled {wr w2 : World} {r : Nat} {x : Vd} {a b c d e : Value} (hb : Below r wr w2) (hl : Blk w2 r [a, b, c, d, e] 111) : Hid (Below r wr (fill5 w2 r x).drew ∧ Blk (fill5 w2 r x).drew r [.int .u8 (kd (x).k 3 : Nat), .int .u8 (kd (x).k 2 : Nat), .int .u8 (kd (x).k 1 : Nat), .int .u8 (kd (x).k 0 : Nat), .int .i64 (x).p] 111) :=
  hidp ⟨(((((hb.setCell (p := ⟨r, 0, none⟩) (Nat.le_refl _) _).setCell (p := ⟨r, 1, none⟩) (Nat.le_refl _) _).setCell (p := ⟨r, 2, none⟩) (Nat.le_refl _) _).setCell (p := ⟨r, 3, none⟩) (Nat.le_refl _) _).setCell (p := ⟨r, 4, none⟩) (Nat.le_refl _) _).drew, (((((hl.set 0 _).set 1 _).set 2 _).set 3 _).set 4 _).drew⟩
abbrev encV (x : Vd) : Array Value := #[.agg #[.int .u8 (kd (x).k 3 : Nat), .int .u8 (kd (x).k 2 : Nat), .int .u8 (kd (x).k 1 : Nat), .int .u8 (kd (x).k 0 : Nat), .int .i64 (x).p]]
end Go.Proofs.YtcmkmnidnapabaaGreat
