/-
  Things in a slice; both readers read a thing alike, whatever its kind.
-/
import Derived.Test.YtbhkjflpkpkdlaaWra
import Derived.Test.YtbhkjflpkpkdlaaJw
namespace Go.Proofs.Ytbhkjflpkpkdlaa
open Go.RowKit Go.Lib Go.WideShapes Go.Joins Go.ChangeAt Go.ChangeShapes Go.Deep
set_option linter.unusedVariables false

/-- A thing: its fields; the bytes that its slice has, and where. -/
structure Tg where
  kd : Int
  n : Int
  p : Option Addr
  bb : Nat
  oo : Nat
  cap : Nat
  L : List Nat
  h : List Nat
  k : List Nat
  x : Nat
  is : Bool
instance : Inhabited Tg := ⟨⟨0, 0, none, 0, 0, 0, [], [], [], 0, false⟩⟩
def tgL (t : Tg) : List Value := thL t.kd t.n t.p t.L.length t.cap t.h t.k t.x t.is
structure TgOk (w : World) (t : Tg) : Prop where
  bs : Bs w t.p t.bb t.oo t.L t.cap
  h : Bytes 32 t.h
  k : Bytes 4 t.k
  x : t.x < 18446744073709551616
  kd : -9223372036854775808 ≤ t.kd ∧ t.kd ≤ 9223372036854775807
  n : -9223372036854775808 ≤ t.n ∧ t.n ≤ 9223372036854775807
  nil : t.p = none → t.cap = 0
theorem TgOk.below {w w' : World} {t : Tg} (H : TgOk w t) (h : Below w.heap.size w w') : TgOk w' t := ⟨H.bs.below h, H.h, H.k, H.x, H.kd, H.n, H.nil⟩
theorem tgL_len {w : World} {t : Tg} (H : TgOk w t) : (tgL t).length = 41 := thL_len _ _ _ _ _ _ _ H.h.1 H.k.1
/-- Things in a slice. -/
structure TgS (w : World) (a : Option Addr) (b o cap : Nat) (l : List Tg) : Prop where
  ok : ∀ t ∈ l, TgOk w t
  le : l.length ≤ cap
  ptr : 0 < cap → a = some ⟨b, o, none⟩ ∧ b < w.heap.size
  cell : ∀ i t, l[i]? = some t → ∀ j c, (tgL t)[j]? = some c → w.cell? ⟨b, o + i * 41 + j, none⟩ = some c
theorem TgS.below {w w' : World} {a : Option Addr} {b o cap : Nat} {l : List Tg} (h : TgS w a b o cap l) (hB : Below w.heap.size w w') : TgS w' a b o cap l :=
  ⟨fun t ht => (h.ok t ht).below hB, h.le, fun h0 => ⟨(h.ptr h0).1, Nat.lt_of_lt_of_le (h.ptr h0).2 hB.size⟩, fun i t hi j c hc => (hB.cell (cell_lt (h.cell i t hi j c hc))).trans (h.cell i t hi j c hc)⟩
theorem TgS.at {w : World} {a : Option Addr} {b o cap : Nat} {l : List Tg} (h : TgS w a b o cap l) {i : Nat} (hi : i < l.length) :
    ∃ t, l[i]? = some t ∧ TgOk w t ∧ a = some ⟨b, o, none⟩ ∧ w.rangeAt b (o + i * 41) (tgL t) := by
  have hv := List.getElem?_eq_getElem hi
  have h0 : 0 < cap := by have := h.le; omega
  exact ⟨l[i], hv, h.ok _ (List.getElem_mem hi), (h.ptr h0).1, fun j c hc => h.cell i _ hv j c hc⟩
section
variable {H : Type} {enc : TypeId × Value → H}
set_option maxRecDepth 100000 in
theorem things_of_trod {W : World} {base fuel : Nat} {held : Bool} {cs1 : List Value} {x : DataW H × List MemPlace}
    (hf : DataW.trod enc Try.prog W base (fun _ => true) held fuel 22 cs1 = some x) : ∃ (a : Option Addr) (b o cap : Nat) (l : List Tg), cs1 = [.slice a l.length cap] ∧ TgS W a b o cap l := by
  have hC : Try.prog.cellsOf 39 = 41 := by kernel_rfl
  rcases open_slice Try.underlying22 hf with ⟨hcs, _⟩ | ⟨x, len, cap, m, n, D, Pl, hcs, hb, hl, hm, hmm, _, hx⟩
  · exact ⟨none, 0, 0, 0, [], hcs, by simp, by simp, fun h => absurd h (by omega), fun i v hi => by simp at hi⟩
  · simp only [if_true] at hmm
    subst hmm
    obtain ⟨f, hfv⟩ := choose_lt (α := Tg) (p := fun i v => TgOk W v ∧ W.cells? base (x.add (i * 41)) 41 = some (tgL v)) (fun i hi => by
      obtain ⟨cs, h1, h2⟩ := hx i hi
      obtain ⟨kd, n, p, b, o, ln, cp, L, hs, ks, x, is, rfl, hln, hB, hh, hk, hx, hkd, hn, hnil⟩ := thing_of_trod h2
      subst hln
      have hC' : Try.prog.cellsOf (Try.prog.elem 22) = 41 := by kernel_rfl
      have q : TgOk W ⟨kd, n, p, b, o, cp, L, hs, ks, x, is⟩ := ⟨hB, hh, hk, hx, hkd, hn, hnil⟩
      first
      | (rw [hC] at h1; exact ⟨⟨kd, n, p, b, o, cp, L, hs, ks, x, is⟩, q, h1⟩)
      | (rw [hC'] at h1; exact ⟨⟨kd, n, p, b, o, cp, L, hs, ks, x, is⟩, q, h1⟩))
    have hcell : ∀ i, i < m → ∀ j c, (tgL (f i))[j]? = some c → W.cell? ((x.add (i * 41)).add j) = some c := fun i hi j c hj => by
      have h1 := (World.cells?_some (hfv i hi).2).2.2 j (by have := (List.getElem?_eq_some_iff.1 hj).1; rw [tgL_len (hfv i hi).1] at this; exact this)
      exact h1.trans hj
    by_cases h0 : 0 < m
    · have c0 := hcell 0 h0 0 _ rfl
      have hsp : x.spot = .none := by
        have h1 := World.cell?_spot c0
        simpa [Addr.add] using h1
      have hlt : x.block < W.heap.size := by
        have h1 := cell_lt c0
        simpa [Addr.add] using h1
      obtain ⟨bb, bo, sp⟩ := x
      simp only at hsp hlt
      subst hsp
      refine ⟨some ⟨bb, bo, none⟩, bb, bo, m, (List.range len).map f, by simpa using hcs, ⟨fun v hv => ?_, by simpa using hl, fun _ => ⟨rfl, hlt⟩, fun i v hi j c hj => ?_⟩⟩
      · obtain ⟨i, hi, rfl⟩ := List.mem_map.1 hv
        rw [List.mem_range] at hi
        exact (hfv i (by omega)).1
      · obtain ⟨hi1, rfl⟩ := List.getElem?_eq_some_iff.1 hi
        simp only [List.length_map, List.length_range] at hi1
        simp only [List.getElem_map, List.getElem_range] at hj
        have q := hcell i (by omega) j c hj
        rw [Addr.add_mid, Addr.add_mid] at q
        exact q
    · obtain rfl : m = 0 := by omega
      obtain rfl : len = 0 := by omega
      exact ⟨some x, 0, 0, 0, [], by simpa using hcs, ⟨by simp, by simp, fun h => absurd h (by omega), fun i v hi => by simp at hi⟩⟩
set_option maxRecDepth 100000 in
theorem open_things {W : World} {r : Reach} {b0 base : Nat} {held : Bool} {v : Value} {d : DataW H} {p : List MemPlace} (hv : Value.okWide Try.prog W r b0 22 v) (h : DataW.Trod enc Try.prog W base (fun _ => true) held 22 v d p) :
    ∃ (a : Option Addr) (b o cap : Nat) (l : List Tg), v = .slice a l.length cap ∧ TgS W a b o cap l := by
  obtain ⟨a, n, c, rfl⟩ := okWide_slice Try.underlying22 hv
  obtain ⟨fuel, hf⟩ := h
  obtain ⟨a', b, o, cap, l, e, hb⟩ := things_of_trod hf
  have e2 : Value.slice a n c = .slice a' l.length cap := List.head_eq_of_cons_eq e
  rw [e2]
  exact ⟨_, b, o, _, l, rfl, hb⟩
end
/-- What a reader's plain state keeps. -/
structure Inv (s : RS) : Prop where
  z : s.e ≠ 0 → s.R = []
  len : s.R.length ≤ 3000
theorem Inv.rdN {α : Type} {pr : List Nat → PR α} {s : RS} (H : Inv s) : Inv (rdN pr s) := by
  unfold Go.Proofs.Ytbhkjflpkpkdlaa.rdN
  by_cases h0 : s.e ≠ 0
  · rw [if_pos h0]; exact H
  · rw [if_neg h0]
    cases hp : pr s.R with
    | ok v n => exact ⟨fun h => absurd rfl h, by simp only [List.length_drop]; have := H.len; omega⟩
    | er x => exact ⟨fun _ => rfl, by simp⟩
/-- What reading a thing leaves of the plain state. -/
theorem reads_any {w : World} {g b g2 b2 : Nat} {s : RS} (H : RR w g b g2 b2 s) (hI : Inv s) (t : Tg) :
    Calls Try.prog 24 #[.pointer (some ⟨g, 0, none⟩), .pointer (some ⟨g2, 0, none⟩), .agg (tgL t).toArray] w fun e w' => ∃ s', Inv s' ∧ RRL w g b g2 b2 s' e w' := by
  obtain ⟨kd, n, p, bb, oo, cap, L, h, k, x, is⟩ := t
  unfold tgL
  simp only
  by_cases hk : kd < 0 ∨ 7 < kd
  · exact (reads_else H kd n p L.length cap h k x is hk).mono fun e w' q => ⟨_, hI, q.low⟩
  · rcases (show kd = 0 ∨ kd = 1 ∨ kd = 2 ∨ kd = 3 ∨ kd = 4 ∨ kd = 5 ∨ kd = 6 ∨ kd = 7 by omega) with rfl | rfl | rfl | rfl | rfl | rfl | rfl | rfl
    · exact (reads_Num H n p L.length cap h k x is).mono fun e w' q => ⟨_, hI.rdN, q.low⟩
    · exact (reads_Text H n p L.length cap h k x is).mono fun e w' q => ⟨_, hI.rdN, q.low⟩
    · exact (reads_Bytes H n p L.length cap h k x is hI.len).mono fun e w' q => ⟨_, hI.rdN, q⟩
    · exact (reads_Hash H n p L.length cap h k x is).mono fun e w' q => ⟨_, hI.rdN, q.low⟩
    · exact (reads_Key H n p L.length cap h k x is).mono fun e w' q => ⟨_, hI.rdN, q.low⟩
    · exact (reads_Word H n p L.length cap h k x is).mono fun e w' q => ⟨_, hI.rdN, q.low⟩
    · exact (reads_Pace H n p L.length cap h k x is).mono fun e w' q => ⟨_, hI.rdN, q.low⟩
    · exact (reads_Bool H n p L.length cap h k x is).mono fun e w' q => ⟨_, hI.rdN, q.low⟩
end Go.Proofs.Ytbhkjflpkpkdlaa
