/-
  Votes, a commit among a law's arguments.
-/
import Derived.Test.YtbhkjflpkpkdlaaL7a
import Derived.Test.YtbhkjflpkpkdlaaJw
import Derived.Test.YtbhkjflpkpkdlaaUi
namespace Go.Proofs.Ytbhkjflpkpkdlaa
open Go.RowKit Go.WideShapes Go.Joins Go.ChangeAt Go.ChangeShapes Go.Deep

instance : Inhabited Vt := ⟨⟨0, 0⟩⟩
section
variable {H : Type} {enc : TypeId × Value → H}
theorem vote_of_trod {W : World} {base fuel : Nat} {held : Bool} {cs : List Value} {x : DataW H × List MemPlace}
    (h : DataW.trod enc Try.prog W base (fun _ => true) held fuel 83 cs = some x) : ∃ v : Vt, VtOk v ∧ cs = tL v := by
  obtain ⟨xs, m, _, _, hsz, hl, hf⟩ := DataW.trod_struct Try.underlying83 h
  have hC : Try.prog.cellsOf 83 = 2 := by kernel_rfl
  rw [hC] at hsz
  have hl2 : xs.length = 2 := hl
  have ci : Try.prog.cellsOf 3 = 1 := by kernel_rfl
  have cu : Try.prog.cellsOf 37 = 1 := by kernel_rfl
  have t0 : DataW.trod enc Try.prog W base (fun _ => true) held m 3 ((cs.drop 0).take (Try.prog.cellsOf 3)) = xs[0]? := hf 0 _ rfl
  have t1 : DataW.trod enc Try.prog W base (fun _ => true) held m 37 ((cs.drop 1).take (Try.prog.cellsOf 37)) = xs[1]? := hf 1 _ rfl
  rw [ci, List.getElem?_eq_getElem (by omega)] at t0
  rw [cu, List.getElem?_eq_getElem (by omega)] at t1
  obtain ⟨n, e0, _, w0⟩ := DataW.trod_int Try.underlying3 t0
  obtain ⟨u, e1, _, w1⟩ := DataW.trod_int Try.underlying37 t1
  have b0 : -9223372036854775808 ≤ n ∧ n ≤ 9223372036854775807 := by
    have q : IntKind.i64.min ≤ n ∧ n ≤ IntKind.i64.max := by simpa [Lit.wf] using w0
    exact q
  have b1 : 0 ≤ u ∧ u ≤ 18446744073709551615 := by
    have q : IntKind.u64.min ≤ u ∧ u ≤ IntKind.u64.max := by simpa [Lit.wf] using w1
    exact q
  have e1' : cs.drop 1 = [.int .u64 u] := by
    have h1 : (cs.drop 1).take 1 = cs.drop 1 := List.take_of_length_le (by rw [List.length_drop]; omega)
    rw [← h1]; exact e1
  refine ⟨⟨n, u.toNat⟩, ⟨b0, by show u.toNat < 18446744073709551616; omega⟩, ?_⟩
  have h1 : cs = (cs.drop 0).take 1 ++ cs.drop 1 := by rw [List.drop_zero]; exact (List.take_append_drop 1 cs).symm
  rw [e0, e1'] at h1
  rw [h1]
  unfold tL
  rw [Int.toNat_of_nonneg b1.1]
  rfl
set_option maxRecDepth 100000 in
theorem votes_of_trod {W : World} {base fuel : Nat} {held : Bool} {cs1 : List Value} {x : DataW H × List MemPlace}
    (hf : DataW.trod enc Try.prog W base (fun _ => true) held fuel 61 cs1 = some x) : ∃ (a : Option Addr) (b o cap : Nat) (l : List Vt), cs1 = [.slice a l.length cap] ∧ Ts W a b o cap l ∧ (a = none → cap = 0) := by
  have hC : Try.prog.cellsOf 83 = 2 := by kernel_rfl
  rcases open_slice Try.underlying61 hf with ⟨hcs, _⟩ | ⟨x, len, cap, m, n, D, Pl, hcs, hb, hl, hm, hmm, _, hx⟩
  · exact ⟨none, 0, 0, 0, [], hcs, Ts.nil _ _ _, fun _ => rfl⟩
  · simp only [if_true] at hmm
    subst hmm
    obtain ⟨f, hfv⟩ := choose_lt (α := Vt) (p := fun i v => VtOk v ∧ W.cells? base (x.add (i * 2)) 2 = some (tL v)) (fun i hi => by
      obtain ⟨cs, h1, h2⟩ := hx i hi
      obtain ⟨v, hv, rfl⟩ := vote_of_trod h2
      have hC' : Try.prog.cellsOf (Try.prog.elem 61) = 2 := by kernel_rfl
      first
      | (rw [hC] at h1; exact ⟨v, hv, h1⟩)
      | (rw [hC'] at h1; exact ⟨v, hv, h1⟩))
    have hcell : ∀ i, i < m → ∀ j c, (tL (f i))[j]? = some c → W.cell? ((x.add (i * 2)).add j) = some c := fun i hi j c hj => by
      have h1 := (World.cells?_some (hfv i hi).2).2.2 j (by have := (List.getElem?_eq_some_iff.1 hj).1; exact this)
      exact h1.trans hj
    by_cases h0 : 0 < m
    · have c0 := hcell 0 h0 0 _ rfl
      have hsp : x.spot = .none := by
        have h1 := World.cell?_spot c0
        simpa [Addr.add] using h1
      have hlt : x.block < W.heap.size := by
        have h1 := cell_lt c0
        simpa [Addr.add] using h1
      obtain ⟨bb, bo, sp⟩ := x
      simp only at hsp hlt
      subst hsp
      refine ⟨some ⟨bb, bo, none⟩, bb, bo, m, (List.range len).map f, by simpa using hcs, ⟨fun v hv => ?_, by simpa using hl, fun _ => ⟨rfl, hlt⟩, fun i v hi j c hj => ?_⟩, fun e => by cases e⟩
      · obtain ⟨i, hi, rfl⟩ := List.mem_map.1 hv
        rw [List.mem_range] at hi
        exact (hfv i (by omega)).1
      · obtain ⟨hi1, rfl⟩ := List.getElem?_eq_some_iff.1 hi
        simp only [List.length_map, List.length_range] at hi1
        simp only [List.getElem_map, List.getElem_range] at hj
        have q := hcell i (by omega) j c hj
        rw [Addr.add_mid, Addr.add_mid] at q
        exact q
    · obtain rfl : m = 0 := by omega
      obtain rfl : len = 0 := by omega
      exact ⟨some x, 0, 0, 0, [], by simpa using hcs, ⟨by simp, by simp, fun h => absurd h (by omega), fun i v hi => by simp at hi⟩, fun e => by cases e⟩
theorem com_of_trod {W : World} {base fuel : Nat} {held : Bool} {cs : List Value} {x : DataW H × List MemPlace}
    (h : DataW.trod enc Try.prog W base (fun _ => true) held fuel 63 cs = some x) :
    ∃ (n : Int) (p : List Nat) (a : Option Addr) (b o cap : Nat) (l : List Vt), cs = cC n p (.slice a l.length cap) ∧ (-9223372036854775808 ≤ n ∧ n ≤ 9223372036854775807) ∧ Bytes 32 p ∧ Ts W a b o cap l ∧ (a = none → cap = 0) := by
  obtain ⟨xs, m, _, _, hsz, hl, hf⟩ := DataW.trod_struct Try.underlying63 h
  have hC : Try.prog.cellsOf 63 = 34 := by kernel_rfl
  rw [hC] at hsz
  have hl3 : xs.length = 3 := hl
  have ci : Try.prog.cellsOf 3 = 1 := by kernel_rfl
  have ch : Try.prog.cellsOf 34 = 32 := by kernel_rfl
  have cv : Try.prog.cellsOf 61 = 1 := by kernel_rfl
  have t0 : DataW.trod enc Try.prog W base (fun _ => true) held m 3 ((cs.drop 0).take (Try.prog.cellsOf 3)) = xs[0]? := hf 0 _ rfl
  have t1 : DataW.trod enc Try.prog W base (fun _ => true) held m 34 ((cs.drop 1).take (Try.prog.cellsOf 34)) = xs[1]? := hf 1 _ rfl
  have t2 : DataW.trod enc Try.prog W base (fun _ => true) held m 61 ((cs.drop 33).take (Try.prog.cellsOf 61)) = xs[2]? := hf 2 _ rfl
  rw [ci, List.getElem?_eq_getElem (by omega)] at t0
  rw [ch, List.getElem?_eq_getElem (by omega)] at t1
  rw [cv, List.getElem?_eq_getElem (by omega)] at t2
  obtain ⟨n, e0, _, w0⟩ := DataW.trod_int Try.underlying3 t0
  obtain ⟨p, hp, e1⟩ := arr_of_trod Try.underlying34 ch t1
  obtain ⟨a, b, o, cap, l, e2, hT, hz⟩ := votes_of_trod t2
  have b0 : -9223372036854775808 ≤ n ∧ n ≤ 9223372036854775807 := by
    have q : IntKind.i64.min ≤ n ∧ n ≤ IntKind.i64.max := by simpa [Lit.wf] using w0
    exact q
  have e2' : cs.drop 33 = [.slice a l.length cap] := by
    have h1 : (cs.drop 33).take 1 = cs.drop 33 := List.take_of_length_le (by rw [List.length_drop]; omega)
    rw [← h1]; exact e2
  refine ⟨n, p, a, b, o, cap, l, ?_, b0, hp, hT, hz⟩
  have hs : ∀ i n, (cs.drop i).take n ++ cs.drop (i + n) = cs.drop i := fun i n => by rw [← List.drop_drop]; exact List.take_append_drop n _
  have h1 : cs = (cs.drop 0).take 1 ++ ((cs.drop 1).take 32 ++ cs.drop 33) := by rw [hs 1 32, hs 0 1, List.drop_zero]
  rw [e0, e1, e2'] at h1
  rw [h1]
  rfl
set_option maxRecDepth 100000 in
theorem open_com {W : World} {r : Reach} {b0 base : Nat} {held : Bool} {v : Value} {d : DataW H} {p : List MemPlace} (hv : Value.okWide Try.prog W r b0 63 v) (h : DataW.Trod enc Try.prog W base (fun _ => true) held 63 v d p) :
    ∃ (n : Int) (ph : List Nat) (a : Option Addr) (b o cap : Nat) (l : List Vt), v = .agg (cC n ph (.slice a l.length cap)).toArray ∧ (-9223372036854775808 ≤ n ∧ n ≤ 9223372036854775807) ∧ Bytes 32 ph ∧ Ts W a b o cap l ∧ (a = none → cap = 0) := by
  obtain ⟨cs, rfl, _⟩ := okWide_struct Try.underlying63 hv
  obtain ⟨fuel, hf⟩ := h
  obtain ⟨n, ph, a, b, o, cap, l, h1, h2, h3, h4, h5⟩ := com_of_trod hf
  refine ⟨n, ph, a, b, o, cap, l, ?_, h2, h3, h4, h5⟩
  congr 1
  exact Array.toList_inj.1 h1
set_option maxRecDepth 100000 in
theorem open_vote {W : World} {r : Reach} {b0 base : Nat} {held : Bool} {v : Value} {d : DataW H} {p : List MemPlace} (hv : Value.okWide Try.prog W r b0 83 v) (h : DataW.Trod enc Try.prog W base (fun _ => true) held 83 v d p) :
    ∃ u : Vt, VtOk u ∧ v = .agg #[.int .i64 u.a, .int .u64 (u.s : Nat)] := by
  obtain ⟨cs, rfl, _⟩ := okWide_struct Try.underlying83 hv
  obtain ⟨fuel, hf⟩ := h
  obtain ⟨u, hu, h1⟩ := vote_of_trod hf
  refine ⟨u, hu, ?_⟩
  congr 1
  exact Array.toList_inj.1 h1
end
end Go.Proofs.Ytbhkjflpkpkdlaa
