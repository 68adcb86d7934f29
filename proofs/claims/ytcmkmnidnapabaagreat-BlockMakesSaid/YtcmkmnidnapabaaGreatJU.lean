/-
  Texts Jw, Ui, one behind the other.
-/
import Derived.Test.YtcmkmnidnapabaaGreatQf
import Derived.ProofKit
import Derived.OpenShut
import Derived.Lib.SmallJoins
import Derived.ChangeSlices
import Derived.Test.YtcmkmnidnapabaaGreatUa
import Derived.Test.YtcmkmnidnapabaaGreatUb
import Derived.Deep.Slices

/-! Jw: A thing among a law's arguments. -/
namespace Go.Proofs.YtcmkmnidnapabaaGreat
open Go.RowKit Go.WideShapes Go.Joins Go.ChangeAt Go.ChangeShapes

theorem IsRow.lit {k : IntKind} {w : World} {a : Option Addr} {len cap : Nat} {zs : List Int} (h : IsRow k w a len cap zs) : len ≤ cap := by
  rcases h with ⟨_, rfl, rfl, _⟩ | ⟨_, _, h2, _⟩
  · exact Nat.le_refl _
  · exact h2
section
variable {H : Type} {enc : TypeId × Value → H}
theorem arr_of_trod {W : World} {base : Nat} {spare : Nat → Bool} {held : Bool} {n fuel : Nat} {t : TypeId} {cs : List Value} {x : DataW H × List MemPlace} (hu : Tryz.prog.underlying t = some (.array n 5)) (hn : Tryz.prog.cellsOf t = n)
    (h : DataW.trod enc Tryz.prog W base spare held fuel t cs = some x) : ∃ a : List Nat, Bytes n a ∧ cs = bvs a := by
  have he : Tryz.prog.cellsOf 5 = 1 := by kernel_rfl
  obtain ⟨xs, m, _, _, hsz, hx, hi⟩ := DataW.trod_array hu h
  rw [he] at hi
  have hl32 : cs.length = n := hsz.trans hn
  have key : ∀ i, i < n → ∃ y : Nat, y < 256 ∧ cs[i]? = some (.int .u8 (y : Nat)) := by
    intro i hlt
    have h1 := hi i hlt
    rw [Nat.mul_one, List.getElem?_eq_getElem (by omega)] at h1
    obtain ⟨y, e1, _, hw⟩ := DataW.trod_int Tryz.underlying5 h1
    have hb : 0 ≤ y ∧ y ≤ 255 := by
      have q : IntKind.u8.min ≤ y ∧ y ≤ IntKind.u8.max := by simpa [Lit.wf] using hw
      exact q
    refine ⟨y.toNat, by omega, ?_⟩
    have e2 : cs.drop i = cs[i]'(by omega) :: cs.drop (i + 1) := (List.getElem_cons_drop (by omega)).symm
    have e1 : (cs.drop i).take 1 = [.int .u8 y] := e1
    rw [e2] at e1
    simp only [List.take_succ_cons, List.take_zero, List.cons.injEq, and_true] at e1
    rw [List.getElem?_eq_getElem (by omega), e1, Int.toNat_of_nonneg hb.1]
  refine ⟨(List.range n).map fun i => (RowKit.intOf (cs.getD i undef)).toNat, ⟨by simp, ?_⟩, ?_⟩
  · intro x hx
    simp only [List.mem_map, List.mem_range] at hx
    obtain ⟨i, hlt, rfl⟩ := hx
    obtain ⟨y, hn, e⟩ := key i hlt
    rw [List.getD_eq_getElem?_getD, e]
    show ((y : Int)).toNat < 256
    omega
  · apply List.ext_getElem?
    intro i
    unfold bvs
    by_cases hlt : i < n
    · obtain ⟨y, hn, e⟩ := key i hlt
      rw [e]
      simp only [List.getElem?_map, List.getElem?_range hlt, Option.map_some]
      rw [List.getD_eq_getElem?_getD, e]
      show some (Value.int .u8 (y : Int)) = some (Value.int .u8 (((y : Int)).toNat : Int))
      congr 2
    · rw [List.getElem?_eq_none (by omega), List.getElem?_eq_none (by simp; omega)]

end
end Go.Proofs.YtcmkmnidnapabaaGreat

/-! Ui: A set among a law's arguments. -/
namespace Go.Proofs.YtcmkmnidnapabaaGreat
open Go.RowKit Go.WideShapes Go.Joins Go.ChangeAt Go.ChangeShapes Go.Deep

instance : Inhabited Vd := ⟨⟨0, 0⟩⟩
theorem Vs.none (w : World) (a : Option Addr) (cap : Nat) (h : 0 < cap → a = some ⟨0, 0, none⟩ ∧ 0 < w.heap.size) : Vs w a 0 0 cap [] := ⟨by simp, by simp, h, fun i v hi => by simp at hi⟩
section
variable {H : Type} {enc : TypeId × Value → H}
theorem val_of_trod {W : World} {base fuel : Nat} {held : Bool} {cs : List Value} {x : DataW H × List MemPlace}
    (h : DataW.trod enc Tryz.prog W base (fun _ => true) held fuel 111 cs = some x) : ∃ v : Vd, VdOk v ∧ cs = vL v := by
  obtain ⟨xs, m, _, _, hsz, hl, hf⟩ := DataW.trod_struct Tryz.underlying111 h
  have hC : Tryz.prog.cellsOf 111 = 5 := by kernel_rfl
  rw [hC] at hsz
  have hl2 : xs.length = 2 := hl
  have ci : Tryz.prog.cellsOf 3 = 1 := by kernel_rfl
  have ck : Tryz.prog.cellsOf 24 = 4 := by kernel_rfl
  have t0 : DataW.trod enc Tryz.prog W base (fun _ => true) held m 24 ((cs.drop 0).take (Tryz.prog.cellsOf 24)) = xs[0]? := hf 0 _ rfl
  have t1 : DataW.trod enc Tryz.prog W base (fun _ => true) held m 3 ((cs.drop 4).take (Tryz.prog.cellsOf 3)) = xs[1]? := hf 1 _ rfl
  rw [ck, List.getElem?_eq_getElem (by omega)] at t0
  rw [ci, List.getElem?_eq_getElem (by omega)] at t1
  obtain ⟨ks, hk, e0⟩ := arr_of_trod Tryz.underlying24 ck t0
  obtain ⟨p, e1, _, w1⟩ := DataW.trod_int Tryz.underlying3 t1
  have b1 : -9223372036854775808 ≤ p ∧ p ≤ 9223372036854775807 := by
    have q : IntKind.i64.min ≤ p ∧ p ≤ IntKind.i64.max := by simpa [Lit.wf] using w1
    exact q
  have e1' : cs.drop 4 = [.int .i64 p] := by
    have h1 : (cs.drop 4).take 1 = cs.drop 4 := List.take_of_length_le (by rw [List.length_drop]; omega)
    rw [← h1]; exact e1
  have e2 : cs = bvs ks ++ [.int .i64 p] := by
    rw [← e0, ← e1', List.drop_zero, List.take_append_drop]
  have q := kb_kOf hk
  refine ⟨⟨kOf ks, p⟩, ⟨q.2, b1⟩, ?_⟩
  have e3 : vL ⟨kOf ks, p⟩ = bvs (kb (kOf ks)) ++ [.int .i64 p] := rfl
  rw [e3, q.1, e2]
set_option maxRecDepth 100000 in
theorem open_vals {W : World} {r : Reach} {b0 base : Nat} {held : Bool} {v : Value} {d : DataW H} {p : List MemPlace} (hv : Value.okWide Tryz.prog W r b0 22 v) (h : DataW.Trod enc Tryz.prog W base (fun _ => true) held 22 v d p) :
    ∃ (a : Option Addr) (b o cap : Nat) (l : List Vd), v = .slice a l.length cap ∧ Vs W a b o cap l := by
  obtain ⟨a, len, cap, rfl⟩ := okWide_slice Tryz.underlying22 hv
  obtain ⟨fuel, hf⟩ := h
  have hC : Tryz.prog.cellsOf 111 = 5 := by kernel_rfl
  rcases open_slice Tryz.underlying22 hf with ⟨hcs, _⟩ | ⟨x, len', cap', m, n, D, Pl, hcs, hb, hl, hm, hmm, _, hx⟩
  · simp [Value.cells] at hcs
    obtain ⟨rfl, rfl, rfl⟩ := hcs
    exact ⟨none, 0, 0, 0, [], rfl, Vs.none _ _ _ (fun h => absurd h (by omega))⟩
  · simp [Value.cells] at hcs
    obtain ⟨rfl, rfl, rfl⟩ := hcs
    simp only [if_true] at hmm
    subst hmm
    obtain ⟨f, hfv⟩ := choose_lt (α := Vd) (p := fun i v => VdOk v ∧ W.cells? base (x.add (i * 5)) 5 = some (vL v)) (fun i hi => by
      obtain ⟨cs, h1, h2⟩ := hx i hi
      obtain ⟨v, hv, rfl⟩ := val_of_trod h2
      have hC' : Tryz.prog.cellsOf (Tryz.prog.elem 22) = 5 := by kernel_rfl
      first
      | (rw [hC] at h1; exact ⟨v, hv, h1⟩)
      | (rw [hC'] at h1; exact ⟨v, hv, h1⟩))
    have hcell : ∀ i, i < m → ∀ j c, (vL (f i))[j]? = some c → W.cell? ((x.add (i * 5)).add j) = some c := fun i hi j c hj => by
      have h1 := (World.cells?_some (hfv i hi).2).2.2 j (by have := (List.getElem?_eq_some_iff.1 hj).1; exact this)
      exact h1.trans hj
    by_cases h0 : 0 < m
    · have c0 := hcell 0 h0 0 _ rfl
      have hsp : x.spot = .none := by
        have h1 := World.cell?_spot c0
        simpa [Addr.add] using h1
      have hlt : x.block < W.heap.size := by
        have h1 := cell_lt c0
        simpa [Addr.add] using h1
      obtain ⟨bb, bo, sp⟩ := x
      simp only at hsp hlt
      subst hsp
      refine ⟨some ⟨bb, bo, none⟩, bb, bo, m, (List.range len).map f, by simp, ⟨fun v hv => ?_, by simpa using hl, fun _ => ⟨rfl, hlt⟩, fun i v hi j c hj => ?_⟩⟩
      · obtain ⟨i, hi, rfl⟩ := List.mem_map.1 hv
        rw [List.mem_range] at hi
        exact (hfv i (by omega)).1
      · obtain ⟨hi1, rfl⟩ := List.getElem?_eq_some_iff.1 hi
        simp only [List.length_map, List.length_range] at hi1
        simp only [List.getElem_map, List.getElem_range] at hj
        have q := hcell i (by omega) j c hj
        rw [Addr.add_mid, Addr.add_mid] at q
        exact q
    · obtain rfl : m = 0 := by omega
      obtain rfl : len = 0 := by omega
      exact ⟨some x, 0, 0, 0, [], rfl, Vs.none _ _ _ (fun h => absurd h (by omega))⟩
end
end Go.Proofs.YtcmkmnidnapabaaGreat
