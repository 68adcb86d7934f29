/-
  Commit: which commit bytes are.
-/
import Derived.Test.YtbhkjflpkpkdlaaL7q
import Derived.Test.YtbhkjflpkpkdlaaL7r
import Derived.Test.YtbhkjflpkpkdlaaUf
namespace Go.Proofs.Ytbhkjflpkpkdlaa
open Go.RowKit Go.Lib
set_option linter.unusedSimpArgs false

theorem built_com2 (h : Int) (p : List Nat) (hp : p.length = 32) : Try.prog.built 63 [(0, .int .i64 h), (1, .agg (bvs p).toArray)] = some (cC h p (.slice none 0 0)).toArray := by
  have hi := zero_com
  unfold Program.built
  cases hq : Try.prog.info? 63 with
  | none => rw [hq] at hi; simp at hi
  | some i =>
    rw [hq] at hi
    simp only [Option.map_some, Option.some.injEq, Prod.mk.injEq] at hi
    rw [struct_com]
    simp only [hi.1, places_com]
    have l1 : (bvs p).length = 32 := by rw [bvs_len, hp]
    have lz : (bvs zh32).length = 32 := rfl
    show Instr.fill _ (cC 0 zh32 (.slice none 0 0)).toArray _ = _
    rw [fill_val rfl rfl (by rw [cC_len rfl]; omega), show (cC 0 zh32 (.slice none 0 0)).set 0 (.int .i64 h) = cC h zh32 (.slice none 0 0) from rfl]
    rw [fill_agg (off := 1) (by rw [l1]; rfl) (by rw [cC_len rfl, l1]; omega)]
    have e := setsL_mid (bvs p) [.int .i64 h] (bvs zh32) [.slice none 0 0] (by rw [l1, lz])
    rw [show setsL (cC h zh32 (.slice none 0 0)) 1 (bvs p) = cC h p (.slice none 0 0) from e]
    rfl
/-- One vote is read, and the state behind it. -/
def tV (s : RS) : Vt := ⟨((rdV pNum 0 s : Nat) : Int), rdV pWord 0 (rdN pNum s)⟩
def tN (s : RS) : RS := rdN pWord (rdN pNum s)
def tF : Nat → RS → List Vt × RS
  | 0, s => ([], s)
  | i + 1, s => ((tF i s).1 ++ [tV (tF i s).2], tN (tF i s).2)
theorem tF_len : ∀ i s, (tF i s).1.length = i
  | 0, _ => rfl
  | i + 1, s => by simp [tF, tF_len i]
theorem rdWord_lt {s : RS} (h : ∀ x ∈ s.R, x < 256) : rdV pWord 0 s < 18446744073709551616 := by
  unfold rdV
  split
  · decide
  · split
    · rename_i hp
      exact (pWord_form h hp).2.2.2
    · decide
theorem tV_ok {s : RS} (h : ∀ x ∈ s.R, x < 256) : VtOk (tV s) :=
  ⟨by have := rdNum_lt s; show -9223372036854775808 ≤ ((rdV pNum 0 s : Nat) : Int) ∧ ((rdV pNum 0 s : Nat) : Int) ≤ 9223372036854775807; omega, rdWord_lt (rdN_byte h)⟩
theorem tF_ok {s : RS} (h : ∀ x ∈ s.R, x < 256) : ∀ i, (∀ x ∈ (tF i s).2.R, x < 256) ∧ ∀ v ∈ (tF i s).1, VtOk v
  | 0 => ⟨h, fun v hv => by simp [tF] at hv⟩
  | i + 1 => by
    have ih := tF_ok h i
    refine ⟨rdN_byte (rdN_byte ih.1), fun v hv => ?_⟩
    simp only [tF, List.mem_append, List.mem_cons, List.not_mem_nil, or_false] at hv
    rcases hv with hv | rfl
    · exact ih.2 v hv
    · exact tV_ok ih.1
def cS1 (L : List Nat) : RS := rdN pNum (rs0 L)
def cS2 (L : List Nat) : RS := rdN (pRaw 32) (cS1 L)
def cS3 (L : List Nat) : RS := rdN pNum (cS2 L)
def cH (L : List Nat) : Int := ((rdV pNum 0 (rs0 L) : Nat) : Int)
def cP (L : List Nat) : List Nat := rdV (pRaw 32) zh32 (cS1 L)
def cN (L : List Nat) : Nat := rdV pNum 0 (cS2 L)
def cA (L : List Nat) : Int := (L.length : Int) - ((cS2 L).R.length : Int)
/-- What Decode tells: a commit, or a fault. -/
structure DC where
  h : Int
  p : List Nat
  l : List Vt
  e : Nat
  f : Int
def dcE (e : Nat) (f : Int) : DC := ⟨0, zh32, [], e, f⟩
def decC (L : List Nat) : DC :=
  if 64 < cN L then dcE 4 (cA L) else
  if (endS (tF (cN L) (cS3 L)).2).1 ≠ 0 then dcE (endS (tF (cN L) (cS3 L)).2).1 ((endS (tF (cN L) (cS3 L)).2).2 : Nat) else
  if chkC (cH L) (tF (cN L) (cS3 L)).1 ≠ 0 then dcE (chkC (cH L) (tF (cN L) (cS3 L)).1) 0 else ⟨cH L, cP L, (tF (cN L) (cS3 L)).1, 0, 0⟩
theorem cP_bytes {L : List Nat} (h : ∀ x ∈ L, x < 256) : Bytes 32 (cP L) := by
  have h1 : ∀ x ∈ (cS1 L).R, x < 256 := rdN_byte h
  unfold cP rdV
  split
  · exact zh32_bytes
  · split
    · rename_i hp
      obtain ⟨rfl, _, hl⟩ := pRaw_ok hp
      exact ⟨by rw [List.length_take]; omega, fun x hx => h1 x (List.mem_of_mem_take hx)⟩
    · exact zh32_bytes
theorem cS_byte {L : List Nat} (h : ∀ x ∈ L, x < 256) : (∀ x ∈ (cS1 L).R, x < 256) ∧ (∀ x ∈ (cS2 L).R, x < 256) ∧ ∀ x ∈ (cS3 L).R, x < 256 := ⟨rdN_byte h, rdN_byte (rdN_byte h), rdN_byte (rdN_byte (rdN_byte h))⟩
theorem rdN_le {α : Type} {pr : List Nat → PR α} (s : RS) : (rdN pr s).R.length ≤ s.R.length := by
  unfold rdN
  split
  · exact Nat.le_refl _
  · split
    · simp only [List.length_drop]; omega
    · simp
theorem cS2_le (L : List Nat) : (cS2 L).R.length ≤ L.length := Nat.le_trans (rdN_le _) (rdN_le (rs0 L))
theorem decC_long {L : List Nat} (h : 64 < cN L) : decC L = dcE 4 (cA L) := by unfold decC; rw [if_pos h]
theorem decC_end {L : List Nat} (h : ¬ 64 < cN L) (h2 : (endS (tF (cN L) (cS3 L)).2).1 ≠ 0) : decC L = dcE (endS (tF (cN L) (cS3 L)).2).1 ((endS (tF (cN L) (cS3 L)).2).2 : Nat) := by unfold decC; rw [if_neg h, if_pos h2]
theorem decC_chk {L : List Nat} (h : ¬ 64 < cN L) (h2 : (endS (tF (cN L) (cS3 L)).2).1 = 0) (h3 : chkC (cH L) (tF (cN L) (cS3 L)).1 ≠ 0) : decC L = dcE (chkC (cH L) (tF (cN L) (cS3 L)).1) 0 := by unfold decC; rw [if_neg h, if_neg (by rw [h2]; simp), if_pos h3]
theorem decC_ok {L : List Nat} (h : ¬ 64 < cN L) (h2 : (endS (tF (cN L) (cS3 L)).2).1 = 0) (h3 : chkC (cH L) (tF (cN L) (cS3 L)).1 = 0) : decC L = ⟨cH L, cP L, (tF (cN L) (cS3 L)).1, 0, 0⟩ := by unfold decC; rw [if_neg h, if_neg (by rw [h2]; simp), if_neg (by rw [h3]; simp)]
/-- The results' blocks. -/
structure DRes (w W : World) (cs : List Value) (e f : Int) : Prop where
  res : Blk W w.heap.size cs 63
  flt : Blk W (w.heap.size + 1) [.int .i64 e, .int .i64 f] 55
  bel : Below w.heap.size w W
theorem DRes.below {w W W' : World} {cs : List Value} {e f : Int} (H : DRes w W cs e f) (h : Below W.heap.size W W') : DRes w W' cs e f := ⟨h.blk' H.res, h.blk' H.flt, H.bel.trans (h.mono H.bel.size)⟩
theorem DRes.bex {w W W' : World} {cs : List Value} {e f : Int} {k : Nat} (H : DRes w W cs e f) (h : Bex k W W') (hk : w.heap.size + 1 < k) : DRes w W' cs e f := ⟨h.blk H.res (by omega), h.blk H.flt (by omega), H.bel.trans (h.below (by omega) H.bel.size)⟩
theorem DRes.belowB {w W W' : World} {cs : List Value} {e f : Int} {B : Nat} (H : DRes w W cs e f) (h : Below B W W') (hB : w.heap.size + 1 < B) : DRes w W' cs e f := ⟨H.res.below h (by omega), H.flt.below h (by omega), H.bel.trans (h.mono (by omega))⟩
theorem DRes.row {w W : World} {cs ds : List Value} {e f : Int} (H : DRes w W cs e f) : DRes w (W.setRow w.heap.size ds.toArray) ds e f := by
  have b := (But.refl w.heap.size W).setRow ds.toArray
  exact ⟨H.res.row, b.blk H.flt (by omega), H.bel.trans (b.below (Nat.le_refl _))⟩
theorem DRes.fin {w W : World} {cs : List Value} {e f : Int} (H : DRes w W cs e f) (e2 f2 : Int) : DRes w ((W.setCell ⟨w.heap.size + 1, 0, none⟩ (.int .i64 e2)).setCell ⟨w.heap.size + 1, 1, none⟩ (.int .i64 f2)) cs e2 f2 :=
  ⟨(H.res.other _ _ (by simp)).other _ _ (by simp), (H.flt.set 0 _).set 1 _, (H.bel.setCell (p := ⟨w.heap.size + 1, 0, none⟩) (by simp) _).setCell (p := ⟨w.heap.size + 1, 1, none⟩) (by simp) _⟩
theorem DRes.fc {w W : World} {cs : List Value} {e f : Int} (H : DRes w W cs e f) : W.cell? ⟨w.heap.size + 1, 0, none⟩ = some (.int .i64 e) ∧ W.cell? ⟨w.heap.size + 1, 1, none⟩ = some (.int .i64 f) ∧ W.frozen? ⟨w.heap.size + 1, 0, none⟩ = false ∧ W.frozen? ⟨w.heap.size + 1, 1, none⟩ = false := ⟨H.flt.cell 0, H.flt.cell 1, H.flt.free 0, H.flt.free 1⟩
/-- A reader under way, the commit that it reads in its box B, the votes in a row of one's own. -/
structure DcI (w W : World) (g b B : Nat) (hh : Int) (pp : List Nat) (s : RS) (sb so : Value) (lo : List Vt) : Prop where
  rd : RdS W g b s
  kc : Blk W B (cC hh pp sb) 63
  own : OwnT W (B + 1) so lo
  res : DRes w W (cC 0 zh32 (.slice none 0 0)) 0 0
  hg : w.heap.size + 1 < g
  gB : g < B
  bB : b < B
theorem DcI.read {w W W' : World} {g b B : Nat} {hh : Int} {pp : List Nat} {s s1 : RS} {sb so : Value} {lo : List Vt} (D : DcI w W g b B hh pp s sb so lo) (h1 : RdS W' g b s1) (hx : Bex g W W') : DcI w W' g b B hh pp s1 sb so lo :=
  ⟨h1, hx.blk D.kc (by have := D.gB; omega), D.own.bex hx (by have := D.gB; omega), D.res.bex hx D.hg, D.hg, D.gB, D.bB⟩
theorem DcI.below {w W W' : World} {g b B : Nat} {hh : Int} {pp : List Nat} {s : RS} {sb so : Value} {lo : List Vt} (D : DcI w W g b B hh pp s sb so lo) (h : Below W.heap.size W W') : DcI w W' g b B hh pp s sb so lo :=
  ⟨D.rd.below h, h.blk' D.kc, D.own.below h, D.res.below h, D.hg, D.gB, D.bB⟩
theorem DcI.drew {w W : World} {g b B : Nat} {hh : Int} {pp : List Nat} {s : RS} {sb so : Value} {lo : List Vt} (D : DcI w W g b B hh pp s sb so lo) : DcI w W.drew g b B hh pp s sb so lo := D.below (Below.refl _ _).drew
theorem DcI.big {w W : World} {g b B : Nat} {hh : Int} {pp : List Nat} {s : RS} {sb so : Value} {lo : List Vt} (D : DcI w W g b B hh pp s sb so lo) : B + 1 ≤ W.heap.size := D.kc.lt
theorem DcI.app {w W W' : World} {g b B : Nat} {hh : Int} {pp : List Nat} {s : RS} {sb so so' : Value} {lo : List Vt} {v : Vt} (D : DcI w W g b B hh pp s sb so lo) (hgr : W.grownBy W' so.ownBlock) (ho : W'.ownsRow (B + 1) 83 2 so' (lo.length + 1) (lo.flatMap tL ++ tL v)) : DcI w W' g b B hh pp s sb so' (lo ++ [v]) := by
  have b1 : Below (B + 1) W W' := (Below.refl _ W).grown hgr D.big (fun k hk => (D.own.lt hk).1)
  have h1 := D.gB
  have h2 := D.bB
  exact ⟨D.rd.lower b1 (by omega) (by omega), D.kc.below b1 (by omega), OwnT.snoc ho, D.res.belowB b1 (by have := D.hg; omega), D.hg, D.gB, D.bB⟩
theorem DcI.set {w W : World} {g b B : Nat} {hh : Int} {pp : List Nat} {s : RS} {sb so : Value} {lo : List Vt} (D : DcI w W g b B hh pp s sb so lo) (hp : pp.length = 32) : DcI w (W.setCell ⟨B, 33, none⟩ so) g b B hh pp s so so lo := by
  have hx : Bex B W (W.setCell ⟨B, 33, none⟩ so) := (Bex.refl _ W).setCell 33 so
  exact ⟨D.rd.bexA hx (by have := D.gB; omega) (by have := D.bB; omega), cC_set (s2 := so) hp ▸ D.kc.set 33 so, D.own.bex hx (by omega), D.res.bex hx (by have := D.hg; have := D.gB; omega), D.hg, D.gB, D.bB⟩
theorem wpAnyH_takeZ {P : Program} {md : Region.Mode} {ops : Array Oper} {Q : Exit → Act → World → Prop} {S : World → Prop} {i : Nat} {oi : Oper} {v : Value} {fuel : Nat} {listed : Array Bool} {a : Act} {w : World} (d : Option Tmp) (hd : oi.dst = d) (hi : ops[i]? = some oi)
    (hs : Region.noSelect ops = true) (hf : Region.free md ops listed i = true) (hr : (Region.ready md ops listed).contains i = true)
    (hQ : ∀ c a w, Q (.panic c) (a.put d v) w → Q (.panic c) a w) (hy : YieldsIf P ops S oi v a) (hS : S w)
    (h : wpAnyH P md ops Q S fuel (listed.setIfInBounds i true) (a.put d v) w) : wpAnyH P md ops Q S (fuel + 1) listed a w := wpAnyH_takeTo2 d hd hi hs hf hr hQ hy hS h
end Go.Proofs.Ytbhkjflpkpkdlaa
