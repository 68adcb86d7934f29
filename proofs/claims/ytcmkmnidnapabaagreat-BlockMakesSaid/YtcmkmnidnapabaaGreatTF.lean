/-
  Texts L7s, L7t, one behind the other.
-/
import Derived.Test.YtcmkmnidnapabaaGreatTE
import Derived.Test.YtcmkmnidnapabaaGreatL7r
import Derived.Test.YtcmkmnidnapabaaGreatUf

/-! L7s: Commit: which commit bytes are. -/
namespace Go.Proofs.YtcmkmnidnapabaaGreat
open Go.RowKit Go.Lib
set_option linter.unusedSimpArgs false

theorem built_com2 (h : Int) (p : List Nat) (hp : p.length = 32) : Tryz.prog.built 82 [(0, .int .i64 h), (1, .agg (bvs p).toArray)] = some (cC h p (.slice none 0 0)).toArray := by
  have hi := zero_com
  unfold Program.built
  cases hq : Tryz.prog.info? 82 with
  | none => rw [hq] at hi; simp at hi
  | some i =>
    rw [hq] at hi
    simp only [Option.map_some, Option.some.injEq, Prod.mk.injEq] at hi
    rw [struct_com]
    simp only [hi.1, places_com]
    have l1 : (bvs p).length = 32 := by rw [bvs_len, hp]
    have lz : (bvs zh32).length = 32 := rfl
    show Instr.fill _ (cC 0 zh32 (.slice none 0 0)).toArray _ = _
    rw [fill_val rfl rfl (by rw [cC_len rfl]; omega), show (cC 0 zh32 (.slice none 0 0)).set 0 (.int .i64 h) = cC h zh32 (.slice none 0 0) from rfl]
    rw [fill_agg (off := 1) (by rw [l1]; rfl) (by rw [cC_len rfl, l1]; omega)]
    have e := setsL_mid (bvs p) [.int .i64 h] (bvs zh32) [.slice none 0 0] (by rw [l1, lz])
    rw [show setsL (cC h zh32 (.slice none 0 0)) 1 (bvs p) = cC h p (.slice none 0 0) from e]
    rfl
/-- One vote is read, and the state behind it. -/
def tV (s : RS) : Vt := ⟨((rdV pNum 0 s : Nat) : Int), rdV pWord 0 (rdN pNum s)⟩
def tN (s : RS) : RS := rdN pWord (rdN pNum s)
def tF : Nat → RS → List Vt × RS
  | 0, s => ([], s)
  | i + 1, s => ((tF i s).1 ++ [tV (tF i s).2], tN (tF i s).2)
theorem tF_len : ∀ i s, (tF i s).1.length = i
  | 0, _ => rfl
  | i + 1, s => by simp [tF, tF_len i]
theorem rdWord_lt {s : RS} (h : ∀ x ∈ s.R, x < 256) : rdV pWord 0 s < 18446744073709551616 := by
  unfold rdV
  split
  · decide
  · split
    · rename_i hp
      exact (pWord_form h hp).2.2.2
    · decide
theorem tV_ok {s : RS} (h : ∀ x ∈ s.R, x < 256) : VtOk (tV s) :=
  ⟨by have := rdNum_lt s; show -9223372036854775808 ≤ ((rdV pNum 0 s : Nat) : Int) ∧ ((rdV pNum 0 s : Nat) : Int) ≤ 9223372036854775807; omega, rdWord_lt (rdN_byte h)⟩
theorem tF_ok {s : RS} (h : ∀ x ∈ s.R, x < 256) : ∀ i, (∀ x ∈ (tF i s).2.R, x < 256) ∧ ∀ v ∈ (tF i s).1, VtOk v
  | 0 => ⟨h, fun v hv => by simp [tF] at hv⟩
  | i + 1 => by
    have ih := tF_ok h i
    refine ⟨rdN_byte (rdN_byte ih.1), fun v hv => ?_⟩
    simp only [tF, List.mem_append, List.mem_cons, List.not_mem_nil, or_false] at hv
    rcases hv with hv | rfl
    · exact ih.2 v hv
    · exact tV_ok ih.1
def cS1 (L : List Nat) : RS := rdN pNum (rs0 L)
def cS2 (L : List Nat) : RS := rdN (pRaw 32) (cS1 L)
def cS3 (L : List Nat) : RS := rdN pNum (cS2 L)
def cH (L : List Nat) : Int := ((rdV pNum 0 (rs0 L) : Nat) : Int)
def cP (L : List Nat) : List Nat := rdV (pRaw 32) zh32 (cS1 L)
def cN (L : List Nat) : Nat := rdV pNum 0 (cS2 L)
def cA (L : List Nat) : Int := (L.length : Int) - ((cS2 L).R.length : Int)
/-- What Decode tells: a commit, or a fault. -/
structure DC where
  h : Int
  p : List Nat
  l : List Vt
  e : Nat
  f : Int
def dcE (e : Nat) (f : Int) : DC := ⟨0, zh32, [], e, f⟩
def decC (L : List Nat) : DC :=
  if 64 < cN L then dcE 4 (cA L) else
  if (endS (tF (cN L) (cS3 L)).2).1 ≠ 0 then dcE (endS (tF (cN L) (cS3 L)).2).1 ((endS (tF (cN L) (cS3 L)).2).2 : Nat) else
  if chkC (cH L) (tF (cN L) (cS3 L)).1 ≠ 0 then dcE (chkC (cH L) (tF (cN L) (cS3 L)).1) 0 else ⟨cH L, cP L, (tF (cN L) (cS3 L)).1, 0, 0⟩
theorem cP_bytes {L : List Nat} (h : ∀ x ∈ L, x < 256) : Bytes 32 (cP L) := by
  have h1 : ∀ x ∈ (cS1 L).R, x < 256 := rdN_byte h
  unfold cP rdV
  split
  · exact zh32_bytes
  · split
    · rename_i hp
      obtain ⟨rfl, _, hl⟩ := pRaw_ok hp
      exact ⟨by rw [List.length_take]; omega, fun x hx => h1 x (List.mem_of_mem_take hx)⟩
    · exact zh32_bytes
theorem cS_byte {L : List Nat} (h : ∀ x ∈ L, x < 256) : (∀ x ∈ (cS1 L).R, x < 256) ∧ (∀ x ∈ (cS2 L).R, x < 256) ∧ ∀ x ∈ (cS3 L).R, x < 256 := ⟨rdN_byte h, rdN_byte (rdN_byte h), rdN_byte (rdN_byte (rdN_byte h))⟩
theorem rdN_le {α : Type} {pr : List Nat → PR α} (s : RS) : (rdN pr s).R.length ≤ s.R.length := by
  unfold rdN
  split
  · exact Nat.le_refl _
  · split
    · simp only [List.length_drop]; omega
    · simp
theorem cS2_le (L : List Nat) : (cS2 L).R.length ≤ L.length := Nat.le_trans (rdN_le _) (rdN_le (rs0 L))
theorem decC_long {L : List Nat} (h : 64 < cN L) : decC L = dcE 4 (cA L) := by unfold decC; rw [if_pos h]
theorem decC_end {L : List Nat} (h : ¬ 64 < cN L) (h2 : (endS (tF (cN L) (cS3 L)).2).1 ≠ 0) : decC L = dcE (endS (tF (cN L) (cS3 L)).2).1 ((endS (tF (cN L) (cS3 L)).2).2 : Nat) := by unfold decC; rw [if_neg h, if_pos h2]
theorem decC_chk {L : List Nat} (h : ¬ 64 < cN L) (h2 : (endS (tF (cN L) (cS3 L)).2).1 = 0) (h3 : chkC (cH L) (tF (cN L) (cS3 L)).1 ≠ 0) : decC L = dcE (chkC (cH L) (tF (cN L) (cS3 L)).1) 0 := by unfold decC; rw [if_neg h, if_neg (by rw [h2]; simp), if_pos h3]
theorem decC_ok {L : List Nat} (h : ¬ 64 < cN L) (h2 : (endS (tF (cN L) (cS3 L)).2).1 = 0) (h3 : chkC (cH L) (tF (cN L) (cS3 L)).1 = 0) : decC L = ⟨cH L, cP L, (tF (cN L) (cS3 L)).1, 0, 0⟩ := by unfold decC; rw [if_neg h, if_neg (by rw [h2]; simp), if_neg (by rw [h3]; simp)]
/-- The results' blocks. -/
structure DRes (w W : World) (cs : List Value) (e f : Int) : Prop where
  res : Blk W w.heap.size cs 82
  flt : Blk W (w.heap.size + 1) [.int .i64 e, .int .i64 f] 52
  bel : Below w.heap.size w W
theorem DRes.below {w W W' : World} {cs : List Value} {e f : Int} (H : DRes w W cs e f) (h : Below W.heap.size W W') : DRes w W' cs e f := ⟨h.blk' H.res, h.blk' H.flt, H.bel.trans (h.mono H.bel.size)⟩
theorem DRes.bex {w W W' : World} {cs : List Value} {e f : Int} {k : Nat} (H : DRes w W cs e f) (h : Bex k W W') (hk : w.heap.size + 1 < k) : DRes w W' cs e f := ⟨h.blk H.res (by omega), h.blk H.flt (by omega), H.bel.trans (h.below (by omega) H.bel.size)⟩
theorem DRes.belowB {w W W' : World} {cs : List Value} {e f : Int} {B : Nat} (H : DRes w W cs e f) (h : Below B W W') (hB : w.heap.size + 1 < B) : DRes w W' cs e f := ⟨H.res.below h (by omega), H.flt.below h (by omega), H.bel.trans (h.mono (by omega))⟩
theorem DRes.row {w W : World} {cs ds : List Value} {e f : Int} (H : DRes w W cs e f) : DRes w (W.setRow w.heap.size ds.toArray) ds e f := by
  have b := (But.refl w.heap.size W).setRow ds.toArray
  exact ⟨H.res.row, b.blk H.flt (by omega), H.bel.trans (b.below (Nat.le_refl _))⟩
theorem DRes.fin {w W : World} {cs : List Value} {e f : Int} (H : DRes w W cs e f) (e2 f2 : Int) : DRes w ((W.setCell ⟨w.heap.size + 1, 0, none⟩ (.int .i64 e2)).setCell ⟨w.heap.size + 1, 1, none⟩ (.int .i64 f2)) cs e2 f2 :=
  ⟨(H.res.other _ _ (by simp)).other _ _ (by simp), (H.flt.set 0 _).set 1 _, (H.bel.setCell (p := ⟨w.heap.size + 1, 0, none⟩) (by simp) _).setCell (p := ⟨w.heap.size + 1, 1, none⟩) (by simp) _⟩
theorem DRes.fc {w W : World} {cs : List Value} {e f : Int} (H : DRes w W cs e f) : W.cell? ⟨w.heap.size + 1, 0, none⟩ = some (.int .i64 e) ∧ W.cell? ⟨w.heap.size + 1, 1, none⟩ = some (.int .i64 f) ∧ W.frozen? ⟨w.heap.size + 1, 0, none⟩ = false ∧ W.frozen? ⟨w.heap.size + 1, 1, none⟩ = false := ⟨H.flt.cell 0, H.flt.cell 1, H.flt.free 0, H.flt.free 1⟩
/-- A reader under way, the commit that it reads in its box B, the votes in a row of one's own. -/
structure DcI (w W : World) (g b B : Nat) (hh : Int) (pp : List Nat) (s : RS) (sb so : Value) (lo : List Vt) : Prop where
  rd : RdS W g b s
  kc : Blk W B (cC hh pp sb) 82
  own : OwnT W (B + 1) so lo
  res : DRes w W (cC 0 zh32 (.slice none 0 0)) 0 0
  hg : w.heap.size + 1 < g
  gB : g < B
  bB : b < B
theorem DcI.read {w W W' : World} {g b B : Nat} {hh : Int} {pp : List Nat} {s s1 : RS} {sb so : Value} {lo : List Vt} (D : DcI w W g b B hh pp s sb so lo) (h1 : RdS W' g b s1) (hx : Bex g W W') : DcI w W' g b B hh pp s1 sb so lo :=
  ⟨h1, hx.blk D.kc (by have := D.gB; omega), D.own.bex hx (by have := D.gB; omega), D.res.bex hx D.hg, D.hg, D.gB, D.bB⟩
theorem DcI.below {w W W' : World} {g b B : Nat} {hh : Int} {pp : List Nat} {s : RS} {sb so : Value} {lo : List Vt} (D : DcI w W g b B hh pp s sb so lo) (h : Below W.heap.size W W') : DcI w W' g b B hh pp s sb so lo :=
  ⟨D.rd.below h, h.blk' D.kc, D.own.below h, D.res.below h, D.hg, D.gB, D.bB⟩
theorem DcI.drew {w W : World} {g b B : Nat} {hh : Int} {pp : List Nat} {s : RS} {sb so : Value} {lo : List Vt} (D : DcI w W g b B hh pp s sb so lo) : DcI w W.drew g b B hh pp s sb so lo := D.below (Below.refl _ _).drew
theorem DcI.big {w W : World} {g b B : Nat} {hh : Int} {pp : List Nat} {s : RS} {sb so : Value} {lo : List Vt} (D : DcI w W g b B hh pp s sb so lo) : B + 1 ≤ W.heap.size := D.kc.lt
theorem DcI.app {w W W' : World} {g b B : Nat} {hh : Int} {pp : List Nat} {s : RS} {sb so so' : Value} {lo : List Vt} {v : Vt} (D : DcI w W g b B hh pp s sb so lo) (hgr : W.grownBy W' so.ownBlock) (ho : W'.ownsRow (B + 1) 169 2 so' (lo.length + 1) (lo.flatMap tL ++ tL v)) : DcI w W' g b B hh pp s sb so' (lo ++ [v]) := by
  have b1 : Below (B + 1) W W' := (Below.refl _ W).grown hgr D.big (fun k hk => (D.own.lt hk).1)
  have h1 := D.gB
  have h2 := D.bB
  exact ⟨D.rd.lower b1 (by omega) (by omega), D.kc.below b1 (by omega), OwnT.snoc ho, D.res.belowB b1 (by have := D.hg; omega), D.hg, D.gB, D.bB⟩
theorem DcI.set {w W : World} {g b B : Nat} {hh : Int} {pp : List Nat} {s : RS} {sb so : Value} {lo : List Vt} (D : DcI w W g b B hh pp s sb so lo) (hp : pp.length = 32) : DcI w (W.setCell ⟨B, 33, none⟩ so) g b B hh pp s so so lo := by
  have hx : Bex B W (W.setCell ⟨B, 33, none⟩ so) := (Bex.refl _ W).setCell 33 so
  exact ⟨D.rd.bexA hx (by have := D.gB; omega) (by have := D.bB; omega), cC_set (s2 := so) hp ▸ D.kc.set 33 so, D.own.bex hx (by omega), D.res.bex hx (by have := D.hg; have := D.gB; omega), D.hg, D.gB, D.bB⟩
set_option maxRecDepth 100000 in
set_option maxHeartbeats 16000000 in
theorem cdecode_any (a : Option Addr) (ba oo cap : Nat) (L : List Nat) (w : World) (h : Bs w a ba oo L cap) (hL : L.length ≤ 4000000) :
    Calls Tryz.prog 132 #[.slice a L.length cap] w fun e w' => (∃ sv, e = .returned (.tuple #[.agg (cC (decC L).h (decC L).p sv).toArray, .agg #[.int .i64 ((decC L).e : Nat), .int .i64 (decC L).f]]) ∧ OwnT w' w.heap.size sv (decC L).l) ∧ Below w.heap.size w w' := by
  obtain ⟨i0, hi0, hz0, hz1, hz2⟩ := info_parts info_vote
  have hzz : ∀ w, (zeroValue 82).run Tryz.prog w = .ok (.agg (cC 0 zh32 (.slice none 0 0)).toArray) w := (zero_of_info (P := Tryz.prog) zero_com).1
  have hl0 := hidp (cC_len (h := 0) (sl := .slice none 0 0) (p := zh32) rfl)
  have ho0 := hidp (cC_one 0 zh32 none 0 0)
  have hby := hidp h.byte
  have hPB := hidp (cP_bytes h.byte)
  have hpp := hidp hPB.out.1
  have HA := hidp (fun o : Obj => ((Below.refl w.heap.size w).alloc (Nat.le_refl _) (.cells (cC 0 zh32 (.slice none 0 0)).toArray 82)).alloc (by simp) o)
  have HR := hidp (fun o : Obj => newReader_any a ba oo cap L ((w.alloc (.cells (cC 0 zh32 (.slice none 0 0)).toArray 82)).alloc o) (h.below (HA.out o)) hL)
  have HZ : Hid (DRes w ((w.alloc (.cells (cC 0 zh32 (.slice none 0 0)).toArray 82)).alloc (.cells #[.int .i64 0, .int .i64 0] 52)) (cC 0 zh32 (.slice none 0 0)) 0 0) := hidp ⟨(Blk.new w (cC 0 zh32 (.slice none 0 0)) _).alloc _, Blk.new' _ [.int .i64 0, .int .i64 0] _ _ (by simp), HA.out _⟩
  have hLL := hidp hL
  obtain ⟨D, hD⟩ : ∃ D, D = decC L := ⟨_, rfl⟩
  rw [← hD]
  replace hD := hidp hD
  clear h hL
  go_enter Tryz.func132, Tryz.ntmps132
  go_wp2_with fail
  refine (HR.out _).mono ?_
  rintro e w1 ⟨g, b, rfl, hg, hb, hr, hB⟩
  have S0 : Hid (RdS w1 g b (rs0 L) ∧ DRes w w1 (cC 0 zh32 (.slice none 0 0)) 0 0 ∧ w.heap.size + 1 < g) := hidp ⟨⟨hr, hb, fun _ => rfl⟩, HZ.out.below hB, by simp at hg; omega⟩
  clear hg hb hr hB HR HA HZ
  go_wp2_with fail
  refine (sNum S0.out.1).mono ?_
  rintro e w2 ⟨rfl, hr2, hx2⟩
  have S1 : Hid (RdS w2 g b (cS1 L) ∧ DRes w w2 (cC 0 zh32 (.slice none 0 0)) 0 0 ∧ w.heap.size + 1 < g) := hidp ⟨hr2, S0.out.2.1.bex hx2 S0.out.2.2, S0.out.2.2⟩
  clear hr2 hx2 S0
  go_wp2_with fail
  refine (sHash S1.out.1).mono ?_
  rintro e w3 ⟨rfl, hr3, hx3⟩
  have S2 : Hid (RdS w3 g b (cS2 L) ∧ DRes w w3 (cC 0 zh32 (.slice none 0 0)) 0 0 ∧ w.heap.size + 1 < g) := hidp ⟨hr3, S1.out.2.1.bex hx3 S1.out.2.2, S1.out.2.2⟩
  clear hr3 hx3 S1
  obtain ⟨pp, hpe⟩ : ∃ p, p = cP L := ⟨_, rfl⟩
  obtain ⟨hh, hhe⟩ : ∃ p, p = cH L := ⟨_, rfl⟩
  rw [show rdV (pRaw 32) (List.replicate 32 0) (cS1 L) = pp from by rw [hpe]; rfl, show ((rdV pNum 0 (rs0 L) : Nat) : Int) = hh from by rw [hhe]; rfl]
  rw [← hpe] at hpp
  replace hpe := hidp hpe
  replace hhe := hidp hhe
  have hBc := hidp (built_com2 hh pp hpp.out)
  have hl1 := hidp (cC_len (h := hh) (sl := .slice none 0 0) hpp.out)
  have ho1 := hidp (cC_one hh pp none 0 0)
  have HZ3 := hidp (Blk.new w3 (cC 0 zh32 (.slice none 0 0)) 82)
  go_wp2_with first
    | (with_reducible refine (?_ : wpList _ _ _ _ _ _); refine wpList_buildTo rfl 82 _ rfl _ rfl (cC hh pp (.slice none 0 0)).toArray (by rw [← hBc.out]; kernel_rfl) ?_)
    | (with_reducible refine (?_ : wpList _ _ _ _ _ _); refine wpList_store_blk rfl 82 _ _ rfl w3.heap.size (cC hh pp (.slice none 0 0)) (cC 0 zh32 (.slice none 0 0)) 82 rfl rfl HZ3.out (by rw [hl1.out]; kernel_rfl) (by rw [hl1.out, hl0.out]) ho1.out ?_; intro w4 hw4; have hN4 := hidp (new_row hw4.out rfl))
  have D0 : Hid (DcI w w4 g b w3.heap.size hh pp (cS2 L) (.slice none 0 0) (.slice none 0 0) []) := hidp ⟨S2.out.1.below hN4.out.1, hN4.out.2, OwnT.nil _ _, S2.out.2.1.below hN4.out.1, S2.out.2.2, S2.out.1.glt, S2.out.1.lt⟩
  clear hN4 S2 HZ3
  generalize w3.heap.size = B at *
  refine (sRest D0.out.rd).mono ?_
  rintro e w5 ⟨rfl, rfl⟩
  have hsub : wrap64 ((L.length : Int) - ((cS2 L).R.length : Int)) = cA L := by unfold cA; rw [w64 _ (by have := hLL.out; have := cS2_le L; omega)]
  go_wp2_with fail
  refine (sNum D0.out.rd).mono ?_
  rintro e w6 ⟨rfl, hr6, hx6⟩
  try rw [hsub]
  have D1 := hidp (D0.out.read (s1 := cS3 L) hr6 hx6)
  clear hr6 hx6 D0 hsub
  obtain ⟨n, hn⟩ : ∃ n, n = cN L := ⟨_, rfl⟩
  obtain ⟨s1, hs1⟩ : ∃ s, s = cS3 L := ⟨_, rfl⟩
  rw [show rdV pNum 0 (cS2 L) = n from by rw [hn]; rfl]
  rw [← hs1] at D1
  replace hs1 := hidp hs1
  replace hn := hidp hn
  by_cases h64 : 64 < n
  · have ht : decide ((64 : Int) < ((n : Nat) : Int)) = true := decide_eq_true (by omega)
    have hR := hidp (show D = dcE 4 (cA L) by rw [hD.out]; exact decC_long (by rw [← hn.out]; exact h64))
    obtain ⟨k0, k1, f0, f1⟩ := D1.out.res.fc
    generalize cA L = at_ at *
    clear h64 hD
    go_wp2_with first
      | (with_reducible refine (?_ : wpList _ _ _ _ _ _); refine wpList_buildG (by kernel_rfl) 82 _ rfl (cC 0 zh32 (.slice none 0 0)).toArray (by kernel_rfl) ?_)
      | (with_reducible refine (?_ : wpList _ _ _ _ _ _); refine wpList_store_blk rfl 82 _ _ rfl w.heap.size (cC 0 zh32 (.slice none 0 0)) (cC 0 zh32 (.slice none 0 0)) 82 rfl rfl D1.out.res.res (by rw [hl0.out]; kernel_rfl) rfl ho0.out ?_; intro w13 hw13; have F1 := hidp (show DRes w w13 (cC 0 zh32 (.slice none 0 0)) 0 0 by rw [hw13.out]; exact DRes.row (ds := (cC 0 zh32 (.slice none 0 0))) D1.out.res); obtain ⟨k0, k1, f0, f1⟩ := F1.out.fc)
    have F2 := hidp (F1.out.fin 4 at_)
    generalize (World.setCell _ _ _) = W at F2 ⊢
    refine bodyPost_ret (v := .tuple #[.agg (cC 0 zh32 (.slice none 0 0)).toArray, .agg [.int .i64 4, .int .i64 at_].toArray]) ?_ rfl ⟨⟨.slice none 0 0, by rw [hR.out]; rfl, by rw [hR.out]; exact OwnT.nil _ _⟩, F2.out.bel⟩
    exact results_rows2 Tryz.results132 _ _ w.heap.size 82 _ _ (w.heap.size + 1) 52 _ _ rfl F2.out.res Tryz.underlying82 rfl (by rw [hl0.out]; kernel_rfl) rfl F2.out.flt Tryz.underlying52 rfl (by kernel_rfl)
  have ht : decide ((64 : Int) < ((n : Nat) : Int)) = false := decide_eq_false (by omega)
  have H64 := hidp h64
  have hby1 := hidp (show ∀ x ∈ s1.R, x < 256 by rw [hs1.out]; exact (cS_byte hby.out).2.2)
  have D2 : Hid (DcI w w6 g b B hh pp (tF 0 s1).2 (.slice none 0 0) (.slice none 0 0) (tF 0 s1).1) := D1
  clear h64 D1
  go_wp2_with fail
  go_loopw [30] (fun x wr => ∃ (i : Nat) (sv : Value), i ≤ n ∧ x = .int .i64 ((i : Nat) : Int) ∧ Hid (DcI w wr g b B hh pp (tF i s1).2 sv sv (tF i s1).1)) (fun x _ => n - (Go.RowKit.intOf x).toNat)
  case atStart => exact ⟨0, _, by omega, rfl, D2⟩
  case round =>
    obtain ⟨i, sv, hin, rfl, hr⟩ := hrel
    clear D2 ht
    by_cases hlt : i < n
    · have hadd := w64_nat (n := i) (by have := H64.out; omega)
      have hlt1 := hidp hlt
      have hltz : (i : Int) < (n : Int) := by omega
      have hbg := hidp (show i + 1 ≤ maxLen ∧ (i + 1) * 16 ≤ 140737488355328 by have := H64.out; unfold maxLen; omega)
      clear hlt hin
      go_wp2_with fail
      have hT := hidp (hr.out.drew)
      refine wp_region_held_drew (S := fun _ => True) (by kernel_rfl) trivial (fun hHeld => ?_)
      try simp only [Act.put, List.setIfInBounds_toArray, List.set_cons_zero, List.set_cons_succ]
      refine wpAnyH_takeTo2 (i := 0) (oi := _) (v := ?_) (some 32) rfl rfl (by kernel_rfl) (by kernel_rfl) (by kernel_rfl) (fun _ _ _ h => h) (Or.inl ⟨by rfl, ?_⟩) hHeld ?_
      rotate_left
      · intro w hSw
        go_simp
        try with_reducible rfl
      try simp only [Act.put, List.setIfInBounds_toArray, List.set_cons_zero, List.set_cons_succ]
      refine wpAnyH_takeTo2 (i := 2) (oi := _) (v := ?_) (some 34) rfl rfl (by kernel_rfl) (by kernel_rfl) (by kernel_rfl) (fun _ _ _ h => h) (Or.inl ⟨by rfl, ?_⟩) hHeld ?_
      rotate_left
      · intro w hSw
        go_simp
        try with_reducible rfl
      try simp only [Act.put, List.setIfInBounds_toArray, List.set_cons_zero, List.set_cons_succ]
      refine wpAnyH_takeTo2 (i := 4) (oi := _) (v := ?_) (some 36) rfl rfl (by kernel_rfl) (by kernel_rfl) (by kernel_rfl) (fun _ _ _ h => h) (Or.inl ⟨by rfl, ?_⟩) hHeld ?_
      rotate_left
      · intro w hSw
        go_simp
        try with_reducible rfl
      try simp only [Act.put, List.setIfInBounds_toArray, List.set_cons_zero, List.set_cons_succ]
      refine wpAnyH_ready (rs := [1,3]) (by kernel_rfl) (by simp) ?_
      refine AllReadyH.cons (o := _) rfl (fun K hK => ?_) (AllReadyH.cons (o := _) rfl (fun K hK => ?_) AllReadyH.nil)
      · skip
        have c33 := (hT.out.kc.cell 33).trans (cC_33 hpp.out)
        go_simp
        refine hK.out _ _ trivial (fun hHeld' => ?_)
        clear hK K hHeld
        have hHeld := hHeld'
        clear hHeld'
        try simp only [Act.put, List.setIfInBounds_toArray, List.set_cons_zero, List.set_cons_succ]
        clear c33
        refine wpAnyH_ready (rs := [3]) (by kernel_rfl) (by simp) ?_
        refine AllReadyH.cons (o := _) rfl (fun K hK => ?_) AllReadyH.nil
        go_simp
        refine (sNum hT.out.rd).mono ?_
        rintro e w4 ⟨rfl, hr4, hx4⟩
        replace hT := hidp (hT.out.read hr4 hx4)
        clear hr4 hx4
        go_wp2_with fail
        refine hK.out _ _ trivial (fun hHeld' => ?_)
        clear hK K hHeld
        have hHeld := hHeld'
        clear hHeld'
        try simp only [Act.put, List.setIfInBounds_toArray, List.set_cons_zero, List.set_cons_succ]
        refine wpAnyH_ready (rs := [5]) (by kernel_rfl) (by simp) ?_
        refine AllReadyH.cons (o := _) rfl (fun K hK => ?_) AllReadyH.nil
        go_simp
        refine (sWord hT.out.rd).mono ?_
        rintro e w5 ⟨rfl, hr5, hx5⟩
        replace hT := hidp (hT.out.read hr5 hx5)
        clear hr5 hx5
        go_wp2_with fail
        refine hK.out _ _ trivial (fun hHeld' => ?_)
        clear hK K hHeld
        have hHeld := hHeld'
        clear hHeld'
        try simp only [Act.put, List.setIfInBounds_toArray, List.set_cons_zero, List.set_cons_succ]
        obtain ⟨v, hv⟩ : ∃ v, v = tV (tF i s1).2 := ⟨_, rfl⟩
        have hva : ((rdV pNum 0 (tF i s1).2 : Nat) : Int) = v.a := by rw [hv]; rfl
        have hvs : rdV pWord 0 (rdN pNum (tF i s1).2) = v.s := by rw [hv]; rfl
        rw [hva, hvs]
        replace hv := hidp hv
        clear hva hvs
        obtain ⟨W5, hW5⟩ : ∃ W, W = w5 := ⟨_, rfl⟩
        subst hW5
        refine wpAnyH_takeTo2 (i := 6) (oi := _) (v := .agg #[.int .i64 v.a, .int .u64 (v.s : Nat)]) (some 38) rfl rfl (by kernel_rfl) (by kernel_rfl) (by kernel_rfl) (fun _ _ _ h => h) (yieldsIf_build (by rfl) 169 _ rfl #[.int .i64 v.a, .int .u64 (v.s : Nat)] (by kernel_rfl)) hHeld ?_
        try simp only [Act.put, List.setIfInBounds_toArray, List.set_cons_zero, List.set_cons_succ]
        refine wpAnyH_ready (rs := [7]) (by kernel_rfl) (by simp) ?_
        refine AllReadyH.cons (o := _) rfl (fun K hK => ?_) AllReadyH.nil
        go_simp
        have hX := hidp (Blk.new W5 (tL v) 169)
        replace hT := hidp (hT.out.below ((Below.refl _ _).alloc (Nat.le_refl _) (.cells #[.int .i64 v.a, .int .u64 (v.s : Nat)] 169)))
        refine hK.out _ _ trivial (fun hHeld' => ?_)
        clear hK K hHeld
        have hHeld := hHeld'
        clear hHeld'
        try simp only [Act.put, List.setIfInBounds_toArray, List.set_cons_zero, List.set_cons_succ]
        refine wpAnyH_ready (rs := [8]) (by kernel_rfl) (by simp) ?_
        refine AllReadyH.cons (o := _) rfl (fun K hK => ?_) AllReadyH.nil
        refine step_append_lies _ (by rfl) _ _ 80 (by rfl) (B + 1) 169 i0 _ 2 16 Tryz.underlying80 hi0 hz0 hz1 hz2 (by rfl) (by decide) _ _ _ (by rfl) hT.out.own ⟨W5.heap.size, 0, none⟩ 1 1 (tL v) (by rfl) (by rfl) (fun j c hj => by rw [Addr.add_mid, Nat.zero_add]; exact (hX.out.cell j).trans hj) (tL_one v) (by decide) (by rw [tF_len]; exact hbg.out.1) (by rw [tF_len]; exact hbg.out.2) hT.out.big _ (by rfl) ?_
        intro gv cv w6 ho2 hg2 _ _
        have H2 := hidp (hT.out.app hg2 ho2)
        clear ho2 hg2 hT
        refine hK.out _ _ trivial (fun hHeld' => ?_)
        clear hK K hHeld
        have hHeld := hHeld'
        clear hHeld'
        try simp only [Act.put, List.setIfInBounds_toArray, List.set_cons_zero, List.set_cons_succ]
        refine wpAnyH_takeTo2 (i := 9) (oi := _) (v := ?_) (some 41) rfl rfl (by kernel_rfl) (by kernel_rfl) (by kernel_rfl) (fun _ _ _ h => h) (Or.inl ⟨by rfl, ?_⟩) hHeld ?_
        rotate_left
        · intro w hSw
          go_simp
          try with_reducible rfl
        try simp only [Act.put, List.setIfInBounds_toArray, List.set_cons_zero, List.set_cons_succ]
        refine wpAnyH_ready (rs := [10]) (by kernel_rfl) (by simp) ?_
        refine AllReadyH.cons (o := _) rfl (fun K hK => ?_) AllReadyH.nil
        have k33 := (H2.out.kc.cell 33).trans (cC_33 hpp.out)
        have f33 := H2.out.kc.free 33
        go_simp
        have H3 := hidp (H2.out.set hpp.out)
        refine hK.out _ _ trivial (fun hHeld' => ?_)
        clear hK K hHeld hHeld' k33 f33 H2
        try simp only [Act.put, List.setIfInBounds_toArray, List.set_cons_zero, List.set_cons_succ]
        refine wpAnyH_done (by kernel_rfl) ?_ _
        rw [hv.out] at H3
        go_wp2_with fail
        rw [hadd]
        exact ⟨⟨i + 1, _, hlt1.out, rfl, H3⟩, dec_nat hlt1.out⟩
      · skip
        go_simp
        refine (sNum hT.out.rd).mono ?_
        rintro e w4 ⟨rfl, hr4, hx4⟩
        replace hT := hidp (hT.out.read hr4 hx4)
        clear hr4 hx4
        go_wp2_with fail
        refine hK.out _ _ trivial (fun hHeld' => ?_)
        clear hK K hHeld
        have hHeld := hHeld'
        clear hHeld'
        try simp only [Act.put, List.setIfInBounds_toArray, List.set_cons_zero, List.set_cons_succ]
        refine wpAnyH_ready (rs := [1,5]) (by kernel_rfl) (by simp) ?_
        refine AllReadyH.cons (o := _) rfl (fun K hK => ?_) (AllReadyH.cons (o := _) rfl (fun K hK => ?_) AllReadyH.nil)
        · skip
          have c33 := (hT.out.kc.cell 33).trans (cC_33 hpp.out)
          go_simp
          refine hK.out _ _ trivial (fun hHeld' => ?_)
          clear hK K hHeld
          have hHeld := hHeld'
          clear hHeld'
          try simp only [Act.put, List.setIfInBounds_toArray, List.set_cons_zero, List.set_cons_succ]
          clear c33
          refine wpAnyH_ready (rs := [5]) (by kernel_rfl) (by simp) ?_
          refine AllReadyH.cons (o := _) rfl (fun K hK => ?_) AllReadyH.nil
          go_simp
          refine (sWord hT.out.rd).mono ?_
          rintro e w5 ⟨rfl, hr5, hx5⟩
          replace hT := hidp (hT.out.read hr5 hx5)
          clear hr5 hx5
          go_wp2_with fail
          refine hK.out _ _ trivial (fun hHeld' => ?_)
          clear hK K hHeld
          have hHeld := hHeld'
          clear hHeld'
          try simp only [Act.put, List.setIfInBounds_toArray, List.set_cons_zero, List.set_cons_succ]
          obtain ⟨v, hv⟩ : ∃ v, v = tV (tF i s1).2 := ⟨_, rfl⟩
          have hva : ((rdV pNum 0 (tF i s1).2 : Nat) : Int) = v.a := by rw [hv]; rfl
          have hvs : rdV pWord 0 (rdN pNum (tF i s1).2) = v.s := by rw [hv]; rfl
          rw [hva, hvs]
          replace hv := hidp hv
          clear hva hvs
          obtain ⟨W5, hW5⟩ : ∃ W, W = w5 := ⟨_, rfl⟩
          subst hW5
          refine wpAnyH_takeTo2 (i := 6) (oi := _) (v := .agg #[.int .i64 v.a, .int .u64 (v.s : Nat)]) (some 38) rfl rfl (by kernel_rfl) (by kernel_rfl) (by kernel_rfl) (fun _ _ _ h => h) (yieldsIf_build (by rfl) 169 _ rfl #[.int .i64 v.a, .int .u64 (v.s : Nat)] (by kernel_rfl)) hHeld ?_
          try simp only [Act.put, List.setIfInBounds_toArray, List.set_cons_zero, List.set_cons_succ]
          refine wpAnyH_ready (rs := [7]) (by kernel_rfl) (by simp) ?_
          refine AllReadyH.cons (o := _) rfl (fun K hK => ?_) AllReadyH.nil
          go_simp
          have hX := hidp (Blk.new W5 (tL v) 169)
          replace hT := hidp (hT.out.below ((Below.refl _ _).alloc (Nat.le_refl _) (.cells #[.int .i64 v.a, .int .u64 (v.s : Nat)] 169)))
          refine hK.out _ _ trivial (fun hHeld' => ?_)
          clear hK K hHeld
          have hHeld := hHeld'
          clear hHeld'
          try simp only [Act.put, List.setIfInBounds_toArray, List.set_cons_zero, List.set_cons_succ]
          refine wpAnyH_ready (rs := [8]) (by kernel_rfl) (by simp) ?_
          refine AllReadyH.cons (o := _) rfl (fun K hK => ?_) AllReadyH.nil
          refine step_append_lies _ (by rfl) _ _ 80 (by rfl) (B + 1) 169 i0 _ 2 16 Tryz.underlying80 hi0 hz0 hz1 hz2 (by rfl) (by decide) _ _ _ (by rfl) hT.out.own ⟨W5.heap.size, 0, none⟩ 1 1 (tL v) (by rfl) (by rfl) (fun j c hj => by rw [Addr.add_mid, Nat.zero_add]; exact (hX.out.cell j).trans hj) (tL_one v) (by decide) (by rw [tF_len]; exact hbg.out.1) (by rw [tF_len]; exact hbg.out.2) hT.out.big _ (by rfl) ?_
          intro gv cv w6 ho2 hg2 _ _
          have H2 := hidp (hT.out.app hg2 ho2)
          clear ho2 hg2 hT
          refine hK.out _ _ trivial (fun hHeld' => ?_)
          clear hK K hHeld
          have hHeld := hHeld'
          clear hHeld'
          try simp only [Act.put, List.setIfInBounds_toArray, List.set_cons_zero, List.set_cons_succ]
          refine wpAnyH_takeTo2 (i := 9) (oi := _) (v := ?_) (some 41) rfl rfl (by kernel_rfl) (by kernel_rfl) (by kernel_rfl) (fun _ _ _ h => h) (Or.inl ⟨by rfl, ?_⟩) hHeld ?_
          rotate_left
          · intro w hSw
            go_simp
            try with_reducible rfl
          try simp only [Act.put, List.setIfInBounds_toArray, List.set_cons_zero, List.set_cons_succ]
          refine wpAnyH_ready (rs := [10]) (by kernel_rfl) (by simp) ?_
          refine AllReadyH.cons (o := _) rfl (fun K hK => ?_) AllReadyH.nil
          have k33 := (H2.out.kc.cell 33).trans (cC_33 hpp.out)
          have f33 := H2.out.kc.free 33
          go_simp
          have H3 := hidp (H2.out.set hpp.out)
          refine hK.out _ _ trivial (fun hHeld' => ?_)
          clear hK K hHeld hHeld' k33 f33 H2
          try simp only [Act.put, List.setIfInBounds_toArray, List.set_cons_zero, List.set_cons_succ]
          refine wpAnyH_done (by kernel_rfl) ?_ _
          rw [hv.out] at H3
          go_wp2_with fail
          rw [hadd]
          exact ⟨⟨i + 1, _, hlt1.out, rfl, H3⟩, dec_nat hlt1.out⟩
        · skip
          go_simp
          refine (sWord hT.out.rd).mono ?_
          rintro e w5 ⟨rfl, hr5, hx5⟩
          replace hT := hidp (hT.out.read hr5 hx5)
          clear hr5 hx5
          go_wp2_with fail
          refine hK.out _ _ trivial (fun hHeld' => ?_)
          clear hK K hHeld
          have hHeld := hHeld'
          clear hHeld'
          try simp only [Act.put, List.setIfInBounds_toArray, List.set_cons_zero, List.set_cons_succ]
          obtain ⟨v, hv⟩ : ∃ v, v = tV (tF i s1).2 := ⟨_, rfl⟩
          have hva : ((rdV pNum 0 (tF i s1).2 : Nat) : Int) = v.a := by rw [hv]; rfl
          have hvs : rdV pWord 0 (rdN pNum (tF i s1).2) = v.s := by rw [hv]; rfl
          rw [hva, hvs]
          replace hv := hidp hv
          clear hva hvs
          obtain ⟨W5, hW5⟩ : ∃ W, W = w5 := ⟨_, rfl⟩
          subst hW5
          refine wpAnyH_takeTo2 (i := 6) (oi := _) (v := .agg #[.int .i64 v.a, .int .u64 (v.s : Nat)]) (some 38) rfl rfl (by kernel_rfl) (by kernel_rfl) (by kernel_rfl) (fun _ _ _ h => h) (yieldsIf_build (by rfl) 169 _ rfl #[.int .i64 v.a, .int .u64 (v.s : Nat)] (by kernel_rfl)) hHeld ?_
          try simp only [Act.put, List.setIfInBounds_toArray, List.set_cons_zero, List.set_cons_succ]
          refine wpAnyH_ready (rs := [1,7]) (by kernel_rfl) (by simp) ?_
          refine AllReadyH.cons (o := _) rfl (fun K hK => ?_) (AllReadyH.cons (o := _) rfl (fun K hK => ?_) AllReadyH.nil)
          · skip
            have c33 := (hT.out.kc.cell 33).trans (cC_33 hpp.out)
            go_simp
            refine hK.out _ _ trivial (fun hHeld' => ?_)
            clear hK K hHeld
            have hHeld := hHeld'
            clear hHeld'
            try simp only [Act.put, List.setIfInBounds_toArray, List.set_cons_zero, List.set_cons_succ]
            clear c33
            refine wpAnyH_ready (rs := [7]) (by kernel_rfl) (by simp) ?_
            refine AllReadyH.cons (o := _) rfl (fun K hK => ?_) AllReadyH.nil
            go_simp
            have hX := hidp (Blk.new W5 (tL v) 169)
            replace hT := hidp (hT.out.below ((Below.refl _ _).alloc (Nat.le_refl _) (.cells #[.int .i64 v.a, .int .u64 (v.s : Nat)] 169)))
            refine hK.out _ _ trivial (fun hHeld' => ?_)
            clear hK K hHeld
            have hHeld := hHeld'
            clear hHeld'
            try simp only [Act.put, List.setIfInBounds_toArray, List.set_cons_zero, List.set_cons_succ]
            refine wpAnyH_ready (rs := [8]) (by kernel_rfl) (by simp) ?_
            refine AllReadyH.cons (o := _) rfl (fun K hK => ?_) AllReadyH.nil
            refine step_append_lies _ (by rfl) _ _ 80 (by rfl) (B + 1) 169 i0 _ 2 16 Tryz.underlying80 hi0 hz0 hz1 hz2 (by rfl) (by decide) _ _ _ (by rfl) hT.out.own ⟨W5.heap.size, 0, none⟩ 1 1 (tL v) (by rfl) (by rfl) (fun j c hj => by rw [Addr.add_mid, Nat.zero_add]; exact (hX.out.cell j).trans hj) (tL_one v) (by decide) (by rw [tF_len]; exact hbg.out.1) (by rw [tF_len]; exact hbg.out.2) hT.out.big _ (by rfl) ?_
            intro gv cv w6 ho2 hg2 _ _
            have H2 := hidp (hT.out.app hg2 ho2)
            clear ho2 hg2 hT
            refine hK.out _ _ trivial (fun hHeld' => ?_)
            clear hK K hHeld
            have hHeld := hHeld'
            clear hHeld'
            try simp only [Act.put, List.setIfInBounds_toArray, List.set_cons_zero, List.set_cons_succ]
            refine wpAnyH_takeTo2 (i := 9) (oi := _) (v := ?_) (some 41) rfl rfl (by kernel_rfl) (by kernel_rfl) (by kernel_rfl) (fun _ _ _ h => h) (Or.inl ⟨by rfl, ?_⟩) hHeld ?_
            rotate_left
            · intro w hSw
              go_simp
              try with_reducible rfl
            try simp only [Act.put, List.setIfInBounds_toArray, List.set_cons_zero, List.set_cons_succ]
            refine wpAnyH_ready (rs := [10]) (by kernel_rfl) (by simp) ?_
            refine AllReadyH.cons (o := _) rfl (fun K hK => ?_) AllReadyH.nil
            have k33 := (H2.out.kc.cell 33).trans (cC_33 hpp.out)
            have f33 := H2.out.kc.free 33
            go_simp
            have H3 := hidp (H2.out.set hpp.out)
            refine hK.out _ _ trivial (fun hHeld' => ?_)
            clear hK K hHeld hHeld' k33 f33 H2
            try simp only [Act.put, List.setIfInBounds_toArray, List.set_cons_zero, List.set_cons_succ]
            refine wpAnyH_done (by kernel_rfl) ?_ _
            rw [hv.out] at H3
            go_wp2_with fail
            rw [hadd]
            exact ⟨⟨i + 1, _, hlt1.out, rfl, H3⟩, dec_nat hlt1.out⟩
          · skip
            go_simp
            have hX := hidp (Blk.new W5 (tL v) 169)
            replace hT := hidp (hT.out.below ((Below.refl _ _).alloc (Nat.le_refl _) (.cells #[.int .i64 v.a, .int .u64 (v.s : Nat)] 169)))
            refine hK.out _ _ trivial (fun hHeld' => ?_)
            clear hK K hHeld
            have hHeld := hHeld'
            clear hHeld'
            try simp only [Act.put, List.setIfInBounds_toArray, List.set_cons_zero, List.set_cons_succ]
            refine wpAnyH_ready (rs := [1]) (by kernel_rfl) (by simp) ?_
            refine AllReadyH.cons (o := _) rfl (fun K hK => ?_) AllReadyH.nil
            have c33 := (hT.out.kc.cell 33).trans (cC_33 hpp.out)
            have c33b : (W5.alloc (.cells #[.int .i64 v.a, .int .u64 (v.s : Nat)] 169)).cell? ⟨B, 33, none⟩ = some sv := c33
            go_simp
            refine hK.out _ _ trivial (fun hHeld' => ?_)
            clear hK K hHeld
            have hHeld := hHeld'
            clear hHeld'
            try simp only [Act.put, List.setIfInBounds_toArray, List.set_cons_zero, List.set_cons_succ]
            clear c33
            refine wpAnyH_ready (rs := [8]) (by kernel_rfl) (by simp) ?_
            refine AllReadyH.cons (o := _) rfl (fun K hK => ?_) AllReadyH.nil
            refine step_append_lies _ (by rfl) _ _ 80 (by rfl) (B + 1) 169 i0 _ 2 16 Tryz.underlying80 hi0 hz0 hz1 hz2 (by rfl) (by decide) _ _ _ (by rfl) hT.out.own ⟨W5.heap.size, 0, none⟩ 1 1 (tL v) (by rfl) (by rfl) (fun j c hj => by rw [Addr.add_mid, Nat.zero_add]; exact (hX.out.cell j).trans hj) (tL_one v) (by decide) (by rw [tF_len]; exact hbg.out.1) (by rw [tF_len]; exact hbg.out.2) hT.out.big _ (by rfl) ?_
            intro gv cv w6 ho2 hg2 _ _
            have H2 := hidp (hT.out.app hg2 ho2)
            clear ho2 hg2 hT
            refine hK.out _ _ trivial (fun hHeld' => ?_)
            clear hK K hHeld
            have hHeld := hHeld'
            clear hHeld'
            try simp only [Act.put, List.setIfInBounds_toArray, List.set_cons_zero, List.set_cons_succ]
            refine wpAnyH_takeTo2 (i := 9) (oi := _) (v := ?_) (some 41) rfl rfl (by kernel_rfl) (by kernel_rfl) (by kernel_rfl) (fun _ _ _ h => h) (Or.inl ⟨by rfl, ?_⟩) hHeld ?_
            rotate_left
            · intro w hSw
              go_simp
              try with_reducible rfl
            try simp only [Act.put, List.setIfInBounds_toArray, List.set_cons_zero, List.set_cons_succ]
            refine wpAnyH_ready (rs := [10]) (by kernel_rfl) (by simp) ?_
            refine AllReadyH.cons (o := _) rfl (fun K hK => ?_) AllReadyH.nil
            have k33 := (H2.out.kc.cell 33).trans (cC_33 hpp.out)
            have f33 := H2.out.kc.free 33
            go_simp
            have H3 := hidp (H2.out.set hpp.out)
            refine hK.out _ _ trivial (fun hHeld' => ?_)
            clear hK K hHeld hHeld' k33 f33 H2
            try simp only [Act.put, List.setIfInBounds_toArray, List.set_cons_zero, List.set_cons_succ]
            refine wpAnyH_done (by kernel_rfl) ?_ _
            rw [hv.out] at H3
            go_wp2_with fail
            rw [hadd]
            exact ⟨⟨i + 1, _, hlt1.out, rfl, H3⟩, dec_nat hlt1.out⟩
    · obtain rfl : i = n := by omega
      have hnz : ¬ ((i : Int) < (i : Int)) := by omega
      obtain ⟨p5, n5, c5, hsv⟩ := hr.out.own.sl
      subst hsv
      clear hlt hin
      go_wp2_with fail
      refine (sEnd hr.out.rd).mono ?_
      rintro e w11 ⟨rfl, hB⟩
      have E1 := hidp (hr.out.below hB)
      clear hB hr
      obtain ⟨ex, ey, hxy⟩ : ∃ x y, endS (tF i s1).2 = (x, y) := ⟨_, _, rfl⟩
      rw [hxy]
      have E2 := hidp (fun o : Obj => E1.out.below ((Below.refl _ w11).alloc (Nat.le_refl _) o))
      by_cases h0 : ex = 0
      · subst h0
        have hTs := hidp (fun o : Obj => OwnT.tsz (E2.out o).own (tF_ok hby1.out i).2)
        have hl5 := hidp (cC_len (h := hh) (sl := .slice p5 n5 c5) hpp.out)
        have ho5 := hidp (cC_one hh pp p5 n5 c5)
        go_wp2_with (with_reducible refine (?_ : wpList _ _ _ _ _ _); refine wpList_load_blk rfl 82 _ rfl B (cC hh pp (.slice p5 n5 c5)) 82 rfl (E2.out _).kc _ Tryz.underlying82 rfl (by rw [hl5.out]; kernel_rfl) ?_)
        obtain ⟨b5, _, hT5, hn5, _⟩ := hTs.out (.cells #[.int .i64 ((0 : Nat) : Int), .int .i64 (ey : Nat)] 52)
        have HC := hidp (ccheck_any hh pp hpp.out p5 b5 0 c5 (tF i s1).1 _ hT5)
        rw [← hn5] at HC
        clear hT5 hTs hn5
        refine HC.out.mono ?_
        rintro e w12 ⟨rfl, hB⟩
        have E3 := hidp ((E2.out (.cells #[.int .i64 ((0 : Nat) : Int), .int .i64 (ey : Nat)] 52)).below hB)
        clear hB HC E2 E1
        obtain ⟨k0, k1, f0, f1⟩ := E3.out.res.fc
        by_cases hc : chkC hh (tF i s1).1 = 0
        · have hR := hidp (show D = ⟨hh, pp, (tF i s1).1, 0, 0⟩ by
            rw [hD.out, decC_ok (by rw [← hn.out]; exact H64.out) (by rw [← hn.out, ← hs1.out, hxy]) (by rw [← hhe.out, ← hn.out, ← hs1.out]; exact hc), ← hhe.out, ← hpe.out, ← hn.out, ← hs1.out])
          rw [hc]
          clear hc hD
          go_wp2_with first
            | (with_reducible refine (?_ : wpList _ _ _ _ _ _); refine wpList_load_blk rfl 82 _ rfl B (cC hh pp (.slice p5 n5 c5)) 82 rfl E3.out.kc _ Tryz.underlying82 rfl (by rw [hl5.out]; kernel_rfl) ?_)
            | (with_reducible refine (?_ : wpList _ _ _ _ _ _); refine wpList_store_blk rfl 82 _ _ rfl w.heap.size (cC hh pp (.slice p5 n5 c5)) (cC 0 zh32 (.slice none 0 0)) 82 rfl rfl E3.out.res.res (by rw [hl5.out]; kernel_rfl) (by rw [hl5.out, hl0.out]) ho5.out ?_; intro w13 hw13; have F1 := hidp (show DRes w w13 (cC hh pp (.slice p5 n5 c5)) 0 0 ∧ OwnT w13 (B + 1) (.slice p5 n5 c5) (tF i s1).1 by rw [hw13.out]; exact ⟨DRes.row (ds := cC hh pp (.slice p5 n5 c5)) E3.out.res, E3.out.own.bex (g := w.heap.size) (Bex.of_but ((But.refl w.heap.size w12).setRow _)) (by have := E3.out.hg; have := E3.out.gB; omega)⟩); obtain ⟨k0, k1, f0, f1⟩ := F1.out.1.fc)
          have F2 := hidp (F1.out.1.fin 0 0)
          have F3 := hidp (show OwnT _ w.heap.size (.slice p5 n5 c5) (tF i s1).1 from ((F1.out.2.bex (g := w.heap.size + 1) (((Bex.refl _ w13).setCell 0 (.int .i64 0)).setCell 1 (.int .i64 0)) (by have := E3.out.hg; have := E3.out.gB; omega)).base (by have := E3.out.hg; have := E3.out.gB; omega)))
          generalize (World.setCell _ _ _) = W at F2 F3 ⊢
          refine bodyPost_ret (v := .tuple #[.agg (cC hh pp (.slice p5 n5 c5)).toArray, .agg [.int .i64 0, .int .i64 0].toArray]) ?_ rfl ⟨⟨.slice p5 n5 c5, by rw [hR.out]; rfl, by rw [hR.out]; exact F3.out⟩, F2.out.bel⟩
          exact results_rows2 Tryz.results132 _ _ w.heap.size 82 _ _ (w.heap.size + 1) 52 _ _ rfl F2.out.res Tryz.underlying82 rfl (by rw [hl5.out]; kernel_rfl) rfl F2.out.flt Tryz.underlying52 rfl (by kernel_rfl)
        · have hR := hidp (show D = dcE (chkC hh (tF i s1).1) 0 by
            rw [hD.out, decC_chk (by rw [← hn.out]; exact H64.out) (by rw [← hn.out, ← hs1.out, hxy]) (by rw [← hhe.out, ← hn.out, ← hs1.out]; exact hc), ← hhe.out, ← hn.out, ← hs1.out])
          have hbn : (((chkC hh (tF i s1).1 : Nat) : Int) != 0) = true := by rw [bne_iff_ne]; omega
          generalize chkC hh (tF i s1).1 = m at *
          clear hc hD
          go_wp2_with first
            | (with_reducible refine (?_ : wpList _ _ _ _ _ _); refine wpList_buildG (by kernel_rfl) 82 _ rfl (cC 0 zh32 (.slice none 0 0)).toArray (by kernel_rfl) ?_)
            | (with_reducible refine (?_ : wpList _ _ _ _ _ _); refine wpList_store_blk rfl 82 _ _ rfl w.heap.size (cC 0 zh32 (.slice none 0 0)) (cC 0 zh32 (.slice none 0 0)) 82 rfl rfl E3.out.res.res (by rw [hl0.out]; kernel_rfl) rfl ho0.out ?_; intro w13 hw13; have F1 := hidp (show DRes w w13 (cC 0 zh32 (.slice none 0 0)) 0 0 by rw [hw13.out]; exact DRes.row (ds := (cC 0 zh32 (.slice none 0 0))) E3.out.res); obtain ⟨k0, k1, f0, f1⟩ := F1.out.fc)
          have F2 := hidp (F1.out.fin (m : Nat) 0)
          generalize (World.setCell _ _ _) = W at F2 ⊢
          refine bodyPost_ret (v := .tuple #[.agg (cC 0 zh32 (.slice none 0 0)).toArray, .agg [.int .i64 (m : Nat), .int .i64 0].toArray]) ?_ rfl ⟨⟨.slice none 0 0, by rw [hR.out]; rfl, by rw [hR.out]; exact OwnT.nil _ _⟩, F2.out.bel⟩
          exact results_rows2 Tryz.results132 _ _ w.heap.size 82 _ _ (w.heap.size + 1) 52 _ _ rfl F2.out.res Tryz.underlying82 rfl (by rw [hl0.out]; kernel_rfl) rfl F2.out.flt Tryz.underlying52 rfl (by kernel_rfl)
      · have hR := hidp (show D = dcE ex (ey : Nat) by
          rw [hD.out, decC_end (by rw [← hn.out]; exact H64.out) (by rw [← hn.out, ← hs1.out, hxy]; exact h0), ← hn.out, ← hs1.out, hxy])
        have hbn : (((ex : Nat) : Int) != 0) = true := by rw [bne_iff_ne]; omega
        clear h0 hD
        go_wp2_with fail
        have D9 := hidp (E2.out (.cells #[.int .i64 (ex : Nat), .int .i64 (ey : Nat)] 52)).drew
        have hne := hidp (show w11.heap.size ≠ w.heap.size ∧ w11.heap.size ≠ w.heap.size + 1 by have := E1.out.res.flt.lt; omega)
        refine wp_region_held_drew (S := fun w' => Blk w' w11.heap.size [.int .i64 (ex : Nat), .int .i64 (ey : Nat)] 52) (by kernel_rfl) (Blk.new w11 _ _).drew (fun hS0 => ?_)
        refine wpAnyH_takeTo2 (i := 0) (oi := _) (v := .agg (cC 0 zh32 (.slice none 0 0)).toArray) (some 48) rfl rfl (by kernel_rfl) (by kernel_rfl) (by kernel_rfl) (fun _ _ _ h => h) (yieldsIf_build rfl 82 _ rfl (cC 0 zh32 (.slice none 0 0)).toArray (by kernel_rfl)) hS0 ?_
        try simp only [Act.put, List.setIfInBounds_toArray, List.set_cons_zero, List.set_cons_succ]
        refine wpAnyH_takeTo2 (i := 1) (oi := _) (v := .agg [.int .i64 (ex : Nat), .int .i64 (ey : Nat)].toArray) (some 49) rfl rfl (by kernel_rfl) (by kernel_rfl) (by kernel_rfl) (fun _ _ _ h => h) (yieldsIf_load_mid rfl 52 _ rfl w11.heap.size 0 rfl [.int .i64 (ex : Nat), .int .i64 (ey : Nat)] _ (fun w h j v hj => by rw [Nat.zero_add]; exact (h.cell j).trans hj) Tryz.underlying52 rfl (by kernel_rfl)) hS0 ?_
        try simp only [Act.put, List.setIfInBounds_toArray, List.set_cons_zero, List.set_cons_succ]
        refine wpAnyH_ready (rs := [2]) (by kernel_rfl) (by simp) ?_
        refine AllReadyH.cons (o := _) rfl (fun K hK => ?_) AllReadyH.nil
        refine if_intro (by rfl) ?_
        refine wp_store_row 82 _ _ rfl w.heap.size (cC 0 zh32 (.slice none 0 0)).toArray rfl rfl 82 (cC 0 zh32 (.slice none 0 0)).toArray D9.out.res.res (by rw [List.size_toArray, hl0.out]; kernel_rfl) rfl ho0.out ?_
        obtain ⟨w13, hw13⟩ : ∃ W, W = ((w11.alloc (.cells #[.int .i64 (ex : Nat), .int .i64 (ey : Nat)] 52)).drew).setRow w.heap.size (cC 0 zh32 (.slice none 0 0)).toArray := ⟨_, rfl⟩
        have F1 := hidp (show DRes w w13 (cC 0 zh32 (.slice none 0 0)) 0 0 by rw [hw13]; exact DRes.row (ds := (cC 0 zh32 (.slice none 0 0))) D9.out.res)
        have S1 := hidp (show Blk w13 w11.heap.size [.int .i64 (ex : Nat), .int .i64 (ey : Nat)] 52 by rw [hw13]; exact ((But.refl w.heap.size _).setRow _).blk hS0 hne.out.1)
        rw [← hw13]
        clear hw13
        refine hK.out _ _ S1.out (fun _ => ?_)
        clear hK K
        try simp only [Act.put, List.setIfInBounds_toArray, List.set_cons_zero, List.set_cons_succ]
        refine wpAnyH_ready (rs := [3]) (by kernel_rfl) (by simp) ?_
        refine AllReadyH.cons (o := _) rfl (fun K hK => ?_) AllReadyH.nil
        refine if_intro (by rfl) ?_
        obtain ⟨k0, k1, k2, k3⟩ := F1.out.fc
        go_simp
        have F2 := hidp (F1.out.fin (ex : Nat) (ey : Nat))
        have S2 := hidp (show Blk ((w13.setCell ⟨w.heap.size + 1, 0, none⟩ (.int .i64 (ex : Nat))).setCell ⟨w.heap.size + 1, 1, none⟩ (.int .i64 (ey : Nat))) w11.heap.size [.int .i64 (ex : Nat), .int .i64 (ey : Nat)] 52 from (S1.out.other _ _ hne.out.2).other _ _ hne.out.2)
        refine hK.out _ _ S2.out (fun _ => ?_)
        clear hK K
        try simp only [Act.put, List.setIfInBounds_toArray, List.set_cons_zero, List.set_cons_succ]
        refine wpAnyH_done (by kernel_rfl) ?_ _
        clear k0 k1 k2 k3
        generalize (World.setCell _ _ _) = W at F2 ⊢
        go_wp2
        refine bodyPost_ret (v := .tuple #[.agg (cC 0 zh32 (.slice none 0 0)).toArray, .agg [.int .i64 (ex : Nat), .int .i64 (ey : Nat)].toArray]) ?_ rfl ⟨⟨.slice none 0 0, by rw [hR.out]; rfl, by rw [hR.out]; exact OwnT.nil _ _⟩, F2.out.bel⟩
        exact results_rows2 Tryz.results132 _ _ w.heap.size 82 _ _ (w.heap.size + 1) 52 _ _ rfl F2.out.res Tryz.underlying82 rfl (by rw [hl0.out]; kernel_rfl) rfl F2.out.flt Tryz.underlying52 rfl (by kernel_rfl)
end Go.Proofs.YtcmkmnidnapabaaGreat

/-! L7t: Plain: what is encoded of a commit is decoded as it was, and nothing else is. -/
namespace Go.Proofs.YtcmkmnidnapabaaGreat
open Go.RowKit Go.Lib

theorem wordB_dB (n : Nat) : wordB n = dB 8 n := by
  unfold wordB formW
  simp [List.range_succ, dB, Nat.div_div_eq_div_mul]
theorem valL_wordB {n : Nat} (h : n < 18446744073709551616) : valL (wordB n) = n := by
  rw [wordB_dB]
  exact dB_val 8 n (by omega)
theorem pWord_wordB {n : Nat} (h : n < 18446744073709551616) (Z : List Nat) : pWord (wordB n ++ Z) = .ok n 8 := by
  unfold pWord
  rw [if_neg (by rw [List.length_append, wordB_len]; omega), List.take_left' (wordB_len n), valL_wordB h]
theorem tF_cons : ∀ (i : Nat) (s : RS), tF (i + 1) s = (tV s :: (tF i (tN s)).1, (tF i (tN s)).2)
  | 0, s => rfl
  | i + 1, s => by
    have ih := tF_cons i s
    have e : tF (i + 1 + 1) s = ((tF (i + 1) s).1 ++ [tV (tF (i + 1) s).2], tN (tF (i + 1) s).2) := rfl
    rw [e, ih]
    rfl
structure EncT (v : Vt) : Prop where
  a : 0 ≤ v.a ∧ v.a ≤ 63
  s : v.s < 18446744073709551616
theorem tB_one (v : Vt) (h : EncT v) (t : Nat) (Z : List Nat) : tV ⟨t, tB v ++ Z, 0, 0⟩ = v ∧ tN ⟨t, tB v ++ Z, 0, 0⟩ = ⟨t + (tB v).length, Z, 0, 0⟩ := by
  have h0 : tB v ++ Z = nB v.a.toNat ++ (wordB v.s ++ Z) := by unfold tB; rw [List.append_assoc]
  have hn := pNum_nB (n := v.a.toNat) (by have := h.a; omega) (wordB v.s ++ Z)
  have hw := pWord_wordB h.s Z
  have e1 : rdV pNum 0 ⟨t, tB v ++ Z, 0, 0⟩ = v.a.toNat := by unfold rdV; simp only [h0, hn]; simp
  have e2 : rdN pNum ⟨t, tB v ++ Z, 0, 0⟩ = ⟨t + (dg v.a.toNat + 1), wordB v.s ++ Z, 0, 0⟩ := by
    unfold rdN
    simp only [h0, hn]
    rw [List.drop_left' (nB_len _)]
    simp
  have e3 : rdV pWord 0 ⟨t + (dg v.a.toNat + 1), wordB v.s ++ Z, 0, 0⟩ = v.s := by unfold rdV; simp only [hw]; simp
  have e4 : rdN pWord ⟨t + (dg v.a.toNat + 1), wordB v.s ++ Z, 0, 0⟩ = ⟨t + (dg v.a.toNat + 1) + 8, Z, 0, 0⟩ := by
    unfold rdN
    simp only [hw]
    rw [List.drop_left' (wordB_len _)]
    simp
  constructor
  · unfold tV
    rw [e1, e2, e3]
    obtain ⟨a, s⟩ := v
    congr 1
    have := h.a
    simp only at this ⊢
    omega
  · unfold tN
    rw [e2, e4]
    congr 1
    unfold tB
    rw [List.length_append, nB_len, wordB_len]
    omega
theorem tF_back : ∀ (l : List Vt) (t : Nat) (Y : List Nat), (∀ v ∈ l, EncT v) → tF l.length ⟨t, l.flatMap tB ++ Y, 0, 0⟩ = (l, ⟨t + (l.flatMap tB).length, Y, 0, 0⟩)
  | [], t, Y, _ => rfl
  | v :: l, t, Y, h => by
    have q := tB_one v (h v (by simp)) t (l.flatMap tB ++ Y)
    have ih := tF_back l (t + (tB v).length) Y (fun u hu => h u (by simp [hu]))
    have e : (v :: l).flatMap tB ++ Y = tB v ++ (l.flatMap tB ++ Y) := by rw [List.flatMap_cons, List.append_assoc]
    rw [List.length_cons, tF_cons, e, q.1, q.2, ih, List.flatMap_cons, List.length_append, ← Nat.add_assoc]
theorem encT_ok {h : Int} {l : List Vt} (hc : chkC h l = 0) (hk : ∀ v ∈ l, VtOk v) : ∀ v ∈ l, EncT v := fun v hv => ⟨(chkV_ok (chkC_ok hc).2.2).2.2 v hv, (hk v hv).s⟩
theorem encC_mid {h : Int} {p : List Nat} {l : List Vt} (hp : Bytes 32 p) (hc : chkC h l = 0) (hk : ∀ v ∈ l, VtOk v) (Y : List Nat) :
    cH (encC h p l ++ Y) = h ∧ cP (encC h p l ++ Y) = p ∧ cN (encC h p l ++ Y) = l.length ∧ tF l.length (cS3 (encC h p l ++ Y)) = (l, ⟨(encC h p l).length, Y, 0, 0⟩) := by
  have hl := chkC_ok hc
  have e0 : encC h p l ++ Y = nB h.toNat ++ (p ++ (nB l.length ++ (l.flatMap tB ++ Y))) := by unfold encC; simp only [List.append_assoc]
  have hn := pNum_nB (n := h.toNat) (by have := hl.1; omega) (p ++ (nB l.length ++ (l.flatMap tB ++ Y)))
  have hr : pRaw 32 (p ++ (nB l.length ++ (l.flatMap tB ++ Y))) = .ok p 32 := by
    unfold pRaw
    rw [if_neg (by rw [List.length_append, hp.1]; omega), List.take_left' hp.1]
  have hm := pNum_nB (n := l.length) (by have := hl.2.1; omega) (l.flatMap tB ++ Y)
  have e1 : cH (encC h p l ++ Y) = h := by
    unfold cH rdV rs0
    simp only [e0, hn]
    have := hl.1
    simp
    omega
  have s1 : cS1 (encC h p l ++ Y) = ⟨0 + (dg h.toNat + 1), p ++ (nB l.length ++ (l.flatMap tB ++ Y)), 0, 0⟩ := by
    unfold cS1 rdN rs0
    simp only [e0, hn]
    rw [List.drop_left' (nB_len _)]
    simp
  have e2 : cP (encC h p l ++ Y) = p := by
    unfold cP
    rw [s1]
    unfold rdV
    simp only [hr]
    simp
  have s2 : cS2 (encC h p l ++ Y) = ⟨0 + (dg h.toNat + 1) + 32, nB l.length ++ (l.flatMap tB ++ Y), 0, 0⟩ := by
    unfold cS2
    rw [s1]
    unfold rdN
    simp only [hr]
    rw [List.drop_left' hp.1]
    simp
  have e3 : cN (encC h p l ++ Y) = l.length := by
    unfold cN
    rw [s2]
    unfold rdV
    simp only [hm]
    simp
  have s3 : cS3 (encC h p l ++ Y) = ⟨0 + (dg h.toNat + 1) + 32 + (dg l.length + 1), l.flatMap tB ++ Y, 0, 0⟩ := by
    unfold cS3
    rw [s2]
    unfold rdN
    simp only [hm]
    rw [List.drop_left' (nB_len _)]
    simp
  refine ⟨e1, e2, e3, ?_⟩
  rw [s3, tF_back l _ Y (encT_ok hc hk)]
  congr 2
  unfold encC
  simp only [List.length_append, nB_len, hp.1]
  omega
theorem decC_back {h : Int} {p : List Nat} {l : List Vt} (hp : Bytes 32 p) (hc : chkC h l = 0) (hk : ∀ v ∈ l, VtOk v) : decC (encC h p l) = ⟨h, p, l, 0, 0⟩ := by
  obtain ⟨q1, q2, q3, q4⟩ := encC_mid hp hc hk []
  rw [List.append_nil] at q1 q2 q3 q4
  have hl := chkC_ok hc
  rw [decC_ok (by rw [q3]; omega) (by rw [q3, q4]; rfl) (by rw [q1, q3, q4]; exact hc), q1, q2, q3, q4]
theorem tN_form {s : RS} (hb : ∀ x ∈ s.R, x < 256) (h : (tN s).e = 0) : s.e = 0 ∧ s.R = tB (tV s) ++ (tN s).R := by
  obtain ⟨h1, v1, n1, p1, q1, r1⟩ := rd_form (z := (0 : Nat)) (fun x hx => pWord_ne hx) h
  obtain ⟨h2, v2, n2, p2, q2, r2⟩ := rd_form (z := (0 : Nat)) (fun x hx => pNum_ne hx) h1
  refine ⟨h2, ?_⟩
  obtain ⟨dk, hd, hf, hn, hnl, hv⟩ := pNum_form hb p2
  have hdk := digs_dg hd (by omega)
  have hR1 : (rdN pNum s).R = s.R.drop n2 := by rw [r2]
  rw [hR1] at p1 r1
  obtain ⟨g1, g2, g3, g4⟩ := pWord_form (fun x hx => hb x (List.mem_of_mem_drop hx)) p1
  have e1 : tB (tV s) = nB v2 ++ wordB v1 := by
    unfold tB tV
    simp only
    rw [q2, q1]
    rfl
  have e2 : (tN s).R = (s.R.drop n2).drop n1 := by unfold tN; rw [r1]
  have e3 : nB v2 = s.R.take n2 := by rw [← hf, hdk, nB_num (by omega)]
  rw [e1, e2, e3, g1, List.append_assoc, List.take_append_drop, List.take_append_drop]
theorem tF_form {s : RS} (hb : ∀ x ∈ s.R, x < 256) : ∀ i, (tF i s).2.e = 0 → s.e = 0 ∧ s.R = (tF i s).1.flatMap tB ++ (tF i s).2.R
  | 0, h => ⟨h, rfl⟩
  | i + 1, h => by
    have q := tN_form (tF_ok hb i).1 h
    have ih := tF_form hb i q.1
    refine ⟨ih.1, ?_⟩
    show s.R = ((tF i s).1 ++ [tV (tF i s).2]).flatMap tB ++ (tN (tF i s).2).R
    rw [List.flatMap_append, List.flatMap_cons, List.flatMap_nil, List.append_nil, List.append_assoc, ← q.2]
    exact ih.2
/-- What is decoded is encoded as it was. -/
theorem decC_form {L : List Nat} (hb : ∀ x ∈ L, x < 256) (h : (decC L).e = 0) : (decC L).f = 0 ∧ chkC (decC L).h (decC L).l = 0 ∧ encC (decC L).h (decC L).p (decC L).l = L ∧ (∀ v ∈ (decC L).l, VtOk v) ∧ Bytes 32 (decC L).p := by
  by_cases h64 : 64 < cN L
  · rw [decC_long h64] at h; exact absurd h (by show ¬ ((4 : Nat) = 0); decide)
  · by_cases hE : (endS (tF (cN L) (cS3 L)).2).1 = 0
    · by_cases hc : chkC (cH L) (tF (cN L) (cS3 L)).1 = 0
      · rw [decC_ok h64 hE hc]
        refine ⟨rfl, hc, ?_, (tF_ok (cS_byte hb).2.2 _).2, cP_bytes hb⟩
        have q := endS_zero hE
        have f := tF_form (cS_byte hb).2.2 _ q.1
        obtain ⟨h3, v3, n3, p3, q3, r3⟩ := rd_form (z := (0 : Nat)) (s := cS2 L) (fun x hx => pNum_ne hx) f.1
        obtain ⟨h2, v2, n2, p2, q2, r2⟩ := rd_form (z := zh32) (s := cS1 L) (fun x hx => pRaw_ne hx) h3
        obtain ⟨h1, v1, n1, p1, q1, r1⟩ := rd_form (z := (0 : Nat)) (s := rs0 L) (fun x hx => pNum_ne hx) h2
        have R1 : (cS1 L).R = L.drop n1 := by unfold cS1; rw [r1]; rfl
        have R2 : (cS2 L).R = (L.drop n1).drop n2 := by unfold cS2; rw [r2, R1]
        have R3 : (cS3 L).R = ((L.drop n1).drop n2).drop n3 := by unfold cS3; rw [r3, R2]
        obtain ⟨dk1, hd1, hf1, hn1, hl1, hv1⟩ := pNum_form hb p1
        have hdk1 := digs_dg hd1 (by omega)
        rw [R2] at p3
        obtain ⟨dk3, hd3, hf3, hn3, hl3, hv3⟩ := pNum_form (fun x hx => hb x (List.mem_of_mem_drop (List.mem_of_mem_drop hx))) p3
        have hdk3 := digs_dg hd3 (by omega)
        rw [R1] at p2
        obtain ⟨rfl, rfl, _⟩ := pRaw_ok p2
        have e := f.2
        rw [q.2, List.append_nil, R3] at e
        unfold encC
        simp only
        rw [tF_len, ← e]
        have a1 : (cH L).toNat = v1 := by unfold cH; rw [q1]; rfl
        have a2 : cP L = (L.drop n1).take 32 := q2
        have a3 : cN L = v3 := q3
        rw [a1, a2, a3]
        rw [show nB v1 = L.take n1 from by rw [← hf1, hdk1, nB_num (by omega)], show nB v3 = ((L.drop n1).drop 32).take n3 from by rw [← hf3, hdk3, nB_num (by omega)]]
        rw [List.append_assoc, List.take_append_drop, List.append_assoc, List.take_append_drop, List.take_append_drop]
      · rw [decC_chk h64 hE hc] at h; exact absurd h hc
    · rw [decC_end h64 hE] at h; exact absurd h hE
theorem decC_in {L : List Nat} (hb : ∀ x ∈ L, x < 256) : (0 ≤ (decC L).f ∧ (decC L).f ≤ (L.length : Int)) ∧ ((decC L).e ≠ 0 → decC L = dcE (decC L).e (decC L).f) := by
  have i0 : Inn (rs0 L) L.length := ⟨by simp [rs0], by simp [rs0]⟩
  have i1 : Inn (cS1 L) L.length := i0.rdN (fun v n hp => by obtain ⟨_, _, _, _, h, _⟩ := pNum_form hb hp; exact h)
  have i2 : Inn (cS2 L) L.length := i1.rdN (fun v n hp => by obtain ⟨_, rfl, h⟩ := pRaw_ok hp; exact h)
  have i3 : Inn (cS3 L) L.length := i2.rdN (fun v n hp => by obtain ⟨_, _, _, _, h, _⟩ := pNum_form (cS_byte hb).2.1 hp; exact h)
  have it : ∀ i, Inn (tF i (cS3 L)).2 L.length := fun i => by
    induction i with
    | zero => exact i3
    | succ i ih =>
      have hbi := (tF_ok (cS_byte hb).2.2 i).1
      have h1 : Inn (rdN pNum (tF i (cS3 L)).2) L.length := ih.rdN (fun v n hp => by obtain ⟨_, _, _, _, h, _⟩ := pNum_form hbi hp; exact h)
      exact h1.rdN (fun v n hp => (pWord_form (rdN_byte hbi) hp).2.2.1)
  by_cases h64 : 64 < cN L
  · rw [decC_long h64]
    refine ⟨?_, fun _ => rfl⟩
    have := i2.r
    show 0 ≤ cA L ∧ cA L ≤ (L.length : Int)
    unfold cA
    omega
  · by_cases hE : (endS (tF (cN L) (cS3 L)).2).1 = 0
    · by_cases hc : chkC (cH L) (tF (cN L) (cS3 L)).1 = 0
      · rw [decC_ok h64 hE hc]; exact ⟨⟨Int.le_refl _, by show (0 : Int) ≤ _; omega⟩, fun h => absurd rfl h⟩
      · rw [decC_chk h64 hE hc]; exact ⟨⟨Int.le_refl _, by show (0 : Int) ≤ _; omega⟩, fun _ => rfl⟩
    · rw [decC_end h64 hE]
      refine ⟨?_, fun _ => rfl⟩
      have h1 := (it (cN L)).r
      have h2 := (it (cN L)).f
      have key : (endS (tF (cN L) (cS3 L)).2).2 ≤ L.length := by
        unfold endS endE
        split
        · exact h2
        · split
          · simp only; omega
          · exact Nat.zero_le _
      show 0 ≤ (((endS (tF (cN L) (cS3 L)).2).2 : Nat) : Int) ∧ (((endS (tF (cN L) (cS3 L)).2).2 : Nat) : Int) ≤ (L.length : Int)
      omega
theorem decC_ok' {L : List Nat} (hb : ∀ x ∈ L, x < 256) : (∀ v ∈ (decC L).l, VtOk v) ∧ Bytes 32 (decC L).p ∧ (decC L).l.length ≤ 64 := by
  by_cases h0 : (decC L).e = 0
  · obtain ⟨_, h2, _, h4, h5⟩ := decC_form hb h0
    exact ⟨h4, h5, (chkC_ok h2).2.1⟩
  · rw [(decC_in hb).2 h0]
    exact ⟨by simp [dcE], zh32_bytes, by simp [dcE]⟩
end Go.Proofs.YtcmkmnidnapabaaGreat
