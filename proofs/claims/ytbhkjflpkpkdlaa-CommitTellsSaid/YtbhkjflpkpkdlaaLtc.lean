/-
  Commit: the walk of CommitTells.
-/
import Derived.Test.YtbhkjflpkpkdlaaLta
import Derived.Test.YtbhkjflpkpkdlaaLtb
import Derived.Test.YtbhkjflpkpkdlaaOv
import Derived.Test.YtbhkjflpkpkdlaaCv
import Derived.Test.YtbhkjflpkpkdlaaSv
import Derived.Test.YtbhkjflpkpkdlaaL7n
import Derived.Test.YtbhkjflpkpkdlaaL7v
import Derived.Test.YtbhkjflpkpkdlaaL7y
import Derived.Test.YtbhkjflpkpkdlaaL7q
namespace Go.Proofs.Ytbhkjflpkpkdlaa
open Go.RowKit Go.Lib
set_option linter.unusedSimpArgs false
set_option linter.unusedVariables false

/-- A slice of votes, somewhere. -/
def TsM (W : World) (pa : Option Addr) (na ca : Nat) (l : List Vt) : Prop := ∃ b o, Ts W pa b o ca l ∧ na = l.length
theorem TsM.below {W W' : World} {pa : Option Addr} {na ca : Nat} {l : List Vt} (h : TsM W pa na ca l) (hb : Below W.heap.size W W') : TsM W' pa na ca l := by
  obtain ⟨b, o, h1, h2⟩ := h
  exact ⟨b, o, h1.below hb, h2⟩
def VsM (W : World) (pa : Option Addr) (na ca : Nat) (l : List Vd) : Prop := ∃ b o, Vs W pa b o ca l ∧ na = l.length
theorem VsM.below {W W' : World} {pa : Option Addr} {na ca : Nat} {l : List Vd} (h : VsM W pa na ca l) (hb : Below W.heap.size W W') : VsM W' pa na ca l := by
  obtain ⟨b, o, h1, h2⟩ := h
  exact ⟨b, o, h1.below hb, h2⟩
def KsM (W : World) (pa : Option Addr) (na ca : Nat) (l : List Nat) : Prop := ∃ b o, Ks W pa b o ca l ∧ na = l.length
theorem KsM.below {W W' : World} {pa : Option Addr} {na ca : Nat} {l : List Nat} (h : KsM W pa na ca l) (hb : Below W.heap.size W W') : KsM W' pa na ca l := by
  obtain ⟨b, o, h1, h2⟩ := h
  exact ⟨b, o, h1.below hb, h2⟩
/-- What Encode tells: bytes, an error. -/
def encR (h : Int) (p : List Nat) (l : List Vt) : List Nat := if chkC h l = 0 then encC h p l else []
theorem encR_le {h : Int} {p : List Nat} {l : List Vt} (hp : p.length = 32) : (encR h p l).length ≤ 1150 := by
  unfold encR
  split
  · rename_i hc
    exact encC_le hp hc
  · simp
section
variable {hgt : Int} {p : List Nat} {W : World} {pa pb : Option Addr} {na ca nb cb : Nat} {l : List Vt} {s : List Vd}
theorem mOf (hp : p.length = 32) (h : TsM W pa na ca l) (hl : l.length ≤ 1000) (n : Int) : Calls Try.prog 36 #[.agg (cC hgt p (.slice pa na ca)).toArray, .int .i64 n] W fun e w' => e = .returned (.tuple #[.int .u64 ((ofR l n).1 : Nat), .bool (ofR l n).2]) ∧ Below W.heap.size W w' := by
  obtain ⟨b, o, ht, rfl⟩ := h
  exact cof_any hgt p hp pa b o ca l n W ht (by omega)
theorem mROf (hp : p.length = 32) (h : TsM W pa na ca l) (hl : l.length ≤ 1000) (n : Int) : Calls Try.prog 37 #[.agg (cC hgt p (.slice pa na ca)).toArray, .int .i64 n] W fun e w' => e = .returned (.tuple #[.int .u64 ((ofR l n).1 : Nat), .bool (ofR l n).2]) ∧ Below W.heap.size W w' := by
  obtain ⟨b, o, ht, rfl⟩ := h
  exact rof_any hgt p hp pa b o ca l n W ht hl
theorem mChk (hp : p.length = 32) (h : TsM W pa na ca l) : Calls Try.prog 43 #[.agg (cC hgt p (.slice pa na ca)).toArray] W fun e w' => e = .returned (.int .i64 (chkC hgt l : Nat)) ∧ Below W.heap.size W w' := by
  obtain ⟨b, o, ht, rfl⟩ := h
  exact ccheck_any hgt p hp pa b o ca l W ht
theorem mRChk (hp : p.length = 32) (h : TsM W pa na ca l) : Calls Try.prog 44 #[.agg (cC hgt p (.slice pa na ca)).toArray] W fun e w' => e = .returned (.int .i64 (chkC hgt l : Nat)) ∧ Below W.heap.size W w' := by
  obtain ⟨b, o, ht, rfl⟩ := h
  exact rcheck_any hgt p hp pa b o ca l W ht
theorem mEnc (hp : Bytes 32 p) (h : TsM W pa na ca l) : Calls Try.prog 38 #[.agg (cC hgt p (.slice pa na ca)).toArray] W fun e w' => (∃ q b c, e = .returned (.tuple #[.slice q (encR hgt p l).length c, .int .i64 (chkC hgt l : Nat)]) ∧ Bs w' q b 0 (encR hgt p l) c ∧ OwnB W.heap.size w' q (encR hgt p l) c) ∧ Below W.heap.size W w' := by
  obtain ⟨b, o, ht, rfl⟩ := h
  unfold encR
  by_cases hc : chkC hgt l = 0
  · rw [if_pos hc, hc]
    refine (cencode_own hgt p hp pa b o ca l W ht hc).mono ?_
    rintro e w' ⟨⟨q, b, c, rfl, _, _, h1, h2⟩, hb⟩
    exact ⟨⟨q, b, c, rfl, h1, h2⟩, hb⟩
  · rw [if_neg hc]
    refine (cencode_bad hgt p hp.1 pa b o ca l W ht hc).mono ?_
    rintro e w' ⟨rfl, hb⟩
    exact ⟨⟨none, 0, 0, rfl, Bs.nil _ _ _, OwnB.nil _ _ _⟩, hb⟩
theorem mREnc (hp : Bytes 32 p) (h : TsM W pa na ca l) : Calls Try.prog 39 #[.agg (cC hgt p (.slice pa na ca)).toArray] W fun e w' => (∃ q b c, e = .returned (.tuple #[.slice q (encR hgt p l).length c, .int .i64 (chkC hgt l : Nat)]) ∧ Bs w' q b 0 (encR hgt p l) c) ∧ Below W.heap.size W w' := by
  obtain ⟨b, o, ht, rfl⟩ := h
  unfold encR
  by_cases hc : chkC hgt l = 0
  · rw [if_pos hc, hc]
    refine (rencode_ok hgt p hp pa b o ca l W ht hc).mono ?_
    rintro e w' ⟨⟨q, b, c, rfl, _, _, h1⟩, hb⟩
    exact ⟨⟨q, b, c, rfl, h1⟩, hb⟩
  · rw [if_neg hc]
    refine (rencode_bad hgt p hp.1 pa b o ca l W ht hc).mono ?_
    rintro e w' ⟨rfl, hb⟩
    exact ⟨⟨none, 0, 0, rfl, Bs.nil _ _ _⟩, hb⟩
theorem whoO_ok {l : List Vt} {s : List Vd} (hs : ∀ v ∈ s, VdOk v) : (∀ k ∈ (whoO hgt l s).1, k < 4294967296) ∧ (whoO hgt l s).1.length ≤ l.length := by
  unfold whoO
  by_cases hc : chkC hgt l = 0
  · rw [if_neg (by omega)]
    split
    · refine ⟨fun k hk => ?_, by simp⟩
      obtain ⟨v, _, rfl⟩ := List.mem_map.1 hk
      unfold keyAt
      cases h : s[v.a.toNat]? with
      | none => simp
      | some u => exact (hs u (List.mem_of_getElem? h)).k
    · simp
  · rw [if_pos hc]
    simp
theorem mWho (hp : p.length = 32) (h : TsM W pa na ca l) (hs : VsM W pb nb cb s) : Calls Try.prog 40 #[.agg (cC hgt p (.slice pa na ca)).toArray, .slice pb nb cb] W fun e w' => ∃ pk nk ck, e = .returned (.tuple #[.slice pk nk ck, .int .i64 ((whoO hgt l s).2 : Nat)]) ∧ OwnK w' W.heap.size (.slice pk nk ck) (whoO hgt l s).1 ∧ KsM w' pk nk ck (whoO hgt l s).1 ∧ Below W.heap.size W w' := by
  obtain ⟨b, o, ht, rfl⟩ := h
  obtain ⟨b', o', hv, rfl⟩ := hs
  refine (cwho_any hgt p hp pa b o ca l pb b' o' cb s W ht hv).mono ?_
  rintro e w' ⟨sv, rfl, h1, h2⟩
  obtain ⟨pk, bk, ck, rfl, _, hk⟩ := h1.ks (whoO_ok hv.ok).1
  exact ⟨pk, _, ck, rfl, h1, ⟨bk, 0, hk, rfl⟩, h2⟩
theorem mRWho (hp : p.length = 32) (h : TsM W pa na ca l) (hs : VsM W pb nb cb s) : Calls Try.prog 41 #[.agg (cC hgt p (.slice pa na ca)).toArray, .slice pb nb cb] W fun e w' => ∃ pk nk ck, e = .returned (.tuple #[.slice pk nk ck, .int .i64 ((whoO hgt l s).2 : Nat)]) ∧ KsM w' pk nk ck (whoO hgt l s).1 ∧ Below W.heap.size W w' := by
  obtain ⟨b, o, ht, rfl⟩ := h
  obtain ⟨b', o', hv, rfl⟩ := hs
  refine (rwho_any hgt p hp pa b o ca l pb b' o' cb s W ht hv).mono ?_
  rintro e w' ⟨sv, rfl, h1, h2⟩
  obtain ⟨pk, bk, ck, rfl, _, hk⟩ := h1.ks (whoO_ok hv.ok).1
  exact ⟨pk, _, ck, rfl, ⟨bk, 0, hk, rfl⟩, h2⟩
theorem mSameK {pk pm : Option Addr} {nk ck nm cm : Nat} {L : List Nat} (h : KsM W pk nk ck L) (k : KsM W pm nm cm L) (hl : L.length ≤ 1000) : Calls Try.prog 42 #[.slice pk nk ck, .slice pm nm cm] W fun e w' => e = .returned (.bool true) ∧ Below W.heap.size W w' := by
  obtain ⟨b, o, h1, rfl⟩ := h
  obtain ⟨b', o', h2, rfl⟩ := k
  have q := sameKeys_any pk b o ck L pm b' o' cm L W h1 h2 (by omega)
  rw [decide_eq_true rfl] at q
  exact q
theorem mSameC (hp : p.length = 32) (h1 : TsM W pa na ca l) (h2 : TsM W pb nb cb l) (hl : l.length ≤ 1000) :
    Calls Try.prog 46 #[.agg (cC hgt p (.slice pa na ca)).toArray, .agg (cC hgt p (.slice pb nb cb)).toArray] W fun e w' => e = .returned (.bool true) ∧ Below W.heap.size W w' := by
  obtain ⟨b1, o1, t1, rfl⟩ := h1
  obtain ⟨b2, o2, t2, rfl⟩ := h2
  have q := sameCommit_any hgt p hp pa b1 o1 ca l hgt p hp pb b2 o2 cb l W t1 t2 (by omega)
  rw [sameC_self] at q
  exact q
theorem mSameV (h : VsM W pa na ca s) (k : VsM W pb nb cb s) (hl : s.length ≤ 1000) : Calls Try.prog 47 #[.slice pa na ca, .slice pb nb cb] W fun e w' => e = .returned (.bool true) ∧ Below W.heap.size W w' := by
  obtain ⟨b, o, h1, rfl⟩ := h
  obtain ⟨b', o', h2, rfl⟩ := k
  have q := sameVals_any pa b o ca s pb b' o' cb s W h1 h2 (by omega)
  rw [decide_eq_true rfl] at q
  exact q
end
/-- The boxes of CommitTells. -/
structure TlB (w W : World) (X Y : List Value) (i7 : Nat) : Prop where
  k3 : Blk W w.heap.size X 63
  k7 : Blk W i7 Y 63
  bel : Below w.heap.size w W
theorem TlB.below {w W W' : World} {X Y : List Value} {i7 : Nat} (H : TlB w W X Y i7) (hb : Below W.heap.size W W') : TlB w W' X Y i7 := ⟨hb.blk' H.k3, hb.blk' H.k7, H.bel.trans (hb.mono H.bel.size)⟩
theorem TlB.drew {w W : World} {X Y : List Value} {i7 : Nat} (H : TlB w W X Y i7) : TlB w W.drew X Y i7 := H.below (Below.refl _ W).drew
theorem OwnK.but {w w' : World} {B g : Nat} {v : Value} {l : List Nat} (h : OwnK w B v l) (hb : But g w w') (hne : ∀ k, v.ownBlock = some k → k ≠ g) : OwnK w' B v l := by
  refine ⟨h.1, ?_⟩
  rcases h.2 with h2 | ⟨k, cap, cur, h1, h2, h3, r⟩
  · exact .inl h2
  · exact .inr ⟨k, cap, cur, h1, h2, (hb.block k (hne k (by rw [h1]; rfl))).trans h3, r⟩
theorem OwnK.ne {w : World} {B g : Nat} {v : Value} {l : List Nat} {cs : List Value} (h : OwnK w B v l) (hb : Blk w g cs 5) : ∀ k, v.ownBlock = some k → k ≠ g := by
  intro k hk e
  subst e
  rcases h.2 with ⟨h1, _⟩ | ⟨k2, cap, cur, h1, _, h3, _⟩
  · rw [h1] at hk; cases hk
  · rw [h1] at hk
    cases hk
    unfold Blk at hb
    rw [hb] at h3
    cases h3
set_option maxRecDepth 100000 in
set_option maxHeartbeats 16000000 in
theorem ctells_l1 (hgt : Int) (p : List Nat) (a : Option Addr) (b o cap : Nat) (l : List Vt) (at_ : Int) (a2 : Option Addr) (b2 o2 c2 : Nat) (s : List Vd) (w : World) (hp : Bytes 32 p) (hT : Ts w a b o cap l) (hz : a = none → cap = 0) (hat : -9223372036854775808 ≤ at_ ∧ at_ ≤ 9223372036854775807) (hS : Vs w a2 b2 o2 c2 s) (h70 : 70 < l.length) : Calls Try.prog 6 #[.agg (cC hgt p (.slice a l.length cap)).toArray, .int .i64 at_, .slice a2 s.length c2] w fun e w' => e = .returned (.bool true) ∧ Below w.heap.size w w' := by
  have hl1 := hidp (cC_len (h := hgt) (sl := .slice a l.length cap) hp.1)
  have KA := hidp (Blk.new w (cC hgt p (.slice a l.length cap)) 63)
  have hV := hidp ((Below.refl w.heap.size w).alloc (Nat.le_refl _) (.cells (cC hgt p (.slice a l.length cap)).toArray 63))
  have HLO := hidp (fun W => clong_any hgt p hp.1 a l.length cap W)
  have t70 : decide ((70 : Int) < ((l.length : Nat) : Int)) = true := by first | exact decide_eq_true (by omega) | exact decide_eq_false (by omega)
  clear hT hS hz hat h70
  go_enter Try.func6, Try.ntmps6
  go_wp2_with first
    | (with_reducible refine (?_ : wpList _ _ _ _ _ _); refine wpList_load_blkD' 22 rfl (by kernel_rfl) 63 _ rfl (w.heap.size) (cC hgt p (.slice a l.length cap)) 63 rfl (KA.out) _ Try.underlying63 rfl (by rw [hl1.out]; kernel_rfl) ?_)
  refine (HLO.out _).mono ?_
  rintro e w2 ⟨rfl, hb⟩
  replace KA := hidp (hb.blk' KA.out)
  replace hV := hidp (hV.out.trans (hb.mono hV.out.size))
  clear hb HLO
  rw [t70]
  go_wp2_with fail
  refine (cawake_any _).mono ?_
  rintro e w3 ⟨rfl, hb⟩
  replace KA := hidp (hb.blk' KA.out)
  replace hV := hidp (hV.out.trans (hb.mono hV.out.size))
  clear hb
  go_wp2
  go_ret
  exact ⟨rfl, hV.out⟩
set_option maxRecDepth 100000 in
set_option maxHeartbeats 16000000 in
theorem ctells_l2 (hgt : Int) (p : List Nat) (a : Option Addr) (b o cap : Nat) (l : List Vt) (at_ : Int) (a2 : Option Addr) (b2 o2 c2 : Nat) (s : List Vd) (w : World) (hp : Bytes 32 p) (hT : Ts w a b o cap l) (hz : a = none → cap = 0) (hat : -9223372036854775808 ≤ at_ ∧ at_ ≤ 9223372036854775807) (hS : Vs w a2 b2 o2 c2 s) (h70 : ¬ 70 < l.length) (h80 : 80 < s.length) : Calls Try.prog 6 #[.agg (cC hgt p (.slice a l.length cap)).toArray, .int .i64 at_, .slice a2 s.length c2] w fun e w' => e = .returned (.bool true) ∧ Below w.heap.size w w' := by
  have hl1 := hidp (cC_len (h := hgt) (sl := .slice a l.length cap) hp.1)
  have KA := hidp (Blk.new w (cC hgt p (.slice a l.length cap)) 63)
  have hV := hidp ((Below.refl w.heap.size w).alloc (Nat.le_refl _) (.cells (cC hgt p (.slice a l.length cap)).toArray 63))
  have HLO := hidp (fun W => clong_any hgt p hp.1 a l.length cap W)
  have t70 : decide ((70 : Int) < ((l.length : Nat) : Int)) = false := by first | exact decide_eq_true (by omega) | exact decide_eq_false (by omega)
  have t80 : decide ((80 : Int) < ((s.length : Nat) : Int)) = true := by first | exact decide_eq_true (by omega) | exact decide_eq_false (by omega)
  clear hT hS hz hat h70 h80
  go_enter Try.func6, Try.ntmps6
  go_wp2_with first
    | (with_reducible refine (?_ : wpList _ _ _ _ _ _); refine wpList_load_blkD' 22 rfl (by kernel_rfl) 63 _ rfl (w.heap.size) (cC hgt p (.slice a l.length cap)) 63 rfl (KA.out) _ Try.underlying63 rfl (by rw [hl1.out]; kernel_rfl) ?_)
  refine (HLO.out _).mono ?_
  rintro e w2 ⟨rfl, hb⟩
  replace KA := hidp (hb.blk' KA.out)
  replace hV := hidp (hV.out.trans (hb.mono hV.out.size))
  clear hb HLO
  rw [t70]
  go_wp2_with fail
  refine (cawake_any _).mono ?_
  rintro e w3 ⟨rfl, hb⟩
  replace KA := hidp (hb.blk' KA.out)
  replace hV := hidp (hV.out.trans (hb.mono hV.out.size))
  clear hb
  go_wp2
  go_ret
  exact ⟨rfl, hV.out⟩
set_option maxRecDepth 100000 in
set_option maxHeartbeats 16000000 in
theorem ctells_in (hgt : Int) (p : List Nat) (a : Option Addr) (b o cap : Nat) (l : List Vt) (at_ : Int) (a2 : Option Addr) (b2 o2 c2 : Nat) (s : List Vd) (w : World) (hp : Bytes 32 p) (hT : Ts w a b o cap l) (hz : a = none → cap = 0) (hat : -9223372036854775808 ≤ at_ ∧ at_ ≤ 9223372036854775807) (hS : Vs w a2 b2 o2 c2 s) (h70 : ¬ 70 < l.length) (h80 : ¬ 80 < s.length) : Calls Try.prog 6 #[.agg (cC hgt p (.slice a l.length cap)).toArray, .int .i64 at_, .slice a2 s.length c2] w fun e w' => e = .returned (.bool true) ∧ Below w.heap.size w w' := by
  have hl1 := hidp (cC_len (h := hgt) (sl := .slice a l.length cap) hp.1)
  have KA := hidp (Blk.new w (cC hgt p (.slice a l.length cap)) 63)
  have hV := hidp ((Below.refl w.heap.size w).alloc (Nat.le_refl _) (.cells (cC hgt p (.slice a l.length cap)).toArray 63))
  have HLO := hidp (fun W => clong_any hgt p hp.1 a l.length cap W)
  have t70 : decide ((70 : Int) < ((l.length : Nat) : Int)) = false := by first | exact decide_eq_true (by omega) | exact decide_eq_false (by omega)
  have t80 : decide ((80 : Int) < ((s.length : Nat) : Int)) = false := by first | exact decide_eq_true (by omega) | exact decide_eq_false (by omega)
  have HT := hidp (show TsM w a l.length cap l from ⟨b, o, hT, rfl⟩)
  have HS := hidp (show VsM w a2 s.length c2 s from ⟨b2, o2, hS, rfl⟩)
  have hokT := hidp hT.ok
  have hokS := hidp hS.ok
  have hpp := hidp hp
  have hlen := hidp (show l.length ≤ 70 ∧ s.length ≤ 80 from ⟨by omega, by omega⟩)
  have hl0 := hidp (cC_len (h := 0) (sl := .slice none 0 0) (p := zh32) rfl)
  have hzz : ∀ w, (zeroValue 63).run Try.prog w = .ok (.agg (cC 0 zh32 (.slice none 0 0)).toArray) w := (zero_of_info (P := Try.prog) zero_com).1
  have HCp := hidp (fun W (hW : Below w.heap.size w W) => ccopy_any hgt p hp.1 a b o cap l W (hT.below hW) (by omega))
  have HCv := hidp (fun W (hW : Below w.heap.size w W) => copyVals_any a2 b2 o2 c2 s W (hS.below hW) (by omega))
  clear hT hS hz hat hp h70 h80
  go_enter Try.func6, Try.ntmps6
  go_wp2_with first
    | (with_reducible refine (?_ : wpList _ _ _ _ _ _); refine wpList_load_blkD' 22 rfl (by kernel_rfl) 63 _ rfl (w.heap.size) (cC hgt p (.slice a l.length cap)) 63 rfl (KA.out) _ Try.underlying63 rfl (by rw [hl1.out]; kernel_rfl) ?_)
  refine (HLO.out _).mono ?_
  rintro e w2 ⟨rfl, hb⟩
  replace KA := hidp (hb.blk' KA.out)
  replace hV := hidp (hV.out.trans (hb.mono hV.out.size))
  clear hb HLO
  rw [t70]
  go_wp2_with first
    | (with_reducible refine (?_ : wpList _ _ _ _ _ _); refine wpList_load_blkD' 30 rfl (by kernel_rfl) 63 _ rfl (w.heap.size) (cC hgt p (.slice a l.length cap)) 63 rfl (KA.out) _ Try.underlying63 rfl (by rw [hl1.out]; kernel_rfl) ?_)
  refine (HCp.out _ hV.out).mono ?_
  rintro e w3 ⟨⟨sv, rfl, ho⟩, hb⟩
  obtain ⟨p7, n7, c7, hsv⟩ := ho.sl
  subst hsv
  have O7 := hidp (show TsM w3 p7 n7 c7 l from by obtain ⟨bb, _, h1, h2, _⟩ := ho.tsz hokT.out; exact ⟨bb, 0, h1, h2⟩)
  replace KA := hidp (hb.blk' KA.out)
  replace hV := hidp (hV.out.trans (hb.mono hV.out.size))
  clear ho hb HCp
  go_wp2_with fail
  refine (HCv.out _ hV.out).mono ?_
  rintro e w4 ⟨v8, rfl, ho, hb⟩
  obtain ⟨p8, b8, c8, hv8, _, hvs⟩ := ho.vs hokS.out
  subst hv8
  have O8 := hidp (show VsM w4 p8 s.length c8 s from ⟨b8, 0, hvs, rfl⟩)
  replace O7 := hidp (O7.out.below hb)
  replace KA := hidp (hb.blk' KA.out)
  replace hV := hidp (hV.out.trans (hb.mono hV.out.size))
  clear ho hb hvs HCv
  have hl7 := hidp (cC_len (h := hgt) (sl := .slice p7 n7 c7) hpp.out.1)
  have ho7 := hidp (cC_one hgt p p7 n7 c7)
  go_wp2_with first
    | (with_reducible refine (?_ : wpList _ _ _ _ _ _); refine wpList_store_blk rfl 63 _ _ rfl w4.heap.size (cC hgt p (.slice p7 n7 c7)) (cC 0 zh32 (.slice none 0 0)) 63 rfl rfl (Blk.new w4 (cC 0 zh32 (.slice none 0 0)) _) (by rw [hl7.out]; kernel_rfl) (hl0.out.trans hl7.out.symm) ho7.out ?_; intro w5 hw5; have N5 := hidp (new_row hw5.out rfl))
    | (with_reducible refine (?_ : wpList _ _ _ _ _ _); refine wpList_load_blkD' 35 rfl (by kernel_rfl) 63 _ rfl (w4.heap.size) (cC hgt p (.slice p7 n7 c7)) 63 rfl (N5.out.2) _ Try.underlying63 rfl (by rw [hl7.out]; kernel_rfl) ?_)
  have TB := hidp (show TlB w w5 (cC hgt p (.slice a l.length cap)) (cC hgt p (.slice p7 n7 c7)) w4.heap.size from ⟨N5.out.1.blk' KA.out, N5.out.2, hV.out.trans (N5.out.1.mono hV.out.size)⟩)
  replace O7 := hidp (O7.out.below N5.out.1)
  replace O8 := hidp (O8.out.below N5.out.1)
  clear N5 KA hV hw5
  obtain ⟨i7, hi7⟩ : ∃ i7, i7 = w4.heap.size := ⟨_, rfl⟩
  rw [← hi7] at TB ⊢
  clear hi7
  obtain ⟨r1, hr1⟩ : ∃ r, r = ofR l at_ := ⟨_, rfl⟩
  have HOf := hidp (fun W (h : TsM W p7 n7 c7 l) => (show _ from mOf (hgt := hgt) hpp.out.1 h (by have := hlen.out.1; omega) at_))
  have HROf := hidp (fun W (h : TsM W a l.length cap l) => (show _ from mROf (hgt := hgt) hpp.out.1 h (by have := hlen.out.1; omega) at_))
  rw [← hr1] at HOf HROf
  clear hr1
  refine (HOf.out _ O7.out).mono ?_
  rintro e w6 ⟨rfl, hb⟩
  replace TB := hidp (TB.out.below hb)
  replace O7 := hidp (O7.out.below hb)
  replace O8 := hidp (O8.out.below hb)
  clear hb
  go_wp2_with first
    | (with_reducible refine (?_ : wpList _ _ _ _ _ _); refine wpList_load_blkD' 41 rfl (by kernel_rfl) 63 _ rfl (w.heap.size) (cC hgt p (.slice a l.length cap)) 63 rfl (TB.out.k3) _ Try.underlying63 rfl (by rw [hl1.out]; kernel_rfl) ?_)
  refine (HROf.out _ (HT.out.below TB.out.bel)).mono ?_
  rintro e w7 ⟨rfl, hb⟩
  replace TB := hidp (TB.out.below hb)
  replace O7 := hidp (O7.out.below hb)
  replace O8 := hidp (O8.out.below hb)
  clear hb
  clear HOf HROf
  go_wp2_with first
    | (with_reducible refine (?_ : wpList _ _ _ _ _ _); refine wpList_load_blkD' 47 rfl (by kernel_rfl) 63 _ rfl (i7) (cC hgt p (.slice p7 n7 c7)) 63 rfl (TB.out.k7) _ Try.underlying63 rfl (by rw [hl7.out]; kernel_rfl) ?_)
  refine (mEnc hpp.out O7.out).mono ?_
  rintro e w8 ⟨⟨qb, ib, cb, rfl, hbs, hob⟩, hb⟩
  have BB := hidp hbs
  have OB := hidp hob
  have TB0 := hidp TB.out
  have O70 := hidp O7.out
  have O80 := hidp O8.out
  have hQ := hidp hb
  clear hbs hob
  replace TB := hidp (TB.out.below hb)
  replace O7 := hidp (O7.out.below hb)
  replace O8 := hidp (O8.out.below hb)
  clear hb
  go_wp2_with first
    | (with_reducible refine (?_ : wpList _ _ _ _ _ _); refine wpList_load_blkD' 52 rfl (by kernel_rfl) 63 _ rfl (w.heap.size) (cC hgt p (.slice a l.length cap)) 63 rfl (TB.out.k3) _ Try.underlying63 rfl (by rw [hl1.out]; kernel_rfl) ?_)
  refine (mREnc hpp.out (HT.out.below TB.out.bel)).mono ?_
  rintro e w9 ⟨⟨qd, id, cd, rfl, hbs⟩, hb⟩
  have BD := hidp hbs
  clear hbs
  replace TB := hidp (TB.out.below hb)
  replace O7 := hidp (O7.out.below hb)
  replace O8 := hidp (O8.out.below hb)
  replace hQ := hidp (hQ.out.trans (hb.mono hQ.out.size))
  replace BB := hidp (BB.out.below hb)
  replace OB := hidp (OB.out.below hb)
  clear hb
  go_wp2_with first
    | (with_reducible refine (?_ : wpList _ _ _ _ _ _); refine wpList_load_blkD' 57 rfl (by kernel_rfl) 63 _ rfl (i7) (cC hgt p (.slice p7 n7 c7)) 63 rfl (TB.out.k7) _ Try.underlying63 rfl (by rw [hl7.out]; kernel_rfl) ?_)
  refine (mWho hpp.out.1 O7.out O8.out).mono ?_
  rintro e w10 ⟨pk, nk, ck, rfl, hok, hks, hb⟩
  have OK := hidp (hok.base hQ.out.size)
  have KK := hidp hks
  clear hok hks
  replace TB := hidp (TB.out.below hb)
  replace O7 := hidp (O7.out.below hb)
  replace O8 := hidp (O8.out.below hb)
  replace hQ := hidp (hQ.out.trans (hb.mono hQ.out.size))
  replace BB := hidp (BB.out.below hb)
  replace OB := hidp (OB.out.below hb)
  replace BD := hidp (BD.out.below hb)
  clear hb
  go_wp2_with first
    | (with_reducible refine (?_ : wpList _ _ _ _ _ _); refine wpList_load_blkD' 63 rfl (by kernel_rfl) 63 _ rfl (w.heap.size) (cC hgt p (.slice a l.length cap)) 63 rfl (TB.out.k3) _ Try.underlying63 rfl (by rw [hl1.out]; kernel_rfl) ?_)
  refine (mRWho hpp.out.1 (HT.out.below TB.out.bel) (HS.out.below TB.out.bel)).mono ?_
  rintro e w11 ⟨pm, nm, cm, rfl, hks, hb⟩
  have KM := hidp hks
  clear hks
  replace TB := hidp (TB.out.below hb)
  replace O7 := hidp (O7.out.below hb)
  replace O8 := hidp (O8.out.below hb)
  replace hQ := hidp (hQ.out.trans (hb.mono hQ.out.size))
  replace BB := hidp (BB.out.below hb)
  replace OB := hidp (OB.out.below hb)
  replace BD := hidp (BD.out.below hb)
  replace OK := hidp (OK.out.below hb)
  replace KK := hidp (KK.out.below hb)
  clear hb
  have hEl := hidp (encR_le (h := hgt) (p := p) (l := l) hpp.out.1)
  have hWl := hidp (show (whoO hgt l s).1.length ≤ 1000 by have := (whoO_ok (hgt := hgt) (l := l) hokS.out).2; have := hlen.out.1; omega)
  generalize encR hgt p l = E at *
  generalize whoO hgt l s = U at *
  obtain ⟨r10, r11⟩ := r1
  obtain ⟨U1, U2⟩ := U
  simp only at *
  have HC7 := hidp (fun W (h : TsM W p7 n7 c7 l) => mChk (hgt := hgt) hpp.out.1 h)
  have HC3 := hidp (fun W (h : TsM W a l.length cap l) => mRChk (hgt := hgt) hpp.out.1 h)
  generalize chkC hgt l = n at *
  go_upto_region 10 with fail
  have hT := hidp (TB.out.below (Below.refl _ _).drew)
  have hU : Hid (Below w11.heap.size w11 w11.drew) := hidp (Below.refl _ _).drew
  refine wp_region_held_drew (S := fun W => TlB w W (cC hgt p (.slice a l.length cap)) (cC hgt p (.slice p7 n7 c7)) i7) (by kernel_rfl) hT.out (fun hHeld => ?_)
  try simp only [Act.put, List.setIfInBounds_toArray, List.set_cons_zero, List.set_cons_succ]
  refine wpAnyH_takeTo2 (i := 0) (oi := _) (v := ?_) (some 68) rfl rfl (by kernel_rfl) (by kernel_rfl) (by kernel_rfl) (fun _ _ _ h => h) (Or.inl ⟨by rfl, ?_⟩) hHeld ?_
  rotate_left
  · intro w hSw
    go_simp
    try with_reducible rfl
  try simp only [Act.put, List.setIfInBounds_toArray, List.set_cons_zero, List.set_cons_succ]
  refine wpAnyH_takeTo2 (i := 1) (oi := _) (v := ?_) (some 69) rfl rfl (by kernel_rfl) (by kernel_rfl) (by kernel_rfl) (fun _ _ _ h => h) (Or.inl ⟨by rfl, ?_⟩) hHeld ?_
  rotate_left
  · intro w hSw
    go_simp
    try with_reducible rfl
  try simp only [Act.put, List.setIfInBounds_toArray, List.set_cons_zero, List.set_cons_succ]
  refine wpAnyH_takeTo2 (i := 2) (oi := _) (v := ?_) (some 70) rfl rfl (by kernel_rfl) (by kernel_rfl) (by kernel_rfl) (fun _ _ _ h => h) (Or.inl ⟨by rfl, ?_⟩) hHeld ?_
  rotate_left
  · intro w hSw
    go_simp
    try with_reducible rfl
  try simp only [Act.put, List.setIfInBounds_toArray, List.set_cons_zero, List.set_cons_succ]
  refine wpAnyH_takeTo2 (i := 3) (oi := _) (v := ?_) (some 71) rfl rfl (by kernel_rfl) (by kernel_rfl) (by kernel_rfl) (fun _ _ _ h => h) (Or.inl ⟨by rfl, ?_⟩) hHeld ?_
  rotate_left
  · intro w hSw
    go_simp
    try with_reducible rfl
  try simp only [Act.put, List.setIfInBounds_toArray, List.set_cons_zero, List.set_cons_succ]
  refine wpAnyH_takeTo2 (i := 4) (oi := _) (v := ?_) (some 72) rfl rfl (by kernel_rfl) (by kernel_rfl) (by kernel_rfl) (fun _ _ _ h => h) (Or.inl ⟨by rfl, ?_⟩) hHeld ?_
  rotate_left
  · intro w hSw
    go_simp
    try with_reducible rfl
  try simp only [Act.put, List.setIfInBounds_toArray, List.set_cons_zero, List.set_cons_succ]
  refine wpAnyH_takeTo2 (i := 5) (oi := _) (v := ?_) (some 73) rfl rfl (by kernel_rfl) (by kernel_rfl) (by kernel_rfl) (fun _ _ _ h => h) (Or.inl ⟨by rfl, ?_⟩) hHeld ?_
  rotate_left
  · intro w hSw
    go_simp
    try with_reducible rfl
  try simp only [Act.put, List.setIfInBounds_toArray, List.set_cons_zero, List.set_cons_succ]
  refine wpAnyH_takeTo2 (i := 6) (oi := _) (v := ?_) (some 74) rfl rfl (by kernel_rfl) (by kernel_rfl) (by kernel_rfl) (fun _ _ _ h => h) (Or.inl ⟨by rfl, ?_⟩) hHeld ?_
  rotate_left
  · intro w hSw
    go_simp
    try with_reducible rfl
  try simp only [Act.put, List.setIfInBounds_toArray, List.set_cons_zero, List.set_cons_succ]
  refine wpAnyH_takeTo2 (i := 7) (oi := _) (v := ?_) (some 75) rfl rfl (by kernel_rfl) (by kernel_rfl) (by kernel_rfl) (fun _ _ _ h => h) (Or.inl ⟨by rfl, ?_⟩) hHeld ?_
  rotate_left
  · intro w hSw
    go_simp
    try with_reducible rfl
  try simp only [Act.put, List.setIfInBounds_toArray, List.set_cons_zero, List.set_cons_succ]
  refine wpAnyH_takeTo2 (i := 8) (oi := _) (v := ?_) (some 76) rfl rfl (by kernel_rfl) (by kernel_rfl) (by kernel_rfl) (fun _ _ _ h => h) (Or.inl ⟨by rfl, ?_⟩) hHeld ?_
  rotate_left
  · intro w hSw
    go_simp
    try with_reducible rfl
  try simp only [Act.put, List.setIfInBounds_toArray, List.set_cons_zero, List.set_cons_succ]
  refine wpAnyH_takeTo2 (i := 9) (oi := _) (v := ?_) (some 77) rfl rfl (by kernel_rfl) (by kernel_rfl) (by kernel_rfl) (fun _ _ _ h => h) (Or.inl ⟨by rfl, ?_⟩) hHeld ?_
  rotate_left
  · intro w hSw
    go_simp
    try with_reducible rfl
  try simp only [Act.put, List.setIfInBounds_toArray, List.set_cons_zero, List.set_cons_succ]
  refine wpAnyH_takeTo2 (i := 10) (oi := _) (v := ?_) (some 78) rfl rfl (by kernel_rfl) (by kernel_rfl) (by kernel_rfl) (fun _ _ _ h => h) (Or.inl ⟨by rfl, ?_⟩) hHeld ?_
  rotate_left
  · intro w hSw
    go_simp
    try with_reducible rfl
  try simp only [Act.put, List.setIfInBounds_toArray, List.set_cons_zero, List.set_cons_succ]
  refine wpAnyH_ready (rs := [11]) (by kernel_rfl) (by simp) ?_
  refine AllReadyH.cons (o := _) rfl (fun K hK => ?_) AllReadyH.nil
  go_simp
  refine (sameBytes_yes (BB.out.below hU.out) (BD.out.below hU.out)).mono ?_
  rintro e x1 ⟨rfl, hx⟩
  subst hx
  go_wp2_with fail
  refine hK.out _ _ (hT.out) (fun hHeld' => ?_)
  clear hK K hHeld
  have hHeld := hHeld'
  clear hHeld'
  try simp only [Act.put, List.setIfInBounds_toArray, List.set_cons_zero, List.set_cons_succ]
  refine wpAnyH_takeTo2 (i := 12) (oi := _) (v := ?_) (some 80) rfl rfl (by kernel_rfl) (by kernel_rfl) (by kernel_rfl) (fun _ _ _ h => h) (Or.inl ⟨by rfl, ?_⟩) hHeld ?_
  rotate_left
  · intro w hSw
    go_simp
    try with_reducible rfl
  try simp only [Act.put, List.setIfInBounds_toArray, List.set_cons_zero, List.set_cons_succ]
  refine wpAnyH_takeTo2 (i := 13) (oi := _) (v := ?_) (some 81) rfl rfl (by kernel_rfl) (by kernel_rfl) (by kernel_rfl) (fun _ _ _ h => h) (Or.inl ⟨by rfl, ?_⟩) hHeld ?_
  rotate_left
  · intro w hSw
    go_simp
    try with_reducible rfl
  try simp only [Act.put, List.setIfInBounds_toArray, List.set_cons_zero, List.set_cons_succ]
  refine wpAnyH_takeTo2 (i := 14) (oi := _) (v := ?_) (some 82) rfl rfl (by kernel_rfl) (by kernel_rfl) (by kernel_rfl) (fun _ _ _ h => h) (Or.inl ⟨by rfl, ?_⟩) hHeld ?_
  rotate_left
  · intro w hSw
    go_simp
    try with_reducible rfl
  try simp only [Act.put, List.setIfInBounds_toArray, List.set_cons_zero, List.set_cons_succ]
  refine wpAnyH_takeTo2 (i := 15) (oi := _) (v := ?_) (some 83) rfl rfl (by kernel_rfl) (by kernel_rfl) (by kernel_rfl) (fun _ _ _ h => h) (Or.inl ⟨by rfl, ?_⟩) hHeld ?_
  rotate_left
  · intro w hSw
    go_simp
    try with_reducible rfl
  try simp only [Act.put, List.setIfInBounds_toArray, List.set_cons_zero, List.set_cons_succ]
  refine wpAnyH_takeTo2 (i := 16) (oi := _) (v := ?_) (some 84) rfl rfl (by kernel_rfl) (by kernel_rfl) (by kernel_rfl) (fun _ _ _ h => h) (Or.inl ⟨by rfl, ?_⟩) hHeld ?_
  rotate_left
  · intro w hSw
    go_simp
    try with_reducible rfl
  try simp only [Act.put, List.setIfInBounds_toArray, List.set_cons_zero, List.set_cons_succ]
  refine wpAnyH_takeTo2 (i := 17) (oi := _) (v := ?_) (some 85) rfl rfl (by kernel_rfl) (by kernel_rfl) (by kernel_rfl) (fun _ _ _ h => h) (Or.inl ⟨by rfl, ?_⟩) hHeld ?_
  rotate_left
  · intro w hSw
    go_simp
    try with_reducible rfl
  try simp only [Act.put, List.setIfInBounds_toArray, List.set_cons_zero, List.set_cons_succ]
  refine wpAnyH_takeTo2 (i := 18) (oi := _) (v := ?_) (some 86) rfl rfl (by kernel_rfl) (by kernel_rfl) (by kernel_rfl) (fun _ _ _ h => h) (Or.inl ⟨by rfl, ?_⟩) hHeld ?_
  rotate_left
  · intro w hSw
    go_simp
    try with_reducible rfl
  try simp only [Act.put, List.setIfInBounds_toArray, List.set_cons_zero, List.set_cons_succ]
  refine wpAnyH_takeTo2 (i := 19) (oi := _) (v := ?_) (some 87) rfl rfl (by kernel_rfl) (by kernel_rfl) (by kernel_rfl) (fun _ _ _ h => h) (Or.inl ⟨by rfl, ?_⟩) hHeld ?_
  rotate_left
  · intro w hSw
    go_simp
    try with_reducible rfl
  try simp only [Act.put, List.setIfInBounds_toArray, List.set_cons_zero, List.set_cons_succ]
  refine wpAnyH_takeTo2 (i := 20) (oi := _) (v := ?_) (some 88) rfl rfl (by kernel_rfl) (by kernel_rfl) (by kernel_rfl) (fun _ _ _ h => h) (Or.inl ⟨by rfl, ?_⟩) hHeld ?_
  rotate_left
  · intro w hSw
    go_simp
    try with_reducible rfl
  try simp only [Act.put, List.setIfInBounds_toArray, List.set_cons_zero, List.set_cons_succ]
  refine wpAnyH_ready (rs := [21]) (by kernel_rfl) (by simp) ?_
  refine AllReadyH.cons (o := _) rfl (fun K hK => ?_) AllReadyH.nil
  go_simp
  refine (mSameK (KK.out.below hU.out) (KM.out.below hU.out) hWl.out).mono ?_
  rintro e x2 ⟨rfl, hb⟩
  replace hT := hidp (hT.out.below hb)
  replace hU := hidp (hU.out.trans ((hb).mono hU.out.size))
  clear hb
  go_wp2_with fail
  refine hK.out _ _ (hT.out) (fun hHeld' => ?_)
  clear hK K hHeld
  have hHeld := hHeld'
  clear hHeld'
  try simp only [Act.put, List.setIfInBounds_toArray, List.set_cons_zero, List.set_cons_succ]
  refine wpAnyH_takeTo2 (i := 22) (oi := _) (v := ?_) (some 90) rfl rfl (by kernel_rfl) (by kernel_rfl) (by kernel_rfl) (fun _ _ _ h => h) (Or.inl ⟨by rfl, ?_⟩) hHeld ?_
  rotate_left
  · intro w hSw
    go_simp
    try with_reducible rfl
  try simp only [Act.put, List.setIfInBounds_toArray, List.set_cons_zero, List.set_cons_succ]
  refine wpAnyH_takeTo2 (i := 23) (oi := _) (v := ?_) (some 91) rfl rfl (by kernel_rfl) (by kernel_rfl) (by kernel_rfl) (fun _ _ _ h => h) (Or.inl ⟨by rfl, ?_⟩) hHeld ?_
  rotate_left
  · intro w hSw
    go_simp
    try with_reducible rfl
  try simp only [Act.put, List.setIfInBounds_toArray, List.set_cons_zero, List.set_cons_succ]
  refine wpAnyH_takeTo2 (i := 24) (oi := _) (v := ?_) (some 92) rfl rfl (by kernel_rfl) (by kernel_rfl) (by kernel_rfl) (fun _ _ _ h => h) (Or.inl ⟨by rfl, ?_⟩) hHeld ?_
  rotate_left
  · intro w hSw
    go_simp
    try with_reducible rfl
  try simp only [Act.put, List.setIfInBounds_toArray, List.set_cons_zero, List.set_cons_succ]
  refine wpAnyH_takeTo2 (i := 25) (oi := _) (v := ?_) (some 93) rfl rfl (by kernel_rfl) (by kernel_rfl) (by kernel_rfl) (fun _ _ _ h => h) (Or.inl ⟨by rfl, ?_⟩) hHeld ?_
  rotate_left
  · intro w hSw
    go_simp
    try with_reducible rfl
  try simp only [Act.put, List.setIfInBounds_toArray, List.set_cons_zero, List.set_cons_succ]
  refine wpAnyH_takeTo2 (i := 26) (oi := _) (v := ?_) (some 94) rfl rfl (by kernel_rfl) (by kernel_rfl) (by kernel_rfl) (fun _ _ _ h => h) (Or.inl ⟨by rfl, ?_⟩) hHeld ?_
  rotate_left
  · intro w hSw
    go_simp
    try with_reducible rfl
  try simp only [Act.put, List.setIfInBounds_toArray, List.set_cons_zero, List.set_cons_succ]
  refine wpAnyH_takeTo2 (i := 27) (oi := _) (v := ?_) (some 95) rfl rfl (by kernel_rfl) (by kernel_rfl) (by kernel_rfl) (fun _ _ _ h => h) (Or.inl ⟨by rfl, ?_⟩) hHeld ?_
  rotate_left
  · intro w hSw
    go_simp
    try with_reducible rfl
  try simp only [Act.put, List.setIfInBounds_toArray, List.set_cons_zero, List.set_cons_succ]
  refine wpAnyH_takeTo2 (i := 28) (oi := _) (v := ?_) (some 96) rfl rfl (by kernel_rfl) (by kernel_rfl) (by kernel_rfl) (fun _ _ _ h => h) (Or.inl ⟨by rfl, ?_⟩) hHeld ?_
  rotate_left
  · intro w hSw
    go_simp
    try with_reducible rfl
  try simp only [Act.put, List.setIfInBounds_toArray, List.set_cons_zero, List.set_cons_succ]
  refine wpAnyH_takeTo2 (i := 29) (oi := _) (v := .agg (cC hgt p (.slice p7 n7 c7)).toArray) (some 97) rfl rfl (by kernel_rfl) (by kernel_rfl) (by kernel_rfl) (fun _ _ _ h => h) (yieldsIf_load_mid (by rfl) 63 _ rfl (i7) 0 rfl (cC hgt p (.slice p7 n7 c7)) _ (fun w' hw' j v hj => by rw [Nat.zero_add]; exact ((hw'.k7).cell j).trans hj) Try.underlying63 rfl (by rw [hl7.out]; kernel_rfl)) hHeld ?_
  try simp only [Act.put, List.setIfInBounds_toArray, List.set_cons_zero, List.set_cons_succ]
  refine wpAnyH_takeTo2 (i := 31) (oi := _) (v := .agg (cC hgt p (.slice a l.length cap)).toArray) (some 99) rfl rfl (by kernel_rfl) (by kernel_rfl) (by kernel_rfl) (fun _ _ _ h => h) (yieldsIf_load_mid (by rfl) 63 _ rfl (w.heap.size) 0 rfl (cC hgt p (.slice a l.length cap)) _ (fun w' hw' j v hj => by rw [Nat.zero_add]; exact ((hw'.k3).cell j).trans hj) Try.underlying63 rfl (by rw [hl1.out]; kernel_rfl)) hHeld ?_
  try simp only [Act.put, List.setIfInBounds_toArray, List.set_cons_zero, List.set_cons_succ]
  refine wpAnyH_ready (rs := [30]) (by kernel_rfl) (by simp) ?_
  refine AllReadyH.cons (o := _) rfl (fun K hK => ?_) AllReadyH.nil
  go_simp
  refine (HC7.out _ (O7.out.below hU.out)).mono ?_
  rintro e x3 ⟨rfl, hb⟩
  replace hT := hidp (hT.out.below hb)
  replace hU := hidp (hU.out.trans ((hb).mono hU.out.size))
  clear hb
  go_wp2_with fail
  refine hK.out _ _ (hT.out) (fun hHeld' => ?_)
  clear hK K hHeld
  have hHeld := hHeld'
  clear hHeld'
  try simp only [Act.put, List.setIfInBounds_toArray, List.set_cons_zero, List.set_cons_succ]
  refine wpAnyH_ready (rs := [32]) (by kernel_rfl) (by simp) ?_
  refine AllReadyH.cons (o := _) rfl (fun K hK => ?_) AllReadyH.nil
  go_simp
  refine (HC3.out _ (HT.out.below hT.out.bel)).mono ?_
  rintro e x4 ⟨rfl, hb⟩
  replace hT := hidp (hT.out.below hb)
  replace hU := hidp (hU.out.trans ((hb).mono hU.out.size))
  clear hb
  go_wp2_with fail
  refine hK.out _ _ (hT.out) (fun hHeld' => ?_)
  clear hK K hHeld
  have hHeld := hHeld'
  clear hHeld'
  try simp only [Act.put, List.setIfInBounds_toArray, List.set_cons_zero, List.set_cons_succ]
  refine wpAnyH_takeTo2 (i := 33) (oi := _) (v := ?_) (some 101) rfl rfl (by kernel_rfl) (by kernel_rfl) (by kernel_rfl) (fun _ _ _ h => h) (Or.inl ⟨by rfl, ?_⟩) hHeld ?_
  rotate_left
  · intro w hSw
    go_simp
    try with_reducible rfl
  try simp only [Act.put, List.setIfInBounds_toArray, List.set_cons_zero, List.set_cons_succ]
  refine wpAnyH_takeTo2 (i := 34) (oi := _) (v := ?_) (some 102) rfl rfl (by kernel_rfl) (by kernel_rfl) (by kernel_rfl) (fun _ _ _ h => h) (Or.inl ⟨by rfl, ?_⟩) hHeld ?_
  rotate_left
  · intro w hSw
    go_simp
    try with_reducible rfl
  try simp only [Act.put, List.setIfInBounds_toArray, List.set_cons_zero, List.set_cons_succ]
  refine wpAnyH_takeTo2 (i := 35) (oi := _) (v := ?_) (some 21) rfl rfl (by kernel_rfl) (by kernel_rfl) (by kernel_rfl) (fun _ _ _ h => h) (Or.inl ⟨by rfl, ?_⟩) hHeld ?_
  rotate_left
  · intro w hSw
    go_simp
    try with_reducible rfl
  try simp only [Act.put, List.setIfInBounds_toArray, List.set_cons_zero, List.set_cons_succ]
  refine wpAnyH_done (by kernel_rfl) ?_ _
  clear hHeld HC7 HC3 KM BD
  replace TB := hidp hT.out
  replace hQ := hidp (hQ.out.trans (hU.out.mono hQ.out.size))
  replace OB := hidp (OB.out.below hU.out)
  replace OK := hidp (OK.out.below hU.out)
  clear hT hU BB KK O7 O8 TB
  go_wp2_with fail
  refine (over_but _ E qb cb _ OB.out (by have := hEl.out; omega)).mono ?_
  rintro e x5 ⟨rfl, hov⟩
  have hX := hidp (show Below w7.heap.size w7 x5 ∧ OwnK x5 w7.heap.size (.slice pk nk ck) U1 from by
    rcases hov with ⟨g, rest, _, hB, hk, hbt⟩ | rfl
    · exact ⟨hQ.out.trans (hbt.below hB), OK.out.but hbt (OK.out.ne hk)⟩
    · exact ⟨hQ.out, OK.out⟩)
  clear hov OB OK hQ
  go_wp2_with fail
  refine (overK_any _ w7.heap.size U1 _ hX.out.2 hX.out.1.size hWl.out).mono ?_
  rintro e x6 ⟨rfl, hb⟩
  have hQ := hidp (hX.out.1.trans hb)
  have TB := hidp (TB0.out.below hQ.out)
  have O7 := hidp (O70.out.below hQ.out)
  have O8 := hidp (O80.out.below hQ.out)
  clear hb hX TB0 O70 O80
  go_wp2_with first
    | (with_reducible refine (?_ : wpList _ _ _ _ _ _); refine wpList_load_blkD' 109 rfl (by kernel_rfl) 63 _ rfl (i7) (cC hgt p (.slice p7 n7 c7)) 63 rfl (TB.out.k7) _ Try.underlying63 rfl (by rw [hl7.out]; kernel_rfl) ?_)
    | (with_reducible refine (?_ : wpList _ _ _ _ _ _); refine wpList_load_blkD' 110 rfl (by kernel_rfl) 63 _ rfl (w.heap.size) (cC hgt p (.slice a l.length cap)) 63 rfl (TB.out.k3) _ Try.underlying63 rfl (by rw [hl1.out]; kernel_rfl) ?_)
  refine (mSameC hpp.out.1 O7.out (HT.out.below TB.out.bel) (by have := hlen.out.1; omega)).mono ?_
  rintro e x7 ⟨rfl, hb⟩
  replace TB := hidp (TB.out.below hb)
  replace O8 := hidp (O8.out.below hb)
  clear hb O7
  go_wp2_with fail
  refine (mSameV O8.out (HS.out.below TB.out.bel) (by have := hlen.out.2; omega)).mono ?_
  rintro e x8 ⟨rfl, hb⟩
  replace TB := hidp (TB.out.below hb)
  clear hb O8
  go_wp2_with fail
  refine (cawake_any _).mono ?_
  rintro e x9 ⟨rfl, hb⟩
  replace TB := hidp (TB.out.below hb)
  clear hb
  go_wp2
  go_ret
  exact ⟨rfl, TB.out.bel⟩
theorem ctells_any (hgt : Int) (p : List Nat) (a : Option Addr) (b o cap : Nat) (l : List Vt) (at_ : Int) (a2 : Option Addr) (b2 o2 c2 : Nat) (s : List Vd) (w : World) (hp : Bytes 32 p) (hT : Ts w a b o cap l) (hz : a = none → cap = 0) (hat : -9223372036854775808 ≤ at_ ∧ at_ ≤ 9223372036854775807) (hS : Vs w a2 b2 o2 c2 s) : Calls Try.prog 6 #[.agg (cC hgt p (.slice a l.length cap)).toArray, .int .i64 at_, .slice a2 s.length c2] w fun e w' => e = .returned (.bool true) ∧ Below w.heap.size w w' := by
  by_cases h70 : 70 < l.length
  · exact ctells_l1 hgt p a b o cap l at_ a2 b2 o2 c2 s w hp hT hz hat hS h70
  by_cases h80 : 80 < s.length
  · exact ctells_l2 hgt p a b o cap l at_ a2 b2 o2 c2 s w hp hT hz hat hS h70 h80
  · exact ctells_in hgt p a b o cap l at_ a2 b2 o2 c2 s w hp hT hz hat hS h70 h80
end Go.Proofs.Ytbhkjflpkpkdlaa
