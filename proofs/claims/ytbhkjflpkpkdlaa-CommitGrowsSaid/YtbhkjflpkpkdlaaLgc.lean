/-
  Commit: the walk of CommitGrows.
-/
import Derived.Test.YtbhkjflpkpkdlaaLgb
import Derived.Deep.CutRange
import Derived.LoopN
namespace Go.Proofs.Ytbhkjflpkpkdlaa
open Go.RowKit Go.Lib
set_option linter.unusedSimpArgs false
set_option linter.unusedVariables false

/-- What Grows has ahead of its three boxes. -/
structure GrP (w W : World) (X N : List Value) (q : Nat) : Prop where
  k3 : Blk W w.heap.size X 63
  k9 : Blk W q N 63
  bel : Below w.heap.size w W
  lt : w.heap.size < q
theorem GrP.below {w W W' : World} {X N : List Value} {q : Nat} (H : GrP w W X N q) (hb : Below W.heap.size W W') : GrP w W' X N q := ⟨hb.blk' H.k3, hb.blk' H.k9, H.bel.trans (hb.mono H.bel.size), H.lt⟩
def gF : Nat → List Value := fun _ => cC 0 zh32 (.slice none 0 0)
def gS (f : Nat → List Value) (j : Nat) (N : List Value) : Nat → List Value := fun k => if k = j then N else f k
/-- Three boxes, in blocks s, s + 1, s + 2. -/
structure Bx3 (w W : World) (X N : List Value) (q s : Nat) (f : Nat → List Value) (sv : Value) (l : List Vt) : Prop where
  gp : GrP w W X N q
  blk : ∀ j, j < 3 → Blk W (s + j) (f j) 63
  len : ∀ j, j < 3 → (f j).length = 34
  qs : q < s
  sz : s + 3 ≤ W.heap.size
  own : OwnT W 0 sv l
  hne : ∀ k, sv.ownBlock = some k → k < s
theorem Bx3.start {w W : World} {X N : List Value} {q s : Nat} {sv : Value} {l : List Vt} (H : GrP w W X N q) (ho : OwnT W 0 sv l) (hn : ∀ k, sv.ownBlock = some k → k < W.heap.size) (hs : s = W.heap.size) :
    Bx3 w (((W.drew.alloc (.cells (cC 0 zh32 (.slice none 0 0)).toArray 63)).alloc (.cells (cC 0 zh32 (.slice none 0 0)).toArray 63)).alloc (.cells (cC 0 zh32 (.slice none 0 0)).toArray 63)) X N q s gF sv l := by
  subst hs
  have hB : Below W.heap.size W (((W.drew.alloc (.cells (cC 0 zh32 (.slice none 0 0)).toArray 63)).alloc (.cells (cC 0 zh32 (.slice none 0 0)).toArray 63)).alloc (.cells (cC 0 zh32 (.slice none 0 0)).toArray 63)) :=
    (((Below.refl _ W).drew.alloc (Nat.le_refl _) _).alloc (by simp) _).alloc (by simp; omega) _
  refine ⟨H.below hB, fun j hj => ?_, fun j _ => cC_len rfl, H.k9.lt, by simp, ho.below hB, hn⟩
  rcases (show j = 0 ∨ j = 1 ∨ j = 2 by omega) with rfl | rfl | rfl
  · exact ((Blk.new' _ _ _ _ rfl).alloc _).alloc _
  · exact (Blk.new' _ _ _ _ (by simp)).alloc _
  · exact Blk.new' _ _ _ _ (by simp)
theorem Bx3.set {w W : World} {X N : List Value} {q s : Nat} {f : Nat → List Value} {sv : Value} {l : List Vt} (H : Bx3 w W X N q s f sv l) {j : Nat} (hj : j < 3) (hN : N.length = 34) : Bx3 w (W.setRow (s + j) N.toArray) X N q s (gS f j N) sv l := by
  have hb := (But.refl (s + j) W).setRow N.toArray
  have h1 := H.gp.lt
  have h2 := H.qs
  refine ⟨⟨hb.blk H.gp.k3 (by omega), hb.blk H.gp.k9 (by omega), H.gp.bel.trans (hb.below (by omega)), h1⟩, fun k hk => ?_, fun k hk => ?_, h2, by rw [hb.size]; exact H.sz, H.own.bexJ (Bex.of_but hb) (fun k hk => by have := H.hne k hk; omega), H.hne⟩
  · unfold gS
    by_cases e : k = j
    · subst e
      rw [if_pos rfl]
      exact (H.blk k hk).row
    · rw [if_neg e]
      exact hb.blk (H.blk k hk) (by omega)
  · unfold gS
    by_cases e : k = j
    · rw [if_pos e]; exact hN
    · rw [if_neg e]; exact H.len k hk
theorem Bx3.done {w W : World} {X : List Value} {q s : Nat} {f : Nat → List Value} {sv : Value} {l : List Vt} {hgt : Int} {p : List Nat} (H : Bx3 w W X (cC hgt p (.slice none 0 0)) q s f sv l) (i j k : Nat) (hi : i < 3) (hj : j < 3) (hk : k < 3) (hne : i ≠ j ∧ i ≠ k ∧ j ≠ k)
    (fi : f i = cC hgt p (.slice none 0 0)) (fj : f j = cC hgt p (.slice none 0 0)) (fk : f k = cC hgt p (.slice none 0 0)) : GrB w W X s (s + i) (s + j) (s + k) hgt p (.slice none 0 0) (.slice none 0 0) (.slice none 0 0) [] [] [] ∧ Lef W s sv l :=
  ⟨⟨H.gp.k3, H.gp.bel, by have := H.gp.lt; have := H.qs; omega, by omega, by omega, by omega, by omega, H.sz, fi ▸ H.blk i hi, fj ▸ H.blk j hj, fk ▸ H.blk k hk, OwnT.nil _ _, OwnT.nil _ _, OwnT.nil _ _⟩, ⟨H.own, fun k hk => .inl (H.hne k hk)⟩⟩
/-- A slice of votes, somewhere. -/
def TsN (W : World) (pa : Option Addr) (na ca : Nat) (l : List Vt) : Prop := ∃ b o, Ts W pa b o ca l ∧ na = l.length
theorem TsN.below {W W' : World} {pa : Option Addr} {na ca : Nat} {l : List Vt} (h : TsN W pa na ca l) (hb : Below W.heap.size W W') : TsN W' pa na ca l := by
  obtain ⟨b, o, h1, h2⟩ := h
  exact ⟨b, o, h1.below hb, h2⟩
theorem OwnT.tsn {W : World} {base : Nat} {pa : Option Addr} {na ca : Nat} {l : List Vt} (h : OwnT W base (.slice pa na ca) l) (hok : ∀ u ∈ l, VtOk u) : TsN W pa na ca l := by
  obtain ⟨b, _, h1, h2, _⟩ := h.tsz hok
  exact ⟨b, 0, h1, h2⟩
theorem gadd_any {hgt : Int} {p : List Nat} (hp : p.length = 32) {W : World} {base : Nat} {pa : Option Addr} {na ca : Nat} {l : List Vt} {v : Vt} (ho : OwnT W base (.slice pa na ca) l) (hok : ∀ u ∈ l, VtOk u) (hc : chkC hgt l = 0) (hv : 0 ≤ v.a ∧ v.a ≤ 63) (hf : ∀ u ∈ l, u.a ≠ v.a) :
    Calls Try.prog 49 #[.agg (cC hgt p (.slice pa na ca)).toArray, .agg #[.int .i64 v.a, .int .u64 (v.s : Nat)]] W fun e w' => ∃ pb nb cb, e = .returned (.tuple #[.agg (cC hgt p (.slice pb nb cb)).toArray, .int .i64 0]) ∧ OwnT w' W.heap.size (.slice pb nb cb) (insV l v) ∧ Below W.heap.size W w' := by
  obtain ⟨b, _, ht, hn, hz⟩ := ho.tsz hok
  subst hn
  refine (cadd_any hgt p hp pa b 0 ca l v W ht hz).mono ?_
  rw [addO_in hc hv hf]
  rintro e w' ⟨sv, rfl, h1, h2⟩
  obtain ⟨pb, nb, cb, rfl⟩ := h1.sl
  exact ⟨pb, nb, cb, rfl, h1, h2⟩
theorem gof_any {hgt : Int} {p : List Nat} (hp : p.length = 32) {W : World} {base : Nat} {pa : Option Addr} {na ca : Nat} {l : List Vt} {v : Vt} (ho : OwnT W base (.slice pa na ca) (insV l v)) (hok : ∀ u ∈ insV l v, VtOk u) (hs : SortedT l) (hf : ∀ u ∈ l, u.a ≠ v.a) (hl : l.length ≤ 1000) :
    Calls Try.prog 36 #[.agg (cC hgt p (.slice pa na ca)).toArray, .int .i64 v.a] W fun e w' => e = .returned (.tuple #[.int .u64 (v.s : Nat), .bool true]) ∧ Below W.heap.size W w' := by
  obtain ⟨b, _, ht, hn, hz⟩ := ho.tsz hok
  subst hn
  have q := cof_any hgt p hp pa b 0 ca (insV l v) v.a W ht (by rw [insV_len]; omega)
  rw [ofR_in hs hf] at q
  exact q
theorem gsame_any {hgt : Int} {p : List Nat} (hp : p.length = 32) {W : World} {pa pb : Option Addr} {na ca nb cb : Nat} {l : List Vt} (h1 : TsN W pa na ca l) (h2 : TsN W pb nb cb l) (hl : l.length ≤ 1000) :
    Calls Try.prog 46 #[.agg (cC hgt p (.slice pa na ca)).toArray, .agg (cC hgt p (.slice pb nb cb)).toArray] W fun e w' => e = .returned (.bool true) ∧ Below W.heap.size W w' := by
  obtain ⟨b1, o1, t1, rfl⟩ := h1
  obtain ⟨b2, o2, t2, rfl⟩ := h2
  have q := sameCommit_any hgt p hp pa b1 o1 ca l hgt p hp pb b2 o2 cb l W t1 t2 (by omega)
  rw [sameC_self] at q
  exact q
theorem gjoins_any {hgt : Int} {p : List Nat} (hp : p.length = 32) {W : World} {pa pb pc : Option Addr} {na ca nb cb nc cc : Nat} {l1 l3 l2 : List Vt} (h1 : TsN W pa na ca l1) (h3 : TsN W pb nb cb l3) (h2 : TsN W pc nc cc l2) (hr : sameR (joinO hgt p l1 hgt p l3) hgt p l2 0 = true) :
    Calls Try.prog 50 #[.agg (cC hgt p (.slice pa na ca)).toArray, .agg (cC hgt p (.slice pb nb cb)).toArray, .agg (cC hgt p (.slice pc nc cc)).toArray, .int .i64 0] W fun e w' => e = .returned (.bool true) ∧ Below W.heap.size W w' := by
  obtain ⟨b1, o1, t1, rfl⟩ := h1
  obtain ⟨b3, o3, t3, rfl⟩ := h3
  obtain ⟨b2, o2, t2, rfl⟩ := h2
  have q := joins_any hgt p hp pa b1 o1 ca l1 hgt p hp pb b3 o3 cb l3 hgt p hp pc b2 o2 cc l2 0 W t1 t3 t2
  rw [hr] at q
  exact q
/-- Grows between two rounds. -/
structure GrL (w W : World) (X : List Value) (s i10 i11 i12 : Nat) (hgt : Int) (p : List Nat) (s10 s11 s12 : Value) (L left all a b : List Vt) (sv : Value) (i : Nat) : Prop where
  g : GrB w W X s i10 i11 i12 hgt p s10 s11 s12 all a b
  f : Lef W s sv left
  w : Gw L left all a b
  i : i + left.length = L.length
theorem GrL.below {w W W' : World} {X : List Value} {s i10 i11 i12 : Nat} {hgt : Int} {p : List Nat} {s10 s11 s12 : Value} {L left all a b : List Vt} {sv : Value} {i : Nat} (H : GrL w W X s i10 i11 i12 hgt p s10 s11 s12 L left all a b sv i) (hb : Below W.heap.size W W') : GrL w W' X s i10 i11 i12 hgt p s10 s11 s12 L left all a b sv i := ⟨H.g.below hb, H.f.below hb, H.w, H.i⟩
theorem part_src {W : World} {bl cl : Nat} {l : List Vt} (ht : Ts W (some ⟨bl, 0, none⟩) bl 0 cl l) {k : Nat} (hk : k ≤ l.length) : ∃ ad, partT (some ⟨bl, 0, none⟩) cl k = some ad ∧ ∀ W', Below W.heap.size W W' → ∀ j u, ((l.drop k).flatMap tL)[j]? = some u → W'.cell? (ad.add j) = some u := by
  unfold partT
  by_cases hc : cl = k
  · rw [if_pos hc]
    refine ⟨_, rfl, fun W' _ j u hj => ?_⟩
    have := ht.le
    rw [List.drop_of_length_le (by omega)] at hj
    simp at hj
  · rw [if_neg hc]
    refine ⟨_, rfl, fun W' hW j u hj => ?_⟩
    obtain ⟨v, h1, h2⟩ := flatT_get hj
    rw [List.getElem?_drop] at h1
    have q := (ht.below hW).cell _ _ h1 _ _ h2
    show W'.cell? (((⟨bl, 0, none⟩ : Addr).add (k * 2)).add j) = some u
    rw [Addr.add_mid, Addr.add_mid, show 0 + k * 2 + j = 0 + (k + j / 2) * 2 + j % 2 by omega]
    exact q
theorem head_src {W : World} {bl cl : Nat} {l : List Vt} (ht : Ts W (some ⟨bl, 0, none⟩) bl 0 cl l) {k : Nat} (hk : k ≤ l.length) : ∀ W', Below W.heap.size W W' → ∀ j u, ((l.take k).flatMap tL)[j]? = some u → W'.cell? ((⟨bl, 0, none⟩ : Addr).add j) = some u := by
  intro W' hW j u hj
  obtain ⟨v, h1, h2⟩ := flatT_get hj
  have hlt := (List.getElem?_eq_some_iff.1 h1).1
  rw [List.getElem?_take, if_pos (by simp at hlt; omega)] at h1
  have q := (ht.below hW).cell _ _ h1 _ _ h2
  rw [Addr.add_mid, show 0 + j = 0 + j / 2 * 2 + j % 2 by omega]
  exact q
theorem piece_atG {w : World} {a : Option Addr} {len cap : Nat} {zs : List Int} (h : IsRow .i64 w a len cap zs) {m : Nat} (hm : m < len) : ∃ x, a = some x ∧ w.cell? (x.add m) = some (.int .i64 (zs.getD m 0)) := by
  rcases h with ⟨_, h0, _⟩ | ⟨x, rfl, h1, _, h2, h3, _⟩
  · omega
  · exact ⟨x, rfl, h3 m (by omega)⟩
set_option maxRecDepth 100000 in
set_option maxHeartbeats 16000000 in
theorem cgrows_l1 (hgt : Int) (p : List Nat) (a : Option Addr) (b o cap : Nat) (l : List Vt) (a1 : Option Addr) (n1 c1 : Nat) (zs : List Int) (a2 : Option Addr) (b2 o2 c2 : Nat) (bs : List Bool) (w : World) (hp : Bytes 32 p) (hT : Ts w a b o cap l) (hz : a = none → cap = 0) (hr1 : IsRow .i64 w a1 n1 c1 zs) (hr2 : Bo w a2 b2 o2 c2 bs) (h70 : 70 < l.length) : Calls Try.prog 7 #[.agg (cC hgt p (.slice a l.length cap)).toArray, .slice a1 n1 c1, .slice a2 bs.length c2] w fun e w' => e = .returned (.bool true) ∧ Below w.heap.size w w' := by
  have hl1 := hidp (cC_len (h := hgt) (sl := .slice a l.length cap) hp.1)
  have KA := hidp (Blk.new w (cC hgt p (.slice a l.length cap)) 63)
  have hV := hidp ((Below.refl w.heap.size w).alloc (Nat.le_refl _) (.cells (cC hgt p (.slice a l.length cap)).toArray 63))
  have HLO := hidp (fun W => clong_any hgt p hp.1 a l.length cap W)
  have t70 : decide ((70 : Int) < ((l.length : Nat) : Int)) = true := by first | exact decide_eq_true (by omega) | exact decide_eq_false (by omega)
  clear hr1 hr2 hT hz h70
  go_enter Try.func7, Try.ntmps7
  go_wp2_with fail
  refine (lawKnown_w _).mono ?_
  rintro e w1 ⟨rfl, hb⟩
  replace KA := hidp (hb.blk' KA.out)
  replace hV := hidp (hV.out.trans (hb.mono hV.out.size))
  clear hb
  go_wp2_with first
    | (with_reducible refine (?_ : wpList _ _ _ _ _ _); refine wpList_load_blkD' 21 rfl (by kernel_rfl) 63 _ rfl (w.heap.size) (cC hgt p (.slice a l.length cap)) 63 rfl (KA.out) _ Try.underlying63 rfl (by rw [hl1.out]; kernel_rfl) ?_)
  refine (HLO.out _).mono ?_
  rintro e w2 ⟨rfl, hb⟩
  replace KA := hidp (hb.blk' KA.out)
  replace hV := hidp (hV.out.trans (hb.mono hV.out.size))
  clear hb HLO
  rw [t70]
  go_wp2
  go_ret
  exact ⟨rfl, hV.out⟩
set_option maxRecDepth 100000 in
set_option maxHeartbeats 16000000 in
theorem cgrows_l2 (hgt : Int) (p : List Nat) (a : Option Addr) (b o cap : Nat) (l : List Vt) (a1 : Option Addr) (n1 c1 : Nat) (zs : List Int) (a2 : Option Addr) (b2 o2 c2 : Nat) (bs : List Bool) (w : World) (hp : Bytes 32 p) (hT : Ts w a b o cap l) (hz : a = none → cap = 0) (hr1 : IsRow .i64 w a1 n1 c1 zs) (hr2 : Bo w a2 b2 o2 c2 bs) (h70 : ¬ 70 < l.length) (h100 : 100 < n1) : Calls Try.prog 7 #[.agg (cC hgt p (.slice a l.length cap)).toArray, .slice a1 n1 c1, .slice a2 bs.length c2] w fun e w' => e = .returned (.bool true) ∧ Below w.heap.size w w' := by
  have hl1 := hidp (cC_len (h := hgt) (sl := .slice a l.length cap) hp.1)
  have KA := hidp (Blk.new w (cC hgt p (.slice a l.length cap)) 63)
  have hV := hidp ((Below.refl w.heap.size w).alloc (Nat.le_refl _) (.cells (cC hgt p (.slice a l.length cap)).toArray 63))
  have HLO := hidp (fun W => clong_any hgt p hp.1 a l.length cap W)
  have t70 : decide ((70 : Int) < ((l.length : Nat) : Int)) = false := by first | exact decide_eq_true (by omega) | exact decide_eq_false (by omega)
  have t100 : decide ((100 : Int) < ((n1 : Nat) : Int)) = true := by first | exact decide_eq_true (by omega) | exact decide_eq_false (by omega)
  clear hr1 hr2 hT hz h70 h100
  go_enter Try.func7, Try.ntmps7
  go_wp2_with fail
  refine (lawKnown_w _).mono ?_
  rintro e w1 ⟨rfl, hb⟩
  replace KA := hidp (hb.blk' KA.out)
  replace hV := hidp (hV.out.trans (hb.mono hV.out.size))
  clear hb
  go_wp2_with first
    | (with_reducible refine (?_ : wpList _ _ _ _ _ _); refine wpList_load_blkD' 21 rfl (by kernel_rfl) 63 _ rfl (w.heap.size) (cC hgt p (.slice a l.length cap)) 63 rfl (KA.out) _ Try.underlying63 rfl (by rw [hl1.out]; kernel_rfl) ?_)
  refine (HLO.out _).mono ?_
  rintro e w2 ⟨rfl, hb⟩
  replace KA := hidp (hb.blk' KA.out)
  replace hV := hidp (hV.out.trans (hb.mono hV.out.size))
  clear hb HLO
  rw [t70]
  go_wp2
  go_ret
  exact ⟨rfl, hV.out⟩
set_option maxRecDepth 100000 in
set_option maxHeartbeats 16000000 in
theorem cgrows_l3 (hgt : Int) (p : List Nat) (a : Option Addr) (b o cap : Nat) (l : List Vt) (a1 : Option Addr) (n1 c1 : Nat) (zs : List Int) (a2 : Option Addr) (b2 o2 c2 : Nat) (bs : List Bool) (w : World) (hp : Bytes 32 p) (hT : Ts w a b o cap l) (hz : a = none → cap = 0) (hr1 : IsRow .i64 w a1 n1 c1 zs) (hr2 : Bo w a2 b2 o2 c2 bs) (h70 : ¬ 70 < l.length) (h100 : ¬ 100 < n1) (h200 : 100 < bs.length) : Calls Try.prog 7 #[.agg (cC hgt p (.slice a l.length cap)).toArray, .slice a1 n1 c1, .slice a2 bs.length c2] w fun e w' => e = .returned (.bool true) ∧ Below w.heap.size w w' := by
  have hl1 := hidp (cC_len (h := hgt) (sl := .slice a l.length cap) hp.1)
  have KA := hidp (Blk.new w (cC hgt p (.slice a l.length cap)) 63)
  have hV := hidp ((Below.refl w.heap.size w).alloc (Nat.le_refl _) (.cells (cC hgt p (.slice a l.length cap)).toArray 63))
  have HLO := hidp (fun W => clong_any hgt p hp.1 a l.length cap W)
  have t70 : decide ((70 : Int) < ((l.length : Nat) : Int)) = false := by first | exact decide_eq_true (by omega) | exact decide_eq_false (by omega)
  have t100 : decide ((100 : Int) < ((n1 : Nat) : Int)) = false := by first | exact decide_eq_true (by omega) | exact decide_eq_false (by omega)
  have t200 : decide ((100 : Int) < ((bs.length : Nat) : Int)) = true := by first | exact decide_eq_true (by omega) | exact decide_eq_false (by omega)
  clear hr1 hr2 hT hz h70 h100 h200
  go_enter Try.func7, Try.ntmps7
  go_wp2_with fail
  refine (lawKnown_w _).mono ?_
  rintro e w1 ⟨rfl, hb⟩
  replace KA := hidp (hb.blk' KA.out)
  replace hV := hidp (hV.out.trans (hb.mono hV.out.size))
  clear hb
  go_wp2_with first
    | (with_reducible refine (?_ : wpList _ _ _ _ _ _); refine wpList_load_blkD' 21 rfl (by kernel_rfl) 63 _ rfl (w.heap.size) (cC hgt p (.slice a l.length cap)) 63 rfl (KA.out) _ Try.underlying63 rfl (by rw [hl1.out]; kernel_rfl) ?_)
  refine (HLO.out _).mono ?_
  rintro e w2 ⟨rfl, hb⟩
  replace KA := hidp (hb.blk' KA.out)
  replace hV := hidp (hV.out.trans (hb.mono hV.out.size))
  clear hb HLO
  rw [t70]
  go_wp2
  go_ret
  exact ⟨rfl, hV.out⟩
set_option maxRecDepth 100000 in
set_option maxHeartbeats 16000000 in
theorem cgrows_l4 (hgt : Int) (p : List Nat) (a : Option Addr) (b o cap : Nat) (l : List Vt) (a1 : Option Addr) (n1 c1 : Nat) (zs : List Int) (a2 : Option Addr) (b2 o2 c2 : Nat) (bs : List Bool) (w : World) (hp : Bytes 32 p) (hT : Ts w a b o cap l) (hz : a = none → cap = 0) (hr1 : IsRow .i64 w a1 n1 c1 zs) (hr2 : Bo w a2 b2 o2 c2 bs) (h70 : ¬ 70 < l.length) (h100 : ¬ 100 < n1) (h200 : ¬ 100 < bs.length) (hc : chkC hgt l ≠ 0) : Calls Try.prog 7 #[.agg (cC hgt p (.slice a l.length cap)).toArray, .slice a1 n1 c1, .slice a2 bs.length c2] w fun e w' => e = .returned (.bool true) ∧ Below w.heap.size w w' := by
  have hl1 := hidp (cC_len (h := hgt) (sl := .slice a l.length cap) hp.1)
  have KA := hidp (Blk.new w (cC hgt p (.slice a l.length cap)) 63)
  have hV := hidp ((Below.refl w.heap.size w).alloc (Nat.le_refl _) (.cells (cC hgt p (.slice a l.length cap)).toArray 63))
  have HLO := hidp (fun W => clong_any hgt p hp.1 a l.length cap W)
  have t70 : decide ((70 : Int) < ((l.length : Nat) : Int)) = false := by first | exact decide_eq_true (by omega) | exact decide_eq_false (by omega)
  have t100 : decide ((100 : Int) < ((n1 : Nat) : Int)) = false := by first | exact decide_eq_true (by omega) | exact decide_eq_false (by omega)
  have t200 : decide ((100 : Int) < ((bs.length : Nat) : Int)) = false := by first | exact decide_eq_true (by omega) | exact decide_eq_false (by omega)
  have HC := hidp (fun W (hW : Below w.heap.size w W) => ccheck_any hgt p hp.1 a b o cap l W (hT.below hW))
  have hcn : (((chkC hgt l : Nat) : Int) != 0) = true := by first | (rw [bne_iff_ne]; omega) | (rw [bne_eq_false_iff_eq]; omega)
  clear hr1 hr2 hT hz h70 h100 h200 hc
  go_enter Try.func7, Try.ntmps7
  go_wp2_with fail
  refine (lawKnown_w _).mono ?_
  rintro e w1 ⟨rfl, hb⟩
  replace KA := hidp (hb.blk' KA.out)
  replace hV := hidp (hV.out.trans (hb.mono hV.out.size))
  clear hb
  go_wp2_with first
    | (with_reducible refine (?_ : wpList _ _ _ _ _ _); refine wpList_load_blkD' 21 rfl (by kernel_rfl) 63 _ rfl (w.heap.size) (cC hgt p (.slice a l.length cap)) 63 rfl (KA.out) _ Try.underlying63 rfl (by rw [hl1.out]; kernel_rfl) ?_)
  refine (HLO.out _).mono ?_
  rintro e w2 ⟨rfl, hb⟩
  replace KA := hidp (hb.blk' KA.out)
  replace hV := hidp (hV.out.trans (hb.mono hV.out.size))
  clear hb HLO
  rw [t70]
  go_wp2_with first
    | (with_reducible refine (?_ : wpList _ _ _ _ _ _); refine wpList_load_blkD' 34 rfl (by kernel_rfl) 63 _ rfl (w.heap.size) (cC hgt p (.slice a l.length cap)) 63 rfl (KA.out) _ Try.underlying63 rfl (by rw [hl1.out]; kernel_rfl) ?_)
  refine (HC.out _ hV.out).mono ?_
  rintro e w3 ⟨rfl, hb⟩
  replace KA := hidp (hb.blk' KA.out)
  replace hV := hidp (hV.out.trans (hb.mono hV.out.size))
  clear hb HC
  go_wp2
  go_ret
  exact ⟨rfl, hV.out⟩
set_option maxRecDepth 100000 in
set_option maxHeartbeats 16000000 in
theorem cgrows_in (hgt : Int) (p : List Nat) (a : Option Addr) (b o cap : Nat) (l : List Vt) (a1 : Option Addr) (n1 c1 : Nat) (zs : List Int) (a2 : Option Addr) (b2 o2 c2 : Nat) (bs : List Bool) (w : World) (hp : Bytes 32 p) (hT : Ts w a b o cap l) (hz : a = none → cap = 0) (hr1 : IsRow .i64 w a1 n1 c1 zs) (hr2 : Bo w a2 b2 o2 c2 bs) (h70 : ¬ 70 < l.length) (h100 : ¬ 100 < n1) (h200 : ¬ 100 < bs.length) (hc : chkC hgt l = 0) : Calls Try.prog 7 #[.agg (cC hgt p (.slice a l.length cap)).toArray, .slice a1 n1 c1, .slice a2 bs.length c2] w fun e w' => e = .returned (.bool true) ∧ Below w.heap.size w w' := by
  have hl1 := hidp (cC_len (h := hgt) (sl := .slice a l.length cap) hp.1)
  have KA := hidp (Blk.new w (cC hgt p (.slice a l.length cap)) 63)
  have hV := hidp ((Below.refl w.heap.size w).alloc (Nat.le_refl _) (.cells (cC hgt p (.slice a l.length cap)).toArray 63))
  have HLO := hidp (fun W => clong_any hgt p hp.1 a l.length cap W)
  have t70 : decide ((70 : Int) < ((l.length : Nat) : Int)) = false := by first | exact decide_eq_true (by omega) | exact decide_eq_false (by omega)
  have t100 : decide ((100 : Int) < ((n1 : Nat) : Int)) = false := by first | exact decide_eq_true (by omega) | exact decide_eq_false (by omega)
  have t200 : decide ((100 : Int) < ((bs.length : Nat) : Int)) = false := by first | exact decide_eq_true (by omega) | exact decide_eq_false (by omega)
  have HC := hidp (fun W (hW : Below w.heap.size w W) => ccheck_any hgt p hp.1 a b o cap l W (hT.below hW))
  have hcn : (((chkC hgt l : Nat) : Int) != 0) = false := by first | (rw [bne_iff_ne]; omega) | (rw [bne_eq_false_iff_eq]; omega)
  have hO := hidp (chkC_ok hc)
  have hVk := hidp (chkV_ok (chkC_ok hc).2.2)
  have HT := hidp hT
  have HI := hidp hr1
  have HP := hidp hr2
  have hcc := hidp hc
  have hpp := hidp hp
  have hlp := hidp (show (bvs p).length = 32 by rw [bvs_len, hp.1])
  have hl0 := hidp (cC_len (h := 0) (sl := .slice none 0 0) (p := zh32) rfl)
  have hzz : ∀ w, (zeroValue 63).run Try.prog w = .ok (.agg (cC 0 zh32 (.slice none 0 0)).toArray) w := (zero_of_info (P := Try.prog) zero_com).1
  have HCp := hidp (fun W (hW : Below w.heap.size w W) => ccopy_any hgt p hp.1 a b o cap l W (hT.below hW) (by omega))
  have hlen := hidp (show l.length ≤ 64 ∧ n1 ≤ 100 ∧ bs.length ≤ 100 from ⟨(chkC_ok hc).2.1, by omega, by omega⟩)
  have hrv := fun sl W => run_votes_of hgt p sl hp.1 W
  have hbc := hidp (built_com2 hgt p hp.1)
  have hln := hidp (cC_len (h := hgt) (sl := .slice none 0 0) hp.1)
  have hon := hidp (cC_one hgt p none 0 0)
  clear hr1 hr2 hT hz hp h70 h100 h200 hc
  go_enter Try.func7, Try.ntmps7
  go_wp2_with fail
  refine (lawKnown_w _).mono ?_
  rintro e w1 ⟨rfl, hb⟩
  replace KA := hidp (hb.blk' KA.out)
  replace hV := hidp (hV.out.trans (hb.mono hV.out.size))
  clear hb
  go_wp2_with first
    | (with_reducible refine (?_ : wpList _ _ _ _ _ _); refine wpList_load_blkD' 21 rfl (by kernel_rfl) 63 _ rfl (w.heap.size) (cC hgt p (.slice a l.length cap)) 63 rfl (KA.out) _ Try.underlying63 rfl (by rw [hl1.out]; kernel_rfl) ?_)
  refine (HLO.out _).mono ?_
  rintro e w2 ⟨rfl, hb⟩
  replace KA := hidp (hb.blk' KA.out)
  replace hV := hidp (hV.out.trans (hb.mono hV.out.size))
  clear hb HLO
  rw [t70]
  go_wp2_with first
    | (with_reducible refine (?_ : wpList _ _ _ _ _ _); refine wpList_load_blkD' 34 rfl (by kernel_rfl) 63 _ rfl (w.heap.size) (cC hgt p (.slice a l.length cap)) 63 rfl (KA.out) _ Try.underlying63 rfl (by rw [hl1.out]; kernel_rfl) ?_)
  refine (HC.out _ hV.out).mono ?_
  rintro e w3 ⟨rfl, hb⟩
  replace KA := hidp (hb.blk' KA.out)
  replace hV := hidp (hV.out.trans (hb.mono hV.out.size))
  clear hb HC
  go_wp2_with first
    | (with_reducible refine (?_ : wpList _ _ _ _ _ _); refine wpList_load_blkD' 39 rfl (by kernel_rfl) 63 _ rfl (w.heap.size) (cC hgt p (.slice a l.length cap)) 63 rfl (KA.out) _ Try.underlying63 rfl (by rw [hl1.out]; kernel_rfl) ?_)
  refine (HCp.out _ hV.out).mono ?_
  rintro e w4 ⟨⟨sv, rfl, ho⟩, hb⟩
  have hBl := hidp (show w.heap.size < w3.heap.size from KA.out.lt)
  replace KA := hidp (hb.blk' KA.out)
  replace hV := hidp (hV.out.trans (hb.mono hV.out.size))
  have HO := hidp ho
  have hB4 := hidp hb.size
  clear ho hb HCp
  obtain ⟨p4, n4, c4, hsv⟩ := HO.out.sl
  subst hsv
  have c0 : w4.cell? ⟨w.heap.size, 0, none⟩ = some (.int .i64 hgt) := KA.out.cell 0
  have HZ := hidp (Blk.new w4 (cC 0 zh32 (.slice none 0 0)) 63)
  go_upto_region 6 with first
    | (with_reducible refine (?_ : wpList _ _ _ _ _ _); refine wpList_load_midD 45 rfl (by kernel_rfl) 34 _ rfl w.heap.size 1 rfl (bvs p) _ (rangeAt_p KA.out) Try.underlying34 rfl (by rw [hlp.out]; kernel_rfl) ?_)
    | (with_reducible refine (?_ : wpList _ _ _ _ _ _); refine wpList_buildG (by kernel_rfl) 63 _ rfl (cC hgt p (.slice none 0 0)).toArray (by rw [← hbc.out]; kernel_rfl) ?_)
    | (with_reducible refine (?_ : wpList _ _ _ _ _ _); refine wpList_store_blk rfl 63 _ _ rfl (w4.heap.size) (cC hgt p (.slice none 0 0)) (cC 0 zh32 (.slice none 0 0)) 63 rfl rfl (HZ.out) (by rw [hln.out]; kernel_rfl) ((hl0.out).trans (hln.out).symm) (hon.out) ?_; intro w5 hw5; have N5 := hidp (new_row hw5.out rfl))
  have HX := hidp (show GrP w w5 (cC hgt p (.slice a l.length cap)) (cC hgt p (.slice none 0 0)) w4.heap.size ∧ OwnT w5 0 (.slice p4 n4 c4) l ∧ (∀ k, (Value.slice p4 n4 c4).ownBlock = some k → k < w5.heap.size) from ⟨⟨N5.out.1.blk' KA.out, N5.out.2, hV.out.trans (N5.out.1.mono hV.out.size), by have := hBl.out; have := hB4.out; omega⟩, (HO.out.base (Nat.zero_le _)).below N5.out.1, fun k hk => by have := (HO.out.lt hk).2; have := N5.out.1.size; omega⟩)
  clear N5 HZ KA hV HO hw5 c0
  try simp only [Act.put, List.setIfInBounds_toArray, List.set_cons_zero, List.set_cons_succ]
  go_cut [10, 11, 12] from 47 to 49 (fun x10 x11 x12 wx => ∃ i10 i11 i12 : Nat, x10 = .pointer (some ⟨i10, 0, none⟩) ∧ x11 = .pointer (some ⟨i11, 0, none⟩) ∧ x12 = .pointer (some ⟨i12, 0, none⟩) ∧ Hid (GrB w wx (cC hgt p (.slice a l.length cap)) w5.heap.size i10 i11 i12 hgt p (.slice none 0 0) (.slice none 0 0) (.slice none 0 0) [] [] [] ∧ Lef wx w5.heap.size (.slice p4 n4 c4) l))
  case first =>
    have hT := hidp (HX.out.1.below (Below.refl _ _).drew)
    have hB3 := hidp (Bx3.start (s := w5.heap.size) (sv := .slice p4 n4 c4) (l := l) HX.out.1 HX.out.2.1 HX.out.2.2 rfl)
    refine wp_region_held_drew (S := fun W => GrP w W (cC hgt p (.slice a l.length cap)) (cC hgt p (.slice none 0 0)) w4.heap.size) (by kernel_rfl) hT.out (fun hHeld => ?_)
    try simp only [Act.put, List.setIfInBounds_toArray, List.set_cons_zero, List.set_cons_succ]
    refine wpAnyH_takeTo2 (i := 0) (oi := _) (v := .agg (cC hgt p (.slice none 0 0)).toArray) (some 47) rfl rfl (by kernel_rfl) (by kernel_rfl) (by kernel_rfl) (fun _ _ _ h => h) (yieldsIf_load_mid (by rfl) 63 _ rfl (w4.heap.size) 0 rfl (cC hgt p (.slice none 0 0)) _ (fun w' hw' j v hj => by rw [Nat.zero_add]; exact ((hw'.k9).cell j).trans hj) Try.underlying63 rfl (by rw [hln.out]; kernel_rfl)) hHeld ?_
    try simp only [Act.put, List.setIfInBounds_toArray, List.set_cons_zero, List.set_cons_succ]
    refine wpAnyH_takeTo2 (i := 1) (oi := _) (v := .agg (cC hgt p (.slice none 0 0)).toArray) (some 48) rfl rfl (by kernel_rfl) (by kernel_rfl) (by kernel_rfl) (fun _ _ _ h => h) (yieldsIf_load_mid (by rfl) 63 _ rfl (w4.heap.size) 0 rfl (cC hgt p (.slice none 0 0)) _ (fun w' hw' j v hj => by rw [Nat.zero_add]; exact ((hw'.k9).cell j).trans hj) Try.underlying63 rfl (by rw [hln.out]; kernel_rfl)) hHeld ?_
    try simp only [Act.put, List.setIfInBounds_toArray, List.set_cons_zero, List.set_cons_succ]
    refine wpAnyH_takeTo2 (i := 2) (oi := _) (v := .agg (cC hgt p (.slice none 0 0)).toArray) (some 49) rfl rfl (by kernel_rfl) (by kernel_rfl) (by kernel_rfl) (fun _ _ _ h => h) (yieldsIf_load_mid (by rfl) 63 _ rfl (w4.heap.size) 0 rfl (cC hgt p (.slice none 0 0)) _ (fun w' hw' j v hj => by rw [Nat.zero_add]; exact ((hw'.k9).cell j).trans hj) Try.underlying63 rfl (by rw [hln.out]; kernel_rfl)) hHeld ?_
    try simp only [Act.put, List.setIfInBounds_toArray, List.set_cons_zero, List.set_cons_succ]
    refine wpAnyH_ready (rs := [3,4,5]) (by kernel_rfl) (by simp) ?_
    refine AllReadyH.cons (o := _) rfl (fun K hK => ?_) (AllReadyH.cons (o := _) rfl (fun K hK => ?_) (AllReadyH.cons (o := _) rfl (fun K hK => ?_) AllReadyH.nil))
    · skip
      go_simp
      have hal := hidp (fun W : World => (Below.refl W.heap.size W).alloc (Nat.le_refl _) (.cells (cC 0 zh32 (.slice none 0 0)).toArray 63))
      replace hT := hidp (hT.out.below (hal.out _))
      clear hal
      refine hK.out _ _ (hT.out) (fun hHeld' => ?_)
      clear hK K hHeld
      have hHeld := hHeld'
      clear hHeld'
      try simp only [Act.put, List.setIfInBounds_toArray, List.set_cons_zero, List.set_cons_succ]
      refine wpAnyH_ready (rs := [4,5]) (by kernel_rfl) (by simp) ?_
      refine AllReadyH.cons (o := _) rfl (fun K hK => ?_) (AllReadyH.cons (o := _) rfl (fun K hK => ?_) AllReadyH.nil)
      · skip
        go_simp
        have hal := hidp (fun W : World => (Below.refl W.heap.size W).alloc (Nat.le_refl _) (.cells (cC 0 zh32 (.slice none 0 0)).toArray 63))
        replace hT := hidp (hT.out.below (hal.out _))
        clear hal
        refine hK.out _ _ (hT.out) (fun hHeld' => ?_)
        clear hK K hHeld
        have hHeld := hHeld'
        clear hHeld'
        try simp only [Act.put, List.setIfInBounds_toArray, List.set_cons_zero, List.set_cons_succ]
        refine wpAnyH_ready (rs := [5]) (by kernel_rfl) (by simp) ?_
        refine AllReadyH.cons (o := _) rfl (fun K hK => ?_) AllReadyH.nil
        · skip
          go_simp
          have hal := hidp (fun W : World => (Below.refl W.heap.size W).alloc (Nat.le_refl _) (.cells (cC 0 zh32 (.slice none 0 0)).toArray 63))
          replace hT := hidp (hT.out.below (hal.out _))
          clear hal
          refine hK.out _ _ (hT.out) (fun hHeld' => ?_)
          clear hK K hHeld
          have hHeld := hHeld'
          clear hHeld'
          try simp only [Act.put, List.setIfInBounds_toArray, List.set_cons_zero, List.set_cons_succ]
          refine wpAnyH_ready (rs := [6]) (by kernel_rfl) (by simp) ?_
          refine AllReadyH.cons (o := _) rfl (fun K hK => ?_) AllReadyH.nil
          refine if_intro (by rfl) ?_
          refine wp_store_row 63 _ _ rfl _ (cC hgt p (.slice none 0 0)).toArray rfl rfl 63 ((gF) 0).toArray (hB3.out.blk 0 (by decide)) (by rw [List.size_toArray, hln.out]; kernel_rfl) (by rw [List.size_toArray, List.size_toArray, hln.out]; exact hB3.out.len 0 (by decide)) hon.out ?_
          replace hB3 := hidp (hB3.out.set (j := 0) (by decide) hln.out)
          replace hT := hidp hB3.out.gp
          refine hK.out _ _ (hT.out) (fun hHeld' => ?_)
          clear hK K hHeld
          have hHeld := hHeld'
          clear hHeld'
          try simp only [Act.put, List.setIfInBounds_toArray, List.set_cons_zero, List.set_cons_succ]
          refine wpAnyH_ready (rs := [7]) (by kernel_rfl) (by simp) ?_
          refine AllReadyH.cons (o := _) rfl (fun K hK => ?_) AllReadyH.nil
          refine if_intro (by rfl) ?_
          refine wp_store_row 63 _ _ rfl _ (cC hgt p (.slice none 0 0)).toArray rfl rfl 63 ((gS (gF) 0 (cC hgt p (.slice none 0 0))) 1).toArray (hB3.out.blk 1 (by decide)) (by rw [List.size_toArray, hln.out]; kernel_rfl) (by rw [List.size_toArray, List.size_toArray, hln.out]; exact hB3.out.len 1 (by decide)) hon.out ?_
          replace hB3 := hidp (hB3.out.set (j := 1) (by decide) hln.out)
          replace hT := hidp hB3.out.gp
          refine hK.out _ _ (hT.out) (fun hHeld' => ?_)
          clear hK K hHeld
          have hHeld := hHeld'
          clear hHeld'
          try simp only [Act.put, List.setIfInBounds_toArray, List.set_cons_zero, List.set_cons_succ]
          refine wpAnyH_ready (rs := [8]) (by kernel_rfl) (by simp) ?_
          refine AllReadyH.cons (o := _) rfl (fun K hK => ?_) AllReadyH.nil
          refine if_intro (by rfl) ?_
          refine wp_store_row 63 _ _ rfl _ (cC hgt p (.slice none 0 0)).toArray rfl rfl 63 ((gS (gS (gF) 0 (cC hgt p (.slice none 0 0))) 1 (cC hgt p (.slice none 0 0))) 2).toArray (hB3.out.blk 2 (by decide)) (by rw [List.size_toArray, hln.out]; kernel_rfl) (by rw [List.size_toArray, List.size_toArray, hln.out]; exact hB3.out.len 2 (by decide)) hon.out ?_
          replace hB3 := hidp (hB3.out.set (j := 2) (by decide) hln.out)
          replace hT := hidp hB3.out.gp
          refine hK.out _ _ (hT.out) (fun hHeld' => ?_)
          clear hK K hHeld
          have hHeld := hHeld'
          clear hHeld'
          try simp only [Act.put, List.setIfInBounds_toArray, List.set_cons_zero, List.set_cons_succ]
          refine wpAnyH_done (by kernel_rfl) ?_ _
          clear hHeld
          go_wp2_with fail
          go_meet
          case rel => exact ⟨w5.heap.size, w5.heap.size + 1, w5.heap.size + 1 + 1, rfl, rfl, rfl, hidp (hB3.out.done 0 1 2 (by decide) (by decide) (by decide) (by decide) rfl rfl rfl)⟩
      · skip
        go_simp
        have hal := hidp (fun W : World => (Below.refl W.heap.size W).alloc (Nat.le_refl _) (.cells (cC 0 zh32 (.slice none 0 0)).toArray 63))
        replace hT := hidp (hT.out.below (hal.out _))
        clear hal
        refine hK.out _ _ (hT.out) (fun hHeld' => ?_)
        clear hK K hHeld
        have hHeld := hHeld'
        clear hHeld'
        try simp only [Act.put, List.setIfInBounds_toArray, List.set_cons_zero, List.set_cons_succ]
        refine wpAnyH_ready (rs := [4]) (by kernel_rfl) (by simp) ?_
        refine AllReadyH.cons (o := _) rfl (fun K hK => ?_) AllReadyH.nil
        · skip
          go_simp
          have hal := hidp (fun W : World => (Below.refl W.heap.size W).alloc (Nat.le_refl _) (.cells (cC 0 zh32 (.slice none 0 0)).toArray 63))
          replace hT := hidp (hT.out.below (hal.out _))
          clear hal
          refine hK.out _ _ (hT.out) (fun hHeld' => ?_)
          clear hK K hHeld
          have hHeld := hHeld'
          clear hHeld'
          try simp only [Act.put, List.setIfInBounds_toArray, List.set_cons_zero, List.set_cons_succ]
          refine wpAnyH_ready (rs := [6]) (by kernel_rfl) (by simp) ?_
          refine AllReadyH.cons (o := _) rfl (fun K hK => ?_) AllReadyH.nil
          refine if_intro (by rfl) ?_
          refine wp_store_row 63 _ _ rfl _ (cC hgt p (.slice none 0 0)).toArray rfl rfl 63 ((gF) 0).toArray (hB3.out.blk 0 (by decide)) (by rw [List.size_toArray, hln.out]; kernel_rfl) (by rw [List.size_toArray, List.size_toArray, hln.out]; exact hB3.out.len 0 (by decide)) hon.out ?_
          replace hB3 := hidp (hB3.out.set (j := 0) (by decide) hln.out)
          replace hT := hidp hB3.out.gp
          refine hK.out _ _ (hT.out) (fun hHeld' => ?_)
          clear hK K hHeld
          have hHeld := hHeld'
          clear hHeld'
          try simp only [Act.put, List.setIfInBounds_toArray, List.set_cons_zero, List.set_cons_succ]
          refine wpAnyH_ready (rs := [7]) (by kernel_rfl) (by simp) ?_
          refine AllReadyH.cons (o := _) rfl (fun K hK => ?_) AllReadyH.nil
          refine if_intro (by rfl) ?_
          refine wp_store_row 63 _ _ rfl _ (cC hgt p (.slice none 0 0)).toArray rfl rfl 63 ((gS (gF) 0 (cC hgt p (.slice none 0 0))) 2).toArray (hB3.out.blk 2 (by decide)) (by rw [List.size_toArray, hln.out]; kernel_rfl) (by rw [List.size_toArray, List.size_toArray, hln.out]; exact hB3.out.len 2 (by decide)) hon.out ?_
          replace hB3 := hidp (hB3.out.set (j := 2) (by decide) hln.out)
          replace hT := hidp hB3.out.gp
          refine hK.out _ _ (hT.out) (fun hHeld' => ?_)
          clear hK K hHeld
          have hHeld := hHeld'
          clear hHeld'
          try simp only [Act.put, List.setIfInBounds_toArray, List.set_cons_zero, List.set_cons_succ]
          refine wpAnyH_ready (rs := [8]) (by kernel_rfl) (by simp) ?_
          refine AllReadyH.cons (o := _) rfl (fun K hK => ?_) AllReadyH.nil
          refine if_intro (by rfl) ?_
          refine wp_store_row 63 _ _ rfl _ (cC hgt p (.slice none 0 0)).toArray rfl rfl 63 ((gS (gS (gF) 0 (cC hgt p (.slice none 0 0))) 2 (cC hgt p (.slice none 0 0))) 1).toArray (hB3.out.blk 1 (by decide)) (by rw [List.size_toArray, hln.out]; kernel_rfl) (by rw [List.size_toArray, List.size_toArray, hln.out]; exact hB3.out.len 1 (by decide)) hon.out ?_
          replace hB3 := hidp (hB3.out.set (j := 1) (by decide) hln.out)
          replace hT := hidp hB3.out.gp
          refine hK.out _ _ (hT.out) (fun hHeld' => ?_)
          clear hK K hHeld
          have hHeld := hHeld'
          clear hHeld'
          try simp only [Act.put, List.setIfInBounds_toArray, List.set_cons_zero, List.set_cons_succ]
          refine wpAnyH_done (by kernel_rfl) ?_ _
          clear hHeld
          go_wp2_with fail
          go_meet
          case rel => exact ⟨w5.heap.size, w5.heap.size + 1 + 1, w5.heap.size + 1, rfl, rfl, rfl, hidp (hB3.out.done 0 2 1 (by decide) (by decide) (by decide) (by decide) rfl rfl rfl)⟩
    · skip
      go_simp
      have hal := hidp (fun W : World => (Below.refl W.heap.size W).alloc (Nat.le_refl _) (.cells (cC 0 zh32 (.slice none 0 0)).toArray 63))
      replace hT := hidp (hT.out.below (hal.out _))
      clear hal
      refine hK.out _ _ (hT.out) (fun hHeld' => ?_)
      clear hK K hHeld
      have hHeld := hHeld'
      clear hHeld'
      try simp only [Act.put, List.setIfInBounds_toArray, List.set_cons_zero, List.set_cons_succ]
      refine wpAnyH_ready (rs := [3,5]) (by kernel_rfl) (by simp) ?_
      refine AllReadyH.cons (o := _) rfl (fun K hK => ?_) (AllReadyH.cons (o := _) rfl (fun K hK => ?_) AllReadyH.nil)
      · skip
        go_simp
        have hal := hidp (fun W : World => (Below.refl W.heap.size W).alloc (Nat.le_refl _) (.cells (cC 0 zh32 (.slice none 0 0)).toArray 63))
        replace hT := hidp (hT.out.below (hal.out _))
        clear hal
        refine hK.out _ _ (hT.out) (fun hHeld' => ?_)
        clear hK K hHeld
        have hHeld := hHeld'
        clear hHeld'
        try simp only [Act.put, List.setIfInBounds_toArray, List.set_cons_zero, List.set_cons_succ]
        refine wpAnyH_ready (rs := [5]) (by kernel_rfl) (by simp) ?_
        refine AllReadyH.cons (o := _) rfl (fun K hK => ?_) AllReadyH.nil
        · skip
          go_simp
          have hal := hidp (fun W : World => (Below.refl W.heap.size W).alloc (Nat.le_refl _) (.cells (cC 0 zh32 (.slice none 0 0)).toArray 63))
          replace hT := hidp (hT.out.below (hal.out _))
          clear hal
          refine hK.out _ _ (hT.out) (fun hHeld' => ?_)
          clear hK K hHeld
          have hHeld := hHeld'
          clear hHeld'
          try simp only [Act.put, List.setIfInBounds_toArray, List.set_cons_zero, List.set_cons_succ]
          refine wpAnyH_ready (rs := [6]) (by kernel_rfl) (by simp) ?_
          refine AllReadyH.cons (o := _) rfl (fun K hK => ?_) AllReadyH.nil
          refine if_intro (by rfl) ?_
          refine wp_store_row 63 _ _ rfl _ (cC hgt p (.slice none 0 0)).toArray rfl rfl 63 ((gF) 1).toArray (hB3.out.blk 1 (by decide)) (by rw [List.size_toArray, hln.out]; kernel_rfl) (by rw [List.size_toArray, List.size_toArray, hln.out]; exact hB3.out.len 1 (by decide)) hon.out ?_
          replace hB3 := hidp (hB3.out.set (j := 1) (by decide) hln.out)
          replace hT := hidp hB3.out.gp
          refine hK.out _ _ (hT.out) (fun hHeld' => ?_)
          clear hK K hHeld
          have hHeld := hHeld'
          clear hHeld'
          try simp only [Act.put, List.setIfInBounds_toArray, List.set_cons_zero, List.set_cons_succ]
          refine wpAnyH_ready (rs := [7]) (by kernel_rfl) (by simp) ?_
          refine AllReadyH.cons (o := _) rfl (fun K hK => ?_) AllReadyH.nil
          refine if_intro (by rfl) ?_
          refine wp_store_row 63 _ _ rfl _ (cC hgt p (.slice none 0 0)).toArray rfl rfl 63 ((gS (gF) 1 (cC hgt p (.slice none 0 0))) 0).toArray (hB3.out.blk 0 (by decide)) (by rw [List.size_toArray, hln.out]; kernel_rfl) (by rw [List.size_toArray, List.size_toArray, hln.out]; exact hB3.out.len 0 (by decide)) hon.out ?_
          replace hB3 := hidp (hB3.out.set (j := 0) (by decide) hln.out)
          replace hT := hidp hB3.out.gp
          refine hK.out _ _ (hT.out) (fun hHeld' => ?_)
          clear hK K hHeld
          have hHeld := hHeld'
          clear hHeld'
          try simp only [Act.put, List.setIfInBounds_toArray, List.set_cons_zero, List.set_cons_succ]
          refine wpAnyH_ready (rs := [8]) (by kernel_rfl) (by simp) ?_
          refine AllReadyH.cons (o := _) rfl (fun K hK => ?_) AllReadyH.nil
          refine if_intro (by rfl) ?_
          refine wp_store_row 63 _ _ rfl _ (cC hgt p (.slice none 0 0)).toArray rfl rfl 63 ((gS (gS (gF) 1 (cC hgt p (.slice none 0 0))) 0 (cC hgt p (.slice none 0 0))) 2).toArray (hB3.out.blk 2 (by decide)) (by rw [List.size_toArray, hln.out]; kernel_rfl) (by rw [List.size_toArray, List.size_toArray, hln.out]; exact hB3.out.len 2 (by decide)) hon.out ?_
          replace hB3 := hidp (hB3.out.set (j := 2) (by decide) hln.out)
          replace hT := hidp hB3.out.gp
          refine hK.out _ _ (hT.out) (fun hHeld' => ?_)
          clear hK K hHeld
          have hHeld := hHeld'
          clear hHeld'
          try simp only [Act.put, List.setIfInBounds_toArray, List.set_cons_zero, List.set_cons_succ]
          refine wpAnyH_done (by kernel_rfl) ?_ _
          clear hHeld
          go_wp2_with fail
          go_meet
          case rel => exact ⟨w5.heap.size + 1, w5.heap.size, w5.heap.size + 1 + 1, rfl, rfl, rfl, hidp (hB3.out.done 1 0 2 (by decide) (by decide) (by decide) (by decide) rfl rfl rfl)⟩
      · skip
        go_simp
        have hal := hidp (fun W : World => (Below.refl W.heap.size W).alloc (Nat.le_refl _) (.cells (cC 0 zh32 (.slice none 0 0)).toArray 63))
        replace hT := hidp (hT.out.below (hal.out _))
        clear hal
        refine hK.out _ _ (hT.out) (fun hHeld' => ?_)
        clear hK K hHeld
        have hHeld := hHeld'
        clear hHeld'
        try simp only [Act.put, List.setIfInBounds_toArray, List.set_cons_zero, List.set_cons_succ]
        refine wpAnyH_ready (rs := [3]) (by kernel_rfl) (by simp) ?_
        refine AllReadyH.cons (o := _) rfl (fun K hK => ?_) AllReadyH.nil
        · skip
          go_simp
          have hal := hidp (fun W : World => (Below.refl W.heap.size W).alloc (Nat.le_refl _) (.cells (cC 0 zh32 (.slice none 0 0)).toArray 63))
          replace hT := hidp (hT.out.below (hal.out _))
          clear hal
          refine hK.out _ _ (hT.out) (fun hHeld' => ?_)
          clear hK K hHeld
          have hHeld := hHeld'
          clear hHeld'
          try simp only [Act.put, List.setIfInBounds_toArray, List.set_cons_zero, List.set_cons_succ]
          refine wpAnyH_ready (rs := [6]) (by kernel_rfl) (by simp) ?_
          refine AllReadyH.cons (o := _) rfl (fun K hK => ?_) AllReadyH.nil
          refine if_intro (by rfl) ?_
          refine wp_store_row 63 _ _ rfl _ (cC hgt p (.slice none 0 0)).toArray rfl rfl 63 ((gF) 2).toArray (hB3.out.blk 2 (by decide)) (by rw [List.size_toArray, hln.out]; kernel_rfl) (by rw [List.size_toArray, List.size_toArray, hln.out]; exact hB3.out.len 2 (by decide)) hon.out ?_
          replace hB3 := hidp (hB3.out.set (j := 2) (by decide) hln.out)
          replace hT := hidp hB3.out.gp
          refine hK.out _ _ (hT.out) (fun hHeld' => ?_)
          clear hK K hHeld
          have hHeld := hHeld'
          clear hHeld'
          try simp only [Act.put, List.setIfInBounds_toArray, List.set_cons_zero, List.set_cons_succ]
          refine wpAnyH_ready (rs := [7]) (by kernel_rfl) (by simp) ?_
          refine AllReadyH.cons (o := _) rfl (fun K hK => ?_) AllReadyH.nil
          refine if_intro (by rfl) ?_
          refine wp_store_row 63 _ _ rfl _ (cC hgt p (.slice none 0 0)).toArray rfl rfl 63 ((gS (gF) 2 (cC hgt p (.slice none 0 0))) 0).toArray (hB3.out.blk 0 (by decide)) (by rw [List.size_toArray, hln.out]; kernel_rfl) (by rw [List.size_toArray, List.size_toArray, hln.out]; exact hB3.out.len 0 (by decide)) hon.out ?_
          replace hB3 := hidp (hB3.out.set (j := 0) (by decide) hln.out)
          replace hT := hidp hB3.out.gp
          refine hK.out _ _ (hT.out) (fun hHeld' => ?_)
          clear hK K hHeld
          have hHeld := hHeld'
          clear hHeld'
          try simp only [Act.put, List.setIfInBounds_toArray, List.set_cons_zero, List.set_cons_succ]
          refine wpAnyH_ready (rs := [8]) (by kernel_rfl) (by simp) ?_
          refine AllReadyH.cons (o := _) rfl (fun K hK => ?_) AllReadyH.nil
          refine if_intro (by rfl) ?_
          refine wp_store_row 63 _ _ rfl _ (cC hgt p (.slice none 0 0)).toArray rfl rfl 63 ((gS (gS (gF) 2 (cC hgt p (.slice none 0 0))) 0 (cC hgt p (.slice none 0 0))) 1).toArray (hB3.out.blk 1 (by decide)) (by rw [List.size_toArray, hln.out]; kernel_rfl) (by rw [List.size_toArray, List.size_toArray, hln.out]; exact hB3.out.len 1 (by decide)) hon.out ?_
          replace hB3 := hidp (hB3.out.set (j := 1) (by decide) hln.out)
          replace hT := hidp hB3.out.gp
          refine hK.out _ _ (hT.out) (fun hHeld' => ?_)
          clear hK K hHeld
          have hHeld := hHeld'
          clear hHeld'
          try simp only [Act.put, List.setIfInBounds_toArray, List.set_cons_zero, List.set_cons_succ]
          refine wpAnyH_done (by kernel_rfl) ?_ _
          clear hHeld
          go_wp2_with fail
          go_meet
          case rel => exact ⟨w5.heap.size + 1 + 1, w5.heap.size, w5.heap.size + 1, rfl, rfl, rfl, hidp (hB3.out.done 2 0 1 (by decide) (by decide) (by decide) (by decide) rfl rfl rfl)⟩
    · skip
      go_simp
      have hal := hidp (fun W : World => (Below.refl W.heap.size W).alloc (Nat.le_refl _) (.cells (cC 0 zh32 (.slice none 0 0)).toArray 63))
      replace hT := hidp (hT.out.below (hal.out _))
      clear hal
      refine hK.out _ _ (hT.out) (fun hHeld' => ?_)
      clear hK K hHeld
      have hHeld := hHeld'
      clear hHeld'
      try simp only [Act.put, List.setIfInBounds_toArray, List.set_cons_zero, List.set_cons_succ]
      refine wpAnyH_ready (rs := [3,4]) (by kernel_rfl) (by simp) ?_
      refine AllReadyH.cons (o := _) rfl (fun K hK => ?_) (AllReadyH.cons (o := _) rfl (fun K hK => ?_) AllReadyH.nil)
      · skip
        go_simp
        have hal := hidp (fun W : World => (Below.refl W.heap.size W).alloc (Nat.le_refl _) (.cells (cC 0 zh32 (.slice none 0 0)).toArray 63))
        replace hT := hidp (hT.out.below (hal.out _))
        clear hal
        refine hK.out _ _ (hT.out) (fun hHeld' => ?_)
        clear hK K hHeld
        have hHeld := hHeld'
        clear hHeld'
        try simp only [Act.put, List.setIfInBounds_toArray, List.set_cons_zero, List.set_cons_succ]
        refine wpAnyH_ready (rs := [4]) (by kernel_rfl) (by simp) ?_
        refine AllReadyH.cons (o := _) rfl (fun K hK => ?_) AllReadyH.nil
        · skip
          go_simp
          have hal := hidp (fun W : World => (Below.refl W.heap.size W).alloc (Nat.le_refl _) (.cells (cC 0 zh32 (.slice none 0 0)).toArray 63))
          replace hT := hidp (hT.out.below (hal.out _))
          clear hal
          refine hK.out _ _ (hT.out) (fun hHeld' => ?_)
          clear hK K hHeld
          have hHeld := hHeld'
          clear hHeld'
          try simp only [Act.put, List.setIfInBounds_toArray, List.set_cons_zero, List.set_cons_succ]
          refine wpAnyH_ready (rs := [6]) (by kernel_rfl) (by simp) ?_
          refine AllReadyH.cons (o := _) rfl (fun K hK => ?_) AllReadyH.nil
          refine if_intro (by rfl) ?_
          refine wp_store_row 63 _ _ rfl _ (cC hgt p (.slice none 0 0)).toArray rfl rfl 63 ((gF) 1).toArray (hB3.out.blk 1 (by decide)) (by rw [List.size_toArray, hln.out]; kernel_rfl) (by rw [List.size_toArray, List.size_toArray, hln.out]; exact hB3.out.len 1 (by decide)) hon.out ?_
          replace hB3 := hidp (hB3.out.set (j := 1) (by decide) hln.out)
          replace hT := hidp hB3.out.gp
          refine hK.out _ _ (hT.out) (fun hHeld' => ?_)
          clear hK K hHeld
          have hHeld := hHeld'
          clear hHeld'
          try simp only [Act.put, List.setIfInBounds_toArray, List.set_cons_zero, List.set_cons_succ]
          refine wpAnyH_ready (rs := [7]) (by kernel_rfl) (by simp) ?_
          refine AllReadyH.cons (o := _) rfl (fun K hK => ?_) AllReadyH.nil
          refine if_intro (by rfl) ?_
          refine wp_store_row 63 _ _ rfl _ (cC hgt p (.slice none 0 0)).toArray rfl rfl 63 ((gS (gF) 1 (cC hgt p (.slice none 0 0))) 2).toArray (hB3.out.blk 2 (by decide)) (by rw [List.size_toArray, hln.out]; kernel_rfl) (by rw [List.size_toArray, List.size_toArray, hln.out]; exact hB3.out.len 2 (by decide)) hon.out ?_
          replace hB3 := hidp (hB3.out.set (j := 2) (by decide) hln.out)
          replace hT := hidp hB3.out.gp
          refine hK.out _ _ (hT.out) (fun hHeld' => ?_)
          clear hK K hHeld
          have hHeld := hHeld'
          clear hHeld'
          try simp only [Act.put, List.setIfInBounds_toArray, List.set_cons_zero, List.set_cons_succ]
          refine wpAnyH_ready (rs := [8]) (by kernel_rfl) (by simp) ?_
          refine AllReadyH.cons (o := _) rfl (fun K hK => ?_) AllReadyH.nil
          refine if_intro (by rfl) ?_
          refine wp_store_row 63 _ _ rfl _ (cC hgt p (.slice none 0 0)).toArray rfl rfl 63 ((gS (gS (gF) 1 (cC hgt p (.slice none 0 0))) 2 (cC hgt p (.slice none 0 0))) 0).toArray (hB3.out.blk 0 (by decide)) (by rw [List.size_toArray, hln.out]; kernel_rfl) (by rw [List.size_toArray, List.size_toArray, hln.out]; exact hB3.out.len 0 (by decide)) hon.out ?_
          replace hB3 := hidp (hB3.out.set (j := 0) (by decide) hln.out)
          replace hT := hidp hB3.out.gp
          refine hK.out _ _ (hT.out) (fun hHeld' => ?_)
          clear hK K hHeld
          have hHeld := hHeld'
          clear hHeld'
          try simp only [Act.put, List.setIfInBounds_toArray, List.set_cons_zero, List.set_cons_succ]
          refine wpAnyH_done (by kernel_rfl) ?_ _
          clear hHeld
          go_wp2_with fail
          go_meet
          case rel => exact ⟨w5.heap.size + 1, w5.heap.size + 1 + 1, w5.heap.size, rfl, rfl, rfl, hidp (hB3.out.done 1 2 0 (by decide) (by decide) (by decide) (by decide) rfl rfl rfl)⟩
      · skip
        go_simp
        have hal := hidp (fun W : World => (Below.refl W.heap.size W).alloc (Nat.le_refl _) (.cells (cC 0 zh32 (.slice none 0 0)).toArray 63))
        replace hT := hidp (hT.out.below (hal.out _))
        clear hal
        refine hK.out _ _ (hT.out) (fun hHeld' => ?_)
        clear hK K hHeld
        have hHeld := hHeld'
        clear hHeld'
        try simp only [Act.put, List.setIfInBounds_toArray, List.set_cons_zero, List.set_cons_succ]
        refine wpAnyH_ready (rs := [3]) (by kernel_rfl) (by simp) ?_
        refine AllReadyH.cons (o := _) rfl (fun K hK => ?_) AllReadyH.nil
        · skip
          go_simp
          have hal := hidp (fun W : World => (Below.refl W.heap.size W).alloc (Nat.le_refl _) (.cells (cC 0 zh32 (.slice none 0 0)).toArray 63))
          replace hT := hidp (hT.out.below (hal.out _))
          clear hal
          refine hK.out _ _ (hT.out) (fun hHeld' => ?_)
          clear hK K hHeld
          have hHeld := hHeld'
          clear hHeld'
          try simp only [Act.put, List.setIfInBounds_toArray, List.set_cons_zero, List.set_cons_succ]
          refine wpAnyH_ready (rs := [6]) (by kernel_rfl) (by simp) ?_
          refine AllReadyH.cons (o := _) rfl (fun K hK => ?_) AllReadyH.nil
          refine if_intro (by rfl) ?_
          refine wp_store_row 63 _ _ rfl _ (cC hgt p (.slice none 0 0)).toArray rfl rfl 63 ((gF) 2).toArray (hB3.out.blk 2 (by decide)) (by rw [List.size_toArray, hln.out]; kernel_rfl) (by rw [List.size_toArray, List.size_toArray, hln.out]; exact hB3.out.len 2 (by decide)) hon.out ?_
          replace hB3 := hidp (hB3.out.set (j := 2) (by decide) hln.out)
          replace hT := hidp hB3.out.gp
          refine hK.out _ _ (hT.out) (fun hHeld' => ?_)
          clear hK K hHeld
          have hHeld := hHeld'
          clear hHeld'
          try simp only [Act.put, List.setIfInBounds_toArray, List.set_cons_zero, List.set_cons_succ]
          refine wpAnyH_ready (rs := [7]) (by kernel_rfl) (by simp) ?_
          refine AllReadyH.cons (o := _) rfl (fun K hK => ?_) AllReadyH.nil
          refine if_intro (by rfl) ?_
          refine wp_store_row 63 _ _ rfl _ (cC hgt p (.slice none 0 0)).toArray rfl rfl 63 ((gS (gF) 2 (cC hgt p (.slice none 0 0))) 1).toArray (hB3.out.blk 1 (by decide)) (by rw [List.size_toArray, hln.out]; kernel_rfl) (by rw [List.size_toArray, List.size_toArray, hln.out]; exact hB3.out.len 1 (by decide)) hon.out ?_
          replace hB3 := hidp (hB3.out.set (j := 1) (by decide) hln.out)
          replace hT := hidp hB3.out.gp
          refine hK.out _ _ (hT.out) (fun hHeld' => ?_)
          clear hK K hHeld
          have hHeld := hHeld'
          clear hHeld'
          try simp only [Act.put, List.setIfInBounds_toArray, List.set_cons_zero, List.set_cons_succ]
          refine wpAnyH_ready (rs := [8]) (by kernel_rfl) (by simp) ?_
          refine AllReadyH.cons (o := _) rfl (fun K hK => ?_) AllReadyH.nil
          refine if_intro (by rfl) ?_
          refine wp_store_row 63 _ _ rfl _ (cC hgt p (.slice none 0 0)).toArray rfl rfl 63 ((gS (gS (gF) 2 (cC hgt p (.slice none 0 0))) 1 (cC hgt p (.slice none 0 0))) 0).toArray (hB3.out.blk 0 (by decide)) (by rw [List.size_toArray, hln.out]; kernel_rfl) (by rw [List.size_toArray, List.size_toArray, hln.out]; exact hB3.out.len 0 (by decide)) hon.out ?_
          replace hB3 := hidp (hB3.out.set (j := 0) (by decide) hln.out)
          replace hT := hidp hB3.out.gp
          refine hK.out _ _ (hT.out) (fun hHeld' => ?_)
          clear hK K hHeld
          have hHeld := hHeld'
          clear hHeld'
          try simp only [Act.put, List.setIfInBounds_toArray, List.set_cons_zero, List.set_cons_succ]
          refine wpAnyH_done (by kernel_rfl) ?_ _
          clear hHeld
          go_wp2_with fail
          go_meet
          case rel => exact ⟨w5.heap.size + 1 + 1, w5.heap.size + 1, w5.heap.size, rfl, rfl, rfl, hidp (hB3.out.done 2 1 0 (by decide) (by decide) (by decide) (by decide) rfl rfl rfl)⟩
  case rest =>
    obtain ⟨i10, i11, i12, rfl, rfl, rfl, HG⟩ := hcut
    clear HX
    obtain ⟨s, hs⟩ : ∃ s, s = w5.heap.size := ⟨_, rfl⟩
    rw [← hs] at HG
    clear hs hBl hB4 hcn t70 t100 t200
    obtain ⟨nil3, hnil⟩ : ∃ x, x = Value.slice none 0 0 := ⟨_, rfl⟩
    have H0 := hidp (show GrL w wc (cC hgt p (.slice a l.length cap)) s i10 i11 i12 hgt p nil3 nil3 nil3 l l [] [] [] (.slice p4 n4 c4) 0 from ⟨hnil ▸ HG.out.1, HG.out.2, Gw.start l, by omega⟩)
    clear HG
    go_wp2_with fail
    go_loopw [8, 13] (fun x8 x13 wr => ∃ (i : Nat) (pl : Option Addr) (nl cl : Nat) (s10 s11 s12 : Value) (left all aa bb : List Vt), x8 = .slice pl nl cl ∧ x13 = .int .i64 i ∧ Hid (GrL w wr (cC hgt p (.slice a l.length cap)) s i10 i11 i12 hgt p s10 s11 s12 l left all aa bb (.slice pl nl cl) i)) (fun _ x13 _ => l.length - (Go.RowKit.intOf x13).toNat)
    case atStart => exact ⟨0, p4, n4, c4, nil3, nil3, nil3, l, [], [], [], rfl, rfl, H0⟩
    case round =>
      obtain ⟨i, pl, nl, cl, s10, s11, s12, left, all, aa, bb, rfl, rfl, HL⟩ := hrel
      clear H0 hnil
      have hokL := hidp (show ∀ u ∈ left, VtOk u from fun u hu => HT.out.ok u (HL.out.w.left hu))
      have hokA := hidp (show ∀ u ∈ all, VtOk u from fun u hu => HT.out.ok u (HL.out.w.inL hu))
      obtain ⟨p10, n10, d10, e10⟩ := HL.out.g.o10.sl
      obtain ⟨p11, n11, d11, e11⟩ := HL.out.g.o11.sl
      obtain ⟨p12, n12, d12, e12⟩ := HL.out.g.o12.sl
      subst e10 e11 e12
      obtain ⟨bl, _, htl, hnl, _⟩ := HL.out.f.own.tsz hokL.out
      by_cases hlt : 0 < left.length
      case pos =>
        have tnl : decide (0 < nl) = true := decide_eq_true (by omega)
        have tnz : decide ((0 : Int) < (nl : Int)) = true := decide_eq_true (by omega)
        have hnn := hidp (show nl = left.length ∧ nl ≤ 64 ∧ i < 64 ∧ i + nl = l.length from by have := HL.out.i; have := hlen.out.1; omega)
        have hpl : pl = some ⟨bl, 0, none⟩ := by obtain ⟨_, _, _, e, _⟩ := htl.at hlt; exact e
        subst hpl
        replace htl := hidp htl
        replace hlt := hidp hlt
        clear hnl
        go_upto_if 58 with fail
        go_cut [14] from 55 to 65 (fun x14 wx => wx = wr ∧ ∃ r : Nat, x14 = .int .i64 r ∧ Hid (r < left.length))
        case first =>
          by_cases hin : i < n1
          · obtain ⟨z, hz1, hz2⟩ := piece_atG (HI.out.below HL.out.g.bel) hin
            subst hz1
            have tin : decide (i < n1) = true := decide_eq_true hin
            have hiz : (i : Int) < (n1 : Int) := by omega
            have hi0 : (0 : Int) ≤ (i : Int) := by omega
            generalize zs.getD i 0 = q at hz2
            go_wp2_with fail
            refine (Pick_wide q nl _ (by have := hnn.out; have := hlt.out; omega) (by have := hnn.out; omega)).mono ?_
            rintro e wx ⟨⟨r, hr, rfl⟩, hwx⟩
            rw [hwx]
            clear hwx wx
            have hr2 := hidp (show r < left.length from by have := hnn.out; omega)
            clear hr
            go_wp2_with fail
            go_meet
            case rel => exact ⟨rfl, r, rfl, hr2⟩
          · have tin : decide (i < n1) = false := decide_eq_false hin
            have tiz : decide ((i : Int) < (n1 : Int)) = false := decide_eq_false (by omega)
            go_wp2_with fail
            go_meet
            case rel => exact ⟨rfl, 0, rfl, hidp hlt.out⟩
        case rest =>
          obtain ⟨rfl, r, rfl, hr⟩ := hcut
          obtain ⟨v, hv, hvk, _, hbl2, q0, q1⟩ := htl.out.at hr.out
          simp only [Nat.zero_add] at q0 q1
          have hrz : (0 : Int) ≤ (r : Int) := by omega
          have hrn : (r : Int) < (nl : Int) := by have := hnn.out; have := hr.out; omega
          have hs1 := hidp (show SortedT l from hVk.out.1)
          have HV := hidp (And.intro hv hvk)
          have hva := hidp (hVk.out.2.2 v (HL.out.w.left (List.mem_of_getElem? hv)))
          have hf := hidp (HL.out.w.fresh hs1.out (List.mem_of_getElem? hv))
          have hlA := hidp (show all.length ≤ 64 ∧ aa.length ≤ 64 ∧ bb.length ≤ 64 from by have := HL.out.w.len; have := hlen.out.1; omega)
          have hmA := hidp (show ∀ u ∈ all, 0 ≤ u.a ∧ u.a ≤ 63 from fun u hu => hVk.out.2.2 u (HL.out.w.inL hu))
          have hrc := hidp (show r ≤ cl ∧ r + 1 ≤ nl from by have := htl.out.le; have := hr.out; have := hnn.out; omega)
          obtain ⟨ad, had, hsrc⟩ := part_src htl.out (k := r + 1) (by have := hr.out; omega)
          have hsrcA := hidp (head_src htl.out (k := r) (by have := hr.out; omega))
          replace hsrc := hidp hsrc
          have hsl1 := fun W => run_t_hi bl nl cl r hrc.out.1 W
          have hsl2 : ∀ W, (Instr.sliceAt 61 (.slice (some ⟨bl, 0, none⟩) nl cl) (some (.int .i64 ((r : Int) + 1))) none none).run Try.prog W = .ok (.slice (some ad) (nl - (r + 1)) (cl - (r + 1))) W := fun W => by
            have q := run_t_any (some ⟨bl, 0, none⟩) nl cl (r + 1) hrc.out.2 W
            rw [had] at q
            exact q
          have hw1 : IntKind.i64.wrap ((r : Int) + 1) = (r : Int) + 1 := by have h1 := hnn.out; have h2 := hrc.out; rw [IntKind.wrap_i64]; omega
          obtain ⟨i0, hi0, hz0, hz1, hz2⟩ := info_parts info_vote
          clear hv hvk had
          go_upto_region 14 with fail
          have HL2 := hidp (HL.out.below ((Below.refl _ wc).alloc (Nat.le_refl _) (.cells #[.int .i64 v.a, .int .u64 (v.s : Nat)] 83)))
          have HB2 := hidp ((Below.refl wc.heap.size wc).alloc (Nat.le_refl _) (.cells #[.int .i64 v.a, .int .u64 (v.s : Nat)] 83))
          have KV := hidp (Blk.new wc [.int .i64 v.a, .int .u64 (v.s : Nat)] 83)
          have hvs := hidp (show s + 3 ≤ wc.heap.size from HL.out.g.sz)
          clear q0 q1 hbl2
          generalize wc.alloc (.cells #[.int .i64 v.a, .int .u64 (v.s : Nat)] 83) = wv at HL2 HB2 KV ⊢
          refine wp_region_held_drew (S := fun _ => True) (by kernel_rfl) trivial (fun hHeld => ?_)
          try simp only [Act.put, List.setIfInBounds_toArray, List.set_cons_zero, List.set_cons_succ]
          refine wpAnyH_takeTo2 (i := 1) (oi := _) (v := ?_) (some 71) rfl rfl (by kernel_rfl) (by kernel_rfl) (by kernel_rfl) (fun _ _ _ h => h) (Or.inl ⟨by rfl, ?_⟩) hHeld ?_
          rotate_left
          · intro w hSw
            go_simp
            try with_reducible rfl
          try simp only [Act.put, List.setIfInBounds_toArray, List.set_cons_zero, List.set_cons_succ]
          refine wpAnyH_takeTo2 (i := 2) (oi := _) (v := ?_) (some 72) rfl rfl (by kernel_rfl) (by kernel_rfl) (by kernel_rfl) (fun _ _ _ h => h) (Or.inl ⟨by rfl, ?_⟩) hHeld ?_
          rotate_left
          · intro w hSw
            go_simp
            try with_reducible rfl
          try simp only [Act.put, List.setIfInBounds_toArray, List.set_cons_zero, List.set_cons_succ]
          refine wpAnyH_takeTo2 (i := 3) (oi := _) (v := ?_) (some 73) rfl rfl (by kernel_rfl) (by kernel_rfl) (by kernel_rfl) (fun _ _ _ h => h) (Or.inl ⟨by rfl, ?_⟩) hHeld ?_
          rotate_left
          · intro w hSw
            go_simp
            try with_reducible rfl
          try simp only [Act.put, List.setIfInBounds_toArray, List.set_cons_zero, List.set_cons_succ]
          refine wpAnyH_takeTo2 (i := 5) (oi := _) (v := ?_) (some 75) rfl rfl (by kernel_rfl) (by kernel_rfl) (by kernel_rfl) (fun _ _ _ h => h) (Or.inl ⟨by rfl, ?_⟩) hHeld ?_
          rotate_left
          · intro w hSw
            go_simp
            try with_reducible rfl
          try simp only [Act.put, List.setIfInBounds_toArray, List.set_cons_zero, List.set_cons_succ]
          refine wpAnyH_takeTo2 (i := 6) (oi := _) (v := ?_) (some 76) rfl rfl (by kernel_rfl) (by kernel_rfl) (by kernel_rfl) (fun _ _ _ h => h) (Or.inl ⟨by rfl, ?_⟩) hHeld ?_
          rotate_left
          · intro w hSw
            go_simp
            try with_reducible rfl
          try simp only [Act.put, List.setIfInBounds_toArray, List.set_cons_zero, List.set_cons_succ]
          refine wpAnyH_takeTo2 (i := 7) (oi := _) (v := ?_) (some 77) rfl rfl (by kernel_rfl) (by kernel_rfl) (by kernel_rfl) (fun _ _ _ h => h) (Or.inl ⟨by rfl, ?_⟩) hHeld ?_
          rotate_left
          · intro w hSw
            go_simp
            try with_reducible rfl
          try simp only [Act.put, List.setIfInBounds_toArray, List.set_cons_zero, List.set_cons_succ]
          refine wpAnyH_takeTo2 (i := 8) (oi := _) (v := ?_) (some 78) rfl rfl (by kernel_rfl) (by kernel_rfl) (by kernel_rfl) (fun _ _ _ h => h) (Or.inl ⟨by rfl, ?_⟩) hHeld ?_
          rotate_left
          · intro w hSw
            go_simp
            try with_reducible rfl
          try simp only [Act.put, List.setIfInBounds_toArray, List.set_cons_zero, List.set_cons_succ]
          refine wpAnyH_ready (rs := [0]) (by kernel_rfl) (by simp) ?_
          refine AllReadyH.cons (o := _) rfl (fun K hK => ?_) AllReadyH.nil
          go_simp
          refine hK.out _ _ (trivial) (fun hHeld' => ?_)
          clear hK K hHeld
          have hHeld := hHeld'
          clear hHeld'
          try simp only [Act.put, List.setIfInBounds_toArray, List.set_cons_zero, List.set_cons_succ]
          refine wpAnyH_ready (rs := [4]) (by kernel_rfl) (by simp) ?_
          refine AllReadyH.cons (o := _) rfl (fun K hK => ?_) AllReadyH.nil
          refine if_intro (by rfl) ?_
          have hB7 := hidp (((Below.refl wv.heap.size wv).drew).alloc (Nat.le_refl _) (.cells #[] 83))
          refine wp_append_own _ _ _ 61 rfl wv.heap.size 83 i0 _ 2 16 Try.underlying61 hi0 hz0 hz1 hz2 rfl (by decide) _ 0 [] rfl (own_nothingT wv.drew) ⟨bl, 0, none⟩ r cl ((left.take r).flatMap tL) rfl (by rw [flat2, List.length_take]; have := hr.out; omega) (hsrcA.out _ (HB2.out.trans (hB7.out.mono HB2.out.size))) (flatT_one _) (by have := hrc.out; have := hnn.out; unfold maxLen; omega) (by have := hrc.out; have := hnn.out; omega) (by simp) ?_
          intro v' w7 ho7 hg7 _
          have T7 := hidp (hB7.out.grown hg7 (by simp) (fun j e => by cases e; exact Nat.le_refl _))
          have O7 := hidp (show w7.ownsRow wv.heap.size 83 2 v' r ((left.take r).flatMap tL) from by have q := ho7; rw [Nat.zero_add, List.nil_append] at q; exact q)
          clear ho7 hg7 hB7
          refine hK.out _ _ (trivial) (fun hHeld' => ?_)
          clear hK K hHeld
          have hHeld := hHeld'
          clear hHeld'
          try simp only [Act.put, List.setIfInBounds_toArray, List.set_cons_zero, List.set_cons_succ]
          refine wpAnyH_ready (rs := [9]) (by kernel_rfl) (by simp) ?_
          refine AllReadyH.cons (o := _) rfl (fun K hK => ?_) AllReadyH.nil
          refine if_intro (by rfl) ?_
          refine wp_append_own _ _ _ 61 rfl wv.heap.size 83 i0 _ 2 16 Try.underlying61 hi0 hz0 hz1 hz2 rfl (by decide) _ r _ rfl O7.out ad (nl - (r + 1)) (cl - (r + 1)) ((left.drop (r + 1)).flatMap tL) rfl (by rw [flat2, List.length_drop]; have := hnn.out; omega) (hsrc.out _ (HB2.out.trans (T7.out.mono HB2.out.size))) (flatT_one _) (by have := hrc.out; have := hnn.out; unfold maxLen; omega) (by have := hrc.out; have := hnn.out; omega) T7.out.size ?_
          intro v'' w8 ho8 hg8 _
          have T8 := hidp (T7.out.grown hg8 T7.out.size (fun k hk => (O7.out.lt k hk).1))
          have O8 := hidp (show OwnT w8 wv.heap.size v'' (outT left r) from by have q := ho8; unfold OwnT outT; rw [List.flatMap_append, List.length_append, List.length_take, List.length_drop, show min r left.length = r by have := hr.out; omega, ← hnn.out.1]; exact q)
          clear ho8 hg8 O7 T7
          obtain ⟨p8, n8, c8, hsv8⟩ := O8.out.sl
          subst hsv8
          refine hK.out _ _ (trivial) (fun hHeld' => ?_)
          clear hK K hHeld
          have hHeld := hHeld'
          clear hHeld'
          try simp only [Act.put, List.setIfInBounds_toArray, List.set_cons_zero, List.set_cons_succ]
          refine wpAnyH_takeTo2 (i := 10) (oi := _) (v := ?_) (some 8) rfl rfl (by kernel_rfl) (by kernel_rfl) (by kernel_rfl) (fun _ _ _ h => h) (Or.inl ⟨by rfl, ?_⟩) hHeld ?_
          rotate_left
          · intro w hSw
            go_simp
            try with_reducible rfl
          try simp only [Act.put, List.setIfInBounds_toArray, List.set_cons_zero, List.set_cons_succ]
          refine wpAnyH_done (by kernel_rfl) ?_ _
          clear hHeld
          have HG8 := hidp (HL2.out.g.below T8.out)
          have HF8 := hidp (show Lef w8 s (.slice p8 n8 c8) (outT left r) from ⟨O8.out.base (Nat.zero_le _), fun k hk => .inr (by have := (O8.out.lt hk).1; have := HB2.out.size; have := hvs.out; omega)⟩)
          have KV8 := hidp (T8.out.blk' KV.out)
          have HWW := hidp (And.intro HL2.out.w HL2.out.i)
          have hkv := hidp (show s + 3 ≤ wc.heap.size ∧ wc.heap.size < w8.heap.size from ⟨hvs.out, by have := KV8.out.lt; omega⟩)
          clear HL HL2 HB2 KV O8 T8 hvs hsrc hsrcA hsl1 hsl2 hw1 htl
          have hl10 := hidp (cC_len (h := hgt) (sl := .slice p10 n10 d10) hpp.out.1)
          have hl11 := hidp (cC_len (h := hgt) (sl := .slice p11 n11 d11) hpp.out.1)
          have hl12 := hidp (cC_len (h := hgt) (sl := .slice p12 n12 d12) hpp.out.1)
          have K10 := hidp HG8.out.k10
          go_wp2_with first
            | (with_reducible refine (?_ : wpList _ _ _ _ _ _); refine wpList_load_blkD' 81 rfl (by kernel_rfl) 63 _ rfl (i10) (cC hgt p (.slice p10 n10 d10)) 63 rfl (K10.out) _ Try.underlying63 rfl (by rw [hl10.out]; kernel_rfl) ?_)
            | (with_reducible refine (?_ : wpList _ _ _ _ _ _); refine wpList_load_blkD' 82 rfl (by kernel_rfl) 83 _ rfl (wc.heap.size) [.int .i64 v.a, .int .u64 (v.s : Nat)] 83 rfl (KV8.out) _ Try.underlying83 rfl (by kernel_rfl) ?_)
          refine (gadd_any hpp.out.1 HG8.out.o10 hokA.out (chkC_mk hO.out.1 hlA.out.1 HWW.out.1.sall hmA.out) hva.out hf.out).mono ?_
          rintro e w9 ⟨pb, nb, cb, rfl, ho, hb⟩
          replace HG8 := hidp (HG8.out.below hb)
          replace HF8 := hidp (HF8.out.below hb)
          replace KV8 := hidp (hb.blk' KV8.out)
          have O9 := hidp (ho.base (show s + 3 ≤ w8.heap.size by have := hkv.out; omega))
          have hz9 := hidp hb.size
          clear ho hb K10
          have hlN := hidp (cC_len (h := hgt) (sl := .slice pb nb cb) hpp.out.1)
          have hoN := hidp (cC_one hgt p pb nb cb)
          go_wp2_with first
            | (with_reducible refine (?_ : wpList _ _ _ _ _ _); refine wpList_store_blk rfl 63 _ _ rfl (w9.heap.size) (cC hgt p (.slice pb nb cb)) (cC 0 zh32 (.slice none 0 0)) 63 rfl rfl ((Blk.new w9 (cC 0 zh32 (.slice none 0 0)) _)) (by rw [hlN.out]; kernel_rfl) ((hl0.out).trans (hlN.out).symm) (hoN.out) ?_; intro w10 hw10; have N10 := hidp (new_row hw10.out rfl); have KVa := hidp (N10.out.1.blk' KV8.out); have kv0 := KVa.out.cell 0; simp only [List.getElem?_cons_zero] at kv0)
            | (with_reducible refine (?_ : wpList _ _ _ _ _ _); refine wpList_load_blkD' 87 rfl (by kernel_rfl) 63 _ rfl (w9.heap.size) (cC hgt p (.slice pb nb cb)) 63 rfl (N10.out.2) _ Try.underlying63 rfl (by rw [hlN.out]; kernel_rfl) ?_)
          replace HG8 := hidp (HG8.out.below N10.out.1)
          replace HF8 := hidp (HF8.out.below N10.out.1)
          replace O9 := hidp (O9.out.below N10.out.1)
          have KN := hidp N10.out.2
          have hokN := hidp (show ∀ u ∈ insV all v, VtOk u from fun u hu => (insV_mem hu).elim (fun e => e ▸ HV.out.2) (hokA.out u))
          clear hw10 KV8 N10
          refine (gof_any hpp.out.1 O9.out hokN.out HWW.out.1.sall hf.out (by have := hlA.out.1; omega)).mono ?_
          rintro e w11 ⟨rfl, hb⟩
          replace HG8 := hidp (HG8.out.below hb)
          replace HF8 := hidp (HF8.out.below hb)
          replace O9 := hidp (O9.out.below hb)
          replace KN := hidp (hb.blk' KN.out)
          replace KVa := hidp (hb.blk' KVa.out)
          clear hb kv0
          have kv1 := KVa.out.cell 1
          simp only [List.getElem?_cons_succ, List.getElem?_cons_zero] at kv1
          have K10 := hidp HG8.out.k10
          go_upto_region 20 with first
            | (with_reducible refine (?_ : wpList _ _ _ _ _ _); refine wpList_load_blkD' 105 rfl (by kernel_rfl) 63 _ rfl (w9.heap.size) (cC hgt p (.slice pb nb cb)) 63 rfl (KN.out) _ Try.underlying63 rfl (by rw [hlN.out]; kernel_rfl) ?_)
            | (with_reducible refine (?_ : wpList _ _ _ _ _ _); refine wpList_store_blk rfl 63 _ _ rfl (i10) (cC hgt p (.slice pb nb cb)) (cC hgt p (.slice p10 n10 d10)) 63 rfl rfl (K10.out) (by rw [hlN.out]; kernel_rfl) ((hl10.out).trans (hlN.out).symm) (hoN.out) ?_; intro w12 hw12; have HG12 := hidp (hw12.out ▸ HG8.out.set10 O9.out : GrB w w12 (cC hgt p (.slice a l.length cap)) s i10 i11 i12 hgt p (.slice pb nb cb) (.slice p11 n11 d11) (.slice p12 n12 d12) (insV all v) aa bb))
          have HF12 := hidp (hw12.out ▸ HF8.out.set HG8.out.r10 _ : Lef w12 s (.slice p8 n8 c8) (outT left r))
          have KV12 := hidp (show Blk w12 wc.heap.size [.int .i64 v.a, .int .u64 (v.s : Nat)] 83 from hw12.out ▸ ((But.refl i10 w11).setRow _).blk KVa.out (by have := HG8.out.r10; have := hkv.out; omega))
          have hlow := hidp (show s + 3 ≤ w12.heap.size from HG12.out.sz)
          clear HG8 HF8 KVa kv1 K10 KN hw12 O9
          try simp only [Act.put, List.setIfInBounds_toArray, List.set_cons_zero, List.set_cons_succ]
          by_cases hin : i < bs.length
          · obtain ⟨y, hy, ha2, hcy⟩ := (HP.out.below HG12.out.bel).at hin
            subst ha2
            have tin : decide (i < bs.length) = true := decide_eq_true hin
            have hiz : (i : Int) < (bs.length : Int) := by omega
            have hi0 : (0 : Int) ≤ (i : Int) := by omega
            have hadd := w64_nat (n := i) (by have := hnn.out; omega)
            clear hin hy
            cases y
            · skip
              have KX := hidp HG12.out.k12
              go_wp2_with first
                | (with_reducible refine (?_ : wpList _ _ _ _ _ _); refine wpList_load_blkD' 123 rfl (by kernel_rfl) 63 _ rfl (i12) (cC hgt p (.slice p12 n12 d12)) 63 rfl (KX.out) _ Try.underlying63 rfl (by rw [hl12.out]; kernel_rfl) ?_)
                | (with_reducible refine (?_ : wpList _ _ _ _ _ _); refine wpList_load_blkD' 124 rfl (by kernel_rfl) 83 _ rfl (wc.heap.size) [.int .i64 v.a, .int .u64 (v.s : Nat)] 83 rfl (KV12.out) _ Try.underlying83 rfl (by kernel_rfl) ?_)
              refine (gadd_any hpp.out.1 HG12.out.o12 (fun u hu => hokA.out u (HWW.out.1.inb hu)) (chkC_mk hO.out.1 hlA.out.2.2 HWW.out.1.sb (fun u hu => hmA.out u (HWW.out.1.inb hu))) hva.out (fun u hu => hf.out u (HWW.out.1.inb hu))).mono ?_
              rintro e w13 ⟨pd, nd, cd, rfl, ho, hb⟩
              replace HG12 := hidp (HG12.out.below hb)
              replace HF12 := hidp (HF12.out.below hb)
              have O13 := hidp (ho.base hlow.out)
              clear ho hb KX KV12
              have KX := hidp HG12.out.k12
              have hlD := hidp (cC_len (h := hgt) (sl := .slice pd nd cd) hpp.out.1)
              have hoD := hidp (cC_one hgt p pd nd cd)
              go_wp2_with first
                | (with_reducible refine (?_ : wpList _ _ _ _ _ _); refine wpList_store_blk rfl 63 _ _ rfl (i12) (cC hgt p (.slice pd nd cd)) (cC hgt p (.slice p12 n12 d12)) 63 rfl rfl (KX.out) (by rw [hlD.out]; kernel_rfl) ((hl12.out).trans (hlD.out).symm) (hoD.out) ?_; intro w14 hw14; have HG14 := hidp (hw14.out ▸ HG12.out.set12 O13.out : GrB w w14 (cC hgt p (.slice a l.length cap)) s i10 i11 i12 hgt p (.slice pb nb cb) (.slice p11 n11 d11) (.slice pd nd cd) (insV all v) aa (insV bb v)); have HF14 := hidp (hw14.out ▸ HF12.out.set HG12.out.r12 _ : Lef w14 s (.slice p8 n8 c8) (outT left r)))
              rw [hadd]
              exact ⟨⟨i + 1, p8, n8, c8, .slice pb nb cb, .slice p11 n11 d11, .slice pd nd cd, outT left r, insV all v, aa, insV bb v, rfl, rfl, hidp ⟨HG14.out, HF14.out, HWW.out.1.nextB hs1.out HV.out.1, by have := HWW.out.2; have := outT_len hr.out; omega⟩⟩, by have := hnn.out; show l.length - ((i + 1 : Nat) : Int).toNat < l.length - ((i : Nat) : Int).toNat; omega⟩
            · skip
              have KX := hidp HG12.out.k11
              go_wp2_with first
                | (with_reducible refine (?_ : wpList _ _ _ _ _ _); refine wpList_load_blkD' 117 rfl (by kernel_rfl) 63 _ rfl (i11) (cC hgt p (.slice p11 n11 d11)) 63 rfl (KX.out) _ Try.underlying63 rfl (by rw [hl11.out]; kernel_rfl) ?_)
                | (with_reducible refine (?_ : wpList _ _ _ _ _ _); refine wpList_load_blkD' 118 rfl (by kernel_rfl) 83 _ rfl (wc.heap.size) [.int .i64 v.a, .int .u64 (v.s : Nat)] 83 rfl (KV12.out) _ Try.underlying83 rfl (by kernel_rfl) ?_)
              refine (gadd_any hpp.out.1 HG12.out.o11 (fun u hu => hokA.out u (HWW.out.1.ina hu)) (chkC_mk hO.out.1 hlA.out.2.1 HWW.out.1.sa (fun u hu => hmA.out u (HWW.out.1.ina hu))) hva.out (fun u hu => hf.out u (HWW.out.1.ina hu))).mono ?_
              rintro e w13 ⟨pd, nd, cd, rfl, ho, hb⟩
              replace HG12 := hidp (HG12.out.below hb)
              replace HF12 := hidp (HF12.out.below hb)
              have O13 := hidp (ho.base hlow.out)
              clear ho hb KX KV12
              have KX := hidp HG12.out.k11
              have hlD := hidp (cC_len (h := hgt) (sl := .slice pd nd cd) hpp.out.1)
              have hoD := hidp (cC_one hgt p pd nd cd)
              go_wp2_with first
                | (with_reducible refine (?_ : wpList _ _ _ _ _ _); refine wpList_store_blk rfl 63 _ _ rfl (i11) (cC hgt p (.slice pd nd cd)) (cC hgt p (.slice p11 n11 d11)) 63 rfl rfl (KX.out) (by rw [hlD.out]; kernel_rfl) ((hl11.out).trans (hlD.out).symm) (hoD.out) ?_; intro w14 hw14; have HG14 := hidp (hw14.out ▸ HG12.out.set11 O13.out : GrB w w14 (cC hgt p (.slice a l.length cap)) s i10 i11 i12 hgt p (.slice pb nb cb) (.slice pd nd cd) (.slice p12 n12 d12) (insV all v) (insV aa v) bb); have HF14 := hidp (hw14.out ▸ HF12.out.set HG12.out.r11 _ : Lef w14 s (.slice p8 n8 c8) (outT left r)))
              rw [hadd]
              exact ⟨⟨i + 1, p8, n8, c8, .slice pb nb cb, .slice pd nd cd, .slice p12 n12 d12, outT left r, insV all v, insV aa v, bb, rfl, rfl, hidp ⟨HG14.out, HF14.out, HWW.out.1.nextA hs1.out HV.out.1, by have := HWW.out.2; have := outT_len hr.out; omega⟩⟩, by have := hnn.out; show l.length - ((i + 1 : Nat) : Int).toNat < l.length - ((i : Nat) : Int).toNat; omega⟩
          · have tin : decide (i < bs.length) = false := decide_eq_false hin
            have tiz : decide ((i : Int) < (bs.length : Int)) = false := decide_eq_false (by omega)
            have hadd := w64_nat (n := i) (by have := hnn.out; omega)
            clear hin
            have KX := hidp HG12.out.k12
            go_wp2_with first
              | (with_reducible refine (?_ : wpList _ _ _ _ _ _); refine wpList_load_blkD' 123 rfl (by kernel_rfl) 63 _ rfl (i12) (cC hgt p (.slice p12 n12 d12)) 63 rfl (KX.out) _ Try.underlying63 rfl (by rw [hl12.out]; kernel_rfl) ?_)
              | (with_reducible refine (?_ : wpList _ _ _ _ _ _); refine wpList_load_blkD' 124 rfl (by kernel_rfl) 83 _ rfl (wc.heap.size) [.int .i64 v.a, .int .u64 (v.s : Nat)] 83 rfl (KV12.out) _ Try.underlying83 rfl (by kernel_rfl) ?_)
            refine (gadd_any hpp.out.1 HG12.out.o12 (fun u hu => hokA.out u (HWW.out.1.inb hu)) (chkC_mk hO.out.1 hlA.out.2.2 HWW.out.1.sb (fun u hu => hmA.out u (HWW.out.1.inb hu))) hva.out (fun u hu => hf.out u (HWW.out.1.inb hu))).mono ?_
            rintro e w13 ⟨pd, nd, cd, rfl, ho, hb⟩
            replace HG12 := hidp (HG12.out.below hb)
            replace HF12 := hidp (HF12.out.below hb)
            have O13 := hidp (ho.base hlow.out)
            clear ho hb KX KV12
            have KX := hidp HG12.out.k12
            have hlD := hidp (cC_len (h := hgt) (sl := .slice pd nd cd) hpp.out.1)
            have hoD := hidp (cC_one hgt p pd nd cd)
            go_wp2_with first
              | (with_reducible refine (?_ : wpList _ _ _ _ _ _); refine wpList_store_blk rfl 63 _ _ rfl (i12) (cC hgt p (.slice pd nd cd)) (cC hgt p (.slice p12 n12 d12)) 63 rfl rfl (KX.out) (by rw [hlD.out]; kernel_rfl) ((hl12.out).trans (hlD.out).symm) (hoD.out) ?_; intro w14 hw14; have HG14 := hidp (hw14.out ▸ HG12.out.set12 O13.out : GrB w w14 (cC hgt p (.slice a l.length cap)) s i10 i11 i12 hgt p (.slice pb nb cb) (.slice p11 n11 d11) (.slice pd nd cd) (insV all v) aa (insV bb v)); have HF14 := hidp (hw14.out ▸ HF12.out.set HG12.out.r12 _ : Lef w14 s (.slice p8 n8 c8) (outT left r)))
            rw [hadd]
            exact ⟨⟨i + 1, p8, n8, c8, .slice pb nb cb, .slice p11 n11 d11, .slice pd nd cd, outT left r, insV all v, aa, insV bb v, rfl, rfl, hidp ⟨HG14.out, HF14.out, HWW.out.1.nextB hs1.out HV.out.1, by have := HWW.out.2; have := outT_len hr.out; omega⟩⟩, by have := hnn.out; show l.length - ((i + 1 : Nat) : Int).toNat < l.length - ((i : Nat) : Int).toNat; omega⟩
      case neg =>
        have hl0' : left = [] := List.eq_nil_of_length_eq_zero (by omega)
        subst hl0'
        have tnl : decide (0 < nl) = false := decide_eq_false (by simp at hnl; omega)
        have tnz : decide ((0 : Int) < (nl : Int)) = false := decide_eq_false (by simp at hnl; omega)
        have hD := hidp (HL.out.w.done (h := hgt) (p := p) hcc.out)
        have hal := hidp hD.out.1
        have HG8 := hidp HL.out.g
        have hall : Hid (TsN wr p10 n10 d10 l) := hidp (by have q := HL.out.g.o10.tsn hokA.out; rw [hal.out] at q; exact q)
        have haa := hidp (HL.out.g.o11.tsn (fun u hu => hokA.out u (HL.out.w.ina hu)))
        have hbb := hidp (HL.out.g.o12.tsn (fun u hu => hokA.out u (HL.out.w.inb hu)))
        have hX := hidp (show TsN wr a l.length cap l from ⟨b, o, HT.out.below HL.out.g.bel, rfl⟩)
        have hl10 := hidp (cC_len (h := hgt) (sl := .slice p10 n10 d10) hpp.out.1)
        have hl11 := hidp (cC_len (h := hgt) (sl := .slice p11 n11 d11) hpp.out.1)
        have hl12 := hidp (cC_len (h := hgt) (sl := .slice p12 n12 d12) hpp.out.1)
        clear HL htl hnl hlt
        have G3 := hidp HG8.out.k3
        have G10 := hidp HG8.out.k10
        have G11 := hidp HG8.out.k11
        have G12 := hidp HG8.out.k12
        go_wp2_with first
          | (with_reducible refine (?_ : wpList _ _ _ _ _ _); refine wpList_load_blkD' 132 rfl (by kernel_rfl) 63 _ rfl (i10) (cC hgt p (.slice p10 n10 d10)) 63 rfl (G10.out) _ Try.underlying63 rfl (by rw [hl10.out]; kernel_rfl) ?_)
          | (with_reducible refine (?_ : wpList _ _ _ _ _ _); refine wpList_load_blkD' 133 rfl (by kernel_rfl) 63 _ rfl (w.heap.size) (cC hgt p (.slice a l.length cap)) 63 rfl (G3.out) _ Try.underlying63 rfl (by rw [hl1.out]; kernel_rfl) ?_)
        refine (gsame_any hpp.out.1 hall.out hX.out (by have := hlen.out.1; omega)).mono ?_
        rintro e x1 ⟨rfl, hb⟩
        replace HG8 := hidp (HG8.out.below hb)
        replace hall := hidp (hall.out.below hb)
        replace haa := hidp (haa.out.below hb)
        replace hbb := hidp (hbb.out.below hb)
        replace hX := hidp (hX.out.below hb)
        replace G3 := hidp (hb.blk' G3.out)
        replace G10 := hidp (hb.blk' G10.out)
        replace G11 := hidp (hb.blk' G11.out)
        replace G12 := hidp (hb.blk' G12.out)
        clear hb
        go_wp2_with first
          | (with_reducible refine (?_ : wpList _ _ _ _ _ _); refine wpList_load_blkD' 137 rfl (by kernel_rfl) 63 _ rfl (i11) (cC hgt p (.slice p11 n11 d11)) 63 rfl (G11.out) _ Try.underlying63 rfl (by rw [hl11.out]; kernel_rfl) ?_)
          | (with_reducible refine (?_ : wpList _ _ _ _ _ _); refine wpList_load_blkD' 138 rfl (by kernel_rfl) 63 _ rfl (i12) (cC hgt p (.slice p12 n12 d12)) 63 rfl (G12.out) _ Try.underlying63 rfl (by rw [hl12.out]; kernel_rfl) ?_)
          | (with_reducible refine (?_ : wpList _ _ _ _ _ _); refine wpList_load_blkD' 139 rfl (by kernel_rfl) 63 _ rfl (w.heap.size) (cC hgt p (.slice a l.length cap)) 63 rfl (G3.out) _ Try.underlying63 rfl (by rw [hl1.out]; kernel_rfl) ?_)
        refine (gjoins_any hpp.out.1 haa.out hbb.out hX.out hD.out.2.1).mono ?_
        rintro e y0 ⟨rfl, hb⟩
        replace HG8 := hidp (HG8.out.below hb)
        replace hall := hidp (hall.out.below hb)
        replace haa := hidp (haa.out.below hb)
        replace hbb := hidp (hbb.out.below hb)
        replace hX := hidp (hX.out.below hb)
        replace G3 := hidp (hb.blk' G3.out)
        replace G10 := hidp (hb.blk' G10.out)
        replace G11 := hidp (hb.blk' G11.out)
        replace G12 := hidp (hb.blk' G12.out)
        clear hb
        go_wp2_with first
          | (with_reducible refine (?_ : wpList _ _ _ _ _ _); refine wpList_load_blkD' 143 rfl (by kernel_rfl) 63 _ rfl (i12) (cC hgt p (.slice p12 n12 d12)) 63 rfl (G12.out) _ Try.underlying63 rfl (by rw [hl12.out]; kernel_rfl) ?_)
          | (with_reducible refine (?_ : wpList _ _ _ _ _ _); refine wpList_load_blkD' 144 rfl (by kernel_rfl) 63 _ rfl (i11) (cC hgt p (.slice p11 n11 d11)) 63 rfl (G11.out) _ Try.underlying63 rfl (by rw [hl11.out]; kernel_rfl) ?_)
          | (with_reducible refine (?_ : wpList _ _ _ _ _ _); refine wpList_load_blkD' 145 rfl (by kernel_rfl) 63 _ rfl (w.heap.size) (cC hgt p (.slice a l.length cap)) 63 rfl (G3.out) _ Try.underlying63 rfl (by rw [hl1.out]; kernel_rfl) ?_)
        refine (gjoins_any hpp.out.1 hbb.out haa.out hX.out hD.out.2.2.1).mono ?_
        rintro e y1 ⟨rfl, hb⟩
        replace HG8 := hidp (HG8.out.below hb)
        replace hall := hidp (hall.out.below hb)
        replace haa := hidp (haa.out.below hb)
        replace hbb := hidp (hbb.out.below hb)
        replace hX := hidp (hX.out.below hb)
        replace G3 := hidp (hb.blk' G3.out)
        replace G10 := hidp (hb.blk' G10.out)
        replace G11 := hidp (hb.blk' G11.out)
        replace G12 := hidp (hb.blk' G12.out)
        clear hb
        go_wp2_with first
          | (with_reducible refine (?_ : wpList _ _ _ _ _ _); refine wpList_load_blkD' 149 rfl (by kernel_rfl) 63 _ rfl (w.heap.size) (cC hgt p (.slice a l.length cap)) 63 rfl (G3.out) _ Try.underlying63 rfl (by rw [hl1.out]; kernel_rfl) ?_)
          | (with_reducible refine (?_ : wpList _ _ _ _ _ _); refine wpList_load_blkD' 150 rfl (by kernel_rfl) 63 _ rfl (i11) (cC hgt p (.slice p11 n11 d11)) 63 rfl (G11.out) _ Try.underlying63 rfl (by rw [hl11.out]; kernel_rfl) ?_)
          | (with_reducible refine (?_ : wpList _ _ _ _ _ _); refine wpList_load_blkD' 151 rfl (by kernel_rfl) 63 _ rfl (w.heap.size) (cC hgt p (.slice a l.length cap)) 63 rfl (G3.out) _ Try.underlying63 rfl (by rw [hl1.out]; kernel_rfl) ?_)
        refine (gjoins_any hpp.out.1 hX.out haa.out hX.out hD.out.2.2.2.1).mono ?_
        rintro e y2 ⟨rfl, hb⟩
        replace HG8 := hidp (HG8.out.below hb)
        replace hall := hidp (hall.out.below hb)
        replace haa := hidp (haa.out.below hb)
        replace hbb := hidp (hbb.out.below hb)
        replace hX := hidp (hX.out.below hb)
        replace G3 := hidp (hb.blk' G3.out)
        replace G10 := hidp (hb.blk' G10.out)
        replace G11 := hidp (hb.blk' G11.out)
        replace G12 := hidp (hb.blk' G12.out)
        clear hb
        go_wp2_with first
          | (with_reducible refine (?_ : wpList _ _ _ _ _ _); refine wpList_load_blkD' 155 rfl (by kernel_rfl) 63 _ rfl (i11) (cC hgt p (.slice p11 n11 d11)) 63 rfl (G11.out) _ Try.underlying63 rfl (by rw [hl11.out]; kernel_rfl) ?_)
          | (with_reducible refine (?_ : wpList _ _ _ _ _ _); refine wpList_load_blkD' 156 rfl (by kernel_rfl) 63 _ rfl (i11) (cC hgt p (.slice p11 n11 d11)) 63 rfl (G11.out) _ Try.underlying63 rfl (by rw [hl11.out]; kernel_rfl) ?_)
          | (with_reducible refine (?_ : wpList _ _ _ _ _ _); refine wpList_load_blkD' 157 rfl (by kernel_rfl) 63 _ rfl (i11) (cC hgt p (.slice p11 n11 d11)) 63 rfl (G11.out) _ Try.underlying63 rfl (by rw [hl11.out]; kernel_rfl) ?_)
        refine (gjoins_any hpp.out.1 haa.out haa.out haa.out hD.out.2.2.2.2).mono ?_
        rintro e y3 ⟨rfl, hb⟩
        replace HG8 := hidp (HG8.out.below hb)
        replace hall := hidp (hall.out.below hb)
        replace haa := hidp (haa.out.below hb)
        replace hbb := hidp (hbb.out.below hb)
        replace hX := hidp (hX.out.below hb)
        replace G3 := hidp (hb.blk' G3.out)
        replace G10 := hidp (hb.blk' G10.out)
        replace G11 := hidp (hb.blk' G11.out)
        replace G12 := hidp (hb.blk' G12.out)
        clear hb
        go_wp2
        go_ret
        exact ⟨rfl, HG8.out.bel⟩
theorem cgrows_any (hgt : Int) (p : List Nat) (a : Option Addr) (b o cap : Nat) (l : List Vt) (a1 : Option Addr) (n1 c1 : Nat) (zs : List Int) (a2 : Option Addr) (b2 o2 c2 : Nat) (bs : List Bool) (w : World) (hp : Bytes 32 p) (hT : Ts w a b o cap l) (hz : a = none → cap = 0) (hr1 : IsRow .i64 w a1 n1 c1 zs) (hr2 : Bo w a2 b2 o2 c2 bs) : Calls Try.prog 7 #[.agg (cC hgt p (.slice a l.length cap)).toArray, .slice a1 n1 c1, .slice a2 bs.length c2] w fun e w' => e = .returned (.bool true) ∧ Below w.heap.size w w' := by
  by_cases h70 : 70 < l.length
  · exact cgrows_l1 hgt p a b o cap l a1 n1 c1 zs a2 b2 o2 c2 bs w hp hT hz hr1 hr2 h70
  by_cases h100 : 100 < n1
  · exact cgrows_l2 hgt p a b o cap l a1 n1 c1 zs a2 b2 o2 c2 bs w hp hT hz hr1 hr2 h70 h100
  by_cases h200 : 100 < bs.length
  · exact cgrows_l3 hgt p a b o cap l a1 n1 c1 zs a2 b2 o2 c2 bs w hp hT hz hr1 hr2 h70 h100 h200
  by_cases hc : chkC hgt l = 0
  · exact cgrows_in hgt p a b o cap l a1 n1 c1 zs a2 b2 o2 c2 bs w hp hT hz hr1 hr2 h70 h100 h200 hc
  · exact cgrows_l4 hgt p a b o cap l a1 n1 c1 zs a2 b2 o2 c2 bs w hp hT hz hr1 hr2 h70 h100 h200 hc
end Go.Proofs.Ytbhkjflpkpkdlaa
