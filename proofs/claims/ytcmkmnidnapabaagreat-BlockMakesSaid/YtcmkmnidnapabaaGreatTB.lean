/-
  Texts L7e, L7f, L7g, L7h, one behind the other.
-/
import Derived.Test.YtcmkmnidnapabaaGreatTA
import Derived.Deep.RegionHeld3
import Derived.Deep.WholeRow
import Derived.Deep.MidRow
import Derived.Test.YtcmkmnidnapabaaGreatLh
import Derived.Deep.LoopGhost

/-! L7e: Commit: slices.Insert between others, with no room. -/
namespace Go.Proofs.YtcmkmnidnapabaaGreat
open Go.RowKit Go.Lib
set_option linter.unusedSimpArgs false

end Go.Proofs.YtcmkmnidnapabaaGreat

/-! L7f: Commit: Insert at any place; Add. -/
namespace Go.Proofs.YtcmkmnidnapabaaGreat
open Go.RowKit Go.Lib
set_option linter.unusedSimpArgs false

/-- Votes with one more, in order. -/
def insV (l : List Vt) (v : Vt) : List Vt := l.takeWhile (fun u => decide (u.a < v.a)) ++ v :: l.dropWhile (fun u => decide (u.a < v.a))
theorem Cut.insV {l : List Vt} {v : Vt} {i : Nat} (h : Cut l v.a i) : insT l i v = insV l v := by
  have key : ∀ (l : List Vt) (i : Nat), Cut l v.a i → l.takeWhile (fun u => decide (u.a < v.a)) = l.take i ∧ l.dropWhile (fun u => decide (u.a < v.a)) = l.drop i := by
    intro l
    induction l with
    | nil => intro i _; simp
    | cons x l ih =>
      intro i hc
      cases i with
      | zero =>
        have := hc.hi 0 x (Nat.le_refl _) rfl
        simp [show ¬ x.a < v.a by omega]
      | succ i =>
        have hx := hc.lo 0 x (by omega) rfl
        obtain ⟨h1, h2⟩ := ih i ⟨by have := hc.le; simp at this; omega, fun m u hm hu => hc.lo (m + 1) u (by omega) (by simpa using hu), fun m u hm hu => hc.hi (m + 1) u (by omega) (by simpa using hu)⟩
        simp [hx, h1, h2]
  obtain ⟨h1, h2⟩ := key l i h
  unfold insT Go.Proofs.YtcmkmnidnapabaaGreat.insV
  rw [h1, h2]
def zh32 : List Nat := List.replicate 32 0
theorem zh32_bytes : Bytes 32 zh32 := ⟨rfl, fun x hx => by rw [List.eq_of_mem_replicate hx]; decide⟩
theorem zero_com : (Tryz.prog.info? 82).map (fun i => (i.zero, i.size)) = some (some (.agg (cC 0 zh32 (.slice none 0 0)).toArray), 34) := by kernel_rfl
/-- What makes a commit tells: a commit, an error. -/
structure CR where
  h : Int
  p : List Nat
  l : List Vt
  e : Nat
def crE (e : Nat) : CR := ⟨0, zh32, [], e⟩
def CRP (w : World) (r : CR) (e : Ending) (w' : World) : Prop := ∃ sv, e = .returned (.tuple #[.agg (cC r.h r.p sv).toArray, .int .i64 (r.e : Nat)]) ∧ OwnT w' w.heap.size sv r.l ∧ Below w.heap.size w w'
def addO (h : Int) (p : List Nat) (l : List Vt) (v : Vt) : CR := if chkC h l ≠ 0 then crE (chkC h l) else if isP v.a = false then crE 3 else if hasT l v.a = true then crE 8 else ⟨h, p, insV l v, 0⟩
theorem chkC_ok {h : Int} {l : List Vt} (hc : chkC h l = 0) : (1 ≤ h ∧ h ≤ 1073741824) ∧ l.length ≤ 64 ∧ chkV (-1) l = 0 := by
  unfold chkC at hc
  split at hc
  · cases hc
  · split at hc
    · cases hc
    · exact ⟨by omega, by omega, hc⟩
theorem nextV_ok {q : Int} {v : Vt} (h : nextV q v = 0) : (0 ≤ v.a ∧ v.a ≤ 63) ∧ q < v.a := by
  unfold nextV at h
  split at h
  · cases h
  · split at h
    · cases h
    · omega
theorem chkV_ok : ∀ {l : List Vt} {q : Int}, chkV q l = 0 → SortedT l ∧ (∀ v ∈ l, q < v.a) ∧ ∀ v ∈ l, 0 ≤ v.a ∧ v.a ≤ 63
  | [], _, _ => ⟨List.Pairwise.nil, by simp, by simp⟩
  | u :: l, q, h => by
    simp only [chkV] at h
    by_cases h0 : nextV q u = 0
    · rw [if_pos h0] at h
      obtain ⟨h1, h2, h3⟩ := chkV_ok h
      obtain ⟨n1, n2⟩ := nextV_ok h0
      refine ⟨List.pairwise_cons.2 ⟨h2, h1⟩, fun v hv => ?_, fun v hv => ?_⟩
      · rcases List.mem_cons.1 hv with rfl | hv
        · exact n2
        · have := h2 v hv; omega
      · rcases List.mem_cons.1 hv with rfl | hv
        · exact n1
        · exact h3 v hv
    · rw [if_neg h0] at h; exact absurd h h0

/-- The boxes of Add. -/
structure AddB (w W : World) (h : Int) (p : List Nat) (sl : Value) (v : Vt) : Prop where
  kc : Blk W w.heap.size (cC h p sl) 82
  kv : Blk W (w.heap.size + 1) (tL v) 169
  kr : Blk W (w.heap.size + 2) (cC 0 zh32 (.slice none 0 0)) 82
  bel : Below w.heap.size w W
theorem AddB.below {w W W' : World} {h : Int} {p : List Nat} {sl : Value} {v : Vt} (H : AddB w W h p sl v) (hb : Below W.heap.size W W') : AddB w W' h p sl v := ⟨hb.blk' H.kc, hb.blk' H.kv, hb.blk' H.kr, H.bel.trans (hb.mono H.bel.size)⟩
theorem AddB.lt {w W : World} {h : Int} {p : List Nat} {sl : Value} {v : Vt} (H : AddB w W h p sl v) : w.heap.size + 2 < W.heap.size := H.kr.lt
theorem cC_set {h : Int} {p : List Nat} {sl s2 : Value} (hp : p.length = 32) : (cC h p sl).set 33 s2 = cC h p s2 := by
  have l1 : (bvs p).length = 32 := by rw [bvs_len, hp]
  unfold cC
  rw [List.set_cons_succ, List.set_append_right 32 _ (by omega), l1]
  rfl
theorem OwnT.slice {w : World} {B : Nat} {v : Value} {l : List Vt} (h : OwnT w B v l) : ∃ p c, v = .slice p l.length c ∧ (p = none → c = 0) := by
  rcases h.2 with ⟨h1, h2⟩ | ⟨g, cap, cur, h1, _⟩
  · exact ⟨none, 0, by rw [h1, h2], fun _ => rfl⟩
  · exact ⟨_, cap, h1, fun e => by cases e⟩
theorem AddB.drew {w W : World} {h : Int} {p : List Nat} {sl : Value} {v : Vt} (H : AddB w W h p sl v) : AddB w W.drew h p sl v := ⟨H.kc.drew, H.kv.drew, H.kr.drew, H.bel.drew⟩
theorem AddB.set {w W : World} {h : Int} {p : List Nat} {sl : Value} {v : Vt} (H : AddB w W h p sl v) (hp : p.length = 32) (s2 : Value) : AddB w (W.setCell ⟨w.heap.size, 33, none⟩ s2) h p s2 v :=
  ⟨cC_set hp ▸ H.kc.set 33 s2, H.kv.other _ _ (by simp), H.kr.other _ _ (by simp), H.bel.setCell (p := ⟨w.heap.size, 33, none⟩) (Nat.le_refl _) s2⟩
/-- Behind Clone, ahead of Insert. -/
def AddK (w3 w4 : World) (v4 : Value) (l : List Vt) : Prop := OwnT w4 w3.heap.size v4 l ∧ Below w3.heap.size w3 w4
end Go.Proofs.YtcmkmnidnapabaaGreat

/-! L7g: Commit: the votes of two lists together. -/
namespace Go.Proofs.YtcmkmnidnapabaaGreat
open Go.RowKit Go.Lib
set_option linter.unusedSimpArgs false

def stepU (all : List Vt) (v : Vt) : Option (List Vt) := match ofT all v.a with | none => some (insV all v) | some u => if u.s = v.s then some all else none
def uniV : List Vt → List Vt → Option (List Vt)
  | a, [] => some a
  | a, v :: r => (stepU a v).bind (fun b => uniV b r)
theorem uniV_append : ∀ (x y a : List Vt), uniV a (x ++ y) = (uniV a x).bind (fun b => uniV b y)
  | [], y, a => rfl
  | v :: x, y, a => by
    simp only [List.cons_append, uniV]
    cases stepU a v with
    | none => rfl
    | some b => exact uniV_append x y b
def uniO (l1 l2 : List Vt) : List Vt × Nat := match uniV [] (l1 ++ l2) with | some r => (r, 0) | none => ([], 8)
theorem uniV_take {L : List Vt} {n : Nat} {v : Vt} {all : List Vt} (hv : L[n]? = some v) (h : uniV [] (L.take n) = some all) : uniV [] (L.take (n + 1)) = stepU all v := by
  obtain ⟨hlt, rfl⟩ := List.getElem?_eq_some_iff.1 hv
  rw [List.take_succ_eq_append_getElem hlt, uniV_append, h]
  simp only [Option.bind_some, uniV]
  cases stepU all L[n] <;> rfl
theorem uniV_bad {L : List Vt} {n : Nat} (h : uniV [] (L.take n) = none) : uniV [] L = none := by
  rw [← List.take_append_drop n L, uniV_append, h]
  rfl
theorem hasT_ofT {l : List Vt} {n : Int} (h : hasT l n = false) : ofT l n = none := by
  unfold hasT at h
  rw [List.any_eq_false] at h
  unfold ofT
  rw [List.find?_eq_none]
  exact h
theorem insV_sorted {l : List Vt} {v : Vt} {i : Nat} (hs : SortedT l) (hc : Cut l v.a i) (h : hasT l v.a = false) : SortedT (insV l v) := by
  rw [← hc.insV]
  unfold insT SortedT
  have hn : ∀ u ∈ l, u.a ≠ v.a := ofT_none (hasT_ofT h)
  have hlo : ∀ u ∈ l.take i, u.a < v.a := fun u hu => by
    obtain ⟨m, hm, rfl⟩ := List.getElem_of_mem hu
    rw [List.length_take] at hm
    rw [List.getElem_take]
    exact hc.lo m _ (by omega) (List.getElem?_eq_getElem (by omega))
  have hhi : ∀ u ∈ l.drop i, v.a < u.a := fun u hu => by
    obtain ⟨m, hm, rfl⟩ := List.getElem_of_mem hu
    rw [List.length_drop] at hm
    rw [List.getElem_drop]
    have h1 := hc.hi (i + m) _ (by omega) (List.getElem?_eq_getElem (by omega))
    have h2 := hn _ (List.getElem_mem (show i + m < l.length by omega))
    omega
  have hp := hs
  rw [← List.take_append_drop i l] at hp
  unfold SortedT at hp
  rw [List.pairwise_append] at hp
  rw [List.pairwise_append]
  refine ⟨hp.1, List.pairwise_cons.2 ⟨fun u hu => hhi u hu, hp.2.1⟩, fun x hx y hy => ?_⟩
  rcases List.mem_cons.1 hy with rfl | hy
  · exact hlo x hx
  · have := hlo x hx; have := hhi y hy; omega
theorem insV_mem {l : List Vt} {v u : Vt} (h : u ∈ insV l v) : u = v ∨ u ∈ l := by
  unfold insV at h
  rcases List.mem_append.1 h with h | h
  · exact .inr ((List.takeWhile_sublist _).mem h)
  · rcases List.mem_cons.1 h with h | h
    · exact .inl h
    · exact .inr ((List.dropWhile_sublist _).mem h)
theorem insV_len (l : List Vt) (v : Vt) : (insV l v).length = l.length + 1 := by
  unfold insV
  have := congrArg List.length (List.takeWhile_append_dropWhile (p := fun u : Vt => decide (u.a < v.a)) (l := l))
  simp only [List.length_append, List.length_cons] at this ⊢
  omega
/-- Between two votes. -/
structure UnI (w wr : World) (L : List Vt) (n : Nat) (sv : Value) (all : List Vt) : Prop where
  own : OwnT wr w.heap.size sv all
  bel : Below w.heap.size w wr
  ok : ∀ v ∈ all, VtOk v
  srt : SortedT all
  len : all.length ≤ n
  eq : uniV [] (L.take n) = some all
theorem UnI.more {w wr w2 w3 : World} {L all : List Vt} {n i : Nat} {sv sv3 : Value} {v : Vt} {o1 o2 : Obj} (H : UnI w wr L n sv all) (hv : L[n]? = some v) (hok : VtOk v) (hc : Cut all v.a i) (hh : hasT all v.a = false)
    (hb : Below (wr.alloc o1).heap.size (wr.alloc o1) w2) (ho : OwnT w3 w.heap.size sv3 (insT all i v)) (hg : (w2.alloc o2).grownBy w3 sv.ownBlock) : UnI w w3 L (n + 1) sv3 (insV all v) := by
  rw [hc.insV] at ho
  have hs := H.bel.size
  have b1 : Below w.heap.size w w2 := (H.bel.alloc hs o1).trans (hb.mono (by have := (Below.alloc (Below.refl wr.heap.size wr) (Nat.le_refl _) o1).size; omega))
  have b2 := b1.alloc b1.size o2
  refine ⟨ho, b2.grown hg b2.size (fun k hk => (H.own.lt hk).1), fun u hu => ?_, insV_sorted H.srt hc hh, by rw [insV_len]; have := H.len; omega, ?_⟩
  · rcases insV_mem hu with rfl | hu
    · exact hok
    · exact H.ok u hu
  · rw [uniV_take hv H.eq]
    unfold stepU
    rw [hasT_ofT hh]
theorem UnI.same {w wr w2 : World} {L all : List Vt} {n : Nat} {sv : Value} {v u : Vt} {o1 : Obj} (H : UnI w wr L n sv all) (hv : L[n]? = some v) (ho : ofT all v.a = some u) (he : u.s = v.s) (hb : Below (wr.alloc o1).heap.size (wr.alloc o1) w2) : UnI w w2 L (n + 1) sv all := by
  have hs := H.bel.size
  have b0 := Below.alloc (Below.refl wr.heap.size wr) (Nat.le_refl _) o1
  have b1 : Below wr.heap.size wr w2 := b0.trans (hb.mono b0.size)
  refine ⟨H.own.below b1, H.bel.trans (b1.mono hs), H.ok, H.srt, by have := H.len; omega, ?_⟩
  rw [uniV_take hv H.eq]
  unfold stepU
  rw [ho]
  simp only [he, if_true]
theorem UnI.drewN {w wr : World} {L all : List Vt} {n : Nat} {sv : Value} (H : UnI w wr L n sv all) (k : Nat) : UnI w (wr.drewN k) L n sv all := ⟨H.own.below ((Below.refl _ _).drewN k), H.bel.drewN k, H.ok, H.srt, H.len, H.eq⟩
theorem UnI.bad {w wr : World} {L all : List Vt} {n : Nat} {sv : Value} {v u : Vt} (H : UnI w wr L n sv all) (hv : L[n]? = some v) (ho : ofT all v.a = some u) (he : u.s ≠ v.s) : uniV [] L = none := by
  refine uniV_bad (n := n + 1) ?_
  rw [uniV_take hv H.eq]
  unfold stepU
  rw [ho]
  simp only [he, if_false]
def offU (L : Nat → List Vt) (k : Nat) : Nat := if k = 0 then 0 else if k = 1 then (L 0).length else (L 0).length + (L 1).length
end Go.Proofs.YtcmkmnidnapabaaGreat

/-! L7h: Commit: Join. -/
namespace Go.Proofs.YtcmkmnidnapabaaGreat
open Go.RowKit Go.Lib
set_option linter.unusedSimpArgs false

theorem struct_com : Tryz.prog.underlying 82 = some (.struct (Tryz.prog.fieldsOf 82)) := by kernel_rfl
theorem places_com : (Tryz.prog.fieldsOf 82).toList.mapM (fun f => (Tryz.prog.info? f.type).map fun i => (f.offset, i.size)) = some [(0, 1), (1, 32), (33, 1)] := by kernel_rfl
def joinO (h1 : Int) (p1 : List Nat) (l1 : List Vt) (h2 : Int) (p2 : List Nat) (l2 : List Vt) : CR :=
  if chkC h1 l1 ≠ 0 then crE (chkC h1 l1) else if chkC h2 l2 ≠ 0 then crE (chkC h2 l2) else if h1 ≠ h2 ∨ p1 ≠ p2 then crE 9 else
  if (uniO l1 l2).2 ≠ 0 then crE (uniO l1 l2).2 else ⟨h1, p1, (uniO l1 l2).1, 0⟩
/-- The boxes of Join. -/
structure JoB (w W : World) (X Y : List Value) : Prop where
  k1 : Blk W w.heap.size X 82
  k2 : Blk W (w.heap.size + 1) Y 82
  kr : Blk W (w.heap.size + 2) (cC 0 zh32 (.slice none 0 0)) 82
  bel : Below w.heap.size w W
theorem JoB.below {w W W' : World} {X Y : List Value} (H : JoB w W X Y) (hb : Below W.heap.size W W') : JoB w W' X Y := ⟨hb.blk' H.k1, hb.blk' H.k2, hb.blk' H.kr, H.bel.trans (hb.mono H.bel.size)⟩
/-- A new block is laid whole. -/
theorem new_row {W W' : World} {X Z : List Value} {T : TypeId} {b : Nat} (h : W' = (W.alloc (.cells Z.toArray T)).setRow b X.toArray) (hb : b = W.heap.size) : Below W.heap.size W W' ∧ Blk W' b X T := by
  subst h hb
  exact ⟨((Below.refl _ W).alloc (Nat.le_refl _) _).trans (((But.refl W.heap.size _).setRow _).below (Nat.le_refl _)), (Blk.new W Z T).row⟩
theorem rangeAt_p {W : World} {b : Nat} {h : Int} {p : List Nat} {sl : Value} (H : Blk W b (cC h p sl) 82) : W.rangeAt b 1 (bvs p) := fun j v hj => (H.cell _).trans (cC_p j v hj)
end Go.Proofs.YtcmkmnidnapabaaGreat
