/-
  Commit: the answer's Of, laid.
-/
import Derived.Test.YtbhkjflpkpkdlaaL7p
namespace Go.Proofs.Ytbhkjflpkpkdlaa
open Go.RowKit Go.Lib
set_option linter.unusedSimpArgs false

set_option maxRecDepth 100000 in
set_option maxHeartbeats 4000000 in
theorem rof_any (h : Int) (p : List Nat) (hp : p.length = 32) (a : Option Addr) (b o cap : Nat) (l : List Vt) (n : Int) (w : World) (hT : Ts w a b o cap l) (hl : l.length ≤ 1000) :
    Calls Try.prog 37 #[.agg (cC h p (.slice a l.length cap)).toArray, .int .i64 n] w fun e w' => e = .returned (.tuple #[.int .u64 ((ofR l n).1 : Nat), .bool (ofR l n).2]) ∧ Below w.heap.size w w' := by
  have hA := Blk.new w (cC h p (.slice a l.length cap)) 63
  have hB := hidp ((Below.refl w.heap.size w).alloc (Nat.le_refl _) (.cells (cC h p (.slice a l.length cap)).toArray 63))
  have c33 := hA.cell 33
  rw [cC_33 hp] at c33
  have HT := hidp (hT.below hB.out)
  have HL := hidp hl
  obtain ⟨r, hr⟩ : ∃ r, r = ofR l n := ⟨_, rfl⟩
  rw [← hr]
  replace hr := hidp hr
  obtain ⟨W0, hW0⟩ : ∃ W, W = w.alloc (.cells (cC h p (.slice a l.length cap)).toArray 63) := ⟨_, rfl⟩
  rw [← hW0] at hB HT c33
  clear hA hT hl
  go_enter Try.func37, Try.ntmps37
  go_wp2_with fail
  rw [← hW0]
  clear hW0
  go_loopw [6] (fun x wr => ∃ i : Nat, i ≤ l.length ∧ x = .int .i64 ((i : Nat) : Int) ∧ wr = W0 ∧ Hid (∀ j u, j < i → l[j]? = some u → u.a ≠ n)) (fun x _ => l.length - (Go.RowKit.intOf x).toNat)
  case atStart => exact ⟨0, by omega, rfl, rfl, hidp (fun j u hj => by omega)⟩
  case round =>
    obtain ⟨i, hi, rfl, rfl, hx⟩ := hrel
    by_cases hlt : i < l.length
    · obtain ⟨v, hv, hok, rfl, hbl, c0, c1⟩ := HT.out.at hlt
      have HV := hidp hv
      have HK := hidp hlt
      have hadd := w64_nat (n := i) (by have := HL.out; omega)
      clear hv hok
      by_cases he : v.a = n
      · have ht : (v.a == n) = true := by simp [he]
        have hF := hidp (ofT_hit HV.out he hx.out)
        clear hx he
        go_wp2_with fail
        exact bodyPost_ret (v := .tuple #[.int .u64 (v.s : Nat), .bool true]) (by simp [results, Try.results37, go_sem]) rfl ⟨by rw [hr.out]; unfold ofR; rw [hF.out], hB.out⟩
      · have ht : (v.a == n) = false := by rw [beq_eq_false_iff_ne]; exact he
        have H2 := hidp (show ∀ j u, j < i + 1 → l[j]? = some u → u.a ≠ n from fun j u hj hu => by
          rcases Nat.lt_or_ge j i with h1 | h1
          · exact hx.out j u h1 hu
          · obtain rfl : j = i := by omega
            rw [HV.out] at hu
            cases hu
            exact he)
        clear hx he
        go_wp2_with fail
        rw [hadd]
        exact ⟨⟨i + 1, HK.out, rfl, by first | rfl | trivial, H2⟩, dec_nat HK.out⟩
    · have hF := hidp (ofT_miss (l := l) (n := n) (fun j u hj hu => hx.out j u (by omega) hu))
      obtain rfl : i = l.length := by omega
      clear hx hlt
      go_wp2_with fail
      exact bodyPost_ret (v := .tuple #[.int .u64 0, .bool false]) (by simp [results, Try.results37, go_sem]) rfl ⟨by rw [hr.out]; unfold ofR; rw [hF.out]; rfl, hB.out⟩
theorem ofR_has (l : List Vt) (n : Int) : (ofR l n).2 = hasT l n := by
  unfold ofR
  cases h : ofT l n with
  | none =>
    symm
    unfold hasT
    rw [List.any_eq_false]
    intro x hx
    simpa using ofT_none h x hx
  | some v =>
    obtain ⟨h1, h2⟩ := ofT_mem h
    symm
    unfold hasT
    rw [List.any_eq_true]
    exact ⟨v, h1, by simpa using h2⟩

/-- Laid ahead of the first that is greater. -/
def laidL (l : List Vt) (v : Vt) : List Vt := l.takeWhile (fun u => !decide (v.a < u.a)) ++ v :: l.dropWhile (fun u => !decide (v.a < u.a))
theorem laidL_ins {l : List Vt} {v : Vt} (h : ∀ u ∈ l, u.a ≠ v.a) : laidL l v = insV l v := by
  unfold laidL insV
  have e : ∀ u ∈ l, (!decide (v.a < u.a)) = decide (u.a < v.a) := fun u hu => by
    have := h u hu
    by_cases h1 : v.a < u.a
    · simp [h1]; omega
    · simp [h1]; omega
  have key : ∀ (l : List Vt), (∀ u ∈ l, (!decide (v.a < u.a)) = decide (u.a < v.a)) → l.takeWhile (fun u => !decide (v.a < u.a)) = l.takeWhile (fun u => decide (u.a < v.a)) ∧ l.dropWhile (fun u => !decide (v.a < u.a)) = l.dropWhile (fun u => decide (u.a < v.a)) := by
    intro l
    induction l with
    | nil => intro _; exact ⟨rfl, rfl⟩
    | cons x l ih =>
      intro hx
      obtain ⟨h1, h2⟩ := ih (fun u hu => hx u (by simp [hu]))
      have h0 := hx x (by simp)
      simp only [List.takeWhile_cons, List.dropWhile_cons, h0, h1, h2]
      refine ⟨?_, ?_⟩ <;> first | rfl | trivial
  rw [(key l e).1, (key l e).2]
/-- What is laid when so many have been gone through. -/
def lay (l : List Vt) (v : Vt) : List Vt := if l.any (fun u => decide (v.a < u.a)) = true then laidL l v else l
theorem lay_none {l : List Vt} {v u : Vt} (h : l.any (fun u => decide (v.a < u.a)) = false) (hu : v.a < u.a) : lay (l ++ [u]) v = l ++ [v] ++ [u] ∧ (l ++ [u]).any (fun u => decide (v.a < u.a)) = true := by
  have h1 : (l ++ [u]).any (fun u => decide (v.a < u.a)) = true := by rw [List.any_append, h]; simp [hu]
  refine ⟨?_, h1⟩
  unfold lay
  rw [if_pos h1]
  unfold laidL
  have hl : ∀ x ∈ l, (!decide (v.a < x.a)) = true := fun x hx => by
    rw [List.any_eq_false] at h
    have := h x hx
    simpa using this
  rw [List.takeWhile_append_of_pos hl, List.dropWhile_append_of_pos hl]
  simp [hu]
theorem lay_same {l : List Vt} {v u : Vt} (h : l.any (fun u => decide (v.a < u.a)) = false) (hu : ¬ v.a < u.a) : lay (l ++ [u]) v = l ++ [u] ∧ (l ++ [u]).any (fun u => decide (v.a < u.a)) = false := by
  have h1 : (l ++ [u]).any (fun u => decide (v.a < u.a)) = false := by rw [List.any_append, h]; simp [hu]
  exact ⟨by unfold lay; rw [if_neg (by rw [h1]; decide)], h1⟩
theorem lay_put {l : List Vt} {v u : Vt} (h : l.any (fun u => decide (v.a < u.a)) = true) : lay (l ++ [u]) v = lay l v ++ [u] ∧ (l ++ [u]).any (fun u => decide (v.a < u.a)) = true := by
  have h1 : (l ++ [u]).any (fun u => decide (v.a < u.a)) = true := by rw [List.any_append, h]; rfl
  refine ⟨?_, h1⟩
  unfold lay
  rw [if_pos h1, if_pos h]
  unfold laidL
  have key : ∀ l : List Vt, l.any (fun u => decide (v.a < u.a)) = true → (l ++ [u]).takeWhile (fun u => !decide (v.a < u.a)) = l.takeWhile (fun u => !decide (v.a < u.a)) ∧ (l ++ [u]).dropWhile (fun u => !decide (v.a < u.a)) = l.dropWhile (fun u => !decide (v.a < u.a)) ++ [u] := by
    intro l
    induction l with
    | nil => intro h; simp at h
    | cons x l ih =>
      intro h
      by_cases hx : v.a < x.a
      · simp [hx]
      · have h2 : l.any (fun u => decide (v.a < u.a)) = true := by simpa [hx] using h
        obtain ⟨q1, q2⟩ := ih h2
        simp [hx, q1, q2]
  rw [(key l h).1, (key l h).2]
  simp
theorem lay_end {l : List Vt} {v : Vt} (h : l.any (fun u => decide (v.a < u.a)) = false) : laidL l v = l ++ [v] := by
  unfold laidL
  have hl : ∀ x ∈ l, (!decide (v.a < x.a)) = true := fun x hx => by
    rw [List.any_eq_false] at h
    have := h x hx
    simpa using this
  rw [← List.append_nil l, List.takeWhile_append_of_pos (by simpa using hl), List.dropWhile_append_of_pos (by simpa using hl)]
  simp
theorem lay_len (l : List Vt) (v : Vt) : (lay l v).length ≤ l.length + 1 := by
  unfold lay
  split
  · unfold laidL
    have := congrArg List.length (List.takeWhile_append_dropWhile (p := fun u : Vt => !decide (v.a < u.a)) (l := l))
    simp only [List.length_append, List.length_cons] at this ⊢
    omega
  · omega
structure LaI (w W : World) (b3 : Nat) (v : Vt) (l : List Vt) (sv : Value) (lo : List Vt) : Prop where
  own : OwnT W (b3 + 1) sv lo
  blk : Blk W b3 (tL v) 83
  bel : Below w.heap.size w W
  hb : w.heap.size ≤ b3
theorem LaI.drewN {w W : World} {b3 : Nat} {v : Vt} {l : List Vt} {sv : Value} {lo : List Vt} (H : LaI w W b3 v l sv lo) (n : Nat) : LaI w (W.drewN n) b3 v l sv lo := ⟨H.own.below ((Below.refl _ _).drewN n), H.blk.drewN n, H.bel.drewN n, H.hb⟩
theorem OwnT.sl {w : World} {B : Nat} {v : Value} {l : List Vt} (h : OwnT w B v l) : ∃ p n c, v = .slice p n c := by
  obtain ⟨p, c, h1, _⟩ := h.slice
  exact ⟨p, _, c, h1⟩
/-- One vote, in a block of its own, is hung on. -/
theorem wpList_append_v1 {ops : Array Oper} {rest : List Oper} {o : Oper} {a : Act} {w : World} {Q : Exit → Act → World → Prop} (hgd : o.guard = none) (s x : Operand)
    (ho : o.op = .call { callee := .builtin .append, args := #[s, x], argTypes := #[61, 61] }) (B : Nat) (l : List Vt) (sv : Value) (hs : a.eval s = sv) (own : OwnT w B sv l)
    (g : Nat) (u : Vt) (hx : a.eval x = .slice (some ⟨g, 0, none⟩) 1 1) (hk : Blk w g (tL u) 83) (hn : l.length + 1 ≤ 2000) (hB : B ≤ w.heap.size)
    (h : ∀ sv' w', OwnT w' B sv' (l ++ [u]) → w.grownBy w' sv.ownBlock → wpList Try.prog ops Q rest (a.put o.dst sv') w') : wpList Try.prog ops Q (o :: rest) a w := by
  obtain ⟨i0, hi0, hz0, hz1, hz2⟩ := info_parts info_vote
  exact wpList_append_own _ hgd s x 61 ho B 83 i0 _ 2 16 Try.underlying61 hi0 hz0 hz1 hz2 rfl (by decide) sv l.length (l.flatMap tL) hs own ⟨g, 0, none⟩ 1 1 (tL u) hx rfl (fun j c hj => by rw [Addr.add_mid, Nat.zero_add]; exact (hk.cell j).trans hj) (tL_one u) (by unfold maxLen; omega) (by omega) hB (fun v' w' h1 h2 _ => h v' w' (OwnT.snoc h1) h2)
theorem LaI.app2 {w W W' : World} {b3 : Nat} {v u : Vt} {l : List Vt} {sv sv' : Value} {lo : List Vt} {o : Obj} (H : LaI w W b3 v l sv lo) (hg : (W.alloc o).grownBy W' sv.ownBlock) (ho : OwnT W' (b3 + 1) sv' (lo ++ [u])) : LaI w W' b3 v l sv' (lo ++ [u]) := by
  have hlt := H.blk.lt
  have b0 : Below (b3 + 1) W (W.alloc o) := (Below.refl _ W).alloc (by omega) o
  have b1 : Below (b3 + 1) W W' := b0.grown hg (by simp; omega) (fun k hk => (H.own.lt hk).1)
  exact ⟨ho, H.blk.below b1 (by omega), H.bel.trans (b1.mono (by have := H.hb; omega)), H.hb⟩
theorem LaI.ao {w W : World} {b3 : Nat} {v : Vt} {l : List Vt} {sv : Value} {lo : List Vt} (H : LaI w W b3 v l sv lo) (o : Obj) : OwnT (W.alloc o) (b3 + 1) sv lo ∧ b3 + 1 ≤ (W.alloc o).heap.size := ⟨H.own.below ((Below.refl _ W).alloc (Nat.le_refl _) o), by have := H.blk.lt; simp; omega⟩
end Go.Proofs.Ytbhkjflpkpkdlaa
