/-
  WireWrites: what else the walk takes.
-/
import Derived.Test.YtbhkjflpkpkdlaaWwc
import Derived.Test.YtbhkjflpkpkdlaaWrd
namespace Go.Proofs.Ytbhkjflpkpkdlaa
open Go.RowKit Go.Lib Go.Maps
set_option linter.unusedVariables false
set_option linter.unusedSimpArgs false

set_option maxHeartbeats 2000000 in
theorem over_butG (B : Nat) (bs : List Nat) (p : Option Addr) (cap : Nat) (w : World) (ho : OwnB B w p bs cap) (hn : bs.length ≤ 2000000) :
    Calls Try.prog 18 #[.slice p bs.length cap] w fun e w' => e = .returned (.tuple #[]) ∧ ((∃ g rest, p = some ⟨g, 0, none⟩ ∧ B ≤ g ∧ Blk w g (bvs bs ++ rest) 5 ∧ But g w w') ∨ w' = w) := by
  by_cases h0 : 0 < bs.length
  · obtain ⟨g, rest, rfl, hB, hblk⟩ := ho.2 h0
    have HN := hidp (And.intro hn (And.intro hB ho.1))
    have HW := hidp hblk
    clear ho h0 hn hB hblk
    go_enter Try.func18, Try.ntmps18
    go_wp2
    go_loopw [2] (fun i wr => ∃ k : Nat, k ≤ bs.length ∧ i = .int .i64 k ∧ Hid (∃ cs : List Int, cs.length = bs.length ∧ Blk wr g (ivB cs ++ rest) 5 ∧ But g w wr)) (fun i _ => bs.length - (Go.RowKit.intOf i).toNat)
    case atStart => exact ⟨0, by omega, rfl, hidp ⟨bs.map fun x : Nat => (x : Int), by simp, by rw [← ivs_of]; exact HW.out, But.refl g w⟩⟩
    case round =>
      obtain ⟨k, hk, rfl, hr⟩ := hrel
      by_cases hlt : k < bs.length
      · obtain ⟨cs, hl, hb, hbt⟩ := hr.out
        have hc : wr.cell? ⟨g, k, none⟩ = some (.int .u8 (cs.getD k 0)) := by rw [hb.cell k, List.getElem?_append_left (by rw [ivs_len]; omega)]; exact ivs_get (by omega)
        have hf := hb.free k
        have hn1 := HN.out.1
        have hb := hidp (And.intro hb (And.intro hl hbt))
        generalize cs.getD k 0 = z at hc
        clear hl hbt
        go_wp2
        refine ⟨⟨k + 1, by omega, by go_num, hidp ⟨_, ?_, over_step _ hb.out.1 (by rw [hb.out.2.1]; exact hlt), hb.out.2.2.setCell _ _⟩⟩, ?_⟩
        · rw [List.length_set]; exact hb.out.2.1
        · simp [Go.RowKit.intOf]; omega
      · obtain rfl : k = bs.length := by omega
        go_wp2
        go_end0
        obtain ⟨cs, _, _, hbt⟩ := hr.out
        exact ⟨rfl, .inl ⟨g, rest, rfl, HN.out.2.1, HW.out, hbt⟩⟩
  · have h1 : bs.length = 0 := by omega
    rw [h1]
    clear ho hn h0
    go_enter Try.func18, Try.ntmps18
    go_wp2
    go_loopw [2] (fun i wr => i = .int .i64 0 ∧ wr = w) (fun _ _ => 0)
    case atStart => exact ⟨rfl, rfl⟩
    case round =>
      obtain ⟨rfl, rfl⟩ := hrel
      go_wp2
      go_end0
      exact ⟨rfl, .inr rfl⟩
/-- Done, in whatever state: these bytes. -/
def dnB (e : Nat) (L : List Nat) : List Nat := if e = 0 then L else []
theorem dnB_len (e : Nat) (L : List Nat) : (dnB e L).length ≤ L.length := by
  unfold dnB
  split
  · exact Nat.le_refl _
  · exact Nat.zero_le _
def DnP (w : World) (e : Nat) (D : List Nat) (e' : Ending) (w' : World) : Prop := (∃ p b cap, e' = .returned (.tuple #[.slice p D.length cap, .int .i64 (e : Nat)]) ∧ Bs w' p b 0 D cap ∧ OwnB w.heap.size w' p D cap) ∧ Below w.heap.size w w'
theorem wDone_gen {w : World} {g lim e : Nat} {v : Value} {L : List Nat} (H : CW w g lim v L e) :
    Calls Try.prog 19 #[.pointer (some ⟨g, 0, none⟩)] w (DnP w e (dnB e L)) := by
  obtain ⟨M, h, hM⟩ := H
  unfold dnB
  by_cases he : e = 0
  · subst he
    obtain rfl := hM rfl
    rw [if_pos rfl]
    refine (wDone_own h).mono ?_
    rintro e' w' ⟨⟨p, b, cap, rfl, _, _, h1, h2⟩, h3⟩
    exact ⟨⟨p, b, cap, rfl, h1, h2⟩, h3⟩
  · rw [if_neg he]
    refine (wDone_dead h he).mono ?_
    rintro e' w' ⟨rfl, rfl⟩
    exact ⟨⟨none, 0, 0, rfl, Bs.nil _ _ _, OwnB.nil _ _ _⟩, Below.refl _ _⟩
set_option maxRecDepth 100000 in
set_option maxHeartbeats 4000000 in
theorem rDoneQ_ok {w : World} {g b9 lim : Nat} {L : List Nat} (H : RqW w g b9 lim L 0) (hL : L.length ≤ 3000000) :
    Calls Try.prog 20 #[.pointer (some ⟨g, 0, none⟩)] w (DoneP w L) := by
  obtain ⟨p0, c0, hb, hs, _⟩ := H.q
  have k1 := hb.cell 1
  have k2 := hb.cell 2
  simp only [List.getElem?_cons_zero, List.getElem?_cons_succ] at k1 k2
  have hlt := hb.lt
  have hby := hidp hs.byte
  have hB : Hid (Below w.heap.size w (w.alloc (.cells #[] 5))) := hidp ((Below.refl _ w).alloc (Nat.le_refl _) _)
  have HS := hidp ((ByS.of_bs hs hs.none_cap).below hB.out)
  have hown := hidp (own_nothing w)
  have HN := hidp hL
  clear H hs hL hb
  go_enter Try.func20, Try.ntmps20
  go_wp2_with (at_builtin; refine wpList_append_byS rfl _ _ rfl w.heap.size 0 [] _ rfl hown.out p0 c0 L rfl HS.out (by have := HN.out; omega) (by simp) ?_; intro v' w1 hown' hgrow; have hB1 := hidp (hB.out.grown hgrow (by simp) (fun j hj => (hown.out.lt j hj).1)); rw [Nat.zero_add, List.nil_append] at hown'; obtain ⟨q, b, c, rfl, hqb, hq0, hs⟩ := Bs.of_own hown' hby.out; have hS := hidp (And.intro hqb (And.intro hq0 hs)); clear hown' hgrow hqb hq0 hs)
  exact bodyPost_ret (v := .tuple #[.slice q L.length c, .int .i64 0]) (by simp [results, Try.results20, go_sem]) rfl ⟨⟨q, b, c, rfl, hS.out⟩, hB1.out⟩
set_option maxRecDepth 100000 in
set_option maxHeartbeats 4000000 in
theorem rDoneQ_dead {w : World} {g b9 lim e0 : Nat} {L : List Nat} (H : RqW w g b9 lim L e0) (he : e0 ≠ 0) :
    Calls Try.prog 20 #[.pointer (some ⟨g, 0, none⟩)] w fun e w' => e = .returned (.tuple #[.slice none 0 0, .int .i64 (e0 : Nat)]) ∧ Below w.heap.size w w' := by
  obtain ⟨p0, c0, hb, hs, _⟩ := H.q
  have k1 := hb.cell 1
  have k2 := hb.cell 2
  simp only [List.getElem?_cons_zero, List.getElem?_cons_succ] at k1 k2
  have hz : ((e0 : Int) == 0) = false := by rw [beq_eq_false_iff_ne]; omega
  have hz2 : ((e0 : Int) != 0) = true := by rw [bne_iff_ne]; omega
  clear H hs hb he
  go_enter Try.func20, Try.ntmps20
  go_wp2_with fail
  go_quiet (fail)
  go_wp2_with fail
  exact bodyPost_ret (v := .tuple #[.slice none 0 0, .int .i64 (e0 : Nat)]) (by simp [results, Try.results20, go_sem]) rfl ⟨rfl, (Below.refl _ _).drewN _⟩
theorem rDone_gen {w : World} {g b lim e : Nat} {L : List Nat} (H : RW w g b lim L e) :
    Calls Try.prog 20 #[.pointer (some ⟨g, 0, none⟩)] w fun e' w' => (∃ p b cap, e' = .returned (.tuple #[.slice p (dnB e L).length cap, .int .i64 (e : Nat)]) ∧ Bs w' p b 0 (dnB e L) cap) ∧ Below w.heap.size w w' := by
  obtain ⟨M, h, hM⟩ := H
  unfold dnB
  by_cases he : e = 0
  · subst he
    obtain rfl := hM rfl
    rw [if_pos rfl]
    have h1 := h.le
    have h2 := h.lim
    refine (rDoneQ_ok h (by omega)).mono ?_
    rintro e' w' ⟨⟨p, b, cap, rfl, _, _, h1⟩, h3⟩
    exact ⟨⟨p, b, cap, rfl, h1⟩, h3⟩
  · rw [if_neg he]
    refine (rDoneQ_dead h he).mono ?_
    rintro e' w' ⟨rfl, h3⟩
    exact ⟨⟨none, 0, 0, rfl, Bs.nil _ _ _⟩, h3⟩
set_option maxRecDepth 100000 in
theorem newWriter_bad (lim : Int) (w : World) (hl : lim < 0 ∨ 1048576 < lim) : Calls Try.prog 12 #[.int .i64 lim] w fun e w' => e = .returned (.tuple #[.pointer none, .int .i64 3]) ∧ w = w' := by
  by_cases h0 : lim < 0
  · have h1 : decide (lim < 0) = true := decide_eq_true h0
    clear hl h0
    go_enter Try.func12, Try.ntmps12
    go_wp2_with fail
    exact bodyPost_ret (v := .tuple #[.pointer none, .int .i64 3]) (by simp [results, Try.results12, go_sem]) rfl ⟨rfl, rfl⟩
  · have h1 : decide (lim < 0) = false := decide_eq_false h0
    have h2 : decide (1048576 < lim) = true := decide_eq_true (by omega)
    clear hl h0
    go_enter Try.func12, Try.ntmps12
    go_wp2_with fail
    exact bodyPost_ret (v := .tuple #[.pointer none, .int .i64 3]) (by simp [results, Try.results12, go_sem]) rfl ⟨rfl, rfl⟩
set_option maxRecDepth 100000 in
theorem rNewW_bad (lim : Int) (w : World) (hl : lim < 0 ∨ 1048576 < lim) : Calls Try.prog 13 #[.int .i64 lim] w fun e w' => e = .returned (.tuple #[.pointer none, .int .i64 3]) ∧ w = w' := by
  by_cases h0 : lim < 0
  · have h1 : decide (lim < 0) = true := decide_eq_true h0
    clear hl h0
    go_enter Try.func13, Try.ntmps13
    go_wp2_with fail
    exact bodyPost_ret (v := .tuple #[.pointer none, .int .i64 3]) (by simp [results, Try.results13, go_sem]) rfl ⟨rfl, rfl⟩
  · have h1 : decide (lim < 0) = false := decide_eq_false h0
    have h2 : decide (1048576 < lim) = true := decide_eq_true (by omega)
    clear hl h0
    go_enter Try.func13, Try.ntmps13
    go_wp2_with fail
    exact bodyPost_ret (v := .tuple #[.pointer none, .int .i64 3]) (by simp [results, Try.results13, go_sem]) rfl ⟨rfl, rfl⟩
/-- Both writers between two things. -/
structure WJ (W : World) (g : Nat) (v : Value) (g2 b2 lim : Nat) (L : List Nat) (e : Nat) : Prop where
  c : CW W g lim v L e
  r : RW W g2 b2 lim L e
  ne : g2 ≠ g ∧ b2 ≠ g ∧ v.ownBlock ≠ some g2 ∧ v.ownBlock ≠ some b2
  lt : b2 < W.heap.size
section
variable {W W' : World} {g g2 b2 lim e : Nat} {v : Value} {L : List Nat}
theorem WJ.below (H : WJ W g v g2 b2 lim L e) (h : Below W.heap.size W W') : WJ W' g v g2 b2 lim L e := ⟨H.c.below h, H.r.below h, H.ne, Nat.lt_of_lt_of_le H.lt h.size⟩
theorem WJ.glt (H : WJ W g v g2 b2 lim L e) : g < W.heap.size ∧ g2 < W.heap.size := by
  obtain ⟨M, h, _⟩ := H.c
  obtain ⟨M2, h2, _⟩ := H.r
  exact ⟨h.blk.lt, h2.glt⟩
theorem WJ.own (H : WJ W g v g2 b2 lim L e) {k : Nat} (hk : v.ownBlock = some k) : g + 1 ≤ k ∧ k < W.heap.size := by
  obtain ⟨M, h, _⟩ := H.c
  exact h.ownGe hk
theorem WJ.len (H : WJ W g v g2 b2 lim L e) : (dnB e L).length ≤ 1048576 := by
  obtain ⟨M, h, hM⟩ := H.c
  unfold dnB
  by_cases he : e = 0
  · rw [if_pos he, ← hM he]; exact Nat.le_trans h.le h.lim
  · rw [if_neg he]; exact Nat.zero_le _
/-- Other blocks stay what they are behind a write. -/
theorem Wfr.keep {k : Nat} {v' : Value} (h : Wfr g v W W' v') (hk : k < W.heap.size) (hv : v.ownBlock ≠ some k) : v'.ownBlock ≠ some k := fun e => by
  rcases h.row k e with e | e
  · exact hv e
  · omega
theorem Wfr.blkK {k : Nat} {v' : Value} {cs : List Value} {T : TypeId} (h : Wfr g v W W' v') (hb : Blk W k cs T) (hg : k ≠ g) (hv : v.ownBlock ≠ some k) : Blk W' k cs T := (h.block k hb.lt hg hv).trans hb
theorem RW.fix (H : RW W g2 b2 lim L e) : ∃ b', b' < W.heap.size ∧ RW W g2 b' lim L e ∧ (b' = b2 ∨ b' = g2) := by
  obtain ⟨M, h, hM⟩ := H
  obtain ⟨p, c, h1, h2, h3⟩ := h.q
  by_cases h0 : 0 < c
  · exact ⟨b2, (h2.ptr h0).2, ⟨M, h, hM⟩, .inl rfl⟩
  · exact ⟨g2, h1.lt, ⟨M, ⟨⟨p, c, h1, ⟨h2.byte, h2.le, fun h => absurd h h0, fun i hi => absurd hi (by have := h2.le; omega)⟩, fun h => absurd h h0⟩, h.le, h.lim⟩, hM⟩, .inr rfl⟩
theorem WJ.puts {t : Tg} {e' : Ending} (H : WJ W g v g2 b2 lim L e) (h : PutT W g lim v L e t e' W') : ∃ v', CW W' g lim v' (L ++ formT t) (stE e lim L t) ∧ RW W' g2 b2 lim L e ∧ (g2 ≠ g ∧ b2 ≠ g ∧ v'.ownBlock ≠ some g2 ∧ v'.ownBlock ≠ some b2) ∧ b2 < W'.heap.size ∧ Wfr g v W W' v' := by
  obtain ⟨_, v', h1, h2⟩ := h
  obtain ⟨M2, q2, hM2⟩ := H.r
  obtain ⟨n1, n2, n3, n4⟩ := H.ne
  refine ⟨v', h1, ⟨M2, q2.wfr h2 ⟨n1, n3⟩ ⟨n2, n4⟩, hM2⟩, ⟨n1, n2, h2.keep H.glt.2 n3, h2.keep H.lt n4⟩, Nat.lt_of_lt_of_le H.lt h2.size, h2⟩
theorem WJ.ours {t : Tg} {e' : Ending} {e1 : Nat} (hc : CW W g lim v (L ++ formT t) (stE e lim L t)) (hn : g2 ≠ g ∧ b2 ≠ g ∧ v.ownBlock ≠ some g2 ∧ v.ownBlock ≠ some b2) (h : OurT W g2 b2 lim L e t e' W') :
    ∃ b', WJ W' g v g2 b' lim (L ++ formT t) (stE e lim L t) ∧ (b' = b2 ∨ b' = g2 ∨ W.heap.size ≤ b') ∧ Bex g2 W W' := by
  obtain ⟨_, ⟨b', h1, h2⟩, h3⟩ := h
  obtain ⟨M, q, hM⟩ := hc
  obtain ⟨b3, q1, q2, q3⟩ := h1.fix
  have hg := q.blk.lt
  have hown : ∀ k, v.ownBlock = some k → k < W.heap.size := fun k hk => (q.ownGe hk).2
  obtain ⟨n1, n2, n3, n4⟩ := hn
  have hb3 : b3 = b2 ∨ b3 = g2 ∨ W.heap.size ≤ b3 := by omega
  refine ⟨b3, ⟨⟨M, q.bex h3 (fun e => n1 e.symm) n3, hM⟩, q2, ⟨n1, ?_, n3, ?_⟩, q1⟩, hb3, h3⟩
  · rcases hb3 with rfl | rfl | h <;> omega
  · rcases hb3 with rfl | rfl | h
    · exact n4
    · exact n3
    · intro e; have := hown _ e; omega
theorem WJ.but {k : Nat} (H : WJ W g v g2 b2 lim L e) (h : But k W W') (h1 : k ≠ g ∧ k ≠ g2 ∧ k ≠ b2) (h2 : v.ownBlock ≠ some k) : WJ W' g v g2 b2 lim L e := by
  obtain ⟨M, q, hM⟩ := H.c
  obtain ⟨M2, q2, hM2⟩ := H.r
  have hx := Bex.of_but h
  obtain ⟨p, c, r1, r2, r3⟩ := q2.q
  exact ⟨⟨M, q.bex hx (fun e => h1.1 e.symm) h2, hM⟩, ⟨M2, ⟨⟨p, c, hx.blk r1 (fun e => h1.2.1 e.symm), r2.bex hx (fun _ => h1.2.2), r3⟩, q2.le, q2.lim⟩, hM2⟩, H.ne, Nat.lt_of_lt_of_le H.lt hx.size⟩
end
/-- A thing whose bytes are the lent ones. -/
def lentG (t : Tg) (g c : Nat) : Tg := ⟨t.kd, t.n, some ⟨g, 0, none⟩, g, 0, c, t.L, t.h, t.k, t.x, t.is⟩
theorem lentG_form (t : Tg) (g c : Nat) : formT (lentG t g c) = formT t := rfl
theorem lentG_st (t : Tg) (g c e lim : Nat) (L : List Nat) : stE e lim L (lentG t g c) = stE e lim L t ∧ rtE e lim L (lentG t g c) = rtE e lim L t := ⟨rfl, rfl⟩
theorem Lent.bs {B : Nat} {w : World} {g c : Nat} {L : List Nat} (h : Lent B w g c L) (hb : ∀ x ∈ L, x < 256) : Bs w (some ⟨g, 0, none⟩) g 0 L c := by
  obtain ⟨h1, h2, rest, h3, h4⟩ := h
  refine ⟨hb, by omega, fun _ => ⟨rfl, h3.lt⟩, fun i hi => ?_⟩
  rw [Nat.zero_add, h3.cell, List.getElem?_append_left (by rw [bvs_len, List.length_append]; omega), bvs_get (by rw [List.length_append]; omega), List.getD_eq_getElem?_getD, List.getElem?_append_left hi, ← List.getD_eq_getElem?_getD]
theorem lentG_ok {B : Nat} {w : World} {t : Tg} {g c : Nat} (H : TgOk w t) (h : Lent B w g c t.L) : TgOk w (lentG t g c) := ⟨h.bs H.bs.byte, H.h, H.k, H.x, H.kd, H.n, fun h => by cases h⟩
theorem lentG_set (t : Tg) (g c : Nat) : (tgL t).set 2 (.slice (some ⟨g, 0, none⟩) t.L.length c) = tgL (lentG t g c) := rfl
theorem tgL_one (t : Tg) : (tgL t).toArray.all (·.oneCell') = true := by
  rw [List.all_toArray, List.all_eq_true]
  intro y hy
  unfold tgL thL at hy
  simp only [List.mem_cons, List.mem_append, List.not_mem_nil, or_false] at hy
  rcases hy with rfl | rfl | rfl | hy | hy | rfl | rfl
  · rfl
  · rfl
  · rfl
  · unfold bvs at hy; obtain ⟨x, _, rfl⟩ := List.mem_map.1 hy; rfl
  · unfold bvs at hy; obtain ⟨x, _, rfl⟩ := List.mem_map.1 hy; rfl
  · rfl
  · rfl
def tgZ : Tg := ⟨0, 0, none, 0, 0, 0, [], List.replicate 32 0, List.replicate 4 0, 0, false⟩
theorem tgZ_len : (tgL tgZ).length = 41 := by kernel_rfl
theorem zero_tg : (Try.prog.info? 39).map (fun i => (i.zero, i.size)) = some (some (.agg (tgL tgZ).toArray), 41) := by kernel_rfl
end Go.Proofs.Ytbhkjflpkpkdlaa
