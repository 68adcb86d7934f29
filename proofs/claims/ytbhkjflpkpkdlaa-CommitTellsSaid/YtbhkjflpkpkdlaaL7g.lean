/-
  Commit: the votes of two lists together.
-/
import Derived.Test.YtbhkjflpkpkdlaaL7f
import Derived.Deep.LoopGhost
namespace Go.Proofs.Ytbhkjflpkpkdlaa
open Go.RowKit Go.Lib
set_option linter.unusedSimpArgs false

def stepU (all : List Vt) (v : Vt) : Option (List Vt) := match ofT all v.a with | none => some (insV all v) | some u => if u.s = v.s then some all else none
def uniV : List Vt → List Vt → Option (List Vt)
  | a, [] => some a
  | a, v :: r => (stepU a v).bind (fun b => uniV b r)
theorem uniV_append : ∀ (x y a : List Vt), uniV a (x ++ y) = (uniV a x).bind (fun b => uniV b y)
  | [], y, a => rfl
  | v :: x, y, a => by
    simp only [List.cons_append, uniV]
    cases stepU a v with
    | none => rfl
    | some b => exact uniV_append x y b
def uniO (l1 l2 : List Vt) : List Vt × Nat := match uniV [] (l1 ++ l2) with | some r => (r, 0) | none => ([], 8)
theorem uniV_take {L : List Vt} {n : Nat} {v : Vt} {all : List Vt} (hv : L[n]? = some v) (h : uniV [] (L.take n) = some all) : uniV [] (L.take (n + 1)) = stepU all v := by
  obtain ⟨hlt, rfl⟩ := List.getElem?_eq_some_iff.1 hv
  rw [List.take_succ_eq_append_getElem hlt, uniV_append, h]
  simp only [Option.bind_some, uniV]
  cases stepU all L[n] <;> rfl
theorem uniV_bad {L : List Vt} {n : Nat} (h : uniV [] (L.take n) = none) : uniV [] L = none := by
  rw [← List.take_append_drop n L, uniV_append, h]
  rfl
theorem cut_hit {l : List Vt} {n : Int} {i : Nat} (hs : SortedT l) (hc : Cut l n i) (h : hasT l n = true) : ∃ u, l[i]? = some u ∧ u.a = n ∧ ofT l n = some u := by
  unfold hasT at h
  rw [List.any_eq_true] at h
  obtain ⟨u, hu, he⟩ := h
  obtain ⟨m, hm, rfl⟩ := List.getElem_of_mem hu
  have he : l[m].a = n := by simpa using he
  have hg := List.getElem?_eq_getElem hm
  rcases Nat.lt_trichotomy m i with h1 | h1 | h1
  · have := hc.lo m _ h1 hg; omega
  · subst h1
    exact ⟨_, hg, he, ofT_hit hg he (fun j x hj hx => by have := hc.lo j x hj hx; omega)⟩
  · have hi := List.getElem?_eq_getElem (show i < l.length by omega)
    have h2 := hc.hi i _ (Nat.le_refl _) hi
    have h3 := hs.at hi hg h1
    omega
theorem hasT_ofT {l : List Vt} {n : Int} (h : hasT l n = false) : ofT l n = none := by
  unfold hasT at h
  rw [List.any_eq_false] at h
  unfold ofT
  rw [List.find?_eq_none]
  exact h
theorem insV_sorted {l : List Vt} {v : Vt} {i : Nat} (hs : SortedT l) (hc : Cut l v.a i) (h : hasT l v.a = false) : SortedT (insV l v) := by
  rw [← hc.insV]
  unfold insT SortedT
  have hn : ∀ u ∈ l, u.a ≠ v.a := ofT_none (hasT_ofT h)
  have hlo : ∀ u ∈ l.take i, u.a < v.a := fun u hu => by
    obtain ⟨m, hm, rfl⟩ := List.getElem_of_mem hu
    rw [List.length_take] at hm
    rw [List.getElem_take]
    exact hc.lo m _ (by omega) (List.getElem?_eq_getElem (by omega))
  have hhi : ∀ u ∈ l.drop i, v.a < u.a := fun u hu => by
    obtain ⟨m, hm, rfl⟩ := List.getElem_of_mem hu
    rw [List.length_drop] at hm
    rw [List.getElem_drop]
    have h1 := hc.hi (i + m) _ (by omega) (List.getElem?_eq_getElem (by omega))
    have h2 := hn _ (List.getElem_mem (show i + m < l.length by omega))
    omega
  have hp := hs
  rw [← List.take_append_drop i l] at hp
  unfold SortedT at hp
  rw [List.pairwise_append] at hp
  rw [List.pairwise_append]
  refine ⟨hp.1, List.pairwise_cons.2 ⟨fun u hu => hhi u hu, hp.2.1⟩, fun x hx y hy => ?_⟩
  rcases List.mem_cons.1 hy with rfl | hy
  · exact hlo x hx
  · have := hlo x hx; have := hhi y hy; omega
theorem insV_mem {l : List Vt} {v u : Vt} (h : u ∈ insV l v) : u = v ∨ u ∈ l := by
  unfold insV at h
  rcases List.mem_append.1 h with h | h
  · exact .inr ((List.takeWhile_sublist _).mem h)
  · rcases List.mem_cons.1 h with h | h
    · exact .inl h
    · exact .inr ((List.dropWhile_sublist _).mem h)
theorem insV_len (l : List Vt) (v : Vt) : (insV l v).length = l.length + 1 := by
  unfold insV
  have := congrArg List.length (List.takeWhile_append_dropWhile (p := fun u : Vt => decide (u.a < v.a)) (l := l))
  simp only [List.length_append, List.length_cons] at this ⊢
  omega
/-- Between two votes. -/
structure UnI (w wr : World) (L : List Vt) (n : Nat) (sv : Value) (all : List Vt) : Prop where
  own : OwnT wr w.heap.size sv all
  bel : Below w.heap.size w wr
  ok : ∀ v ∈ all, VtOk v
  srt : SortedT all
  len : all.length ≤ n
  eq : uniV [] (L.take n) = some all
theorem UnI.more {w wr w2 w3 : World} {L all : List Vt} {n i : Nat} {sv sv3 : Value} {v : Vt} {o1 o2 : Obj} (H : UnI w wr L n sv all) (hv : L[n]? = some v) (hok : VtOk v) (hc : Cut all v.a i) (hh : hasT all v.a = false)
    (hb : Below (wr.alloc o1).heap.size (wr.alloc o1) w2) (ho : OwnT w3 w.heap.size sv3 (insT all i v)) (hg : (w2.alloc o2).grownBy w3 sv.ownBlock) : UnI w w3 L (n + 1) sv3 (insV all v) := by
  rw [hc.insV] at ho
  have hs := H.bel.size
  have b1 : Below w.heap.size w w2 := (H.bel.alloc hs o1).trans (hb.mono (by have := (Below.alloc (Below.refl wr.heap.size wr) (Nat.le_refl _) o1).size; omega))
  have b2 := b1.alloc b1.size o2
  refine ⟨ho, b2.grown hg b2.size (fun k hk => (H.own.lt hk).1), fun u hu => ?_, insV_sorted H.srt hc hh, by rw [insV_len]; have := H.len; omega, ?_⟩
  · rcases insV_mem hu with rfl | hu
    · exact hok
    · exact H.ok u hu
  · rw [uniV_take hv H.eq]
    unfold stepU
    rw [hasT_ofT hh]
theorem UnI.same {w wr w2 : World} {L all : List Vt} {n : Nat} {sv : Value} {v u : Vt} {o1 : Obj} (H : UnI w wr L n sv all) (hv : L[n]? = some v) (ho : ofT all v.a = some u) (he : u.s = v.s) (hb : Below (wr.alloc o1).heap.size (wr.alloc o1) w2) : UnI w w2 L (n + 1) sv all := by
  have hs := H.bel.size
  have b0 := Below.alloc (Below.refl wr.heap.size wr) (Nat.le_refl _) o1
  have b1 : Below wr.heap.size wr w2 := b0.trans (hb.mono b0.size)
  refine ⟨H.own.below b1, H.bel.trans (b1.mono hs), H.ok, H.srt, by have := H.len; omega, ?_⟩
  rw [uniV_take hv H.eq]
  unfold stepU
  rw [ho]
  simp only [he, if_true]
theorem UnI.drewN {w wr : World} {L all : List Vt} {n : Nat} {sv : Value} (H : UnI w wr L n sv all) (k : Nat) : UnI w (wr.drewN k) L n sv all := ⟨H.own.below ((Below.refl _ _).drewN k), H.bel.drewN k, H.ok, H.srt, H.len, H.eq⟩
theorem UnI.bad {w wr : World} {L all : List Vt} {n : Nat} {sv : Value} {v u : Vt} (H : UnI w wr L n sv all) (hv : L[n]? = some v) (ho : ofT all v.a = some u) (he : u.s ≠ v.s) : uniV [] L = none := by
  refine uniV_bad (n := n + 1) ?_
  rw [uniV_take hv H.eq]
  unfold stepU
  rw [ho]
  simp only [he, if_false]
def offU (L : Nat → List Vt) (k : Nat) : Nat := if k = 0 then 0 else if k = 1 then (L 0).length else (L 0).length + (L 1).length
theorem offU_get {L : Nat → List Vt} {k i : Nat} (hk : k < 2) (hi : i < (L k).length) : (L 0 ++ L 1)[offU L k + i]? = (L k)[i]? := by
  unfold offU
  rcases (show k = 0 ∨ k = 1 by omega) with rfl | rfl
  · simp only [if_true, Nat.zero_add]
    rw [List.getElem?_append_left hi]
  · simp only [if_neg (show ¬ (1 : Nat) = 0 by decide), if_true]
    rw [List.getElem?_append_right (by omega)]
    congr 1; omega
theorem offU_next (L : Nat → List Vt) {k : Nat} (hk : k < 2) : offU L (k + 1) = offU L k + (L k).length := by
  unfold offU
  rcases (show k = 0 ∨ k = 1 by omega) with rfl | rfl <;> simp
theorem offU_le (L : Nat → List Vt) {k i : Nat} (hk : k < 2) (hi : i ≤ (L k).length) (h : ∀ k < 2, (L k).length ≤ 64) : offU L k + i ≤ 128 := by
  have h0 := h 0 (by omega)
  have h1 := h 1 (by omega)
  unfold offU
  rcases (show k = 0 ∨ k = 1 by omega) with rfl | rfl
  · simp; omega
  · simp; omega
set_option maxRecDepth 100000 in
set_option maxHeartbeats 4000000 in
theorem cunion_any (x : Nat) (A : Nat → Option Addr) (B O C : Nat → Nat) (L : Nat → List Vt) (w : World) (hx : ∀ k, k < 2 → w.cell? ⟨x, k, none⟩ = some (.slice (A k) (L k).length (C k))) (hT : ∀ k, k < 2 → Ts w (A k) (B k) (O k) (C k) (L k)) (hl : ∀ k, k < 2 → (L k).length ≤ 64) (hxl : x < w.heap.size) :
    Calls Try.prog 175 #[.slice (some ⟨x, 0, none⟩) 2 2] w fun e w' => ∃ sv, e = .returned (.tuple #[sv, .int .i64 ((uniO (L 0) (L 1)).2 : Nat)]) ∧ OwnT w' w.heap.size sv (uniO (L 0) (L 1)).1 ∧ Below w.heap.size w w' := by
  have HT := hidp hT
  have HX := hidp hx
  have HL := hidp hl
  obtain ⟨r, hr⟩ : ∃ r, r = uniO (L 0) (L 1) := ⟨_, rfl⟩
  rw [← hr]
  replace hr := hidp hr
  have H0 : Hid (UnI w w (L 0 ++ L 1) (offU L 0) (.slice none 0 0) []) := hidp ⟨OwnT.nil _ _, Below.refl _ _, by simp, List.Pairwise.nil, by simp, by unfold offU; simp [uniV]⟩
  clear hT hx hl
  go_enter Try.func175, Try.ntmps175
  go_wp2_with fail
  go_step3
  go_wp2_with fail
  go_step3
  go_wp2_with fail
  go_loopg [4, 5, 14] 2 (fun g s4 s5 s14 wr => ∃ (k : Nat) (all : List Vt), k + g = 2 ∧ s14 = .int .i64 k ∧ s5 = .int .i64 0 ∧ Hid (UnI w wr (L 0 ++ L 1) (offU L k) s4 all))
  case atStart => exact ⟨0, [], by omega, rfl, rfl, H0⟩
  case round =>
    obtain ⟨k, all, hk, rfl, rfl, HI⟩ := hrel
    clear H0
    cases gk with
    | zero =>
      obtain rfl : k = 2 := by omega
      have hR := hidp (show r = (all, 0) by
        rw [hr.out]
        unfold uniO
        have e := HI.out.eq
        rw [show offU L 2 = (L 0 ++ L 1).length by unfold offU; simp, List.take_length] at e
        rw [e])
      obtain ⟨p4, b4, q4, rfl, hb4, hs4, hz4⟩ := HI.out.own.ts HI.out.ok
      clear hs4
      go_wp2_with fail
      exact bodyPost_ret (v := .tuple #[.slice p4 all.length q4, .int .i64 0]) (by simp [results, Try.results175, go_sem]) rfl ⟨_, by rw [hR.out]; rfl, by rw [hR.out]; exact HI.out.own, HI.out.bel⟩
    | succ g =>
      have hk2 : k < 2 := by omega
      have hkz : (k : Int) < 2 := by omega
      obtain ⟨ak, hak⟩ : ∃ a, a = A k := ⟨_, rfl⟩
      have hkc : wr.cell? ⟨x, k, none⟩ = some (.slice ak (L k).length (C k)) := by rw [hak]; exact (HI.out.bel.cell (p := ⟨x, k, none⟩) hxl).trans (HX.out k hk2)
      have hTk := hidp (show Ts w ak (B k) (O k) (C k) (L k) by rw [hak]; exact HT.out k hk2)
      clear hak
      go_wp2_with fail
      go_loopg [4, 5, 20] (L k).length (fun g2 s4 s5 s20 wy => ∃ (i : Nat) (all : List Vt), i + g2 = (L k).length ∧ s20 = .int .i64 i ∧ s5 = .int .i64 0 ∧ Hid (UnI w wy (L 0 ++ L 1) (offU L k + i) s4 all))
      case atStart => exact ⟨0, all, by omega, rfl, rfl, HI⟩
      case round =>
        obtain ⟨i, all, hi, rfl, rfl, HJ⟩ := hrel
        clear HI hkc
        cases gk with
        | zero =>
          obtain rfl : i = (L k).length := by omega
          obtain ⟨p4, b4, q4, rfl, hb4, hs4, hz4⟩ := HJ.out.own.ts HJ.out.ok
          clear hs4
          have H2 := hidp (show UnI w wr (L 0 ++ L 1) (offU L (k + 1)) (.slice p4 all.length q4) all by rw [offU_next L hk2]; exact HJ.out)
          clear HJ
          go_wp2_with fail
          go_roundg g
          case measure => omega
          case rel => exact ⟨k + 1, all, by omega, by first | rfl | simp, rfl, H2⟩
        | succ g2 =>
          have hlt : i < (L k).length := by omega
          have hadd := w64_nat (n := i) (by have := HL.out k hk2; omega)
          have hltz : (i : Int) < ((L k).length : Int) := by omega
          obtain ⟨v, hv, hok, rfl, hbl, c0, c1⟩ := (hTk.out.below HJ.out.bel).at hlt
          have HV := hidp (And.intro ((offU_get hk2 hlt).trans hv) hok)
          have hN := hidp (show all.length ≤ 128 by have := HJ.out.len; have := offU_le L (i := i) hk2 (by omega) HL.out; omega)
          obtain ⟨p4, b4, q4, rfl, hb4, hs4, hz4⟩ := HJ.out.own.ts HJ.out.ok
          have hAl := hidp ((Below.refl wr.heap.size wr).alloc (Nat.le_refl _) (.cells #[.int .i64 v.a, .int .u64 (v.s : Nat)] 83))
          have HF := hidp (cfind_any p4 b4 0 q4 all v.a _ (hs4.below hAl.out) HJ.out.srt (by have := hN.out; omega))
          have hbx := hidp (Blk.new wr (tL v) 83)
          have hs5 := hidp hs4
          clear hs4 hv hok hlt
          go_wp2_with fail
          refine HF.out.mono ?_
          rintro e w2 ⟨⟨j, rfl, hcut⟩, hb⟩
          have hB := hidp hb
          have HC := hidp hcut
          have d0 : w2.cell? ⟨wr.heap.size, 0, none⟩ = some (.int .i64 v.a) := (hb.blk' hbx.out).cell 0
          have d1 : w2.cell? ⟨wr.heap.size, 1, none⟩ = some (.int .u64 (v.s : Nat)) := (hb.blk' hbx.out).cell 1
          clear HF hcut hb c0 c1
          cases hh : hasT all v.a
          case false =>
            have ho2 : OwnT (w2.alloc (.cells (tL v).toArray 83)) w.heap.size (.slice p4 all.length q4) all := ((HJ.out.own.below hAl.out).below hB.out).below ((Below.refl _ w2).alloc (Nat.le_refl _) _)
            have hz2 : w.heap.size ≤ w2.heap.size := by have := HJ.out.bel.size; have := hAl.out.size; have := hB.out.size; omega
            have hne := hidp (show (Value.slice p4 all.length q4).ownBlock ≠ some w2.heap.size from fun e => by have := (((HJ.out.own.below hAl.out).below hB.out).lt e).2; omega)
            have HI2 := hidp (tinsert_any w.heap.size (.slice p4 all.length q4) all j v w2.heap.size _ ho2 HC.out.le (by have := hN.out; omega) (Blk.new w2 (tL v) _) hne.out (by simp; omega))
            clear ho2 hz2
            go_wp2_with fail
            refine HI2.out.mono ?_
            rintro e w3 ⟨v3, rfl, ho3, hg3⟩
            have H3 := hidp (HJ.out.more HV.out.1 HV.out.2 HC.out hh hB.out ho3 hg3)
            clear ho3 hg3 HI2 HJ d0 d1
            go_wp2_with fail
            go_roundg g2
            case measure => omega
            case rel => exact ⟨i + 1, _, by omega, by rw [hadd], rfl, H3⟩
          case true =>
            obtain ⟨u, hu, hua, hof⟩ := cut_hit HJ.out.srt HC.out hh
            have hjl := (List.getElem?_eq_some_iff.1 hu).1
            obtain ⟨u2, hu2, _, hp4, hbl4, e0, e1⟩ := ((hs5.out.below hAl.out).below hB.out).at hjl
            rw [hu] at hu2
            cases hu2
            have hOF := hidp hof
            subst hp4
            rw [Nat.zero_add] at e0 e1
            clear hu hof
            by_cases hs : u.s = v.s
            · have H3 := hidp (HJ.out.same HV.out.1 hOF.out hs hB.out)
              have ht : ((u.s : Int) != (v.s : Int)) = false := by simp [hs]
              clear HJ hs
              go_wp2_with fail
              go_quiet (fail)
              go_wp2_with fail
              go_roundg g2
              case measure => omega
              case rel => exact ⟨i + 1, _, by omega, by rw [hadd], rfl, hidp (H3.out.drewN nq)⟩
            · have H3 := hidp (HJ.out.bad HV.out.1 hOF.out hs)
              have hbb := hidp (show Below w.heap.size w w2 from HJ.out.bel.trans ((hAl.out.trans (hB.out.mono hAl.out.size)).mono HJ.out.bel.size))
              have ht : ((u.s : Int) != (v.s : Int)) = true := by rw [bne_iff_ne]; omega
              clear HJ hs
              go_wp2_with fail
              go_quiet (fail)
              go_wp2_with fail
              rw [Exit.noGoto_ret]
              exact bodyPost_ret (v := .tuple #[.slice none 0 0, .int .i64 8]) (by simp [results, Try.results175, go_sem]) rfl ⟨_, by rw [hr.out]; unfold uniO; rw [H3.out]; rfl, by rw [hr.out]; unfold uniO; rw [H3.out]; exact OwnT.nil _ _, hbb.out.drewN nq⟩
end Go.Proofs.Ytbhkjflpkpkdlaa
