/-
  Texts Vi, Vj, Vk, one behind the other.
-/
import Derived.Test.YtcmkmnidnapabaaGreatUa
import Derived.Test.YtcmkmnidnapabaaGreatUb
import Derived.Deep.RegionHeld3
import Derived.RangeFuncNested
import Derived.RangeFuncBound
import Derived.RangeFuncCalls
import Derived.RangeFuncLeaves
import Derived.Shelf.Abstract
import Derived.Shelf.RegionOpen
import Derived.OwnWalkIn
import Derived.TacticsInMore
import Derived.LoopNIn
import Derived.LoopIn
import Derived.ControlIn
import Derived.RegionTactic

/-! Vi: The first keys of two lists compared; a key found in a set; what is wrong with changes. -/
namespace Go.Proofs.YtcmkmnidnapabaaGreat
open Go.RowKit Go.Lib

def SortedK (l : List Vd) : Prop := l.Pairwise (fun u v => u.k < v.k)
theorem sorted_of {least : Int} : ∀ {l : List Vd} {q : Option Nat}, chkFrom least q l = 0 → SortedK l ∧ ∀ x, q = some x → ∀ v ∈ l, x < v.k
  | [], _, _ => ⟨List.Pairwise.nil, fun _ _ v hv => by simp at hv⟩
  | u :: l, q, h => by
    simp only [chkFrom] at h
    by_cases h0 : nextE q u least = 0
    · rw [if_pos h0] at h
      have ih := sorted_of h
      have hu := ih.2 u.k rfl
      refine ⟨List.Pairwise.cons hu ih.1, fun x hx v hv => ?_⟩
      have h1 := (nextE_zero h0).2.2 x hx
      rcases List.mem_cons.1 hv with rfl | hv
      · exact h1
      · exact Nat.lt_trans h1 (hu v hv)
    · rw [if_neg h0] at h; exact absurd h h0
theorem sorted_at {l : List Vd} (h : SortedK l) {i j : Nat} {u v : Vd} (hi : l[i]? = some u) (hj : l[j]? = some v) (hij : i < j) : u.k < v.k := by
  obtain ⟨h1, rfl⟩ := List.getElem?_eq_some_iff.1 hi
  obtain ⟨h2, rfl⟩ := List.getElem?_eq_some_iff.1 hj
  exact List.pairwise_iff_getElem.1 h i j h1 h2 hij
def cmpF : List Vd → List Vd → Int
  | _, [] => -1
  | [], _ :: _ => 1
  | a :: _, b :: _ => cmpK a.k b.k
set_option maxRecDepth 20000 in
set_option maxHeartbeats 1000000 in
theorem compareFirst_any (a1 : Option Addr) (b1 o1 cap1 : Nat) (l1 : List Vd) (a2 : Option Addr) (b2 o2 cap2 : Nat) (l2 : List Vd) (w : World) (h1 : Vs w a1 b1 o1 cap1 l1) (h2 : Vs w a2 b2 o2 cap2 l2) :
    Calls Tryz.prog 256 #[.slice a1 l1.length cap1, .slice a2 l2.length cap2] w fun e w' => e = .returned (.int .i64 (cmpF l1 l2)) ∧ Below w.heap.size w w' := by
  cases l2 with
  | nil =>
    have e : cmpF l1 [] = -1 := by cases l1 <;> rfl
    rw [e]
    clear h1 h2 e
    go_enter Tryz.func256, Tryz.ntmps256
    go_wp2
    go_ret
    exact ⟨rfl, Below.refl _ _⟩
  | cons v l2 =>
    have ht2 : ((((v :: l2).length : Nat) : Int) == 0) = false := by rw [beq_eq_false_iff_ne]; simp; omega
    cases l1 with
    | nil =>
      clear h1 h2
      show Calls _ _ _ _ _
      go_enter Tryz.func256, Tryz.ntmps256
      go_wp2
      go_ret
      exact ⟨rfl, Below.refl _ _⟩
    | cons u l1 =>
      have ht1 : ((((u :: l1).length : Nat) : Int) == 0) = false := by rw [beq_eq_false_iff_ne]; simp; omega
      obtain ⟨u', hu, hok1, rfl, hbl1, c0, c1, c2, c3, _⟩ := h1.at (i := 0) (by simp)
      obtain ⟨v', hv, hok2, rfl, hbl2, d0, d1, d2, d3, _⟩ := h2.at (i := 0) (by simp)
      simp only [List.getElem?_cons_zero, Option.some.injEq] at hu hv
      subst hu hv
      have hl1 : 0 < (u :: l1).length := by simp
      have hl2 : 0 < (v :: l2).length := by simp
      have HC := hidp (fun W => compare_any u.k v.k W hok1.k hok2.k)
      have ez : (0 : Nat) * 5 = 0 := rfl
      simp only [ez, Nat.add_zero] at c0 c1 c2 c3 d0 d1 d2 d3
      generalize (u :: l1).length = n1 at *
      generalize (v :: l2).length = n2 at *
      show Calls _ _ _ _ (fun e w' => e = .returned (.int .i64 (cmpK u.k v.k)) ∧ Below w.heap.size w w')
      clear h1 h2 hok1 hok2
      go_enter Tryz.func256, Tryz.ntmps256
      go_wp2_with fail
      refine region_tail 8 (by kernel_rfl) (by kernel_rfl) ?_
      intro wd hwd
      have ec : ∀ p, wd.cell? p = w.cell? p := fun p => by rw [hwd.out]; rfl
      have hB := hidp (show Below w.heap.size w wd by rw [hwd.out]; exact (Below.refl _ w).drew)
      rw [← ec] at c0 c1 c2 c3 d0 d1 d2 d3
      clear ec hwd
      simp only [List.take_succ_cons, List.take_zero, List.drop_succ_cons, List.drop_zero]
      repeat still_step
      try refine wpStill_nil ?_
      go_wp2_with fail
      refine (HC.out wd).mono ?_
      rintro e w2 ⟨rfl, hb⟩
      have hB2 := hidp (hB.out.trans (hb.mono hB.out.size))
      clear hb
      go_wp2_with fail
      go_ret
      exact ⟨rfl, hB2.out⟩

set_option maxRecDepth 20000 in
theorem has1_any (k : Nat) (v : Vd) (w : World) (hk : k < 4294967296) (hv : v.k < 4294967296) :
    Calls Tryz.prog 283 #[.agg #[.int .u8 (kd (v).k 3 : Nat), .int .u8 (kd (v).k 2 : Nat), .int .u8 (kd (v).k 1 : Nat), .int .u8 (kd (v).k 0 : Nat), .int .i64 (v).p], .agg #[.int .u8 (kd k 3 : Nat), .int .u8 (kd k 2 : Nat), .int .u8 (kd k 1 : Nat), .int .u8 (kd k 0 : Nat)]] w fun e w' => e = .returned (.int .i64 (cmpK v.k k)) ∧ Below w.heap.size w w' := by
  have HC := hidp (fun W => compare_any v.k k W hv hk)
  clear hk hv
  go_enter Tryz.func283, Tryz.ntmps283
  go_wp2_with fail
  refine (HC.out _).mono ?_
  rintro e w2 ⟨rfl, hb⟩
  have hB := hidp ((((Below.refl w.heap.size w).alloc (Nat.le_refl _) (.cells #[.int .u8 (kd (v).k 3 : Nat), .int .u8 (kd (v).k 2 : Nat), .int .u8 (kd (v).k 1 : Nat), .int .u8 (kd (v).k 0 : Nat), .int .i64 (v).p] 111)).alloc (by simp) (.cells #[.int .u8 (kd k 3 : Nat), .int .u8 (kd k 2 : Nat), .int .u8 (kd k 1 : Nat), .int .u8 (kd k 0 : Nat)] 24)).trans (hb.mono (by simp; omega)))
  clear hb
  go_wp2_with fail
  go_ret
  exact ⟨rfl, hB.out⟩

/-- A key stands in a list. -/
def hasK (l : List Vd) (k : Nat) : Bool := l.any (fun v => v.k == k)
theorem hasK_hit {l : List Vd} {k i : Nat} {v : Vd} (hv : l[i]? = some v) (h : v.k = k) : hasK l k = true := by
  unfold hasK
  rw [List.any_eq_true]
  exact ⟨v, List.mem_of_getElem? hv, by simpa using h⟩
theorem hasK_miss {l : List Vd} {k : Nat} (h : ∀ (i : Nat) (v : Vd), l[i]? = some v → v.k ≠ k) : hasK l k = false := by
  unfold hasK
  rw [List.any_eq_false]
  intro x hx
  obtain ⟨i, hi, rfl⟩ := List.getElem_of_mem hx
  simpa using h i _ (List.getElem?_eq_getElem hi)
/-- An element, and a key, lie in their blocks. -/
def ES (b f x k : Nat) (v : Vd) (W : World) : Prop :=
  W.cell? ⟨b, f, none⟩ = some (.int .u8 (kd v.k 3 : Nat)) ∧ W.cell? ⟨b, f + 1, none⟩ = some (.int .u8 (kd v.k 2 : Nat)) ∧ W.cell? ⟨b, f + 2, none⟩ = some (.int .u8 (kd v.k 1 : Nat)) ∧ W.cell? ⟨b, f + 3, none⟩ = some (.int .u8 (kd v.k 0 : Nat)) ∧ W.cell? ⟨b, f + 4, none⟩ = some (.int .i64 v.p) ∧
  W.cell? ⟨x, 0, none⟩ = some (.int .u8 (kd k 3 : Nat)) ∧ W.cell? ⟨x, 1, none⟩ = some (.int .u8 (kd k 2 : Nat)) ∧ W.cell? ⟨x, 2, none⟩ = some (.int .u8 (kd k 1 : Nat)) ∧ W.cell? ⟨x, 3, none⟩ = some (.int .u8 (kd k 0 : Nat))
theorem ES.drew {b f x k : Nat} {v : Vd} {W : World} (h : Hid (ES b f x k v W)) : Hid (ES b f x k v W.drew) := hidp h.out
theorem ES.below {b f x k : Nat} {v : Vd} {W W' : World} (h : Hid (ES b f x k v W)) (hB : Below W.heap.size W W') : Hid (ES b f x k v W') := by
  obtain ⟨h1, h2, h3, h4, h5, h6, h7, h8, h9⟩ := h.out
  have q : ∀ {p : Addr} {u : Value}, W.cell? p = some u → W'.cell? p = some u := fun hc => (hB.cell (cell_lt hc)).trans hc
  exact hidp ⟨q h1, q h2, q h3, q h4, q h5, q h6, q h7, q h8, q h9⟩
structure BsI (w wr : World) (i j k : Nat) (l : List Vd) : Prop where
  bel : Below w.heap.size w wr
  key : Blk wr w.heap.size [.int .u8 (kd k 3 : Nat), .int .u8 (kd k 2 : Nat), .int .u8 (kd k 1 : Nat), .int .u8 (kd k 0 : Nat)] 24
  hij : i ≤ j
  hj : j ≤ l.length
  lo : ∀ (m : Nat) (u : Vd), m < i → l[m]? = some u → u.k < k
  hi : ∀ (m : Nat) (u : Vd), j ≤ m → l[m]? = some u → k ≤ u.k
set_option maxRecDepth 20000 in
set_option maxHeartbeats 1000000 in
theorem bsearch_any (a : Option Addr) (b o cap : Nat) (l : List Vd) (k : Nat) (w : World) (h : Vs w a b o cap l) (hs : SortedK l) (hl : l.length ≤ 1000000) (hk : k < 4294967296) :
    Calls Tryz.prog 282 #[.slice a l.length cap, .agg #[.int .u8 (kd k 3 : Nat), .int .u8 (kd k 2 : Nat), .int .u8 (kd k 1 : Nat), .int .u8 (kd k 0 : Nat)], .func (.func 283) #[] #[]] w fun e w' => (∃ n : Nat, e = .returned (.tuple #[.int .i64 (n : Nat), .bool (hasK l k)])) ∧ Below w.heap.size w w' := by
  have H := hidp h
  have HS := hidp hs
  have HL := hidp (And.intro hl hk)
  have HB : Hid (Below w.heap.size w (w.alloc (.cells #[.int .u8 (kd k 3 : Nat), .int .u8 (kd k 2 : Nat), .int .u8 (kd k 1 : Nat), .int .u8 (kd k 0 : Nat)] 24)) ∧ Blk (w.alloc (.cells #[.int .u8 (kd k 3 : Nat), .int .u8 (kd k 2 : Nat), .int .u8 (kd k 1 : Nat), .int .u8 (kd k 0 : Nat)] 24)) w.heap.size [.int .u8 (kd k 3 : Nat), .int .u8 (kd k 2 : Nat), .int .u8 (kd k 1 : Nat), .int .u8 (kd k 0 : Nat)] 24) := hidp ⟨(Below.refl _ w).alloc (Nat.le_refl _) _, Blk.new w _ _⟩
  clear h hs hl hk
  obtain ⟨w0, hw0⟩ : ∃ w0, w0 = w.alloc (.cells #[.int .u8 (kd k 3 : Nat), .int .u8 (kd k 2 : Nat), .int .u8 (kd k 1 : Nat), .int .u8 (kd k 0 : Nat)] 24) := ⟨_, rfl⟩
  rw [← hw0] at HB
  have H0 : Hid (BsI w w0 0 l.length k l) := hidp ⟨HB.out.1, HB.out.2, Nat.zero_le _, Nat.le_refl _, fun m u hm => by omega, fun m u hm hu => by have := (List.getElem?_eq_some_iff.1 hu).1; omega⟩
  have hx0 := HB.out.2.lt
  go_enter Tryz.func282, Tryz.ntmps282
  go_wp2_with fail
  rw [← hw0]
  clear hw0 HB
  go_loopw [9, 10] (fun x y wr => ∃ i j : Nat, x = .int .i64 i ∧ y = .int .i64 j ∧ Hid (BsI w wr i j k l)) (fun x y _ => (Go.RowKit.intOf y).toNat - (Go.RowKit.intOf x).toNat)
  case atStart => exact ⟨0, l.length, rfl, rfl, H0⟩
  case round =>
    obtain ⟨i, j, rfl, rfl, hr⟩ := hrel
    clear H0
    have hj := hr.out.hj
    have hl1 := HL.out.1
    by_cases hlt : i < j
    · go_wp2_with fail
      obtain ⟨m, hm⟩ : ∃ m : Nat, m = (i + j) / 2 := ⟨_, rfl⟩
      have hm2 : ((i : Int) + (j : Int)) / 2 = ((m : Nat) : Int) := by omega
      rw [hm2]
      have hmi : i ≤ m ∧ m < j := by omega
      have hml : m < l.length := by omega
      refine region_tail 6 (by kernel_rfl) (by kernel_rfl) ?_
      intro wd hwd
      have ec : ∀ p, wd.cell? p = wr.cell? p := fun p => by rw [hwd.out]; rfl
      have hB := hidp (show Below w.heap.size w wd ∧ Blk wd w.heap.size [.int .u8 (kd k 3 : Nat), .int .u8 (kd k 2 : Nat), .int .u8 (kd k 1 : Nat), .int .u8 (kd k 0 : Nat)] 24 by rw [hwd.out]; exact ⟨hr.out.bel.drew, hr.out.key.drew⟩)
      obtain ⟨v, hv, hok, rfl, hbl, c0, c1, c2, c3, c4⟩ := (H.out.below hB.out.1).at hml
      have k0 := hB.out.2.cell 0
      have k1 := hB.out.2.cell 1
      have k2 := hB.out.2.cell 2
      have k3 := hB.out.2.cell 3
      simp only [List.getElem?_cons_zero, List.getElem?_cons_succ] at k0 k1 k2 k3
      have HV := hidp (And.intro hv hok)
      clear hwd ec hv hok hm
      simp only [List.take_succ_cons, List.take_zero, List.drop_succ_cons, List.drop_zero]
      repeat still_step
      try refine wpStill_nil ?_
      clear k0 k1 k2 k3 c0 c1 c2 c3 c4
      go_wp2_with fail
      refine (has1_any k v wd HL.out.2 HV.out.2.k).mono ?_
      rintro e w2 ⟨rfl, hb⟩
      have hB2 := hidp (And.intro (hB.out.1.trans (hb.mono hB.out.1.size)) (hb.blk' hB.out.2))
      clear hb
      by_cases hc : v.k < k
      · have hd : decide (cmpK v.k k < 0) = true := decide_eq_true (by unfold cmpK; rw [if_pos hc]; decide)
        have H2 : Hid (BsI w w2 (m + 1) j k l) := hidp ⟨hB2.out.1, hB2.out.2, by omega, hj, fun n u hn hu => by
          rcases Nat.lt_or_ge n m with h1 | h1
          · exact Nat.lt_trans (sorted_at HS.out hu HV.out.1 h1) hc
          · obtain rfl : n = m := by omega
            rw [HV.out.1] at hu; cases hu; exact hc, hr.out.hi⟩
        clear hr hc
        generalize cmpK v.k k = z at *
        go_wp2_with fail
        refine ⟨⟨m + 1, j, by simp, rfl, H2⟩, ?_⟩
        show (j : Int).toNat - ((m : Int) + 1).toNat < (j : Int).toNat - (i : Int).toNat
        omega
      · have hd : decide (cmpK v.k k < 0) = false := decide_eq_false (by unfold cmpK; rw [if_neg hc]; split <;> decide)
        have H2 : Hid (BsI w w2 i m k l) := hidp ⟨hB2.out.1, hB2.out.2, by omega, by omega, hr.out.lo, fun n u hn hu => by
          rcases Nat.lt_or_ge m n with h1 | h1
          · have := sorted_at HS.out HV.out.1 hu h1; omega
          · obtain rfl : n = m := by omega
            rw [HV.out.1] at hu; cases hu; omega⟩
        clear hr hc
        generalize cmpK v.k k = z at *
        go_wp2_with fail
        refine ⟨⟨i, m, rfl, rfl, H2⟩, ?_⟩
        show (m : Int).toNat - (i : Int).toNat < (j : Int).toNat - (i : Int).toNat
        omega
    · obtain rfl : i = j := by have := hr.out.hij; omega
      clear hlt
      by_cases hin : i < l.length
      · obtain ⟨v, hv, hok, rfl, hbl, c0, c1, c2, c3, c4⟩ := (H.out.below hr.out.bel).at hin
        have hE := hidp (show ES b (o + i * 5) w.heap.size k v wr from ⟨c0, c1, c2, c3, c4, hr.out.key.cell 0, hr.out.key.cell 1, hr.out.key.cell 2, hr.out.key.cell 3⟩)
        have HV := hidp (And.intro hv hok)
        have hR := hidp (show hasK l k = decide (cmpK v.k k = 0) from by
          by_cases hc : v.k = k
          · rw [hasK_hit hv hc]; unfold cmpK; simp [hc]
          · rw [hasK_miss (fun n u hu he => by
              rcases Nat.lt_trichotomy n i with h1 | h1 | h1
              · have := hr.out.lo n u h1 hu; omega
              · subst h1; rw [hv] at hu; cases hu; exact hc he
              · have := sorted_at HS.out hv hu h1; have := hr.out.hi i v (Nat.le_refl _) hv; omega)]
            have : cmpK v.k k ≠ 0 := by unfold cmpK; (repeat' split) <;> omega
            simp [this])
        have hb0 := hidp hr.out.bel
        have hbl2 : w.heap.size < wr.heap.size := by have := hr.out.key.lt; exact this
        clear hv hok hr
        go_wp2_with fail
        clear c0 c1 c2 c3 c4
        go_region_held3 (fun W => W.cell? ⟨b, o + i * 5, none⟩ = some (.int .u8 (kd v.k 3 : Nat)) ∧ W.cell? ⟨b, o + i * 5 + 1, none⟩ = some (.int .u8 (kd v.k 2 : Nat)) ∧ W.cell? ⟨b, o + i * 5 + 2, none⟩ = some (.int .u8 (kd v.k 1 : Nat)) ∧ W.cell? ⟨b, o + i * 5 + 3, none⟩ = some (.int .u8 (kd v.k 0 : Nat)) ∧ W.cell? ⟨b, o + i * 5 + 4, none⟩ = some (.int .i64 v.p) ∧ W.cell? ⟨w.heap.size, 0, none⟩ = some (.int .u8 (kd k 3 : Nat)) ∧ W.cell? ⟨w.heap.size, 1, none⟩ = some (.int .u8 (kd k 2 : Nat)) ∧ W.cell? ⟨w.heap.size, 2, none⟩ = some (.int .u8 (kd k 1 : Nat)) ∧ W.cell? ⟨w.heap.size, 3, none⟩ = some (.int .u8 (kd k 0 : Nat)))
          (first | (with_reducible exact Hid.out (p := ES b (o + i * 5) w.heap.size k v _) (by with_reducible assumption)) | exact Hid.out (p := ES b (o + i * 5) w.heap.size k v _) (by with_reducible assumption) | exact Hid.out (p := ES b (o + i * 5) w.heap.size k v _) (ES.drew (by with_reducible assumption)))
          (first
           | (go_at_call 283; refine (has1_any k v _ HL.out.2 HV.out.2.k).mono ?_; rintro e w2 ⟨rfl, hb⟩; have hB2 := hidp (show Below w.heap.size w w2 from by first | exact hb0.out.trans (hb.mono hb0.out.size) | exact hb0.out.drew.trans (hb.mono hb0.out.size)); have hT := ES.below (by first | exact hE | exact ES.drew hE) hb; clear hb))
        go_wp2_with fail
        exact bodyPost_ret (v := .tuple #[.int .i64 (i : Nat), .bool (cmpK v.k k == 0)]) (by simp [results, Tryz.results282, go_sem]) rfl ⟨⟨i, by rw [hR.out]; rfl⟩, hB2.out⟩
      · have hmiss := hidp (hasK_miss (l := l) (k := k) (fun n v hv => Nat.ne_of_lt (hr.out.lo n v (by have := (List.getElem?_eq_some_iff.1 hv).1; omega) hv)))
        have hB := hidp hr.out.bel
        clear hr
        go_wp2_with fail
        go_quiet (fail)
        go_wp2_with fail
        exact bodyPost_ret (v := .tuple #[.int .i64 (i : Nat), .bool false]) (by simp [results, Tryz.results282, go_sem]) rfl ⟨⟨i, by rw [hmiss.out]⟩, hB.out.drewN _⟩

set_option maxRecDepth 20000 in
theorem has_any (a : Option Addr) (b o cap : Nat) (l : List Vd) (k : Nat) (w : World) (h : Vs w a b o cap l) (hs : SortedK l) (hl : l.length ≤ 1000000) (hk : k < 4294967296) :
    Calls Tryz.prog 254 #[.slice a l.length cap, .agg #[.int .u8 (kd k 3 : Nat), .int .u8 (kd k 2 : Nat), .int .u8 (kd k 1 : Nat), .int .u8 (kd k 0 : Nat)]] w fun e w' => e = .returned (.bool (hasK l k)) ∧ Below w.heap.size w w' := by
  have hA := hidp (fun o' : Obj => (Below.refl w.heap.size w).alloc (Nat.le_refl _) o')
  have HC := hidp (fun o' : Obj => bsearch_any a b o cap l k (w.alloc o') (h.below (hA.out o')) hs hl hk)
  clear h hs hl hk
  go_enter Tryz.func254, Tryz.ntmps254
  go_wp2_with fail
  refine (HC.out _).mono ?_
  rintro e w2 ⟨⟨n, rfl⟩, hb⟩
  have hB := hidp ((hA.out _).trans (hb.mono (hA.out _).size))
  clear hb HC
  go_wp2_with fail
  go_ret
  exact ⟨rfl, hB.out⟩

end Go.Proofs.YtcmkmnidnapabaaGreat

/-! Vj: What is wrong with changes. -/
namespace Go.Proofs.YtcmkmnidnapabaaGreat
open Go.RowKit Go.Lib

/-- What is wrong with changes. -/
def chgFrom (l : List Vd) : Option Nat → List Vd → Nat
  | _, [] => 0
  | q, v :: r => if nextE q v 0 = 0 then (if v.p = 0 ∧ hasK l v.k = false then 10 else chgFrom l (some v.k) r) else nextE q v 0
structure CcI (w wr : World) (g i : Nat) (l c : List Vd) (q : Option Nat) : Prop where
  asc : Asc wr g q
  bel : Below w.heap.size w wr
  hg : w.heap.size ≤ g
  hq : ∀ x, q = some x → x < 4294967296
  e : chgFrom l none c = chgFrom l q (c.drop i)
theorem CcI.split {w wr : World} {g i : Nat} {l c : List Vd} {q : Option Nat} {v : Vd} (H : CcI w wr g i l c q) (hv : c[i]? = some v) : chgFrom l none c = if nextE q v 0 = 0 then (if v.p = 0 ∧ hasK l v.k = false then 10 else chgFrom l (some v.k) (c.drop (i + 1))) else nextE q v 0 := by
  rw [H.e]
  obtain ⟨hlt, rfl⟩ := List.getElem?_eq_some_iff.1 hv
  rw [List.drop_eq_getElem_cons hlt]
  rfl
set_option maxRecDepth 20000 in
set_option maxHeartbeats 1000000 in
theorem checkChanges_any (a : Option Addr) (b o cap : Nat) (l : List Vd) (a2 : Option Addr) (b2 o2 cap2 : Nat) (c : List Vd) (w : World) (h : Vs w a b o cap l) (h2 : Vs w a2 b2 o2 cap2 c) (hs : SortedK l) (hl : l.length ≤ 1000000) (hc : c.length ≤ 1000000) :
    Calls Tryz.prog 204 #[.slice a l.length cap, .slice a2 c.length cap2] w fun e w' => e = .returned (.int .i64 (chgFrom l none c : Nat)) ∧ Below w.heap.size w w' := by
  have H := hidp h
  have H2 := hidp h2
  have HS := hidp (And.intro hs (And.intro hl hc))
  have H0 : Hid (CcI w (w.alloc (.cells #[.int .u8 0, .int .u8 0, .int .u8 0, .int .u8 0, .bool false] 125)) w.heap.size 0 l c none) := hidp ⟨Blk.new w [.int .u8 0, .int .u8 0, .int .u8 0, .int .u8 0, .bool false] _, (Below.refl _ w).alloc (Nat.le_refl _) _, Nat.le_refl _, (fun x h => by cases h), by rw [List.drop_zero]⟩
  clear h h2 hs hl hc
  go_enter Tryz.func204, Tryz.ntmps204
  go_wp2_with fail
  go_loopw [11] (fun x wr => ∃ i : Nat, ∃ q, i ≤ c.length ∧ x = .int .i64 i ∧ Hid (CcI w wr w.heap.size i l c q)) (fun x _ => c.length - (Go.RowKit.intOf x).toNat)
  case atStart => exact ⟨0, none, by omega, rfl, H0⟩
  case round =>
    obtain ⟨i, q, hi, rfl, hr⟩ := hrel
    clear H0
    by_cases hlt : i < c.length
    · obtain ⟨v, hv, hok, rfl, hbl, c0, c1, c2, c3, c4⟩ := (H2.out.below hr.out.bel).at hlt
      have HV := hidp hv
      have HK := hidp (And.intro hlt hok)
      have hadd := w64_nat (n := i) (by have := HS.out.2.2; omega)
      have hsp := hidp (hr.out.split hv)
      clear hv hok
      go_wp2_with fail
      refine (next_w q v 0 hr.out.hq HK.out.2.k (hr.out.asc.below ((Below.refl _ wr).alloc (Nat.le_refl _) _))).mono ?_
      rintro e w2 ⟨rfl, ha, hx⟩
      have hbox := hidp (hx.blk (Blk.new wr [.int .u8 (kd (v).k 3 : Nat), .int .u8 (kd (v).k 2 : Nat), .int .u8 (kd (v).k 1 : Nat), .int .u8 (kd (v).k 0 : Nat), .int .i64 (v).p] 111) (by have := hr.out.asc.lt; omega))
      have b0 := hbox.out.cell 0
      have b1 := hbox.out.cell 1
      have b2' := hbox.out.cell 2
      have b3 := hbox.out.cell 3
      have b4 := hbox.out.cell 4
      simp only [List.getElem?_cons_zero, List.getElem?_cons_succ] at b0 b1 b2' b3 b4
      have hB2 := hidp (show Below w.heap.size w w2 from (hr.out.bel.alloc (by have := hr.out.bel.size; omega) _).trans (hx.below hr.out.hg (by have := hr.out.bel.size; simp; omega)))
      have hg := hidp hr.out.hg
      clear hx
      by_cases h0 : nextE q v 0 = 0
      · have ha2 := hidp (ha (by omega))
        have hsp2 := hidp (show chgFrom l none c = if v.p = 0 ∧ hasK l v.k = false then 10 else chgFrom l (some v.k) (c.drop (i + 1)) by rw [hsp.out, if_pos h0])
        rw [h0]
        clear ha hr hsp
        by_cases hp : v.p = 0
        · have hpb : (v.p == 0) = true := by rw [hp]; rfl
          go_wp2_with fail
          refine (has_any a b o cap l v.k w2 (H.out.below hB2.out) HS.out.1 HS.out.2.1 HK.out.2.k).mono ?_
          rintro e w3 ⟨rfl, hb⟩
          have hB3 := hidp (hB2.out.trans (hb.mono hB2.out.size))
          cases hh : hasK l v.k
          · have hE := hidp (show chgFrom l none c = 10 by rw [hsp2.out, if_pos ⟨hp, hh⟩])
            clear hb
            go_wp2_with fail
            go_ret
            exact ⟨by rw [hE.out]; rfl, hB3.out⟩
          · have H3 : Hid (CcI w w3 w.heap.size (i + 1) l c (some v.k)) := hidp ⟨ha2.out.below hb, hB3.out, hg.out, (fun x hx => by cases hx; exact HK.out.2.k), by rw [hsp2.out, if_neg (by rintro ⟨_, h⟩; rw [hh] at h; cases h)]⟩
            clear hb
            go_wp2_with fail
            rw [hadd]
            exact ⟨⟨i + 1, _, by have := HK.out.1; omega, rfl, H3⟩, by have h1 := HK.out.1; show c.length - ((i + 1 : Nat) : Int).toNat < c.length - ((i : Nat) : Int).toNat; omega⟩
        · have hpb : (v.p == 0) = false := by rw [beq_eq_false_iff_ne]; exact hp
          have H3 : Hid (CcI w w2 w.heap.size (i + 1) l c (some v.k)) := hidp ⟨ha2.out, hB2.out, hg.out, (fun x hx => by cases hx; exact HK.out.2.k), by rw [hsp2.out, if_neg (fun h => hp h.1)]⟩
          clear hp
          go_wp2_with fail
          rw [hadd]
          exact ⟨⟨i + 1, _, by have := HK.out.1; omega, rfl, H3⟩, by have h1 := HK.out.1; show c.length - ((i + 1 : Nat) : Int).toNat < c.length - ((i : Nat) : Int).toNat; omega⟩
      · have hE := hidp (show chgFrom l none c = nextE q v 0 by rw [hsp.out, if_neg h0])
        have hn : (((nextE q v 0 : Nat) : Int) != 0) = true := by rw [bne_iff_ne]; omega
        clear ha hr hsp h0
        generalize nextE q v 0 = n at *
        go_wp2_with fail
        go_ret
        exact ⟨by rw [hE.out]; rfl, hB2.out⟩
    · have hl := hidp (show chgFrom l none c = 0 by rw [hr.out.e, List.drop_eq_nil_of_le (by omega)]; cases q <;> rfl)
      have hb := hidp hr.out.bel
      obtain rfl : i = c.length := by omega
      clear hr hlt
      go_wp2_with fail
      go_ret
      exact ⟨by rw [hl.out]; rfl, hb.out⟩
end Go.Proofs.YtcmkmnidnapabaaGreat

/-! Vk: The validators of a set and of its changes, merged: the iterator. -/
namespace Go.Proofs.YtcmkmnidnapabaaGreat
open Go.RowKit Go.Lib Go.Shelf
attribute [local go_sem] Oper.semAt_some

def mrg : List Vd → List Vd → List Vd
  | [], f => f
  | a :: o, [] => a :: o
  | a :: o, b :: f => if a.k < b.k then a :: mrg o (b :: f) else if b.k < a.k then b :: mrg (a :: o) f else b :: mrg o f
termination_by o f => o.length + f.length
theorem mrg_nil (f : List Vd) : mrg [] f = f := by cases f <;> simp [mrg]
theorem mrg_nil' (o : List Vd) : mrg o [] = o := by cases o <;> simp [mrg]
/-- One step of merging. -/
theorem mrg_step (o f : List Vd) (h : o ≠ [] ∨ f ≠ []) :
    (cmpF o f = -1 ∧ ∃ a o', o = a :: o' ∧ mrg o f = a :: mrg o' f) ∨ (cmpF o f = 1 ∧ ∃ b f', f = b :: f' ∧ mrg o f = b :: mrg o f') ∨ (cmpF o f = 0 ∧ ∃ a o' b f', o = a :: o' ∧ f = b :: f' ∧ mrg o f = b :: mrg o' f') := by
  cases f with
  | nil =>
    cases o with
    | nil => simp at h
    | cons a o => exact .inl ⟨rfl, a, o, rfl, by rw [mrg_nil', mrg_nil']⟩
  | cons b f =>
    cases o with
    | nil => exact .inr (.inl ⟨rfl, b, f, rfl, by rw [mrg_nil, mrg_nil]⟩)
    | cons a o =>
      by_cases h1 : a.k < b.k
      · exact .inl ⟨by simp [cmpF, cmpK, h1], a, o, rfl, by rw [mrg, if_pos h1]⟩
      · by_cases h2 : b.k < a.k
        · exact .inr (.inl ⟨by simp [cmpF, cmpK, h1, h2], b, f, rfl, by rw [mrg, if_neg h1, if_pos h2]⟩)
        · exact .inr (.inr ⟨by simp [cmpF, cmpK, h1, h2], a, o, b, f, rfl, rfl, by rw [mrg, if_neg h1, if_neg h2]⟩)
/-- A slice's rest: its address. -/
def partV (a : Option Addr) (cap : Nat) : Option Addr := if cap = 1 then a else a.map (·.add 5)
theorem under_vals : Tryz.prog.underlying 22 = some (.slice (Tryz.prog.elem 22)) := by kernel_rfl
theorem run_size_val (w : World) : (sizeOf 111).run Tryz.prog w = .ok 5 w := by kernel_rfl
theorem elem_vals : Tryz.prog.elem 22 = 111 := by kernel_rfl
theorem run_tail (a : Option Addr) (len cap : Nat) (h : 1 ≤ len) (w : World) : (Instr.sliceAt 22 (.slice a len cap) (some (.int .i64 1)) none none).run Tryz.prog w = .ok (.slice (partV a cap) (len - 1) (cap - 1)) w := by
  rw [run_sliceAt_slice (h := under_vals), run_slice_l w _ a len cap under_vals .i64 1 (by omega) (by omega), elem_vals, run_size_val]
  simp only [Result.andThen_ok, sliced]
  rw [show (1 : Int).toNat = 1 from rfl]
  unfold partV
  congr 2
theorem Vs.tail {w : World} {a : Option Addr} {b o cap : Nat} {v : Vd} {l : List Vd} (h : Vs w a b o cap (v :: l)) : Vs w (partV a cap) b (o + 5) (cap - 1) l := by
  have hle := h.le
  rw [List.length_cons] at hle
  refine ⟨fun u hu => h.ok u (by simp [hu]), by omega, fun h0 => ?_, fun i u hi j c hc => ?_⟩
  · obtain ⟨h1, h2⟩ := h.ptr (by omega)
    refine ⟨?_, h2⟩
    rw [h1]
    unfold partV
    rw [if_neg (by omega)]
    simp [Addr.add_mid]
  · have q := h.cell (i + 1) u (by simpa using hi) j c hc
    rw [show o + 5 + i * 5 + j = o + (i + 1) * 5 + j by omega]
    exact q
theorem Vs.lower {B : Nat} {w w' : World} {a : Option Addr} {b o cap : Nat} {l : List Vd} (h : Vs w a b o cap l) (hB : Below B w w') (hb : 0 < cap → b < B) : Vs w' a b o cap l :=
  ⟨h.ok, h.le, fun h0 => ⟨(h.ptr h0).1, Nat.lt_of_lt_of_le (h.ptr h0).2 hB.size⟩, fun i v hi j c hc => by
    have h0 : 0 < cap := by
      have h1 := h.le
      have h2 := (List.getElem?_eq_some_iff.1 hi).1
      omega
    exact (hB.cell (p := ⟨b, o + i * 5 + j, none⟩) (hb h0)).trans (h.cell i v hi j c hc)⟩
theorem grown_of_below {W W' : World} (h : Below W.heap.size W W') : W.grownBy W' none := ⟨h.os, h.tape, h.output, h.size, fun k hk _ => h.block k hk⟩
def lenV : Value → Nat
  | .slice _ n _ => n
  | _ => 0
/-- What stands from round to round. -/
structure MgI (J : List Vd → World → Prop) (n₀ b1 b2 : Nat) (lo lf : List Vd) (wr : World) (pre : List Vd) (a1 : Option Addr) (o1 cap1 : Nat) (l1 : List Vd) (a2 : Option Addr) (o2 cap2 : Nat) (l2 : List Vd) : Prop where
  v1 : Vs wr a1 b1 o1 cap1 l1
  v2 : Vs wr a2 b2 o2 cap2 l2
  h1 : 0 < cap1 → b1 < n₀
  h2 : 0 < cap2 → b2 < n₀
  e : mrg lo lf = pre ++ mrg l1 l2
  j : J pre wr
  n0 : n₀ ≤ wr.heap.size
theorem MgI.left {J : List Vd → World → Prop} {n₀ b1 b2 : Nat} {lo lf : List Vd} {wr W3 : World} {pre : List Vd} {a1 : Option Addr} {o1 cap1 : Nat} {x : Vd} {l1 : List Vd} {a2 : Option Addr} {o2 cap2 : Nat} {l2 : List Vd}
    (H : MgI J n₀ b1 b2 lo lf wr pre a1 o1 cap1 (x :: l1) a2 o2 cap2 l2) (hm : mrg (x :: l1) l2 = x :: mrg l1 l2) (hj : J (pre ++ [x]) W3) (hB : Below n₀ wr W3) : MgI J n₀ b1 b2 lo lf W3 (pre ++ [x]) (partV a1 cap1) (o1 + 5) (cap1 - 1) l1 a2 o2 cap2 l2 :=
  ⟨H.v1.tail.lower hB (fun h => H.h1 (by omega)), H.v2.lower hB H.h2, fun h => H.h1 (by omega), H.h2, by rw [H.e, hm]; simp, hj, Nat.le_trans H.n0 hB.size⟩
theorem MgI.right {J : List Vd → World → Prop} {n₀ b1 b2 : Nat} {lo lf : List Vd} {wr W3 : World} {pre : List Vd} {a1 : Option Addr} {o1 cap1 : Nat} {x : Vd} {l1 : List Vd} {a2 : Option Addr} {o2 cap2 : Nat} {l2 : List Vd}
    (H : MgI J n₀ b1 b2 lo lf wr pre a1 o1 cap1 l1 a2 o2 cap2 (x :: l2)) (hm : mrg l1 (x :: l2) = x :: mrg l1 l2) (hj : J (pre ++ [x]) W3) (hB : Below n₀ wr W3) : MgI J n₀ b1 b2 lo lf W3 (pre ++ [x]) a1 o1 cap1 l1 (partV a2 cap2) (o2 + 5) (cap2 - 1) l2 :=
  ⟨H.v1.lower hB H.h1, H.v2.tail.lower hB (fun h => H.h2 (by omega)), H.h1, fun h => H.h2 (by omega), by rw [H.e, hm]; simp, hj, Nat.le_trans H.n0 hB.size⟩
theorem MgI.both {J : List Vd → World → Prop} {n₀ b1 b2 : Nat} {lo lf : List Vd} {wr W3 : World} {pre : List Vd} {a1 : Option Addr} {o1 cap1 : Nat} {y x : Vd} {l1 : List Vd} {a2 : Option Addr} {o2 cap2 : Nat} {l2 : List Vd}
    (H : MgI J n₀ b1 b2 lo lf wr pre a1 o1 cap1 (y :: l1) a2 o2 cap2 (x :: l2)) (hm : mrg (y :: l1) (x :: l2) = x :: mrg l1 l2) (hj : J (pre ++ [x]) W3) (hB : Below n₀ wr W3) : MgI J n₀ b1 b2 lo lf W3 (pre ++ [x]) (partV a1 cap1) (o1 + 5) (cap1 - 1) l1 (partV a2 cap2) (o2 + 5) (cap2 - 1) l2 :=
  ⟨H.v1.tail.lower hB (fun h => H.h1 (by omega)), H.v2.tail.lower hB (fun h => H.h2 (by omega)), fun h => H.h1 (by omega), fun h => H.h2 (by omega), by rw [H.e, hm]; simp, hj, Nat.le_trans H.n0 hB.size⟩
theorem partV_if (b q m : Nat) : (if m = 1 then (some ⟨b, q, none⟩ : Option Addr) else some ⟨b, q + 5, none⟩) = partV (some ⟨b, q, none⟩) m := by
  unfold partV
  split
  · rfl
  · simp [Addr.add_mid]
def fill5 (W : World) (r : Nat) (x : Vd) : World := ((((W.setCell ⟨r, 0, none⟩ (.int .u8 (kd x.k 3 : Nat))).setCell ⟨r, 1, none⟩ (.int .u8 (kd x.k 2 : Nat))).setCell ⟨r, 2, none⟩ (.int .u8 (kd x.k 1 : Nat))).setCell ⟨r, 3, none⟩ (.int .u8 (kd x.k 0 : Nat))).setCell ⟨r, 4, none⟩ (.int .i64 x.p)
theorem filled {wr w2 : World} {r : Nat} {x : Vd} {a b c d e : Value} (hb : Below r wr w2) (hl : Blk w2 r [a, b, c, d, e] 111) : Hid (Below r wr (fill5 w2 r x).drew ∧ Blk (fill5 w2 r x).drew r [.int .u8 (kd (x).k 3 : Nat), .int .u8 (kd (x).k 2 : Nat), .int .u8 (kd (x).k 1 : Nat), .int .u8 (kd (x).k 0 : Nat), .int .i64 (x).p] 111) :=
  hidp ⟨(((((hb.setCell (p := ⟨r, 0, none⟩) (Nat.le_refl _) _).setCell (p := ⟨r, 1, none⟩) (Nat.le_refl _) _).setCell (p := ⟨r, 2, none⟩) (Nat.le_refl _) _).setCell (p := ⟨r, 3, none⟩) (Nat.le_refl _) _).setCell (p := ⟨r, 4, none⟩) (Nat.le_refl _) _).drew, (((((hl.set 0 _).set 1 _).set 2 _).set 3 _).set 4 _).drew⟩
theorem wp_cut {P : Program} {c : Code} {Q : Exit → Act → World → Prop} {a : Act} {w : World} (R : World → Prop) (A : Act) (h1 : c.wp P (fun e a' w' => e = .normal ∧ a' = A ∧ R w') a w) (h2 : ∀ w', R w' → Q .normal A w') : c.wp P Q a w :=
  wp_mono h1 fun e a' w' h => by
    obtain ⟨rfl, rfl, h⟩ := h
    exact h2 _ h
abbrev encV (x : Vd) : Array Value := #[.agg #[.int .u8 (kd (x).k 3 : Nat), .int .u8 (kd (x).k 2 : Nat), .int .u8 (kd (x).k 1 : Nat), .int .u8 (kd (x).k 0 : Nat), .int .i64 (x).p]]
set_option maxRecDepth 20000 in
set_option maxHeartbeats 2000000 in
theorem merged1_in (n : Nat) (hn : 1 ≤ n) (l B1 B2 n₀ : Nat) (a1 : Option Addr) (b1 o1 cap1 : Nat) (lo : List Vd) (a2 : Option Addr) (b2 o2 cap2 : Nat) (lf : List Vd) (J Jx : List Vd → World → Prop) (W : World)
    (hJ : AbidesFrom W.heap.size J)
    (hY : ∀ pre x W1, J pre W1 → pre.length < (mrg lo lf).length → YieldAt Fence.wide (n - 1) Tryz.prog l (encV x) W1 fun e W' =>
      (e = .returned (.bool true) ∧ J (pre ++ [x]) W' ∧ Below n₀ W1 W') ∨ (e = .returned (.bool false) ∧ Jx (pre ++ [x]) W'))
    (hB1 : Blk W B1 [.slice a1 lo.length cap1] 22) (hB2 : Blk W B2 [.slice a2 lf.length cap2] 22) (h1 : Vs W a1 b1 o1 cap1 lo) (h2 : Vs W a2 b2 o2 cap2 lf) (hb1 : 0 < cap1 → b1 < n₀) (hb2 : 0 < cap2 → b2 < n₀) (hlen : lo.length ≤ 1000000 ∧ lf.length ≤ 1000000) (hn0 : n₀ ≤ W.heap.size) (h0 : J [] W) :
    CallsIn Fence.wide n Tryz.prog 255 #[.func (.yield l) #[] #[], .pointer (some ⟨B1, 0, none⟩), .pointer (some ⟨B2, 0, none⟩)] W fun e W' => (∃ v, e = .returned v) ∧
      ((∃ ys, ys = mrg lo lf ∧ J ys W') ∨ (∃ pre, pre <+: mrg lo lf ∧ Jx pre W')) := by
  have c1 := hB1.cell 0
  have c2 := hB2.cell 0
  simp only [List.getElem?_cons_zero] at c1 c2
  have HL := hidp hlen
  have H1 := hidp (And.intro h1 (And.intro h2 (And.intro hb1 hb2)))
  have HY := hidp hY
  have HJ := hidp hJ
  clear hB1 hB2 h1 h2 hb1 hb2 hlen hY hJ
  refine callsIn_of_wp Tryz.func255 rfl trivial ?_ rfl
  simp only [Tryz.ntmps255, List.size_toArray, List.length_cons, List.length_nil, Nat.reduceAdd, Nat.reduceSub, Array.replicate_succ, Array.replicate_zero, List.push_toArray, List.append_toArray, List.nil_append, List.cons_append]
  gi_wp2
  refine wpIn_wide.2 ?_
  go_quiet (fail)
  have H0 : Hid (MgI J n₀ b1 b2 lo lf (W.drewN nq) [] a1 o1 cap1 lo a2 o2 cap2 lf) := by
    have bd : Below W.heap.size W (W.drewN nq) := (Below.refl _ W).drewN nq
    exact hidp ⟨H1.out.1.below bd, H1.out.2.1.below bd, H1.out.2.2.1, H1.out.2.2.2, rfl, HJ.out _ _ _ none h0 (grown_of_below bd) (fun r h => by cases h), hn0⟩
  clear c1 c2 H1 h0
  gi_wp2
  gi_loopw [4, 5] (fun x y wr => ∃ pre p1 q1 m1 l1 p2 q2 m2 l2, x = .slice p1 (List.length l1) m1 ∧ y = .slice p2 (List.length l2) m2 ∧ List.length l1 ≤ 1000000 ∧ List.length l2 ≤ 1000000 ∧ Hid (MgI J n₀ b1 b2 lo lf wr pre p1 q1 m1 l1 p2 q2 m2 l2)) (fun x y _ => lenV x + lenV y)
  case atStart => exact ⟨[], a1, o1, cap1, lo, a2, o2, cap2, lf, rfl, rfl, HL.out.1, HL.out.2, H0⟩
  case round =>
    obtain ⟨pre, p1, q1, m1, l1, p2, q2, m2, l2, rfl, rfl, hl1, hl2, hr⟩ := hrel
    clear H0
    by_cases hne : l1 ≠ [] ∨ l2 ≠ []
    · have hlt : 0 < l1.length + l2.length := by
        rcases hne with h | h
        · have := List.length_pos_iff.2 h; omega
        · have := List.length_pos_iff.2 h; omega
      have hst := mrg_step l1 l2 hne
      gi_wp2_with fail
      refine ⟨trivial, ?_⟩
      refine (callsIn_wide.2 (compareFirst_any p1 b1 q1 m1 l1 p2 b2 q2 m2 l2 _ (hr.out.v1.below ((Below.refl _ wr).alloc (Nat.le_refl _) _)) (hr.out.v2.below ((Below.refl _ wr).alloc (Nat.le_refl _) _)))).mono ?_
      rintro e w2 ⟨rfl, hb⟩
      have hbA := hidp (show Below wr.heap.size wr w2 from ((Below.refl wr.heap.size wr).alloc (Nat.le_refl _) (.cells #[.int .u8 0, .int .u8 0, .int .u8 0, .int .u8 0, .int .i64 0] 111)).trans (hb.mono (by simp)))
      have hlb := hidp (hb.blk' (Blk.new wr [.int .u8 0, .int .u8 0, .int .u8 0, .int .u8 0, .int .i64 0] 111))
      clear hb
      rcases hst with ⟨hz, x, l1', rfl, hm⟩ | ⟨hz, x, l2', rfl, hm⟩ | ⟨hz, y, l1', x, l2', rfl, rfl, hm⟩
      · rw [hz]
        obtain ⟨x', hx', hok, rfl, hbl, c0, c1, c2, c3, c4⟩ := (hr.out.v1.below hbA.out).at (i := 0) (by simp)
        simp only [List.getElem?_cons_zero, Option.some.injEq] at hx'
        subst hx'
        simp only [Nat.zero_mul, Nat.add_zero] at c0 c1 c2 c3 c4
        have hl0 : 0 < (x :: l1').length := by simp
        gi_wp2_with fail
        have e0 := hlb.out.cell 0
        have e1 := hlb.out.cell 1
        have e2 := hlb.out.cell 2
        have e3 := hlb.out.cell 3
        have e4 := hlb.out.cell 4
        simp only [List.getElem?_cons_zero, List.getElem?_cons_succ] at e0 e1 e2 e3 e4
        have f0 := hlb.out.free 0
        have f1 := hlb.out.free 1
        have f2 := hlb.out.free 2
        have f3 := hlb.out.free 3
        have f4 := hlb.out.free 4
        refine wpIn_wide.2 ?_
        apply wp_cut (fun w' => Hid (Below wr.heap.size wr w' ∧ Blk w' wr.heap.size [.int .u8 (kd (x).k 3 : Nat), .int .u8 (kd (x).k 2 : Nat), .int .u8 (kd (x).k 1 : Nat), .int .u8 (kd (x).k 0 : Nat), .int .i64 (x).p] 111))
        case h1 =>
          go_region
          show _ ∧ _ ∧ _
          rw [partV_if]
          refine ⟨rfl, rfl, ?_⟩
          exact filled hbA.out hlb.out
        case h2 =>
          intro w3 h3
          clear c0 c1 c2 c3 c4 e0 e1 e2 e3 e4 f0 f1 f2 f3 f4
          have g0 := h3.out.2.cell 0
          have g1 := h3.out.2.cell 1
          have g2 := h3.out.2.cell 2
          have g3 := h3.out.2.cell 3
          have g4 := h3.out.2.cell 4
          simp only [List.getElem?_cons_zero, List.getElem?_cons_succ] at g0 g1 g2 g3 g4
          obtain ⟨fn, tmps, assign, body, hy, hR⟩ := HY.out pre x w3 (HJ.out _ _ _ none hr.out.j (grown_of_below h3.out.1) (fun r h => by cases h)) (by rw [hr.out.e, hm]; simp)
          have hb3 := hidp h3.out.1
          clear h3
          gi_wp2
          refine hR.mono ?_
          rintro e W3 (⟨rfl, hJ3, hk3⟩ | ⟨rfl, hJx3⟩)
          · have H3 := hidp (hr.out.left hm hJ3 ((hb3.out.mono hr.out.n0).trans hk3))
            clear hr hJ3 hk3
            gi_wp2
            refine ⟨⟨_, _, _, _, l1', _, _, _, l2, rfl, rfl, by simp at hl1 hl2 ⊢; omega, by simp at hl1 hl2 ⊢; omega, H3⟩, ?_⟩
            simp [lenV]
          · have HX := hidp (show pre ++ [x] <+: mrg lo lf from ⟨_, by rw [hr.out.e, hm]; simp; rfl⟩)
            gi_wp2
            refine bodyPost_ret (results_none rfl _ _ _) rfl ?_
            exact ⟨⟨_, rfl⟩, .inr ⟨pre ++ [x], HX.out, hJx3⟩⟩
      · rw [hz]
        obtain ⟨x', hx', hok, rfl, hbl, c0, c1, c2, c3, c4⟩ := (hr.out.v2.below hbA.out).at (i := 0) (by simp)
        simp only [List.getElem?_cons_zero, Option.some.injEq] at hx'
        subst hx'
        simp only [Nat.zero_mul, Nat.add_zero] at c0 c1 c2 c3 c4
        have hl0 : 0 < (x :: l2').length := by simp
        gi_wp2_with fail
        have e0 := hlb.out.cell 0
        have e1 := hlb.out.cell 1
        have e2 := hlb.out.cell 2
        have e3 := hlb.out.cell 3
        have e4 := hlb.out.cell 4
        simp only [List.getElem?_cons_zero, List.getElem?_cons_succ] at e0 e1 e2 e3 e4
        have f0 := hlb.out.free 0
        have f1 := hlb.out.free 1
        have f2 := hlb.out.free 2
        have f3 := hlb.out.free 3
        have f4 := hlb.out.free 4
        refine wpIn_wide.2 ?_
        apply wp_cut (fun w' => Hid (Below wr.heap.size wr w' ∧ Blk w' wr.heap.size [.int .u8 (kd (x).k 3 : Nat), .int .u8 (kd (x).k 2 : Nat), .int .u8 (kd (x).k 1 : Nat), .int .u8 (kd (x).k 0 : Nat), .int .i64 (x).p] 111))
        case h1 =>
          go_region
          show _ ∧ _ ∧ _
          rw [partV_if]
          refine ⟨rfl, rfl, ?_⟩
          exact filled hbA.out hlb.out
        case h2 =>
          intro w3 h3
          clear c0 c1 c2 c3 c4 e0 e1 e2 e3 e4 f0 f1 f2 f3 f4
          have g0 := h3.out.2.cell 0
          have g1 := h3.out.2.cell 1
          have g2 := h3.out.2.cell 2
          have g3 := h3.out.2.cell 3
          have g4 := h3.out.2.cell 4
          simp only [List.getElem?_cons_zero, List.getElem?_cons_succ] at g0 g1 g2 g3 g4
          obtain ⟨fn, tmps, assign, body, hy, hR⟩ := HY.out pre x w3 (HJ.out _ _ _ none hr.out.j (grown_of_below h3.out.1) (fun r h => by cases h)) (by rw [hr.out.e, hm]; simp)
          have hb3 := hidp h3.out.1
          clear h3
          gi_wp2
          refine hR.mono ?_
          rintro e W3 (⟨rfl, hJ3, hk3⟩ | ⟨rfl, hJx3⟩)
          · have H3 := hidp (hr.out.right hm hJ3 ((hb3.out.mono hr.out.n0).trans hk3))
            clear hr hJ3 hk3
            gi_wp2
            refine ⟨⟨_, _, _, _, l1, _, _, _, l2', rfl, rfl, by simp at hl1 hl2 ⊢; omega, by simp at hl1 hl2 ⊢; omega, H3⟩, ?_⟩
            simp [lenV]
          · have HX := hidp (show pre ++ [x] <+: mrg lo lf from ⟨_, by rw [hr.out.e, hm]; simp; rfl⟩)
            gi_wp2
            refine bodyPost_ret (results_none rfl _ _ _) rfl ?_
            exact ⟨⟨_, rfl⟩, .inr ⟨pre ++ [x], HX.out, hJx3⟩⟩
      · rw [hz]
        obtain ⟨x', hx', hok, rfl, hbl, c0, c1, c2, c3, c4⟩ := (hr.out.v1.below hbA.out).at (i := 0) (by simp)
        simp only [List.getElem?_cons_zero, Option.some.injEq] at hx'
        subst hx'
        simp only [Nat.zero_mul, Nat.add_zero] at c0 c1 c2 c3 c4
        have hl0 : 0 < (y :: l1').length := by simp
        gi_wp2_with fail
        have e0 := hlb.out.cell 0
        have e1 := hlb.out.cell 1
        have e2 := hlb.out.cell 2
        have e3 := hlb.out.cell 3
        have e4 := hlb.out.cell 4
        simp only [List.getElem?_cons_zero, List.getElem?_cons_succ] at e0 e1 e2 e3 e4
        have f0 := hlb.out.free 0
        have f1 := hlb.out.free 1
        have f2 := hlb.out.free 2
        have f3 := hlb.out.free 3
        have f4 := hlb.out.free 4
        refine wpIn_wide.2 ?_
        apply wp_cut (fun w' => Hid (Below wr.heap.size wr w' ∧ Blk w' wr.heap.size [.int .u8 (kd (y).k 3 : Nat), .int .u8 (kd (y).k 2 : Nat), .int .u8 (kd (y).k 1 : Nat), .int .u8 (kd (y).k 0 : Nat), .int .i64 (y).p] 111))
        case h1 =>
          go_region
          show _ ∧ _ ∧ _
          rw [partV_if]
          refine ⟨rfl, rfl, ?_⟩
          exact filled hbA.out hlb.out
        case h2 =>
          intro w4 h4
          clear c0 c1 c2 c3 c4 e0 e1 e2 e3 e4 f0 f1 f2 f3 f4
          obtain ⟨x', hx', hok, rfl, hbl, c0, c1, c2, c3, c4⟩ := (hr.out.v2.below h4.out.1).at (i := 0) (by simp)
          simp only [List.getElem?_cons_zero, Option.some.injEq] at hx'
          subst hx'
          simp only [Nat.zero_mul, Nat.add_zero] at c0 c1 c2 c3 c4
          have hl5 : 0 < (x :: l2').length := by simp
          gi_wp2
          have e0 := h4.out.2.cell 0
          have e1 := h4.out.2.cell 1
          have e2 := h4.out.2.cell 2
          have e3 := h4.out.2.cell 3
          have e4 := h4.out.2.cell 4
          simp only [List.getElem?_cons_zero, List.getElem?_cons_succ] at e0 e1 e2 e3 e4
          have f0 := h4.out.2.free 0
          have f1 := h4.out.2.free 1
          have f2 := h4.out.2.free 2
          have f3 := h4.out.2.free 3
          have f4 := h4.out.2.free 4
          refine wpIn_wide.2 ?_
          apply wp_cut (fun w' => Hid (Below wr.heap.size wr w' ∧ Blk w' wr.heap.size [.int .u8 (kd (x).k 3 : Nat), .int .u8 (kd (x).k 2 : Nat), .int .u8 (kd (x).k 1 : Nat), .int .u8 (kd (x).k 0 : Nat), .int .i64 (x).p] 111))
          case h1 =>
            go_region
            show _ ∧ _ ∧ _
            rw [partV_if]
            refine ⟨rfl, rfl, ?_⟩
            exact filled h4.out.1 h4.out.2
          case h2 =>
            intro w3 h3
            clear c0 c1 c2 c3 c4 e0 e1 e2 e3 e4 f0 f1 f2 f3 f4
            have g0 := h3.out.2.cell 0
            have g1 := h3.out.2.cell 1
            have g2 := h3.out.2.cell 2
            have g3 := h3.out.2.cell 3
            have g4 := h3.out.2.cell 4
            simp only [List.getElem?_cons_zero, List.getElem?_cons_succ] at g0 g1 g2 g3 g4
            obtain ⟨fn, tmps, assign, body, hy, hR⟩ := HY.out pre x w3 (HJ.out _ _ _ none hr.out.j (grown_of_below h3.out.1) (fun r h => by cases h)) (by rw [hr.out.e, hm]; simp)
            have hb3 := hidp h3.out.1
            clear h3
            gi_wp2
            refine hR.mono ?_
            rintro e W3 (⟨rfl, hJ3, hk3⟩ | ⟨rfl, hJx3⟩)
            · have H3 := hidp (hr.out.both hm hJ3 ((hb3.out.mono hr.out.n0).trans hk3))
              clear hr hJ3 hk3
              gi_wp2
              refine ⟨⟨_, _, _, _, l1', _, _, _, l2', rfl, rfl, by simp at hl1 hl2 ⊢; omega, by simp at hl1 hl2 ⊢; omega, H3⟩, ?_⟩
              simp [lenV]; omega
            · have HX := hidp (show pre ++ [x] <+: mrg lo lf from ⟨_, by rw [hr.out.e, hm]; simp; rfl⟩)
              gi_wp2
              refine bodyPost_ret (results_none rfl _ _ _) rfl ?_
              exact ⟨⟨_, rfl⟩, .inr ⟨pre ++ [x], HX.out, hJx3⟩⟩
    · obtain ⟨rfl, rfl⟩ : l1 = [] ∧ l2 = [] := by
        constructor
        · exact Classical.byContradiction fun h => hne (.inl h)
        · exact Classical.byContradiction fun h => hne (.inr h)
      have HX := hidp (show pre = mrg lo lf by rw [hr.out.e, mrg_nil]; simp)
      gi_wp2
      go_end0
      exact ⟨⟨_, rfl⟩, .inl ⟨pre, HX.out, hr.out.j⟩⟩
end Go.Proofs.YtcmkmnidnapabaaGreat
