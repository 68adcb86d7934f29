/-
  Commit: Of; where a place's vote stands.
-/
import Derived.Test.YtbhkjflpkpkdlaaL7a
import Derived.Deep.RegionHeld3
namespace Go.Proofs.Ytbhkjflpkpkdlaa
open Go.RowKit Go.Lib

/-- The first vote for a place. -/
def ofT (l : List Vt) (n : Int) : Option Vt := l.find? (fun v => v.a == n)
theorem ofT_hit {l : List Vt} {n : Int} {i : Nat} {v : Vt} (hv : l[i]? = some v) (hk : v.a = n) (h : ∀ j u, j < i → l[j]? = some u → u.a ≠ n) : ofT l n = some v := by
  obtain ⟨hlt, rfl⟩ := List.getElem?_eq_some_iff.1 hv
  unfold ofT
  rw [List.find?_eq_some_iff_getElem]
  exact ⟨by simpa using hk, i, hlt, rfl, fun j hj => by have := h j _ hj (List.getElem?_eq_getElem (by omega)); simpa using this⟩
theorem ofT_miss {l : List Vt} {n : Int} (h : ∀ j u, j < l.length → l[j]? = some u → u.a ≠ n) : ofT l n = none := by
  unfold ofT
  rw [List.find?_eq_none]
  intro x hx
  obtain ⟨j, hj, rfl⟩ := List.getElem_of_mem hx
  have := h j _ hj (List.getElem?_eq_getElem hj)
  simpa using this
theorem ofT_mem {l : List Vt} {n : Int} {v : Vt} (h : ofT l n = some v) : v ∈ l ∧ v.a = n := by
  unfold ofT at h
  exact ⟨List.mem_of_find?_eq_some h, by simpa using List.find?_some h⟩
theorem ofT_none {l : List Vt} {n : Int} (h : ofT l n = none) : ∀ v ∈ l, v.a ≠ n := by
  unfold ofT at h
  rw [List.find?_eq_none] at h
  intro v hv; simpa using h v hv

set_option maxRecDepth 20000 in
theorem of1_any (x : Nat) (n : Int) (v : Vt) (w : World) (h : Blk w x [.int .i64 n] 3) :
    Calls Try.prog 105 #[.agg #[.int .i64 v.a, .int .u64 (v.s : Nat)], .pointer (some ⟨x, 0, none⟩)] w fun e w' => e = .returned (.bool (v.a == n)) ∧ Below w.heap.size w w' := by
  have hlt := h.lt
  have c0 : w.cell? ⟨x, 0, none⟩ = some (.int .i64 n) := h.cell 0
  clear h
  go_enter Try.func105, Try.ntmps105
  go_wp2_with fail
  go_ret
  exact ⟨rfl, by (repeat' (first | (with_reducible exact Below.refl _ _) | (with_reducible refine Below.alloc ?_ ?_ _) | (with_reducible refine Below.drew ?_) | (with_reducible refine Below.drewN ?_ _) | (with_reducible refine Below.setCell ?_ ?_ _) | go_size))⟩
set_option maxRecDepth 20000 in
set_option maxHeartbeats 1000000 in
theorem tindex_any (a : Option Addr) (b o cap : Nat) (l : List Vt) (x : Nat) (n : Int) (w : World) (h : Ts w a b o cap l) (hl : l.length ≤ 1000000) (hx : Blk w x [.int .i64 n] 3) :
    Calls Try.prog 104 #[.slice a l.length cap, .func (.func 105) #[] #[.pointer (some ⟨x, 0, none⟩)]] w fun e w' =>
      ((∃ (i : Nat) (v : Vt), e = .returned (.int .i64 (i : Nat)) ∧ l[i]? = some v ∧ ofT l n = some v) ∨ (e = .returned (.int .i64 (-1)) ∧ ofT l n = none)) ∧ Below w.heap.size w w' := by
  have H := hidp h
  have HX := hidp hx
  have HL := hidp hl
  clear h hx hl
  go_enter Try.func104, Try.ntmps104
  go_wp2_with fail
  go_loopw [8] (fun z wr => ∃ i : Nat, i ≤ l.length ∧ z = .int .i64 i ∧ Hid (Below w.heap.size w wr ∧ ∀ j u, j < i → l[j]? = some u → u.a ≠ n)) (fun z _ => l.length - (Go.RowKit.intOf z).toNat)
  case atStart => exact ⟨0, by omega, rfl, hidp ⟨Below.refl _ _, fun j u hj => by omega⟩⟩
  case round =>
    obtain ⟨i, hi, rfl, hr⟩ := hrel
    by_cases hlt : i < l.length
    · obtain ⟨v, hv, hok, rfl, hbl, c0, c1⟩ := (H.out.below hr.out.1).at hlt
      have HV := hidp hv
      have HK := hidp (And.intro hlt hok)
      have hadd := w64_nat (n := i) (by have := HL.out; omega)
      clear hv hok
      go_wp2_with fail
      refine (of1_any x n v _ (hr.out.1.blk' HX.out)).mono ?_
      rintro e w2 ⟨rfl, hb⟩
      have hB := hidp (hr.out.1.trans (hb.mono hr.out.1.size))
      clear hb
      cases hd : (v.a == n)
      · have H2 := hidp (show ∀ j u, j < i + 1 → l[j]? = some u → u.a ≠ n from fun j u hj hu => by
          rcases Nat.lt_or_ge j i with h1 | h1
          · exact hr.out.2 j u h1 hu
          · obtain rfl : j = i := by omega
            rw [HV.out] at hu
            cases hu
            simpa using hd)
        clear hr
        go_wp2_with fail
        rw [hadd]
        exact ⟨⟨i + 1, by have := HK.out.1; omega, rfl, hidp ⟨hB.out, H2.out⟩⟩, by have h1 := HK.out.1; show l.length - ((i + 1 : Nat) : Int).toNat < l.length - ((i : Nat) : Int).toNat; omega⟩
      · have H2 := hidp (ofT_hit HV.out (by simpa using hd) hr.out.2)
        clear hr
        go_wp2_with fail
        go_ret
        exact ⟨.inl ⟨i, v, rfl, HV.out, H2.out⟩, hB.out⟩
    · have H2 := hidp (ofT_miss (l := l) (n := n) (fun j u hj hu => hr.out.2 j u (by omega) hu))
      have hB := hidp hr.out.1
      obtain rfl : i = l.length := by omega
      clear hr hlt
      go_wp2_with fail
      go_ret
      exact ⟨.inr ⟨rfl, H2.out⟩, hB.out⟩
/-- What Of tells. -/
def ofR (l : List Vt) (n : Int) : Nat × Bool := match ofT l n with | some v => (v.s, true) | none => (0, false)
set_option maxRecDepth 100000 in
set_option maxHeartbeats 1000000 in
theorem cof_any (h : Int) (p : List Nat) (hp : p.length = 32) (a : Option Addr) (b o cap : Nat) (l : List Vt) (n : Int) (w : World) (hT : Ts w a b o cap l) (hl : l.length ≤ 1000000) :
    Calls Try.prog 36 #[.agg (cC h p (.slice a l.length cap)).toArray, .int .i64 n] w fun e w' => e = .returned (.tuple #[.int .u64 ((ofR l n).1 : Nat), .bool (ofR l n).2]) ∧ Below w.heap.size w w' := by
  have hA := (Blk.new w (cC h p (.slice a l.length cap)) 63).alloc (.cells #[.int .i64 n] 3)
  have hN : Blk ((w.alloc (.cells (cC h p (.slice a l.length cap)).toArray 63)).alloc (.cells #[.int .i64 n] 3)) (w.heap.size + 1) [.int .i64 n] 3 := Blk.new' _ [.int .i64 n] _ _ (by simp)
  have hB := hidp (((Below.refl w.heap.size w).alloc (Nat.le_refl _) (.cells (cC h p (.slice a l.length cap)).toArray 63)).alloc (by simp) (.cells #[.int .i64 n] 3))
  have c33 := hA.cell 33
  rw [cC_33 hp] at c33
  have hmf : ∀ (fn : Fn) (first cap : Array Value) (w : World), (Instr.makeFunc fn first cap).run Try.prog w = .ok (.func fn first cap) w := fun _ _ _ _ => rfl
  have HI := hidp (tindex_any a b o cap l (w.heap.size + 1) n _ (hT.below hB.out) hl hN)
  have HT := hidp hT
  have HA := hidp hA
  clear hA hN hT hl
  obtain ⟨r, hr⟩ : ∃ r, r = ofR l n := ⟨_, rfl⟩
  rw [← hr]
  replace hr := hidp hr
  go_enter Try.func36, Try.ntmps36
  go_wp2_with fail
  refine HI.out.mono ?_
  rintro e w2 ⟨h1, hb⟩
  have d33 := (hb.blk' HA.out).cell 33
  rw [cC_33 hp] at d33
  have hB2 := hidp (hB.out.trans (hb.mono hB.out.size))
  clear hb HI HA c33
  rcases h1 with ⟨i, v, rfl, hv, hf⟩ | ⟨rfl, hf⟩
  · have hlt := (List.getElem?_eq_some_iff.1 hv).1
    obtain ⟨u, hu, _, rfl, hbl, c0, c1⟩ := (HT.out.below hB2.out).at hlt
    rw [hv] at hu
    cases hu
    have hF := hidp hf
    have ht : decide (((i : Nat) : Int) < 0) = false := decide_eq_false (by omega)
    clear hf hv
    go_wp2_with fail
    exact bodyPost_ret (v := .tuple #[.int .u64 (v.s : Nat), .bool true]) (by simp [results, Try.results36, go_sem]) rfl ⟨by rw [hr.out]; unfold ofR; rw [hF.out], hB2.out⟩
  · have hF := hidp hf
    clear hf
    go_wp2_with fail
    exact bodyPost_ret (v := .tuple #[.int .u64 0, .bool false]) (by simp [results, Try.results36, go_sem]) rfl ⟨by rw [hr.out]; unfold ofR; rw [hF.out]; rfl, hB2.out⟩

def cmpI (a b : Int) : Int := if a < b then -1 else if b < a then 1 else 0
theorem isNaN_int (a : Int) (w : World) : Calls Try.prog 198 #[.int .i64 a] w fun e w' => e = .returned (.bool false) ∧ w' = w := by
  have h : (a != a) = false := by simp
  go_enter Try.func198, Try.ntmps198
  go_wp2
  go_ret
  exact ⟨rfl, rfl⟩
theorem icompare_any (a b : Int) (w : World) : Calls Try.prog 172 #[.int .i64 a, .int .i64 b] w fun e w' => e = .returned (.int .i64 (cmpI a b)) ∧ w' = w := by
  have HN := hidp (fun (a : Int) W => isNaN_int a W)
  unfold cmpI
  by_cases h1 : a < b
  · rw [if_pos h1]
    have t1 : decide (a < b) = true := decide_eq_true h1
    clear h1
    go_enter Try.func172, Try.ntmps172
    go_wp2_with (go_at_call 198; refine (HN.out _ _).mono ?_; rintro e w1 ⟨rfl, rfl⟩)
    go_ret
    exact ⟨rfl, rfl⟩
  rw [if_neg h1]
  have t1 : decide (a < b) = false := decide_eq_false h1
  by_cases h2 : b < a
  · rw [if_pos h2]
    have t2 : decide (b < a) = true := decide_eq_true h2
    clear h1 h2
    go_enter Try.func172, Try.ntmps172
    go_wp2_with (go_at_call 198; refine (HN.out _ _).mono ?_; rintro e w1 ⟨rfl, rfl⟩)
    go_ret
    exact ⟨rfl, rfl⟩
  · rw [if_neg h2]
    have t2 : decide (b < a) = false := decide_eq_false h2
    clear h1 h2
    go_enter Try.func172, Try.ntmps172
    go_wp2_with (go_at_call 198; refine (HN.out _ _).mono ?_; rintro e w1 ⟨rfl, rfl⟩)
    go_ret
    exact ⟨rfl, rfl⟩
theorem find1_cmp (v : Vt) (n : Int) (w : World) : Calls Try.prog 171 #[.agg #[.int .i64 v.a, .int .u64 (v.s : Nat)], .int .i64 n] w fun e w' => e = .returned (.int .i64 (cmpI v.a n)) ∧ Below w.heap.size w w' := by
  have HC := hidp (fun W => icompare_any v.a n W)
  go_enter Try.func171, Try.ntmps171
  go_wp2_with fail
  refine (HC.out _).mono ?_
  rintro e w1 ⟨rfl, rfl⟩
  go_wp2_with fail
  go_ret
  exact ⟨rfl, by (repeat' (first | (with_reducible exact Below.refl _ _) | (with_reducible refine Below.alloc ?_ ?_ _) | (with_reducible refine Below.drew ?_) | (with_reducible refine Below.drewN ?_ _) | (with_reducible refine Below.setCell ?_ ?_ _) | go_size))⟩

/-- Votes in order. -/
def SortedT (l : List Vt) : Prop := l.Pairwise (fun u v => u.a < v.a)
theorem SortedT.at {l : List Vt} (h : SortedT l) {i j : Nat} {u v : Vt} (hi : l[i]? = some u) (hj : l[j]? = some v) (hij : i < j) : u.a < v.a := by
  obtain ⟨h1, rfl⟩ := List.getElem?_eq_some_iff.1 hi
  obtain ⟨h2, rfl⟩ := List.getElem?_eq_some_iff.1 hj
  exact List.pairwise_iff_getElem.1 h i j h1 h2 hij
def hasT (l : List Vt) (n : Int) : Bool := l.any (fun v => v.a == n)
theorem hasT_hit {l : List Vt} {n : Int} {i : Nat} {v : Vt} (hv : l[i]? = some v) (h : v.a = n) : hasT l n = true := by
  unfold hasT
  rw [List.any_eq_true]
  exact ⟨v, List.mem_of_getElem? hv, by simpa using h⟩
theorem hasT_miss {l : List Vt} {n : Int} (h : ∀ (i : Nat) (v : Vt), l[i]? = some v → v.a ≠ n) : hasT l n = false := by
  unfold hasT
  rw [List.any_eq_false]
  intro x hx
  obtain ⟨i, hi, rfl⟩ := List.getElem_of_mem hx
  simpa using h i _ (List.getElem?_eq_getElem hi)
/-- Ahead of i stand lesser places, from i on those that are not less. -/
structure Cut (l : List Vt) (n : Int) (i : Nat) : Prop where
  le : i ≤ l.length
  lo : ∀ (m : Nat) (u : Vt), m < i → l[m]? = some u → u.a < n
  hi : ∀ (m : Nat) (u : Vt), i ≤ m → l[m]? = some u → n ≤ u.a
def ET (b f : Nat) (v : Vt) (W : World) : Prop := W.cell? ⟨b, f, none⟩ = some (.int .i64 v.a) ∧ W.cell? ⟨b, f + 1, none⟩ = some (.int .u64 (v.s : Nat))
theorem ET.drew {b f : Nat} {v : Vt} {W : World} (h : Hid (ET b f v W)) : Hid (ET b f v W.drew) := hidp h.out
theorem ET.below {b f : Nat} {v : Vt} {W W' : World} (h : Hid (ET b f v W)) (hB : Below W.heap.size W W') : Hid (ET b f v W') := by
  obtain ⟨h1, h2⟩ := h.out
  have q : ∀ {p : Addr} {u : Value}, W.cell? p = some u → W'.cell? p = some u := fun hc => (hB.cell (cell_lt hc)).trans hc
  exact hidp ⟨q h1, q h2⟩
structure BtI (w wr : World) (i j : Nat) (n : Int) (l : List Vt) : Prop where
  bel : Below w.heap.size w wr
  hij : i ≤ j
  hj : j ≤ l.length
  lo : ∀ (m : Nat) (u : Vt), m < i → l[m]? = some u → u.a < n
  hi : ∀ (m : Nat) (u : Vt), j ≤ m → l[m]? = some u → n ≤ u.a
set_option maxRecDepth 20000 in
set_option maxHeartbeats 1000000 in
theorem tsearch_any (a : Option Addr) (b o cap : Nat) (l : List Vt) (n : Int) (w : World) (h : Ts w a b o cap l) (hs : SortedT l) (hl : l.length ≤ 1000000) :
    Calls Try.prog 170 #[.slice a l.length cap, .int .i64 n, .func (.func 171) #[] #[]] w fun e w' => (∃ i : Nat, e = .returned (.tuple #[.int .i64 (i : Nat), .bool (hasT l n)]) ∧ Cut l n i) ∧ Below w.heap.size w w' := by
  have H := hidp h
  have HS := hidp hs
  have HL := hidp hl
  clear h hs hl
  have H0 : Hid (BtI w w 0 l.length n l) := hidp ⟨Below.refl _ _, Nat.zero_le _, Nat.le_refl _, fun m u hm => by omega, fun m u hm hu => by have := (List.getElem?_eq_some_iff.1 hu).1; omega⟩
  go_enter Try.func170, Try.ntmps170
  go_wp2_with fail
  go_loopw [9, 10] (fun x y wr => ∃ i j : Nat, x = .int .i64 i ∧ y = .int .i64 j ∧ Hid (BtI w wr i j n l)) (fun x y _ => (Go.RowKit.intOf y).toNat - (Go.RowKit.intOf x).toNat)
  case atStart => exact ⟨0, l.length, rfl, rfl, H0⟩
  case round =>
    obtain ⟨i, j, rfl, rfl, hr⟩ := hrel
    clear H0
    have hj := hr.out.hj
    have hl1 := HL.out
    by_cases hlt : i < j
    · obtain ⟨m, hm⟩ : ∃ m : Nat, m = (i + j) / 2 := ⟨_, rfl⟩
      have hm2 : ((i : Int) + (j : Int)) / 2 = ((m : Nat) : Int) := by omega
      have hmi : i ≤ m ∧ m < j := by omega
      have hml : m < l.length := by omega
      obtain ⟨v, hv, hok, rfl, hbl, c0, c1⟩ := (H.out.below hr.out.bel).at hml
      have HV := hidp (And.intro hv hok)
      have hB := hidp hr.out.bel
      clear hv hok hm
      go_wp2_with fail
      refine (find1_cmp v n _).mono ?_
      rintro e w2 ⟨rfl, hb⟩
      have hB2 := hidp (hB.out.trans (hb.mono hB.out.size))
      clear hb
      by_cases hc : v.a < n
      · have hd : decide (cmpI v.a n < 0) = true := decide_eq_true (by unfold cmpI; rw [if_pos hc]; decide)
        have H2 : Hid (BtI w w2 (m + 1) j n l) := hidp ⟨hB2.out, by omega, hj, fun k u hk hu => by
          rcases Nat.lt_or_ge k m with h1 | h1
          · exact Int.lt_trans (HS.out.at hu HV.out.1 h1) hc
          · obtain rfl : k = m := by omega
            rw [HV.out.1] at hu; cases hu; exact hc, hr.out.hi⟩
        clear hr hc
        generalize cmpI v.a n = z at *
        go_wp2_with fail
        refine ⟨⟨m + 1, j, by simp, rfl, H2⟩, ?_⟩
        show (j : Int).toNat - ((m : Int) + 1).toNat < (j : Int).toNat - (i : Int).toNat
        omega
      · have hd : decide (cmpI v.a n < 0) = false := decide_eq_false (by unfold cmpI; rw [if_neg hc]; split <;> decide)
        have H2 : Hid (BtI w w2 i m n l) := hidp ⟨hB2.out, by omega, by omega, hr.out.lo, fun k u hk hu => by
          rcases Nat.lt_or_ge m k with h1 | h1
          · have := HS.out.at HV.out.1 hu h1; omega
          · obtain rfl : k = m := by omega
            rw [HV.out.1] at hu; cases hu; omega⟩
        clear hr hc
        generalize cmpI v.a n = z at *
        go_wp2_with fail
        refine ⟨⟨i, m, rfl, rfl, H2⟩, ?_⟩
        show (m : Int).toNat - (i : Int).toNat < (j : Int).toNat - (i : Int).toNat
        omega
    · obtain rfl : i = j := by have := hr.out.hij; omega
      have HC := hidp (show Cut l n i from ⟨hj, hr.out.lo, hr.out.hi⟩)
      clear hlt
      by_cases hin : i < l.length
      · obtain ⟨v, hv, hok, rfl, hbl, c0, c1⟩ := (H.out.below hr.out.bel).at hin
        have hE := hidp (show ET b (o + i * 2) v wr from ⟨c0, c1⟩)
        have HV := hidp (And.intro hv hok)
        have hR := hidp (show hasT l n = decide (cmpI v.a n = 0) from by
          by_cases hc : v.a = n
          · rw [hasT_hit hv hc]; unfold cmpI; simp [hc]
          · rw [hasT_miss (fun k u hu he => by
              rcases Nat.lt_trichotomy k i with h1 | h1 | h1
              · have := hr.out.lo k u h1 hu; omega
              · subst h1; rw [hv] at hu; cases hu; exact hc he
              · have := HS.out.at hv hu h1; have := hr.out.hi i v (Nat.le_refl _) hv; omega)]
            have : cmpI v.a n ≠ 0 := by unfold cmpI; (repeat' split) <;> omega
            simp [this])
        have hb0 := hidp hr.out.bel
        clear hv hok hr
        go_wp2_with fail
        refine (find1_cmp v n _).mono ?_
        rintro e w2 ⟨rfl, hb⟩
        have hB2 := hidp (hb0.out.trans (hb.mono hb0.out.size))
        clear hb
        go_wp2_with fail
        exact bodyPost_ret (v := .tuple #[.int .i64 (i : Nat), .bool (cmpI v.a n == 0)]) (by simp [results, Try.results170, go_sem]) rfl ⟨⟨i, by rw [hR.out]; rfl, HC.out⟩, hB2.out⟩
      · have hmiss := hidp (hasT_miss (l := l) (n := n) (fun k v hv => Int.ne_of_lt (hr.out.lo k v (by have := (List.getElem?_eq_some_iff.1 hv).1; omega) hv)))
        have hB := hidp hr.out.bel
        clear hr
        go_wp2_with fail
        exact bodyPost_ret (v := .tuple #[.int .i64 (i : Nat), .bool false]) (by simp [results, Try.results170, go_sem]) rfl ⟨⟨i, by rw [hmiss.out], HC.out⟩, hB.out⟩
set_option maxRecDepth 20000 in
theorem cfind_any (a : Option Addr) (b o cap : Nat) (l : List Vt) (n : Int) (w : World) (h : Ts w a b o cap l) (hs : SortedT l) (hl : l.length ≤ 1000000) :
    Calls Try.prog 110 #[.slice a l.length cap, .int .i64 n] w fun e w' => (∃ i : Nat, e = .returned (.tuple #[.int .i64 (i : Nat), .bool (hasT l n)]) ∧ Cut l n i) ∧ Below w.heap.size w w' := by
  have HC := hidp (tsearch_any a b o cap l n w h hs hl)
  clear h hs hl
  go_enter Try.func110, Try.ntmps110
  go_wp2_with fail
  refine HC.out.mono ?_
  rintro e w2 ⟨⟨i, rfl, hc⟩, hb⟩
  have hB := hidp (And.intro hc hb)
  clear hb hc HC
  go_wp2_with fail
  exact bodyPost_ret (v := .tuple #[.int .i64 (i : Nat), .bool (hasT l n)]) (by simp [results, Try.results110, go_sem]) rfl ⟨⟨i, rfl, hB.out.1⟩, hB.out.2⟩
end Go.Proofs.Ytbhkjflpkpkdlaa
