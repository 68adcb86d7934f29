/-
  The changes that make a set another one: made.
-/
import Derived.Test.YtlfmmmlheloloaaSa
namespace Go.Proofs.Ytlfmmmlheloloaa
open Go.RowKit Go.Lib Go.Maps

def mdL : List Vd → List Vd → List Vd
  | [], f => f
  | a :: o, [] => ⟨a.k, 0⟩ :: mdL o []
  | a :: o, b :: f => if a.k < b.k then ⟨a.k, 0⟩ :: mdL o (b :: f) else if b.k < a.k then b :: mdL (a :: o) f else (if a = b then [] else [b]) ++ mdL o f
termination_by o f => o.length + f.length
theorem drop_get {l : List Vd} {i : Nat} {v : Vd} (hv : l[i]? = some v) : l.drop i = v :: l.drop (i + 1) := by
  obtain ⟨hlt, rfl⟩ := List.getElem?_eq_some_iff.1 hv
  exact List.drop_eq_getElem_cons hlt
theorem mdL_nil (f : List Vd) : mdL [] f = f := by unfold mdL; rfl
theorem mdL_l {l m : List Vd} {i k : Nat} {a : Vd} (ha : l[i]? = some a) (h : m.length ≤ k ∨ ∃ b, m[k]? = some b ∧ a.k < b.k) : mdL (l.drop i) (m.drop k) = ⟨a.k, 0⟩ :: mdL (l.drop (i + 1)) (m.drop k) := by
  rw [drop_get ha]
  rcases h with h | ⟨b, hb, h⟩
  · rw [List.drop_eq_nil_of_le h]
    rw [mdL]
  · rw [drop_get hb, mdL, if_pos h]
theorem mdL_m {l m : List Vd} {i k : Nat} {b : Vd} (hb : m[k]? = some b) (h : l.length ≤ i ∨ ∃ a, l[i]? = some a ∧ b.k < a.k) : mdL (l.drop i) (m.drop k) = b :: mdL (l.drop i) (m.drop (k + 1)) := by
  rcases h with h | ⟨a, ha, h⟩
  · rw [List.drop_eq_nil_of_le h, mdL_nil, mdL_nil]
    exact drop_get hb
  · rw [drop_get ha, drop_get hb]
    rw [mdL, if_neg (by omega), if_pos h]
theorem mdL_e {l m : List Vd} {i k : Nat} {a b : Vd} (ha : l[i]? = some a) (hb : m[k]? = some b) (h : a.k = b.k) : mdL (l.drop i) (m.drop k) = (if a = b then [] else [b]) ++ mdL (l.drop (i + 1)) (m.drop (k + 1)) := by
  rw [drop_get ha, drop_get hb]
  rw [mdL, if_neg (by omega), if_neg (by omega)]
structure MdS (w wr : World) (A : List Vd) (v : Value) : Prop where
  own : OwnV wr w.heap.size v A
  bel : Below w.heap.size w wr
theorem MdS.drewN {w wr : World} {A : List Vd} {v : Value} (H : MdS w wr A v) (n : Nat) : MdS w (wr.drewN n) A v := ⟨H.own.below ((Below.refl _ _).drewN n), H.bel.drewN n⟩
theorem MdS.own2 {w wr : World} {A : List Vd} {v : Value} (H : MdS w wr A v) (o : Obj) : (wr.alloc o).ownsRow w.heap.size 102 5 v A.length (A.flatMap vL) ∧ w.heap.size ≤ (wr.alloc o).heap.size :=
  ⟨H.own.below ((Below.refl _ wr).alloc (Nat.le_refl _) o), by have := H.bel.size; simp; omega⟩
theorem MdS.app {w wr w7 : World} {u : Vd} {A : List Vd} {v v' : Value} {o : Obj} (H : MdS w wr A v) (ho : w7.ownsRow w.heap.size 102 5 v' (A.length + 1) (A.flatMap vL ++ vL u)) (hg : (wr.alloc o).grownBy w7 v.ownBlock) : MdS w w7 (A ++ [u]) v' := by
  have h2 := H.own2 o
  exact ⟨OwnV.snoc ho, (H.bel.alloc H.bel.size o).grown hg h2.2 (fun j hj => (h2.1.lt j hj).1)⟩
theorem run_ne_val (u v : Vd) (hu : u.k < 4294967296) (hv : v.k < 4294967296) (w : World) : (binOp .neq 102 (.agg #[.int .u8 (kd (u).k 3 : Nat), .int .u8 (kd (u).k 2 : Nat), .int .u8 (kd (u).k 1 : Nat), .int .u8 (kd (u).k 0 : Nat), .int .i64 (u).p]) (.agg #[.int .u8 (kd (v).k 3 : Nat), .int .u8 (kd (v).k 2 : Nat), .int .u8 (kd (v).k 1 : Nat), .int .u8 (kd (v).k 0 : Nat), .int .i64 (v).p])).run Try.prog w = .ok (.bool (!decide (u = v))) w := by
  have q := run_eqIn_val 9997 u v hu hv w
  simp only [binOp]
  simp [Op.equal, Op.maxDepth, q]
theorem run_keyslice (g o : Nat) (w : World) : (Instr.sliceAt 36 (.pointer (some ⟨g, o, none⟩)) none none none).run Try.prog w = .ok (.slice (some ⟨g, o, none⟩) 4 4) w :=
  run_sliceAt_all Try.underlying36 (by kernel_rfl) (by decide) g o w
/-- A key in a row, as a string. -/
theorem key_string {w : World} {a : Option Addr} {b o cap : Nat} {l : List Vd} (h : Vs w a b o cap l) {i : Nat} {v : Vd} (hv : l[i]? = some v) :
    (convert 32 9 (.slice (some ⟨b, o + i * 5, none⟩) 4 4)).run Try.prog w = .ok (.string (strB (kb v.k))) w := by
  refine conv_at w ⟨b, o + i * 5, none⟩ 4 (kb v.k) (kb_bytes v.k).2 fun j hj => ?_
  obtain ⟨c0, c1, c2, c3, _⟩ := h.five hv
  have hj4 : j < 4 := hj
  rw [Addr.add_mid]
  rcases (by omega : j = 0 ∨ j = 1 ∨ j = 2 ∨ j = 3) with rfl | rfl | rfl | rfl
  · exact c0
  · exact c1
  · exact c2
  · exact c3
set_option maxRecDepth 100000 in
set_option maxHeartbeats 8000000 in
theorem made_any (a : Option Addr) (b o cap : Nat) (l : List Vd) (a2 : Option Addr) (b2 o2 cap2 : Nat) (m : List Vd) (w : World) (h : Vs w a b o cap l) (h2 : Vs w a2 b2 o2 cap2 m) (hl : l.length ≤ 200) (hm : m.length ≤ 200) :
    Calls Try.prog 65 #[.slice a l.length cap, .slice a2 m.length cap2] w fun e w' => ∃ v, e = .returned v ∧ OwnV w' w.heap.size v (mdL l m) ∧ Below w.heap.size w w' := by
  obtain ⟨i0, hi, hz0, hz1, hz2⟩ := info_parts info_val
  have H := hidp h
  have H2 := hidp h2
  have HN := hidp (And.intro hl hm)
  have hgv := guard_val
  have H0 : Hid ((MdS w w [] (.slice none 0 0) ∧ ([] : List Vd).length ≤ 0 + 0) ∧ mdL l m = [] ++ mdL (l.drop 0) (m.drop 0)) := hidp ⟨⟨⟨OwnV.nil _ _, Below.refl _ _⟩, by simp⟩, by rw [List.drop_zero, List.drop_zero]; rfl⟩
  clear h h2 hl hm
  go_enter Try.func65, Try.ntmps65
  go_wp2_with fail
  go_loopw [5, 6, 7] (fun v x y wr => ∃ (i k : Nat) (A : List Vd), i ≤ l.length ∧ k ≤ m.length ∧ x = .int .i64 ((i : Nat) : Int) ∧ y = .int .i64 ((k : Nat) : Int) ∧ Hid ((MdS w wr A v ∧ A.length ≤ i + k) ∧ mdL l m = A ++ mdL (l.drop i) (m.drop k))) (fun _ x y _ => (l.length - (Go.RowKit.intOf x).toNat) + (m.length - (Go.RowKit.intOf y).toNat))
  case atStart => exact ⟨0, 0, [], by omega, by omega, rfl, rfl, H0⟩
  case round =>
    obtain ⟨i, k, A, hin, hkn, rfl, rfl, hr⟩ := hrel
    clear H0
    have hE0 := hidp hr.out.2
    have S0 := hidp hr.out.1.1
    have hai := w64_nat (n := i) (by have := HN.out; omega)
    have hak := w64_nat (n := k) (by have := HN.out; omega)
    have HA := hidp (show A.length ≤ i + k ∧ i ≤ l.length ∧ k ≤ m.length ∧ l.length ≤ 200 ∧ m.length ≤ 200 from ⟨hr.out.1.2, hin, hkn, HN.out.1, HN.out.2⟩)
    clear hr
    by_cases hli : i < l.length
    · by_cases hmk : k < m.length
      · -- both
        have hdi : decide (i < l.length) = true := decide_eq_true hli
        have hdk : ((k : Int) == (m.length : Int)) = false := by rw [beq_eq_false_iff_ne]; omega
        have hdj : ((i : Int) == (l.length : Int)) = false := by rw [beq_eq_false_iff_ne]; omega
        obtain ⟨u, hu, huk, rfl, hbl, c0, c1, c2, c3, c4⟩ := (H.out.below S0.out.bel).at hli
        obtain ⟨v, hv, hvk, rfl, hbl2, d0, d1, d2, d3, d4⟩ := (H2.out.below S0.out.bel).at hmk
        have HU := hidp (And.intro hu (And.intro huk hli))
        have HV := hidp (And.intro hv (And.intro hvk hmk))
        have ks := run_keyslice
        have s1 : ∀ n, (convert 32 9 (.slice (some ⟨b, o + i * 5, none⟩) 4 4)).run Try.prog (wr.drewN n) = .ok (.string (strB (kb u.k))) (wr.drewN n) := fun n => key_string ((H.out.below S0.out.bel).drewN n) hu
        have s2 : ∀ n, (convert 32 9 (.slice (some ⟨b2, o2 + k * 5, none⟩) 4 4)).run Try.prog (wr.drewN n) = .ok (.string (strB (kb v.k))) (wr.drewN n) := fun n => key_string ((H2.out.below S0.out.bel).drewN n) hv
        have s3 := run_lss_key u.k v.k huk.k hvk.k
        have s4 := run_lss_key v.k u.k hvk.k huk.k
        have s5 := less_key u.k v.k huk.k hvk.k
        have s6 := less_key v.k u.k hvk.k huk.k
        have bi0 : (0 : Int) ≤ (i : Int) := by omega
        have bi1 : (i : Int) < (l.length : Int) := by omega
        have bk0 : (0 : Int) ≤ (k : Int) := by omega
        have bk1 : (k : Int) < (m.length : Int) := by omega
        clear hu huk hv hvk
        clear c4 d4
        by_cases huv : u.k < v.k
        · have hd1 : decide (u.k < v.k) = true := decide_eq_true huv
          have hE := hidp (show mdL l m = (A ++ [⟨u.k, 0⟩]) ++ mdL (l.drop (i + 1)) (m.drop (k)) by rw [hE0.out, mdL_l HU.out.1 (.inr ⟨v, HV.out.1, huv⟩)]; simp)
          clear huv
          go_wp2_with fail
          go_quiet (fail)
          have S1 := hidp (S0.out.drewN nq)
          clear s1 s2 s3 s4 s5 s6 c0 c1 c2 c3 d0 d1 d2 d3 hbl hbl2
          generalize wr.drewN nq = W1 at S1 ⊢
          obtain ⟨c0, c1, c2, c3, c4⟩ := (H.out.below S1.out.bel).five HU.out.1
          have hbl := ((H.out.below S1.out.bel).ptr (by have := H.out.le; have := HU.out.2.2; omega)).2
          go_wp2_with (at_builtin; refine wpList_append_own _ rfl _ _ 82 rfl w.heap.size 102 i0 _ 5 16 Try.underlying82 hi hz0 hz1 hz2 rfl (by decide) _ _ _ rfl (S1.out.own2 _).1 ⟨W1.heap.size, 0, none⟩ 1 1 (vL ⟨u.k, 0⟩) rfl rfl (new_cells W1 (vL ⟨u.k, 0⟩) _) (vL_one _) (by have := HA.out; simp; unfold maxLen; omega) (by have := HA.out; simp; omega) (S1.out.own2 _).2 ?_; intro v2 w2 ho7 hg7 _; have S2 := hidp (S1.out.app ho7 hg7); clear ho7 hg7)
          rw [hai]
          exact ⟨⟨i + 1, k, (A ++ [⟨u.k, 0⟩]), by have := HA.out; have := HU.out.2.2; omega, by have := HA.out; have := HU.out.2.2; omega, rfl, rfl, hidp ⟨⟨S2.out, by have := HA.out; simp; omega⟩, hE.out⟩⟩, by have := HA.out; have := HU.out.2.2; show (l.length - ((i + 1 : Nat) : Int).toNat) + (m.length - ((k : Nat) : Int).toNat) < (l.length - ((i : Nat) : Int).toNat) + (m.length - ((k : Nat) : Int).toNat); omega⟩
        have hd1 : decide (u.k < v.k) = false := decide_eq_false huv
        go_wp2_with fail
        go_quiet (fail)
        have S1 := hidp (S0.out.drewN nq)
        clear s1 s2 c0 c1 c2 c3 d0 d1 d2 d3 hbl hbl2
        generalize wr.drewN nq = W1 at S1 ⊢
        have s1 : ∀ n, (convert 32 9 (.slice (some ⟨b, o + i * 5, none⟩) 4 4)).run Try.prog (W1.drewN n) = .ok (.string (strB (kb u.k))) (W1.drewN n) := fun n => key_string ((H.out.below S1.out.bel).drewN n) HU.out.1
        have s2 : ∀ n, (convert 32 9 (.slice (some ⟨b2, o2 + k * 5, none⟩) 4 4)).run Try.prog (W1.drewN n) = .ok (.string (strB (kb v.k))) (W1.drewN n) := fun n => key_string ((H2.out.below S1.out.bel).drewN n) HV.out.1
        by_cases hvu : v.k < u.k
        · have hd2 : decide (v.k < u.k) = true := decide_eq_true hvu
          have hE := hidp (show mdL l m = (A ++ [v]) ++ mdL (l.drop (i)) (m.drop (k + 1)) by rw [hE0.out, mdL_m HV.out.1 (.inr ⟨u, HU.out.1, hvu⟩)]; simp)
          clear huv hvu
          obtain ⟨c0, c1, c2, c3, c4⟩ := (H.out.below S1.out.bel).five HU.out.1
          have hbl := ((H.out.below S1.out.bel).ptr (by have := H.out.le; have := HU.out.2.2; omega)).2
          obtain ⟨d0, d1, d2, d3, d4⟩ := (H2.out.below S1.out.bel).five HV.out.1
          have hbl2 := ((H2.out.below S1.out.bel).ptr (by have := H2.out.le; have := HV.out.2.2; omega)).2
          go_wp2_with fail
          go_quiet (fail)
          have S2 := hidp (S1.out.drewN nq)
          clear s1 s2 s3 s4 s5 s6 c0 c1 c2 c3 c4 d0 d1 d2 d3 d4 hbl hbl2
          generalize W1.drewN nq = W2 at S2 ⊢
          obtain ⟨d0, d1, d2, d3, d4⟩ := (H2.out.below S2.out.bel).five HV.out.1
          have hbl2 := ((H2.out.below S2.out.bel).ptr (by have := H2.out.le; have := HV.out.2.2; omega)).2
          go_wp2_with (at_builtin; refine wpList_append_own _ rfl _ _ 82 rfl w.heap.size 102 i0 _ 5 16 Try.underlying82 hi hz0 hz1 hz2 rfl (by decide) _ _ _ rfl (S2.out.own2 _).1 ⟨W2.heap.size, 0, none⟩ 1 1 (vL v) rfl rfl (new_cells W2 (vL v) _) (vL_one _) (by have := HA.out; simp; unfold maxLen; omega) (by have := HA.out; simp; omega) (S2.out.own2 _).2 ?_; intro v3 w3 ho7 hg7 _; have S3 := hidp (S2.out.app ho7 hg7); clear ho7 hg7)
          rw [hak]
          exact ⟨⟨i, k + 1, (A ++ [v]), by have := HA.out; have := HV.out.2.2; omega, by have := HA.out; have := HV.out.2.2; omega, rfl, rfl, hidp ⟨⟨S3.out, by have := HA.out; simp; omega⟩, hE.out⟩⟩, by have := HA.out; have := HV.out.2.2; show (l.length - ((i : Nat) : Int).toNat) + (m.length - ((k + 1 : Nat) : Int).toNat) < (l.length - ((i : Nat) : Int).toNat) + (m.length - ((k : Nat) : Int).toNat); omega⟩
        have hd2 : decide (v.k < u.k) = false := decide_eq_false hvu
        have hk : u.k = v.k := by omega
        have hE1 := hidp (mdL_e HU.out.1 HV.out.1 hk)
        have hne := run_ne_val u v HU.out.2.1.k HV.out.2.1.k
        clear huv hvu hk
        obtain ⟨c0, c1, c2, c3, c4⟩ := (H.out.below S1.out.bel).five HU.out.1
        have hbl := ((H.out.below S1.out.bel).ptr (by have := H.out.le; have := HU.out.2.2; omega)).2
        obtain ⟨d0, d1, d2, d3, d4⟩ := (H2.out.below S1.out.bel).five HV.out.1
        have hbl2 := ((H2.out.below S1.out.bel).ptr (by have := H2.out.le; have := HV.out.2.2; omega)).2
        go_wp2_with fail
        go_quiet (fail)
        have S2 := hidp (S1.out.drewN nq)
        clear s1 s2 s3 s4 s5 s6 c0 c1 c2 c3 c4 d0 d1 d2 d3 d4 hbl hbl2
        generalize W1.drewN nq = W2 at S2 ⊢
        obtain ⟨c0, c1, c2, c3, c4⟩ := (H.out.below S2.out.bel).five HU.out.1
        have hbl := ((H.out.below S2.out.bel).ptr (by have := H.out.le; have := HU.out.2.2; omega)).2
        obtain ⟨d0, d1, d2, d3, d4⟩ := (H2.out.below S2.out.bel).five HV.out.1
        have hbl2 := ((H2.out.below S2.out.bel).ptr (by have := H2.out.le; have := HV.out.2.2; omega)).2
        by_cases huv : u = v
        · have hd3 : decide (u = v) = true := decide_eq_true huv
          have hE := hidp (show mdL l m = A ++ mdL (l.drop (i + 1)) (m.drop (k + 1)) by rw [hE0.out, hE1.out, if_pos huv]; simp)
          clear huv
          go_wp2_with fail
          go_quiet (fail)
          have S3 := hidp (S2.out.drewN nq)
          clear c0 c1 c2 c3 c4 d0 d1 d2 d3 d4 hbl hbl2 hne
          generalize W2.drewN nq = W3 at S3 ⊢
          go_wp2_with fail
          rw [hai]
          rw [hak]
          exact ⟨⟨i + 1, k + 1, A, by have := HA.out; have := HU.out.2.2; have := HV.out.2.2; omega, by have := HA.out; have := HU.out.2.2; have := HV.out.2.2; omega, rfl, rfl, hidp ⟨⟨S3.out, by have := HA.out; simp; omega⟩, hE.out⟩⟩, by have := HA.out; have := HU.out.2.2; have := HV.out.2.2; show (l.length - ((i + 1 : Nat) : Int).toNat) + (m.length - ((k + 1 : Nat) : Int).toNat) < (l.length - ((i : Nat) : Int).toNat) + (m.length - ((k : Nat) : Int).toNat); omega⟩
        · have hd3 : decide (u = v) = false := decide_eq_false huv
          have hE := hidp (show mdL l m = (A ++ [v]) ++ mdL (l.drop (i + 1)) (m.drop (k + 1)) by rw [hE0.out, hE1.out, if_neg huv]; simp)
          clear huv
          go_wp2_with fail
          go_quiet (fail)
          have S3 := hidp (S2.out.drewN nq)
          clear c0 c1 c2 c3 c4 d0 d1 d2 d3 d4 hbl hbl2 hne
          generalize W2.drewN nq = W3 at S3 ⊢
          obtain ⟨d0, d1, d2, d3, d4⟩ := (H2.out.below S3.out.bel).five HV.out.1
          have hbl2 := ((H2.out.below S3.out.bel).ptr (by have := H2.out.le; have := HV.out.2.2; omega)).2
          go_wp2_with (at_builtin; refine wpList_append_own _ rfl _ _ 82 rfl w.heap.size 102 i0 _ 5 16 Try.underlying82 hi hz0 hz1 hz2 rfl (by decide) _ _ _ rfl (S3.out.own2 _).1 ⟨W3.heap.size, 0, none⟩ 1 1 (vL v) rfl rfl (new_cells W3 (vL v) _) (vL_one _) (by have := HA.out; simp; unfold maxLen; omega) (by have := HA.out; simp; omega) (S3.out.own2 _).2 ?_; intro v4 w4 ho7 hg7 _; have S4 := hidp (S3.out.app ho7 hg7); clear ho7 hg7)
          rw [hai]
          rw [hak]
          exact ⟨⟨i + 1, k + 1, (A ++ [v]), by have := HA.out; have := HU.out.2.2; have := HV.out.2.2; omega, by have := HA.out; have := HU.out.2.2; have := HV.out.2.2; omega, rfl, rfl, hidp ⟨⟨S4.out, by have := HA.out; simp; omega⟩, hE.out⟩⟩, by have := HA.out; have := HU.out.2.2; have := HV.out.2.2; show (l.length - ((i + 1 : Nat) : Int).toNat) + (m.length - ((k + 1 : Nat) : Int).toNat) < (l.length - ((i : Nat) : Int).toNat) + (m.length - ((k : Nat) : Int).toNat); omega⟩
      · obtain rfl : k = m.length := by omega
        have hdi : decide (i < l.length) = true := decide_eq_true hli
        obtain ⟨u, hu, huk, rfl, hbl, c0, c1, c2, c3, c4⟩ := (H.out.below S0.out.bel).at hli
        have HU := hidp (And.intro hu (And.intro huk hli))
        have hdk : ((m.length : Int) == (m.length : Int)) = true := by simp
        clear hu huk c4
        have hE := hidp (show mdL l m = (A ++ [⟨u.k, 0⟩]) ++ mdL (l.drop (i + 1)) (m.drop (m.length)) by rw [hE0.out, mdL_l HU.out.1 (.inl (Nat.le_refl _))]; simp)
        go_wp2_with fail
        go_quiet (fail)
        have S1 := hidp (S0.out.drewN nq)
        clear c0 c1 c2 c3 hbl
        generalize wr.drewN nq = W1 at S1 ⊢
        obtain ⟨c0, c1, c2, c3, c4⟩ := (H.out.below S1.out.bel).five HU.out.1
        have hbl := ((H.out.below S1.out.bel).ptr (by have := H.out.le; have := HU.out.2.2; omega)).2
        go_wp2_with (at_builtin; refine wpList_append_own _ rfl _ _ 82 rfl w.heap.size 102 i0 _ 5 16 Try.underlying82 hi hz0 hz1 hz2 rfl (by decide) _ _ _ rfl (S1.out.own2 _).1 ⟨W1.heap.size, 0, none⟩ 1 1 (vL ⟨u.k, 0⟩) rfl rfl (new_cells W1 (vL ⟨u.k, 0⟩) _) (vL_one _) (by have := HA.out; simp; unfold maxLen; omega) (by have := HA.out; simp; omega) (S1.out.own2 _).2 ?_; intro v2 w2 ho7 hg7 _; have S2 := hidp (S1.out.app ho7 hg7); clear ho7 hg7)
        rw [hai]
        exact ⟨⟨i + 1, m.length, (A ++ [⟨u.k, 0⟩]), by have := HA.out; have := HU.out.2.2; omega, by have := HA.out; have := HU.out.2.2; omega, rfl, rfl, hidp ⟨⟨S2.out, by have := HA.out; simp; omega⟩, hE.out⟩⟩, by have := HA.out; have := HU.out.2.2; show (l.length - ((i + 1 : Nat) : Int).toNat) + (m.length - ((m.length : Nat) : Int).toNat) < (l.length - ((i : Nat) : Int).toNat) + (m.length - ((m.length : Nat) : Int).toNat); omega⟩
    · obtain rfl : i = l.length := by omega
      by_cases hmk : k < m.length
      · have hdi : decide (k < m.length) = true := decide_eq_true hmk
        have hdk : ((k : Int) == (m.length : Int)) = false := by rw [beq_eq_false_iff_ne]; omega
        have hdj : ((l.length : Int) == (l.length : Int)) = true := by simp
        obtain ⟨v, hv, hvk, rfl, hbl2, d0, d1, d2, d3, d4⟩ := (H2.out.below S0.out.bel).at hmk
        have HV := hidp (And.intro hv (And.intro hvk hmk))
        clear hv hvk d4
        have hE := hidp (show mdL l m = (A ++ [v]) ++ mdL (l.drop (l.length)) (m.drop (k + 1)) by rw [hE0.out, mdL_m HV.out.1 (.inl (Nat.le_refl _))]; simp)
        go_wp2_with fail
        go_quiet (fail)
        have S1 := hidp (S0.out.drewN nq)
        clear d0 d1 d2 d3 hbl2
        generalize wr.drewN nq = W1 at S1 ⊢
        go_wp2_with fail
        go_quiet (fail)
        have S2 := hidp (S1.out.drewN nq)
        clear S1
        generalize W1.drewN nq = W2 at S2 ⊢
        obtain ⟨d0, d1, d2, d3, d4⟩ := (H2.out.below S2.out.bel).five HV.out.1
        have hbl2 := ((H2.out.below S2.out.bel).ptr (by have := H2.out.le; have := HV.out.2.2; omega)).2
        go_wp2_with (at_builtin; refine wpList_append_own _ rfl _ _ 82 rfl w.heap.size 102 i0 _ 5 16 Try.underlying82 hi hz0 hz1 hz2 rfl (by decide) _ _ _ rfl (S2.out.own2 _).1 ⟨W2.heap.size, 0, none⟩ 1 1 (vL v) rfl rfl (new_cells W2 (vL v) _) (vL_one _) (by have := HA.out; simp; unfold maxLen; omega) (by have := HA.out; simp; omega) (S2.out.own2 _).2 ?_; intro v3 w3 ho7 hg7 _; have S3 := hidp (S2.out.app ho7 hg7); clear ho7 hg7)
        rw [hak]
        exact ⟨⟨l.length, k + 1, (A ++ [v]), by have := HA.out; have := HV.out.2.2; omega, by have := HA.out; have := HV.out.2.2; omega, rfl, rfl, hidp ⟨⟨S3.out, by have := HA.out; simp; omega⟩, hE.out⟩⟩, by have := HA.out; have := HV.out.2.2; show (l.length - ((l.length : Nat) : Int).toNat) + (m.length - ((k + 1 : Nat) : Int).toNat) < (l.length - ((l.length : Nat) : Int).toNat) + (m.length - ((k : Nat) : Int).toNat); omega⟩
      · obtain rfl : k = m.length := by omega
        have hx := hidp (show mdL l m = A by rw [hE0.out, List.drop_length, List.drop_length, mdL_nil, List.append_nil])
        go_wp2_with fail
        go_ret
        exact ⟨_, rfl, by rw [hx.out]; exact S0.out.own, S0.out.bel⟩
end Go.Proofs.Ytlfmmmlheloloaa
