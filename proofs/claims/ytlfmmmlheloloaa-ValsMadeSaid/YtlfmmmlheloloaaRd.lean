/-
  The reference of layer 5: changed, by definition.
-/
import Derived.Test.YtlfmmmlheloloaaRc
import Derived.OwnWalk
namespace Go.Proofs.Ytlfmmmlheloloaa
open Go.RowKit Go.Lib Go.Maps

/-- A list, changed by one, from here on; was the change put already? -/
def goC (c : Vd) : Bool → List Vd → List Vd
  | p, [] => if p then [] else [c]
  | p, v :: r => (if p = false ∧ c.k < v.k then [c] else []) ++ ((if v.k = c.k then [] else [v]) ++ goC c (p || decide (c.k < v.k)) r)
def chgd (l : List Vd) (c : Vd) : List Vd := goC c (c.p == 0) l
structure ChS (w wr : World) (c : Vd) (A : List Vd) (v : Value) : Prop where
  own : OwnV wr (w.heap.size + 1) v A
  bel : Below w.heap.size w wr
  box : Blk wr w.heap.size (vL c) 102
  lt : w.heap.size + 1 ≤ wr.heap.size
theorem ChS.below {w wr w2 : World} {c : Vd} {A : List Vd} {v : Value} (H : ChS w wr c A v) (hb : Below wr.heap.size wr w2) : ChS w w2 c A v :=
  ⟨H.own.below hb, H.bel.trans (hb.mono H.bel.size), hb.blk' H.box, Nat.le_trans H.lt hb.size⟩
theorem ChS.drewN {w wr : World} {c : Vd} {A : List Vd} {v : Value} (H : ChS w wr c A v) (n : Nat) : ChS w (wr.drewN n) c A v := H.below ((Below.refl _ _).drewN n)
theorem ChS.own2 {w wr : World} {c : Vd} {A : List Vd} {v : Value} (H : ChS w wr c A v) (o : Obj) : (wr.alloc o).ownsRow (w.heap.size + 1) 102 5 v A.length (A.flatMap vL) ∧ w.heap.size + 1 ≤ (wr.alloc o).heap.size :=
  ⟨H.own.below ((Below.refl _ wr).alloc (Nat.le_refl _) o), by have := H.lt; simp; omega⟩
theorem ChS.app {w wr w7 : World} {c u : Vd} {A : List Vd} {v v' : Value} {o : Obj} (H : ChS w wr c A v) (ho : w7.ownsRow (w.heap.size + 1) 102 5 v' (A.length + 1) (A.flatMap vL ++ vL u)) (hg : (wr.alloc o).grownBy w7 v.ownBlock) : ChS w w7 c (A ++ [u]) v' := by
  have h2 := H.own2 o
  have b1 : Below (w.heap.size + 1) wr w7 := ((Below.refl (w.heap.size + 1) wr).alloc H.lt o).grown hg h2.2 (fun j hj => (h2.1.lt j hj).1)
  refine ⟨OwnV.snoc ho, H.bel.trans (b1.mono (Nat.le_succ _)), H.box.below b1 (Nat.lt_succ_self _), Nat.le_trans H.lt b1.size⟩
theorem goC_step {c v : Vd} {p : Bool} {l : List Vd} {i : Nat} (hv : l[i]? = some v) : goC c p (l.drop i) = (if p = false ∧ c.k < v.k then [c] else []) ++ ((if v.k = c.k then [] else [v]) ++ goC c (p || decide (c.k < v.k)) (l.drop (i + 1))) := by
  obtain ⟨hlt, rfl⟩ := List.getElem?_eq_some_iff.1 hv
  rw [List.drop_eq_getElem_cons hlt]
  rfl
theorem run_ne_key (a b : Nat) (ha : a < 4294967296) (hb : b < 4294967296) (w : World) : (binOp .neq 36 (.agg #[.int .u8 (kd a 3 : Nat), .int .u8 (kd a 2 : Nat), .int .u8 (kd a 1 : Nat), .int .u8 (kd a 0 : Nat)]) (.agg #[.int .u8 (kd b 3 : Nat), .int .u8 (kd b 2 : Nat), .int .u8 (kd b 1 : Nat), .int .u8 (kd b 0 : Nat)])).run Try.prog w = .ok (.bool (!decide (a = b))) w := by
  have q := run_eqIn_key 9998 a b ha hb w
  simp only [binOp]
  simp [Op.equal, Op.maxDepth, q]
theorem Vs.five {w : World} {a : Option Addr} {b o cap : Nat} {l : List Vd} (h : Vs w a b o cap l) {i : Nat} {v : Vd} (hv : l[i]? = some v) : w.cell? ⟨b, o + i * 5, none⟩ = some (.int .u8 (kd v.k 3 : Nat)) ∧ w.cell? ⟨b, o + i * 5 + 1, none⟩ = some (.int .u8 (kd v.k 2 : Nat)) ∧ w.cell? ⟨b, o + i * 5 + 2, none⟩ = some (.int .u8 (kd v.k 1 : Nat)) ∧ w.cell? ⟨b, o + i * 5 + 3, none⟩ = some (.int .u8 (kd v.k 0 : Nat)) ∧ w.cell? ⟨b, o + i * 5 + 4, none⟩ = some (.int .i64 v.p) :=
  ⟨h.cell i v hv 0 _ rfl, h.cell i v hv 1 _ rfl, h.cell i v hv 2 _ rfl, h.cell i v hv 3 _ rfl, h.cell i v hv 4 _ rfl⟩
theorem box5 {w : World} {x : Nat} {c : Vd} {T : TypeId} (h : Blk w x (vL c) T) : w.cell? ⟨x, 0, none⟩ = some (.int .u8 (kd c.k 3 : Nat)) ∧ w.cell? ⟨x, 1, none⟩ = some (.int .u8 (kd c.k 2 : Nat)) ∧ w.cell? ⟨x, 2, none⟩ = some (.int .u8 (kd c.k 1 : Nat)) ∧ w.cell? ⟨x, 3, none⟩ = some (.int .u8 (kd c.k 0 : Nat)) ∧ w.cell? ⟨x, 4, none⟩ = some (.int .i64 c.p) :=
  ⟨h.cell 0, h.cell 1, h.cell 2, h.cell 3, h.cell 4⟩
/-- A key in one block, a key in another one. -/
def K3 (b x b2 y ku kv : Nat) (W : World) : Prop := W.cell? ⟨b, x, none⟩ = some (.int .u8 (kd ku 3 : Nat)) ∧ W.cell? ⟨b, x + 1, none⟩ = some (.int .u8 (kd ku 2 : Nat)) ∧ W.cell? ⟨b, x + 2, none⟩ = some (.int .u8 (kd ku 1 : Nat)) ∧ W.cell? ⟨b, x + 3, none⟩ = some (.int .u8 (kd ku 0 : Nat)) ∧ W.cell? ⟨b2, y, none⟩ = some (.int .u8 (kd kv 3 : Nat)) ∧ W.cell? ⟨b2, y + 1, none⟩ = some (.int .u8 (kd kv 2 : Nat)) ∧ W.cell? ⟨b2, y + 2, none⟩ = some (.int .u8 (kd kv 1 : Nat)) ∧ W.cell? ⟨b2, y + 3, none⟩ = some (.int .u8 (kd kv 0 : Nat))
theorem K3.drew {b x b2 y ku kv : Nat} {W : World} (h : Hid (K3 b x b2 y ku kv W)) : Hid (K3 b x b2 y ku kv W.drew) := hidp h.out
theorem K3.below {b x b2 y ku kv : Nat} {W W' : World} (h : Hid (K3 b x b2 y ku kv W)) (hB : Below W.heap.size W W') : Hid (K3 b x b2 y ku kv W') := by
  obtain ⟨h0, h1, h2, h3, h4, h5, h6, h7⟩ := h.out
  exact hidp ⟨(hB.cell (cell_lt h0)).trans h0, (hB.cell (cell_lt h1)).trans h1, (hB.cell (cell_lt h2)).trans h2, (hB.cell (cell_lt h3)).trans h3, (hB.cell (cell_lt h4)).trans h4, (hB.cell (cell_lt h5)).trans h5, (hB.cell (cell_lt h6)).trans h6, (hB.cell (cell_lt h7)).trans h7⟩
set_option maxRecDepth 100000 in
set_option maxHeartbeats 8000000 in
theorem changed_any (a : Option Addr) (b o cap : Nat) (l : List Vd) (c : Vd) (w : World) (h : Vs w a b o cap l) (hl : l.length ≤ 200) (hc : VdOk c) :
    Calls Try.prog 134 #[.slice a l.length cap, .agg #[.int .u8 (kd (c).k 3 : Nat), .int .u8 (kd (c).k 2 : Nat), .int .u8 (kd (c).k 1 : Nat), .int .u8 (kd (c).k 0 : Nat), .int .i64 (c).p]] w fun e w' => ∃ v, e = .returned v ∧ OwnV w' (w.heap.size + 1) v (chgd l c) ∧ Below w.heap.size w w' := by
  obtain ⟨i0, hi, hz0, hz1, hz2⟩ := info_parts info_val
  have H := hidp h
  have HL := hidp (And.intro hl hc)
  have hg := guard_key
  have H0 : Hid (ChS w (w.alloc (.cells #[.int .u8 (kd (c).k 3 : Nat), .int .u8 (kd (c).k 2 : Nat), .int .u8 (kd (c).k 1 : Nat), .int .u8 (kd (c).k 0 : Nat), .int .i64 (c).p] 102)) c [] (.slice none 0 0) ∧ chgd l c = [] ++ goC c (c.p == 0) (l.drop 0)) := hidp ⟨⟨OwnV.nil _ _, (Below.refl _ w).alloc (Nat.le_refl _) _, Blk.new w (vL c) _, by simp⟩, by rw [List.drop_zero]; rfl⟩
  clear h hl hc
  go_enter Try.func134, Try.ntmps134
  go_wp2_with fail
  go_loopw [5, 6, 7] (fun v x y wr => ∃ (i : Nat) (p : Bool) (A : List Vd), i ≤ l.length ∧ x = .bool p ∧ y = .int .i64 ((i : Nat) : Int) ∧ Hid ((ChS w wr c A v ∧ A.length ≤ 2 * i) ∧ chgd l c = A ++ goC c p (l.drop i))) (fun _ _ y _ => l.length - (Go.RowKit.intOf y).toNat)
  case atStart => exact ⟨0, _, [], by omega, rfl, rfl, hidp ⟨⟨H0.out.1, by simp⟩, H0.out.2⟩⟩
  case round =>
    obtain ⟨i, p, A, hin, rfl, rfl, hr⟩ := hrel
    clear H0
    by_cases hlt : i < l.length
    · obtain ⟨v, hv, hok, rfl, hbl, c0, c1, c2, c3, c4⟩ := (H.out.below hr.out.1.1.bel).at hlt
      have HV := hidp (And.intro hv (And.intro hok hlt))
      have hE0 := hidp (hr.out.2.trans (congrArg (A ++ ·) (goC_step (c := c) (p := p) hv)))
      have hadd := w64_nat (n := i) (by have := HL.out; omega)
      have hne := run_ne_key v.k c.k hok.k HL.out.2.k
      have HA := hidp (show A.length ≤ 2 * i ∧ i < l.length ∧ l.length ≤ 200 from ⟨hr.out.1.2, hlt, HL.out.1⟩)
      have S0 := hidp hr.out.1.1
      clear hr hv hok
      cases p with
      | true =>
        clear c0 c1 c2 c3 c4
        go_wp2_with fail
        go_quiet (fail)
        have S1 := hidp (S0.out.drewN nq)
        generalize wr.drewN nq = W1 at S1 ⊢
        clear hbl
        obtain ⟨c0, c1, c2, c3, c4⟩ := (H.out.below S1.out.bel).five HV.out.1
        obtain ⟨k0, k1, k2, k3, k4⟩ := box5 S1.out.box
        have hbl := ((H.out.below S1.out.bel).at HV.out.2.2).choose_spec.2.2.2.1
        have hkl := S1.out.lt
        by_cases hk : v.k = c.k
        · have hd : decide (v.k = c.k) = true := decide_eq_true hk
          have hE := hidp (show chgd l c = A ++ goC c true (l.drop (i + 1)) by rw [hE0.out]; simp [hk])
          clear hk
          go_wp2_with fail
          go_quiet (fail)
          have S8 := hidp (S1.out.drewN nq)
          clear c0 c1 c2 c3 c4 k0 k1 k2 k3 k4 hbl hkl
          generalize W1.drewN nq = W8 at S8 ⊢
          go_wp2_with fail
          rw [hadd]
          exact ⟨⟨i + 1, true, A, by have := HV.out.2.2; omega, rfl, rfl, hidp ⟨⟨S8.out, by have := HA.out; simp; omega⟩, hE.out⟩⟩, by have h1 := HV.out.2.2; show l.length - ((i + 1 : Nat) : Int).toNat < l.length - ((i : Nat) : Int).toNat; omega⟩
        · have hd : decide (v.k = c.k) = false := decide_eq_false hk
          have hE := hidp (show chgd l c = (A ++ [v]) ++ goC c true (l.drop (i + 1)) by rw [hE0.out]; simp [hk])
          clear hk
          go_wp2_with fail
          go_quiet (fail)
          have S8 := hidp (S1.out.drewN nq)
          clear c0 c1 c2 c3 c4 k0 k1 k2 k3 k4 hbl hkl
          generalize W1.drewN nq = W8 at S8 ⊢
          obtain ⟨c0, c1, c2, c3, c4⟩ := (H.out.below S8.out.bel).five HV.out.1
          obtain ⟨k0, k1, k2, k3, k4⟩ := box5 S8.out.box
          have hbl := ((H.out.below S8.out.bel).at HV.out.2.2).choose_spec.2.2.2.1
          have hkl := S8.out.lt
          go_wp2_with (at_builtin; refine wpList_append_own _ rfl _ _ 82 rfl (w.heap.size + 1) 102 i0 _ 5 16 Try.underlying82 hi hz0 hz1 hz2 rfl (by decide) _ _ _ rfl (S8.out.own2 _).1 ⟨W8.heap.size, 0, none⟩ 1 1 (vL v) rfl rfl (new_cells W8 (vL v) _) (vL_one _) (by have := HA.out; simp; unfold maxLen; omega) (by have := HA.out; simp; omega) (S8.out.own2 _).2 ?_; intro v9 w9 ho7 hg7 _; have S9 := hidp (S8.out.app ho7 hg7); clear ho7 hg7)
          rw [hadd]
          exact ⟨⟨i + 1, true, (A ++ [v]), by have := HV.out.2.2; omega, rfl, rfl, hidp ⟨⟨S9.out, by have := HA.out; simp; omega⟩, hE.out⟩⟩, by have h1 := HV.out.2.2; show l.length - ((i + 1 : Nat) : Int).toNat < l.length - ((i : Nat) : Int).toNat; omega⟩
      | false =>
        have bi0 : (0 : Int) ≤ (i : Int) := by omega
        have bi1 : (i : Int) < (l.length : Int) := by omega
        by_cases hck : c.k < v.k
        · have hdl : decide (c.k < v.k) = true := decide_eq_true hck
          have hnk : ¬ v.k = c.k := by omega
          clear c0 c1 c2 c3 c4
          have hK := hidp (show K3 w.heap.size 0 b (o + i * 5) c.k v.k wr from by
            obtain ⟨k0, k1, k2, k3, k4⟩ := box5 S0.out.box
            obtain ⟨c0, c1, c2, c3, c4⟩ := (H.out.below S0.out.bel).five HV.out.1
            exact ⟨k0, k1, k2, k3, c0, c1, c2, c3⟩)
          have hkl := S0.out.lt
          go_wp2_with fail
          go_region_held3 (fun W => W.cell? ⟨w.heap.size, 0, none⟩ = some (.int .u8 (kd c.k 3 : Nat)) ∧ W.cell? ⟨w.heap.size, 1, none⟩ = some (.int .u8 (kd c.k 2 : Nat)) ∧ W.cell? ⟨w.heap.size, 2, none⟩ = some (.int .u8 (kd c.k 1 : Nat)) ∧ W.cell? ⟨w.heap.size, 3, none⟩ = some (.int .u8 (kd c.k 0 : Nat)) ∧ W.cell? ⟨b, o + i * 5, none⟩ = some (.int .u8 (kd v.k 3 : Nat)) ∧ W.cell? ⟨b, o + i * 5 + 1, none⟩ = some (.int .u8 (kd v.k 2 : Nat)) ∧ W.cell? ⟨b, o + i * 5 + 2, none⟩ = some (.int .u8 (kd v.k 1 : Nat)) ∧ W.cell? ⟨b, o + i * 5 + 3, none⟩ = some (.int .u8 (kd v.k 0 : Nat)))
            (first | (with_reducible exact Hid.out (p := K3 w.heap.size 0 b (o + i * 5) c.k v.k _) (by with_reducible assumption)) | exact Hid.out (p := K3 w.heap.size 0 b (o + i * 5) c.k v.k _) (by with_reducible assumption) | exact Hid.out (p := K3 w.heap.size 0 b (o + i * 5) c.k v.k _) (K3.drew (by with_reducible assumption)))
            (first
             | (go_at_call 133; refine (less_any c.k v.k _ HL.out.2.k HV.out.2.1.k).mono ?_; rintro e w2 ⟨rfl, hb⟩; have hB2 := hidp (show Below wr.heap.size wr w2 from by first | exact hb | exact (Below.refl wr.heap.size wr).drew.trans hb); have hT := K3.below (by first | exact hK | exact K3.drew hK) hb; clear hb))
          have S1 := hidp (S0.out.below hB2.out)
          clear hkl hbl
          obtain ⟨k0, k1, k2, k3, k4⟩ := box5 S1.out.box
          have hkl := S1.out.lt
          go_wp2_with (at_builtin; refine wpList_append_own _ rfl _ _ 82 rfl (w.heap.size + 1) 102 i0 _ 5 16 Try.underlying82 hi hz0 hz1 hz2 rfl (by decide) _ _ _ rfl (S1.out.own2 _).1 ⟨w2.heap.size, 0, none⟩ 1 1 (vL c) rfl rfl (new_cells w2 (vL c) _) (vL_one _) (by have := HA.out; simp; unfold maxLen; omega) (by have := HA.out; simp; omega) (S1.out.own2 _).2 ?_; intro v3 w3 ho7 hg7 _; have S3 := hidp (S1.out.app ho7 hg7); clear ho7 hg7)
          clear k0 k1 k2 k3 k4 hkl 
          have hd : decide (v.k = c.k) = false := decide_eq_false hnk
          have hE := hidp (show chgd l c = ((A ++ [c]) ++ [v]) ++ goC c true (l.drop (i + 1)) by rw [hE0.out]; simp [hck, hnk])
          clear hck hnk
          obtain ⟨c0, c1, c2, c3, c4⟩ := (H.out.below S3.out.bel).five HV.out.1
          obtain ⟨k0, k1, k2, k3, k4⟩ := box5 S3.out.box
          have hbl := ((H.out.below S3.out.bel).at HV.out.2.2).choose_spec.2.2.2.1
          have hkl := S3.out.lt
          go_wp2_with fail
          go_quiet (fail)
          have S8 := hidp (S3.out.drewN nq)
          clear c0 c1 c2 c3 c4 k0 k1 k2 k3 k4 hbl hkl
          generalize w3.drewN nq = W8 at S8 ⊢
          obtain ⟨c0, c1, c2, c3, c4⟩ := (H.out.below S8.out.bel).five HV.out.1
          obtain ⟨k0, k1, k2, k3, k4⟩ := box5 S8.out.box
          have hbl := ((H.out.below S8.out.bel).at HV.out.2.2).choose_spec.2.2.2.1
          have hkl := S8.out.lt
          go_wp2_with (at_builtin; refine wpList_append_own _ rfl _ _ 82 rfl (w.heap.size + 1) 102 i0 _ 5 16 Try.underlying82 hi hz0 hz1 hz2 rfl (by decide) _ _ _ rfl (S8.out.own2 _).1 ⟨W8.heap.size, 0, none⟩ 1 1 (vL v) rfl rfl (new_cells W8 (vL v) _) (vL_one _) (by have := HA.out; simp; unfold maxLen; omega) (by have := HA.out; simp; omega) (S8.out.own2 _).2 ?_; intro v9 w9 ho7 hg7 _; have S9 := hidp (S8.out.app ho7 hg7); clear ho7 hg7)
          rw [hadd]
          exact ⟨⟨i + 1, true, ((A ++ [c]) ++ [v]), by have := HV.out.2.2; omega, rfl, rfl, hidp ⟨⟨S9.out, by have := HA.out; simp; omega⟩, hE.out⟩⟩, by have h1 := HV.out.2.2; show l.length - ((i + 1 : Nat) : Int).toNat < l.length - ((i : Nat) : Int).toNat; omega⟩
        · have hdl : decide (c.k < v.k) = false := decide_eq_false hck
          clear c0 c1 c2 c3 c4
          have hK := hidp (show K3 w.heap.size 0 b (o + i * 5) c.k v.k wr from by
            obtain ⟨k0, k1, k2, k3, k4⟩ := box5 S0.out.box
            obtain ⟨c0, c1, c2, c3, c4⟩ := (H.out.below S0.out.bel).five HV.out.1
            exact ⟨k0, k1, k2, k3, c0, c1, c2, c3⟩)
          have hkl := S0.out.lt
          go_wp2_with fail
          go_region_held3 (fun W => W.cell? ⟨w.heap.size, 0, none⟩ = some (.int .u8 (kd c.k 3 : Nat)) ∧ W.cell? ⟨w.heap.size, 1, none⟩ = some (.int .u8 (kd c.k 2 : Nat)) ∧ W.cell? ⟨w.heap.size, 2, none⟩ = some (.int .u8 (kd c.k 1 : Nat)) ∧ W.cell? ⟨w.heap.size, 3, none⟩ = some (.int .u8 (kd c.k 0 : Nat)) ∧ W.cell? ⟨b, o + i * 5, none⟩ = some (.int .u8 (kd v.k 3 : Nat)) ∧ W.cell? ⟨b, o + i * 5 + 1, none⟩ = some (.int .u8 (kd v.k 2 : Nat)) ∧ W.cell? ⟨b, o + i * 5 + 2, none⟩ = some (.int .u8 (kd v.k 1 : Nat)) ∧ W.cell? ⟨b, o + i * 5 + 3, none⟩ = some (.int .u8 (kd v.k 0 : Nat)))
            (first | (with_reducible exact Hid.out (p := K3 w.heap.size 0 b (o + i * 5) c.k v.k _) (by with_reducible assumption)) | exact Hid.out (p := K3 w.heap.size 0 b (o + i * 5) c.k v.k _) (by with_reducible assumption) | exact Hid.out (p := K3 w.heap.size 0 b (o + i * 5) c.k v.k _) (K3.drew (by with_reducible assumption)))
            (first
             | (go_at_call 133; refine (less_any c.k v.k _ HL.out.2.k HV.out.2.1.k).mono ?_; rintro e w2 ⟨rfl, hb⟩; have hB2 := hidp (show Below wr.heap.size wr w2 from by first | exact hb | exact (Below.refl wr.heap.size wr).drew.trans hb); have hT := K3.below (by first | exact hK | exact K3.drew hK) hb; clear hb))
          have S1 := hidp (S0.out.below hB2.out)
          clear hkl hbl
          obtain ⟨c0, c1, c2, c3, c4⟩ := (H.out.below S1.out.bel).five HV.out.1
          obtain ⟨k0, k1, k2, k3, k4⟩ := box5 S1.out.box
          have hbl := ((H.out.below S1.out.bel).at HV.out.2.2).choose_spec.2.2.2.1
          have hkl := S1.out.lt
          by_cases hk : v.k = c.k
          · have hd : decide (v.k = c.k) = true := decide_eq_true hk
            have hE := hidp (show chgd l c = A ++ goC c false (l.drop (i + 1)) by rw [hE0.out]; simp [hk])
            clear hk
            go_wp2_with fail
            go_quiet (fail)
            have S8 := hidp (S1.out.drewN nq)
            clear c0 c1 c2 c3 c4 k0 k1 k2 k3 k4 hbl hkl
            generalize w2.drewN nq = W8 at S8 ⊢
            go_wp2_with fail
            rw [hadd]
            exact ⟨⟨i + 1, false, A, by have := HV.out.2.2; omega, rfl, rfl, hidp ⟨⟨S8.out, by have := HA.out; simp; omega⟩, hE.out⟩⟩, by have h1 := HV.out.2.2; show l.length - ((i + 1 : Nat) : Int).toNat < l.length - ((i : Nat) : Int).toNat; omega⟩
          · have hd : decide (v.k = c.k) = false := decide_eq_false hk
            have hE := hidp (show chgd l c = (A ++ [v]) ++ goC c false (l.drop (i + 1)) by rw [hE0.out]; simp [hk, hck])
            clear hk
            go_wp2_with fail
            go_quiet (fail)
            have S8 := hidp (S1.out.drewN nq)
            clear c0 c1 c2 c3 c4 k0 k1 k2 k3 k4 hbl hkl
            generalize w2.drewN nq = W8 at S8 ⊢
            obtain ⟨c0, c1, c2, c3, c4⟩ := (H.out.below S8.out.bel).five HV.out.1
            obtain ⟨k0, k1, k2, k3, k4⟩ := box5 S8.out.box
            have hbl := ((H.out.below S8.out.bel).at HV.out.2.2).choose_spec.2.2.2.1
            have hkl := S8.out.lt
            go_wp2_with (at_builtin; refine wpList_append_own _ rfl _ _ 82 rfl (w.heap.size + 1) 102 i0 _ 5 16 Try.underlying82 hi hz0 hz1 hz2 rfl (by decide) _ _ _ rfl (S8.out.own2 _).1 ⟨W8.heap.size, 0, none⟩ 1 1 (vL v) rfl rfl (new_cells W8 (vL v) _) (vL_one _) (by have := HA.out; simp; unfold maxLen; omega) (by have := HA.out; simp; omega) (S8.out.own2 _).2 ?_; intro v9 w9 ho7 hg7 _; have S9 := hidp (S8.out.app ho7 hg7); clear ho7 hg7)
            rw [hadd]
            exact ⟨⟨i + 1, false, (A ++ [v]), by have := HV.out.2.2; omega, rfl, rfl, hidp ⟨⟨S9.out, by have := HA.out; simp; omega⟩, hE.out⟩⟩, by have h1 := HV.out.2.2; show l.length - ((i + 1 : Nat) : Int).toNat < l.length - ((i : Nat) : Int).toNat; omega⟩
    · obtain rfl : i = l.length := by omega
      have hE := hidp (show chgd l c = A ++ goC c p [] by rw [hr.out.2, List.drop_length])
      have S1 := hidp hr.out.1.1
      have HA := hidp (show A.length ≤ 2 * l.length ∧ l.length ≤ 200 from ⟨hr.out.1.2, HL.out.1⟩)
      clear hr hlt
      cases p with
      | true =>
        have hx := hidp (show chgd l c = A by rw [hE.out]; simp [goC])
        go_wp2_with fail
        go_ret
        exact ⟨_, rfl, by rw [hx.out]; exact S1.out.own, S1.out.bel⟩
      | false =>
        have hx := hidp (show chgd l c = A ++ [c] by rw [hE.out]; simp [goC])
        obtain ⟨k0, k1, k2, k3, k4⟩ := box5 S1.out.box
        have hkl := S1.out.lt
        go_wp2_with (at_builtin; refine wpList_append_own _ rfl _ _ 82 rfl (w.heap.size + 1) 102 i0 _ 5 16 Try.underlying82 hi hz0 hz1 hz2 rfl (by decide) _ _ _ rfl (S1.out.own2 _).1 ⟨wr.heap.size, 0, none⟩ 1 1 (vL c) rfl rfl (new_cells wr (vL c) _) (vL_one _) (by have := HA.out; simp; unfold maxLen; omega) (by have := HA.out; simp; omega) (S1.out.own2 _).2 ?_; intro v3 w3 ho7 hg7 _; have S3 := hidp (S1.out.app ho7 hg7); clear ho7 hg7)
        go_ret
        exact ⟨_, rfl, by rw [hx.out]; exact S3.out.own, S3.out.bel⟩
end Go.Proofs.Ytlfmmmlheloloaa
