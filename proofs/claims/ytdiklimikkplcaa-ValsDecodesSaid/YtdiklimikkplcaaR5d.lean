/-
  The reference of layer 5: Decode.
-/
import Derived.Test.YtdiklimikkplcaaTr
import Derived.Test.YtdiklimikkplcaaRb
namespace Go.Proofs.Ytdiklimikkplcaa
set_option linter.unusedSimpArgs false
open Go.RowKit Go.Lib Go.Maps

theorem list_four {α : Type} {X : List α} (h : X.length = 4) : ∃ a b c d, X = [a, b, c, d] := by
  match X, h with
  | [a, b, c, d], _ => exact ⟨a, b, c, d, rfl⟩
theorem key_val {s : RS} {V : List Nat} (hV : V = rdV (pRaw 4) (List.replicate 4 0) s) (hb : Bytes 4 V) : (Value.agg #[.int .u8 (kd (decV s).k 3 : Nat), .int .u8 (kd (decV s).k 2 : Nat), .int .u8 (kd (decV s).k 1 : Nat), .int .u8 (kd (decV s).k 0 : Nat)]) = .agg (bvs V).toArray := by
  have q := (kb_kOf hb).1
  have e : (Value.agg #[.int .u8 (kd (decV s).k 3 : Nat), .int .u8 (kd (decV s).k 2 : Nat), .int .u8 (kd (decV s).k 1 : Nat), .int .u8 (kd (decV s).k 0 : Nat)]) = .agg (bvs (kb (kOf (rdV (pRaw 4) (List.replicate 4 0) s)))).toArray := rfl
  rw [e, ← hV, q]
theorem zero4 : Bytes 4 (List.replicate 4 0) := ⟨rfl, fun x hx => by rw [List.eq_of_mem_replicate hx]; decide⟩
theorem RdQ.drew {w : World} {g b : Nat} {s : RS} (H : RdQ w g b s) : RdQ w.drew g b s := H.below (Below.refl _ w).drew
theorem endS_zero {s : RS} {y : Nat} (h : endS s = (0, y)) : y = 0 := by
  unfold endS endE at h
  split at h
  · rename_i he
    simp only [Prod.mk.injEq] at h
    omega
  · split at h
    · simp at h
    · simp only [Prod.mk.injEq] at h
      omega
theorem rdN_byte5 {α : Type} {pr : List Nat → PR α} {s : RS} (h : ∀ x ∈ s.R, x < 256) : ∀ x ∈ (rdN pr s).R, x < 256 := by
  unfold rdN
  split
  · exact h
  · split
    · exact fun x hx => h x (List.mem_of_mem_drop hx)
    · exact fun x hx => by cases hx
theorem refKeyN {w : World} {g b : Nat} {s : RS} (H : RdQ w g b s) :
    Calls Try.prog 87 #[.pointer (some ⟨g, 0, none⟩)] w fun e w' => e = .returned (.agg #[.int .u8 (kd (decV s).k 3 : Nat), .int .u8 (kd (decV s).k 2 : Nat), .int .u8 (kd (decV s).k 1 : Nat), .int .u8 (kd (decV s).k 0 : Nat)]) ∧ RdQ w' g b (rdN (pRaw 4) s) ∧ Bex g w w' := by
  have HH := H
  obtain ⟨p, cap, B, t, h1, h2, h3⟩ := H.q
  by_cases he : s.e = 0
  · obtain ⟨hf, hR, ht⟩ := h3 he
    rw [he] at h1
    have hl := h1.le
    by_cases hn : s.R.length < 4
    · have e1 : rdV (pRaw 4) (List.replicate 4 0) s = List.replicate 4 0 := by unfold rdV pRaw; rw [if_neg (by omega), if_pos hn]
      have e2 : rdN (pRaw 4) s = ⟨s.t, [], 6, s.t⟩ := by unfold rdN pRaw; rw [if_neg (by omega), if_pos hn]
      refine (refKey_short g p b cap B t s.f w h1 (by rw [← hR, List.length_drop] at hn; omega) h2).mono ?_
      rintro e w' ⟨rfl, h5, h6⟩
      rw [e2, key_val e1.symm zero4]
      rw [ht] at h5
      exact ⟨rfl, ⟨p, cap, B, s.t, h5, h2, fun h => by cases h⟩, h6⟩
    · have e1 : rdV (pRaw 4) (List.replicate 4 0) s = s.R.take 4 := by unfold rdV pRaw; rw [if_neg (by omega), if_neg hn]
      have e2 : rdN (pRaw 4) s = ⟨s.t + 4, s.R.drop 4, 0, 0⟩ := by unfold rdN pRaw; rw [if_neg (by omega), if_neg hn]
      have hlen : t + 4 ≤ B.length := by rw [← hR, List.length_drop] at hn; omega
      obtain ⟨x0, x1, x2, x3, hX⟩ := list_four (X := s.R.take 4) (by rw [List.length_take]; omega)
      obtain ⟨rfl, _⟩ := h1.bs.ptr (by have := h1.bs.le; omega)
      rw [hf] at h1
      refine (refKey_ok g b cap B t 0 x0 x1 x2 x3 w h1 hlen h2 (by rw [hR]; exact hX)).mono ?_
      rintro e w' ⟨rfl, h5, h6⟩
      have hb4 : Bytes 4 (s.R.take 4) := ⟨by rw [hX]; rfl, fun x hx => HH.byte he x (List.mem_of_mem_take hx)⟩
      rw [e2, key_val e1.symm hb4, hX]
      exact ⟨rfl, ⟨_, cap, B, t + 4, h5, h2, fun _ => ⟨rfl, by rw [← List.drop_drop, hR], by rw [ht]⟩⟩, h6⟩
  · have e1 : rdV (pRaw 4) (List.replicate 4 0) s = List.replicate 4 0 := by unfold rdV; rw [if_pos he]
    have e2 : rdN (pRaw 4) s = s := by unfold rdN; rw [if_pos he]
    refine (refKey_dead g p b cap B t s.e s.f w h1 he).mono ?_
    rintro e w' ⟨rfl, h5⟩
    rw [e2, key_val e1.symm zero4]
    exact ⟨rfl, HH.below h5, Bex.of_below h5⟩
theorem refNew5 (p : Option Addr) (cap : Nat) (L : List Nat) (w : World) (h : ByS w p cap L) (hn : L.length ≤ 3000000) :
    Calls Try.prog 26 #[.slice p L.length cap] w fun e w' => ∃ g b, e = .returned (.pointer (some ⟨g, 0, none⟩)) ∧ w.heap.size ≤ g ∧ b < w'.heap.size ∧ RdQ w' g b (rs0 L) ∧ Below w.heap.size w w' := by
  refine (refNewReader_any p cap L w h hn).mono ?_
  rintro e w' ⟨g, q, b, c, h1, h2, h3, h4, h5⟩
  by_cases hc : 0 < c
  · exact ⟨g, b, h1, h2, (h4.bs.ptr hc).2, ⟨q, c, L, 0, h4, by omega, fun _ => ⟨rfl, rfl, rfl⟩⟩, h5⟩
  · have hL : L = [] := List.eq_nil_of_length_eq_zero (by have := h4.bs.le; omega)
    subst hL
    exact ⟨g, g, h1, h2, h4.blk.lt, ⟨q, c, [], 0, ⟨h4.blk, ⟨h4.bs.byte, h4.bs.le, fun h => absurd h hc, fun i hi => absurd hi (by simp)⟩, fun h => absurd h hc, h4.le⟩, by simp, fun _ => ⟨rfl, rfl, rfl⟩⟩, h5⟩
theorem strB_sz (most : Int) (s : RS) (hL : s.R.length ≤ 4000000) : (strB (rdV (fun R => pText R most) [] s)).size ≤ 4000000 := by
  rw [strB_size]
  by_cases he : s.e = 0
  · cases hp : pText s.R most with
    | ok v n =>
      rw [rdV_ok (pr := fun R => pText R most) he hp]
      unfold pText at hp
      split at hp
      · cases hp
      · split at hp
        · cases hp
        · cases hp
          rw [List.length_take, List.length_drop]; omega
    | er x => rw [rdV_er (pr := fun R => pText R most) he hp]; simp
  · unfold rdV; rw [if_pos he]; simp
/-- What stands from round to round. -/
structure DecQ (w wr : World) (B g b n i : Nat) (s : RS) (v : Value) : Prop where
  rd : RdQ wr g b (decF i s).2
  res : Blk wr w.heap.size [.int .i64 0, .int .i64 0] 55
  hr : w.heap.size < g
  own : OwnV wr B v (decF i s).1
  bel : Below w.heap.size w wr
  hg : w.heap.size ≤ g
  gB : g < B
  bB : b < B
  wB : B ≤ wr.heap.size
  wwB : w.heap.size ≤ B
theorem DecQ.next {w wr w4 w5 w6 w7 : World} {B g b n i : Nat} {s : RS} {v v' : Value} {o : Obj} (H : DecQ w wr B g b n i s v)
    (h4 : RdQ w4 g b (rdN (pRaw 4) (decF i s).2) ∧ Bex g wr w4) (h45 : Below w4.heap.size w4 w5) (h6 : RdQ w6 g b (decN (decF i s).2) ∧ Bex g w5 w6)
    (ho : w7.ownsRow B 122 5 v' ((decF i s).1.length + 1) ((decF i s).1.flatMap vL ++ vL (decV (decF i s).2))) (hg : Below B (w6.alloc o) w7) : DecQ w w7 B g b n (i + 1) s v' := by
  have z4 := h4.2.size
  have z5 := h45.size
  have z6 := h6.2.size
  have b67 : Below B w6 w7 := ((Below.refl B w6).alloc (by have := H.wB; omega) o).trans hg
  have hx : Bex g wr w6 := (h4.2.trans (Bex.of_below h45)).trans h6.2
  refine ⟨h6.1.lower b67 H.gB H.bB, (hx.blk H.res (by have := H.hr; omega)).below b67 (by have := H.hr; have := H.gB; omega), H.hr, OwnV.snoc ho, (H.bel.trans (hx.below H.hg H.bel.size)).trans (b67.mono H.wwB), H.hg, H.gB, H.bB, ?_, H.wwB⟩
  have := b67.size
  have := H.wB
  omega
theorem DecQ.own6 {w wr w4 w5 w6 : World} {B g b n i : Nat} {s : RS} {v : Value} (H : DecQ w wr B g b n i s v) (h4 : Bex g wr w4) (h45 : Below w4.heap.size w4 w5) (h6 : Bex g w5 w6) (o : Obj) :
    (w6.alloc o).ownsRow B 122 5 v (decF i s).1.length ((decF i s).1.flatMap vL) ∧ B ≤ (w6.alloc o).heap.size := by
  have z4 := h4.size
  have z5 := h45.size
  have z6 := h6.size
  refine ⟨(((H.own.bex h4 H.gB).below h45).bex h6 H.gB).below ((Below.refl _ w6).alloc (Nat.le_refl _) o), ?_⟩
  have := H.wB
  simp
  omega
set_option maxRecDepth 100000 in
set_option maxHeartbeats 2000000 in
theorem refDecode_any (a : Option Addr) (cap : Nat) (L : List Nat) (w : World) (h : ByS w a cap L) (hL : L.length ≤ 3000000) :
    Calls Try.prog 37 #[.slice a L.length cap] w fun e w' => (∃ p b c, e = .returned (.tuple #[.slice p (decO L).1.length c, .agg #[.int .i64 ((decO L).2.1 : Nat), .int .i64 ((decO L).2.2 : Nat)]]) ∧ w.heap.size ≤ b ∧ Vs w' p b 0 c (decO L).1) ∧ Below w.heap.size w w' := by
  obtain ⟨i0, hi, hz0, hz1, hz2⟩ := info_parts info_val
  have hLb := hidp h.byte
  have HA := hidp (fun o : Obj => (Below.refl w.heap.size w).alloc (Nat.le_refl _) o)
  have HR := hidp (fun o : Obj => refNew5 a cap L (w.alloc o) (h.below (HA.out o)) hL)
  clear h hL
  go_enter Try.func37, Try.ntmps37
  go_wp2_with fail
  refine (HR.out _).mono ?_
  rintro e w1 ⟨g, b, rfl, hg, hb, hr, hB⟩
  have H1 : Hid (RdQ w1 g b (rs0 L) ∧ Blk w1 w.heap.size [.int .i64 ((0 : Nat) : Int), .int .i64 ((0 : Nat) : Int)] 55 ∧ Below w.heap.size w w1 ∧ w.heap.size < g ∧ g < w1.heap.size ∧ b < w1.heap.size) :=
    hidp ⟨hr, hB.blk' (Blk.new w [.int .i64 0, .int .i64 0] _), (HA.out _).trans (hB.mono (HA.out _).size), by simp at hg; omega, hr.glt, hb⟩
  clear hg hb hr hB HR HA
  go_wp2_with fail
  refine (refNum_any H1.out.1).mono ?_
  rintro e w2 ⟨rfl, hr2, hx2⟩
  have H2 : Hid (RdQ w2 g b (rdN pNum (rs0 L)) ∧ Blk w2 w.heap.size [.int .i64 ((0 : Nat) : Int), .int .i64 ((0 : Nat) : Int)] 55 ∧ Below w.heap.size w w2 ∧ w.heap.size < g ∧ b < w2.heap.size) :=
    hidp ⟨hr2, hx2.blk H1.out.2.1 (by have := H1.out.2.2.2.1; omega), H1.out.2.2.1.trans (hx2.below (by have := H1.out.2.2.2.1; omega) H1.out.2.2.1.size), H1.out.2.2.2.1, Nat.lt_of_lt_of_le H1.out.2.2.2.2.2 hx2.size⟩
  clear hr2 hx2 H1
  by_cases h64 : 64 < rdV pNum 0 (rs0 L)
  · have ht : decide ((64 : Int) < ((rdV pNum 0 (rs0 L) : Nat) : Int)) = true := decide_eq_true (by omega)
    have hO := hidp (decO_long h64)
    obtain ⟨c0, c1, f0, f1⟩ := resF H2.out.2.1
    generalize rdV pNum 0 (rs0 L) = n at *
    clear h64
    go_wp2_with fail
    have hb := (H2.out.2.1.set 0 (.int .i64 4)).set 1 (.int .i64 0)
    have hB := hidp ((H2.out.2.2.1.setCell (p := ⟨w.heap.size, 0, none⟩) (Nat.le_refl _) (.int .i64 4)).setCell (p := ⟨w.heap.size, 1, none⟩) (Nat.le_refl _) (.int .i64 0))
    obtain ⟨W, hW⟩ : ∃ W, W = (w2.setCell ⟨w.heap.size, 0, none⟩ (.int .i64 4)).setCell ⟨w.heap.size, 1, none⟩ (.int .i64 0) := ⟨_, rfl⟩
    rw [← hW] at hb hB ⊢
    have d0 : W.cell? ⟨w.heap.size, 0, none⟩ = some (.int .i64 4) := hb.cell 0
    have d1 : W.cell? ⟨w.heap.size, 1, none⟩ = some (.int .i64 0) := hb.cell 1
    refine bodyPost_ret (v := .tuple #[.slice none 0 0, .agg #[.int .i64 4, .int .i64 0]]) (by simp [results, Try.results37, go_sem, d0, d1]) rfl ⟨⟨none, w.heap.size, 0, ?_, Nat.le_refl _, ?_⟩, hB.out⟩
    · rw [hO.out]; rfl
    · rw [hO.out]; exact ⟨by simp, by simp, fun h => absurd h (by omega), fun i v hi => by simp at hi⟩
  have ht : decide ((64 : Int) < ((rdV pNum 0 (rs0 L) : Nat) : Int)) = false := decide_eq_false (by omega)
  have H64 := hidp h64
  obtain ⟨n, hn⟩ : ∃ n, n = rdV pNum 0 (rs0 L) := ⟨_, rfl⟩
  obtain ⟨s1, hs1⟩ : ∃ s, s = rdN pNum (rs0 L) := ⟨_, rfl⟩
  have HN := hidp (And.intro hn hs1)
  have hn64 : n ≤ 64 := by omega
  rw [← hn] at ht ⊢
  rw [← hs1] at H2
  have hby := hidp (show ∀ x ∈ s1.R, x < 256 by rw [hs1]; exact rdN_byte5 (s := rs0 L) hLb.out)
  have HG := hidp (And.intro H2.out.1.glt (And.intro H2.out.2.2.2.2 H2.out.2.2.1.size))
  clear h64 hn hs1
  have H0 : Hid (DecQ w w2 w2.heap.size g b n 0 s1 (.slice none 0 0)) :=
    hidp ⟨H2.out.1, H2.out.2.1, H2.out.2.2.2.1, OwnV.nil _ _, H2.out.2.2.1, by have := H2.out.2.2.2.1; omega, HG.out.1, HG.out.2.1, Nat.le_refl _, HG.out.2.2⟩
  clear H2
  go_wp2_with fail
  go_loopw [6, 7] (fun v x wr => ∃ i : Nat, i ≤ n ∧ x = .int .i64 i ∧ Hid (DecQ w wr w2.heap.size g b n i s1 v)) (fun _ x _ => n - (Go.RowKit.intOf x).toNat)
  case atStart => exact ⟨0, by omega, rfl, H0⟩
  case round =>
    obtain ⟨i, hin, rfl, hr⟩ := hrel
    clear H0 ht
    by_cases hlt : i < n
    · have hadd := w64_nat (n := i) (by omega)
      have HI := hidp (And.intro hlt hn64)
      go_wp2_with fail
      refine (refKeyN hr.out.rd).mono ?_
      rintro e w4 ⟨rfl, hr4, hx4⟩
      have h4 := hidp (And.intro hr4 hx4)
      clear hr4 hx4
      go_wp2_with fail
      have HN2 := hidp (show ∀ W, (W = w4.alloc (.cells #[.int .u8 (kd (decV (decF i s1).2).k 3 : Nat), .int .u8 (kd (decV (decF i s1).2).k 2 : Nat), .int .u8 (kd (decV (decF i s1).2).k 1 : Nat), .int .u8 (kd (decV (decF i s1).2).k 0 : Nat)] 36) ∨ W = (w4.alloc (.cells #[.int .u8 (kd (decV (decF i s1).2).k 3 : Nat), .int .u8 (kd (decV (decF i s1).2).k 2 : Nat), .int .u8 (kd (decV (decF i s1).2).k 1 : Nat), .int .u8 (kd (decV (decF i s1).2).k 0 : Nat)] 36)).drew) → Below w4.heap.size w4 W ∧ RdQ W g b (rdN (pRaw 4) (decF i s1).2) ∧ Blk W w4.heap.size [.int .u8 (kd (decV (decF i s1).2).k 3 : Nat), .int .u8 (kd (decV (decF i s1).2).k 2 : Nat), .int .u8 (kd (decV (decF i s1).2).k 1 : Nat), .int .u8 (kd (decV (decF i s1).2).k 0 : Nat)] 36 from by
        have b1 : Below w4.heap.size w4 (w4.alloc (.cells #[.int .u8 (kd (decV (decF i s1).2).k 3 : Nat), .int .u8 (kd (decV (decF i s1).2).k 2 : Nat), .int .u8 (kd (decV (decF i s1).2).k 1 : Nat), .int .u8 (kd (decV (decF i s1).2).k 0 : Nat)] 36)) := (Below.refl _ w4).alloc (Nat.le_refl _) _
        rintro W (rfl | rfl)
        · exact ⟨b1, h4.out.1.below b1, Blk.new w4 _ _⟩
        · exact ⟨b1.drew, (h4.out.1.below b1).drew, (Blk.new w4 _ _).drew⟩)
      have hK : Hid (KS w4.heap.size (decV (decF i s1).2).k (w4.alloc (.cells #[.int .u8 (kd (decV (decF i s1).2).k 3 : Nat), .int .u8 (kd (decV (decF i s1).2).k 2 : Nat), .int .u8 (kd (decV (decF i s1).2).k 1 : Nat), .int .u8 (kd (decV (decF i s1).2).k 0 : Nat)] 36))) := hidp (KS.of (Blk.new w4 _ _))
      have hg4 := hidp (show w4.heap.size ≠ g by have := h4.out.1.glt; omega)
      go_region_held3 (fun w' => w'.cell? ⟨w4.heap.size, 0, none⟩ = some (.int .u8 (kd (decV (decF i s1).2).k 3 : Nat)) ∧ w'.cell? ⟨w4.heap.size, 1, none⟩ = some (.int .u8 (kd (decV (decF i s1).2).k 2 : Nat)) ∧ w'.cell? ⟨w4.heap.size, 2, none⟩ = some (.int .u8 (kd (decV (decF i s1).2).k 1 : Nat)) ∧ w'.cell? ⟨w4.heap.size, 3, none⟩ = some (.int .u8 (kd (decV (decF i s1).2).k 0 : Nat)))
        (first | (with_reducible exact Hid.out (p := KS w4.heap.size (decV (decF i s1).2).k _) (by with_reducible assumption)) | exact Hid.out (p := KS w4.heap.size (decV (decF i s1).2).k _) (by with_reducible assumption) | exact Hid.out (p := KS w4.heap.size (decV (decF i s1).2).k _) (KS.drew (by with_reducible assumption)) | exact Hid.out (p := KS w4.heap.size (decV (decF i s1).2).k _) (KS.alloc (by with_reducible assumption) _))
        (first
         | (go_at_call 80; refine (refNum_any (HN2.out _ (by first | exact .inl rfl | exact .inr rfl)).2.1).mono ?_; rintro e w5 ⟨rfl, hr5, hx5⟩; have h6 := hidp (show ∃ W, Below w4.heap.size w4 W ∧ RdQ w5 g b (decN (decF i s1).2) ∧ Bex g W w5 from ⟨_, (HN2.out _ (by first | exact .inl rfl | exact .inr rfl)).1, hr5, hx5⟩); have hT := hidp (KS.of (hx5.blk (HN2.out _ (by first | exact .inl rfl | exact .inr rfl)).2.2 hg4.out)); clear hr5 hx5)
         | (obtain ⟨W, hw4, hw5, hwx⟩ := h6.out; have HO := hr.out.own6 h4.out.2 hw4 hwx; refine step_append_lies _ (by rfl) _ _ 61 (by rfl) w2.heap.size 122 i0 _ 5 16 Try.underlying61 hi hz0 hz1 hz2 (by rfl) (by decide) _ _ _ (by rfl) (HO _).1 ⟨w5.heap.size, 0, none⟩ 1 1 (vL (decV (decF i s1).2)) (by rfl) (by rfl) (new_cells w5 (vL (decV (decF i s1).2)) _) (vL_one _) (by decide) (by rw [decF_len]; unfold maxLen; omega) (by rw [decF_len]; omega) (HO _).2 _ (by rfl) ?_; intro gv cv w7 ho7 hg7 _ _; have H7 := hidp (hr.out.next h4.out hw4 ⟨hw5, hwx⟩ ho7 (Below.ofOwn (HO _).1 hg7 (HO _).2)); have hT7 := KS.grown (KS.alloc hT _) hg7 (fun e => by have := hr.out.own.lt e; have := h4.out.2.size; omega); clear ho7 hg7 HO hw4 hw5 hwx))
      go_wp2_with fail
      rw [show ((i : Int) + 1) = ((i + 1 : Nat) : Int) by omega]
      exact ⟨⟨i + 1, by have := HI.out; omega, rfl, H7⟩, by have h1 := HI.out.1; show n - ((i + 1 : Nat) : Int).toNat < n - ((i : Nat) : Int).toNat; omega⟩
    · obtain rfl : i = n := by omega
      clear hlt
      go_wp2_with fail
      refine (refEnd_any hr.out.rd).mono ?_
      rintro e w4 ⟨rfl, hB4⟩
      have h4 := hidp hB4
      clear hB4
      obtain ⟨x, y, hxy⟩ : ∃ x y, endS (decF i s1).2 = (x, y) := ⟨_, _, rfl⟩
      have HB := hidp (And.intro (hr.out.bel.trans (h4.out.mono hr.out.bel.size)) (show w.heap.size < w4.heap.size by have := hr.out.wB; have := h4.out.size; have := hr.out.gB; have := hr.out.hr; omega))
      have hres := hidp (h4.out.blk' hr.out.res)
      rw [hxy]
      by_cases hx : x = 0
      · subst hx
        obtain rfl : y = 0 := endS_zero hxy
        have hk0 := decF_ok hby.out i
        obtain ⟨p, pb, pc, rfl, hpb, hvs⟩ := hr.out.own.vs hk0.2
        have HC := hidp (fun o : Obj => refcheck_any p pb 0 pc (decF i s1).1 ((w4.alloc o)) ((hvs.below h4.out).below ((Below.refl _ w4).alloc (Nat.le_refl _) o)))
        have HP := hidp (And.intro (show w.heap.size < pb by have := hr.out.gB; have := hr.out.hr; omega) (And.intro (fun W (hW : Below w4.heap.size w4 W) => (hvs.below h4.out).below hW) (fun h0 : 0 < pc => Nat.lt_of_lt_of_le (hvs.ptr h0).2 h4.out.size)))
        have hbA := hidp (fun o : Obj => (Below.refl w4.heap.size w4).alloc (Nat.le_refl _) o)
        clear hk0 hvs hr
        go_wp2_with fail
        refine (HC.out _).mono ?_
        rintro e w5 ⟨rfl, hb5⟩
        have h45 := hidp ((hbA.out _).trans (hb5.mono (hbA.out _).size))
        have hF5 := hidp (hb5.blk' (Blk.new w4 [.int .i64 ((0 : Nat) : Int), .int .i64 ((0 : Nat) : Int)] 55))
        clear hb5 HC
        have hres5 := hidp ((hres.out.below h45.out (by have := HB.out.2; omega)))
        have HB5 := hidp (HB.out.1.trans (h45.out.mono HB.out.1.size))
        have gl := hF5.out.lt
        obtain ⟨c0, c1, f0, f1⟩ := resF hF5.out
        by_cases hc : chk (decF i s1).1 = 0
        · have hO := decO_ok H64.out (by rw [← HN.out.1, ← HN.out.2, hxy]) (by rw [← HN.out.1, ← HN.out.2]; exact hc)
          rw [← HN.out.1, ← HN.out.2] at hO
          replace hO := hidp hO
          rw [hc]
          go_wp2_with fail
          refine region_tail 3 (by kernel_rfl) (by kernel_rfl) ?_
          intro wd hwd
          obtain ⟨e0, e1, _, _⟩ := resF (W := wd) (r := w4.heap.size) (x := 0) (y := 0) (by rw [hwd.out]; exact (hF5.out.set 0 (.int .i64 ((0 : Nat) : Int))).drew)
          have hres2 : Blk wd w.heap.size [.int .i64 ((0 : Nat) : Int), .int .i64 ((0 : Nat) : Int)] 55 := by rw [hwd.out]; exact (((Bex.refl w4.heap.size w5).setCell 0 _).blk hres5.out (by have := HB.out.2; omega)).drew
          have HB2 : Below w.heap.size w wd := by rw [hwd.out]; exact (HB5.out.setCell (p := ⟨w4.heap.size, 0, none⟩) (by have := HB.out.2; show w.heap.size ≤ w4.heap.size; omega) _).drew
          have HX2 : Hid (Bex w4.heap.size w5 wd) := hidp (by rw [hwd.out]; exact ((Bex.refl w4.heap.size w5).setCell 0 _).drew)
          clear c0 c1 f0 f1
          obtain ⟨c0, c1, f0, f1⟩ := resF hres2
          have HB3 := hidp (And.intro HB2 hres2)
          clear hwd HB2 hres2 hres
          simp only [List.take_succ_cons, List.take_zero, List.drop_succ_cons, List.drop_zero]
          repeat still_step
          try refine wpStill_nil ?_
          go_wp2_with fail
          have hb := (HB3.out.2.set 0 (.int .i64 ((0 : Nat) : Int))).set 1 (.int .i64 ((0 : Nat) : Int))
          have hB := hidp ((HB3.out.1.setCell (p := ⟨w.heap.size, 0, none⟩) (Nat.le_refl _) (.int .i64 ((0 : Nat) : Int))).setCell (p := ⟨w.heap.size, 1, none⟩) (Nat.le_refl _) (.int .i64 ((0 : Nat) : Int)))
          have hX := hidp (((Bex.refl w.heap.size wd).setCell 0 (.int .i64 ((0 : Nat) : Int))).setCell 1 (.int .i64 ((0 : Nat) : Int)))
          obtain ⟨W, hW⟩ : ∃ W, W = (wd.setCell ⟨w.heap.size, 0, none⟩ (.int .i64 ((0 : Nat) : Int))).setCell ⟨w.heap.size, 1, none⟩ (.int .i64 ((0 : Nat) : Int)) := ⟨_, rfl⟩
          rw [← hW] at hb hB hX
          try rw [show ((0 : Nat) : Int) = 0 from rfl] at hW
          try rw [← hW]
          have d0 : W.cell? ⟨w.heap.size, 0, none⟩ = some (.int .i64 ((0 : Nat) : Int)) := hb.cell 0
          have d1 : W.cell? ⟨w.heap.size, 1, none⟩ = some (.int .i64 0) := hb.cell 1
          refine bodyPost_ret (v := .tuple #[.slice p (decF i s1).1.length pc, .agg #[.int .i64 ((0 : Nat) : Int), .int .i64 0]]) (by simp [results, Try.results37, go_sem, d0, d1]) rfl ⟨⟨p, pb, pc, ?_, Nat.le_of_lt HP.out.1, ?_⟩, hB.out⟩
          · rw [hO.out]; rfl
          · rw [hO.out]; exact ((HP.out.2.1 w5 h45.out).bex HX2.out (fun h0 => by have := HP.out.2.2 h0; omega)).bex hX.out (fun _ => by have := HP.out.1; omega)
        · have hO := decO_chk H64.out (by rw [← HN.out.1, ← HN.out.2, hxy]) (by rw [← HN.out.1, ← HN.out.2]; exact hc)
          rw [← HN.out.1, ← HN.out.2] at hO
          replace hO := hidp hO
          have hbn : (((chk (decF i s1).1 : Nat) : Int) != 0) = true := by rw [bne_iff_ne]; omega
          generalize hm : chk (decF i s1).1 = m at *
          have HM := hidp hm
          clear hc hm
          go_wp2_with fail
          refine region_tail 2 (by kernel_rfl) (by kernel_rfl) ?_
          intro wd hwd
          obtain ⟨e0, e1, _, _⟩ := resF (W := wd) (r := w4.heap.size) (x := m) (y := 0) (by rw [hwd.out]; exact (hF5.out.set 0 (.int .i64 ((m : Nat) : Int))).drew)
          have hres2 : Blk wd w.heap.size [.int .i64 ((0 : Nat) : Int), .int .i64 ((0 : Nat) : Int)] 55 := by rw [hwd.out]; exact (((Bex.refl w4.heap.size w5).setCell 0 _).blk hres5.out (by have := HB.out.2; omega)).drew
          have HB2 : Below w.heap.size w wd := by rw [hwd.out]; exact (HB5.out.setCell (p := ⟨w4.heap.size, 0, none⟩) (by have := HB.out.2; show w.heap.size ≤ w4.heap.size; omega) _).drew
          have HX2 : Hid (Bex w4.heap.size w5 wd) := hidp (by rw [hwd.out]; exact ((Bex.refl w4.heap.size w5).setCell 0 _).drew)
          clear c0 c1 f0 f1
          obtain ⟨c0, c1, f0, f1⟩ := resF hres2
          have HB3 := hidp (And.intro HB2 hres2)
          clear hwd HB2 hres2 hres
          simp only [List.take_succ_cons, List.take_zero, List.drop_succ_cons, List.drop_zero]
          repeat still_step
          try refine wpStill_nil ?_
          go_wp2_with fail
          have hb := (HB3.out.2.set 0 (.int .i64 ((m : Nat) : Int))).set 1 (.int .i64 ((0 : Nat) : Int))
          have hB := hidp ((HB3.out.1.setCell (p := ⟨w.heap.size, 0, none⟩) (Nat.le_refl _) (.int .i64 ((m : Nat) : Int))).setCell (p := ⟨w.heap.size, 1, none⟩) (Nat.le_refl _) (.int .i64 ((0 : Nat) : Int)))
          have hX := hidp (((Bex.refl w.heap.size wd).setCell 0 (.int .i64 ((m : Nat) : Int))).setCell 1 (.int .i64 ((0 : Nat) : Int)))
          obtain ⟨W, hW⟩ : ∃ W, W = (wd.setCell ⟨w.heap.size, 0, none⟩ (.int .i64 ((m : Nat) : Int))).setCell ⟨w.heap.size, 1, none⟩ (.int .i64 ((0 : Nat) : Int)) := ⟨_, rfl⟩
          rw [← hW] at hb hB hX
          try rw [show ((0 : Nat) : Int) = 0 from rfl] at hW
          try rw [← hW]
          have d0 : W.cell? ⟨w.heap.size, 0, none⟩ = some (.int .i64 ((m : Nat) : Int)) := hb.cell 0
          have d1 : W.cell? ⟨w.heap.size, 1, none⟩ = some (.int .i64 0) := hb.cell 1
          refine bodyPost_ret (v := .tuple #[.slice none 0 0, .agg #[.int .i64 (m : Nat), .int .i64 0]]) (by simp [results, Try.results37, go_sem, d0, d1]) rfl ⟨⟨none, w.heap.size, 0, ?_, Nat.le_refl _, ?_⟩, hB.out⟩
          · rw [hO.out]; rfl
          · rw [hO.out]; exact ⟨by simp, by simp, fun h => absurd h (by omega), fun i v hi => by simp at hi⟩
      · have hO := decO_end H64.out (by rw [← HN.out.1, ← HN.out.2, hxy]; exact hx)
        rw [← HN.out.1, ← HN.out.2, hxy] at hO
        replace hO := hidp hO
        have hne : ((x : Nat) : Int) ≠ 0 := by omega
        have hbn : (((x : Nat) : Int) != 0) = true := by rw [bne_iff_ne]; omega
        clear hx
        go_wp2_with fail
        refine region_tail 2 (by kernel_rfl) (by kernel_rfl) ?_
        intro wd hwd
        obtain ⟨e0, e1, _, _⟩ := resF (W := wd) (r := w4.heap.size) (x := x) (y := y) (by rw [hwd.out]; exact (Blk.new w4 _ _).drew)
        have hres2 : Blk wd w.heap.size [.int .i64 ((0 : Nat) : Int), .int .i64 ((0 : Nat) : Int)] 55 := by rw [hwd.out]; exact (hres.out.alloc _).drew
        have HB2 : Below w.heap.size w wd := by rw [hwd.out]; exact (HB.out.1.alloc HB.out.1.size _).drew
        obtain ⟨c0, c1, f0, f1⟩ := resF hres2
        have HB3 := hidp (And.intro HB2 hres2)
        clear hwd HB2 hres2 hres
        simp only [List.take_succ_cons, List.take_zero, List.drop_succ_cons, List.drop_zero]
        repeat still_step
        try refine wpStill_nil ?_
        go_wp2_with fail
        have hb := (HB3.out.2.set 0 (.int .i64 (x : Nat))).set 1 (.int .i64 (y : Nat))
        have hB := hidp ((HB3.out.1.setCell (p := ⟨w.heap.size, 0, none⟩) (Nat.le_refl _) (.int .i64 (x : Nat))).setCell (p := ⟨w.heap.size, 1, none⟩) (Nat.le_refl _) (.int .i64 (y : Nat)))
        obtain ⟨W, hW⟩ : ∃ W, W = (wd.setCell ⟨w.heap.size, 0, none⟩ (.int .i64 (x : Nat))).setCell ⟨w.heap.size, 1, none⟩ (.int .i64 (y : Nat)) := ⟨_, rfl⟩
        rw [← hW] at hb hB ⊢
        have d0 : W.cell? ⟨w.heap.size, 0, none⟩ = some (.int .i64 (x : Nat)) := hb.cell 0
        have d1 : W.cell? ⟨w.heap.size, 1, none⟩ = some (.int .i64 (y : Nat)) := hb.cell 1
        refine bodyPost_ret (v := .tuple #[.slice none 0 0, .agg #[.int .i64 (x : Nat), .int .i64 (y : Nat)]]) (by simp [results, Try.results37, go_sem, d0, d1]) rfl ⟨⟨none, w.heap.size, 0, ?_, Nat.le_refl _, ?_⟩, hB.out⟩
        · rw [hO.out]; rfl
        · rw [hO.out]; exact ⟨by simp, by simp, fun h => absurd h (by omega), fun i v hi => by simp at hi⟩
end Go.Proofs.Ytdiklimikkplcaa
