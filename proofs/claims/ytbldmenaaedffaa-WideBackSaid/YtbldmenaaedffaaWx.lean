/-
  Contracts: landfallref01's More.
-/
import Derived.Test.YtbldmenaaedffaaWw
namespace Go.Proofs.Ytbldmenaaedffaa
open Go.RowKit

theorem ne_t {x y : Nat} (h : ((x : Int) != (y : Int)) = true) : ¬ x = y := by
  intro e; subst e; simp at h
theorem ne_f {x y : Nat} (h : ((x : Int) != (y : Int)) = false) : x = y := by
  simp at h; omega
theorem three_drewN {w : World} {b n : Nat} {x y z : Value} (h : three w b x y z) : three (w.drewN n) b x y z := by
  obtain ⟨h0, h1, h2⟩ := h
  exact ⟨by simpa using h0, by simpa using h1, by simpa using h2⟩

set_option maxHeartbeats 8000000 in
theorem refMore_any (a b n m : Nat) (w : World) (ha : a < W128) (hb : b < W128) (hn : n ≤ 9223372036854775807) (hm : m ≤ 9223372036854775807) :
    Calls Try.prog 26 #[wv a, .int .i64 n, wv b, .int .i64 m] w fun e w' => e = .returned (.tuple #[.bool (moreB (a * n) (b * m)), .int .i64 0]) ∧ Below w.heap.size w w' := by
  have HA := hidp ha; have HB := hidp hb; clear ha hb
  go_enter Try.func26, Try.ntmps26
  go_wp2
  obtain ⟨W0, hW0⟩ : ∃ W0, ((w.alloc (.cells #[.int .u64 (hiw a), .int .u64 (low a)] 24)).alloc (.cells #[.int .u64 (hiw b), .int .u64 (low b)] 24)) = W0 := ⟨_, rfl⟩
  have c0 : W0.cell? ⟨w.heap.size, 0, none⟩ = some (.int .u64 (hiw a)) := by subst hW0; simp
  have c1 : W0.cell? ⟨w.heap.size, 1, none⟩ = some (.int .u64 (low a)) := by subst hW0; simp
  have c2 : W0.cell? ⟨w.heap.size + 1, 0, none⟩ = some (.int .u64 (hiw b)) := by subst hW0; simp
  have c3 : W0.cell? ⟨w.heap.size + 1, 1, none⟩ = some (.int .u64 (low b)) := by subst hW0; simp
  have hs0 : w.heap.size + 2 ≤ W0.heap.size := by subst hW0; simp
  have hBW : Below w.heap.size w W0 := by subst hW0; (repeat' (first | (with_reducible exact Below.refl _ _) | (with_reducible refine Below.alloc ?_ ?_ _) | (with_reducible refine Below.drew ?_) | (with_reducible refine Below.drewN ?_ _) | (with_reducible refine Below.setCell ?_ ?_ _) | go_size))
  rw [hW0]
  clear hW0
  go_cut [10, 11] (fun p q wx => ∃ g h : Nat, p = .pointer (some ⟨g, 0, none⟩) ∧ q = .pointer (some ⟨h, 0, none⟩) ∧ Hid (Below w.heap.size w wx ∧ three wx g (.int .u64 (wd0 (a * n))) (.int .u64 (wd1 (a * n))) (.int .u64 (wd2 (a * n))) ∧ three wx h (.int .u64 (wd0 (b * m))) (.int .u64 (wd1 (b * m))) (.int .u64 (wd2 (b * m)))))
  case first =>
    go_region_held3 (fun w' => w'.cell? ⟨w.heap.size, 0, none⟩ = some (.int .u64 (hiw a)) ∧ w'.cell? ⟨w.heap.size, 1, none⟩ = some (.int .u64 (low a)) ∧ w'.cell? ⟨w.heap.size + 1, 0, none⟩ = some (.int .u64 (hiw b)) ∧ w'.cell? ⟨w.heap.size + 1, 1, none⟩ = some (.int .u64 (low b)) ∧ w.heap.size + 2 ≤ w'.heap.size)
      (first | (refine ⟨?_, ?_, ?_, ?_, ?_⟩ <;> first | (refine Eq.trans (Below.cell (B := w.heap.size + 2) (w := W0) ?_ (by simp)) (by assumption); (repeat' (first | (with_reducible exact Below.refl _ _) | (with_reducible refine Below.alloc ?_ ?_ _) | (with_reducible refine Below.drew ?_) | (with_reducible refine Below.drewN ?_ _) | (with_reducible refine Below.setCell ?_ ?_ _) | go_size)); done) | go_size) | (refine ⟨?_, ?_, ?_, ?_, ?_⟩ <;> first | (refine Eq.trans (Below.cell (B := w.heap.size + 2) (w := W0) ?_ (by simp)) (by assumption); (repeat' (first | (with_reducible exact Below.refl _ _) | (with_reducible refine Below.alloc ?_ ?_ _) | (with_reducible refine Below.drew ?_) | (with_reducible refine Below.drewN ?_ _) | (with_reducible refine Below.setCell ?_ ?_ _) | (with_reducible refine Below.trans ?_ (Below.mono hBA ?_)) | (with_reducible refine Below.trans ?_ (Below.mono hBB ?_)) | go_size | (have i0_ := hBA.size; (try simp at i0_); (try simp); omega) | (have i0_ := hBA.size; (try simp at i0_); have i1_ := hBB.size; (try simp at i1_); (try simp); omega))); done) | go_size | (have i0_ := hBA.size; (try simp at i0_); (try simp); omega) | (have i0_ := hBA.size; (try simp at i0_); have i1_ := hBB.size; (try simp at i1_); (try simp); omega)) | (refine ⟨?_, ?_, ?_, ?_, ?_⟩ <;> first | (refine Eq.trans (Below.cell (B := w.heap.size + 2) (w := W0) ?_ (by simp)) (by assumption); (repeat' (first | (with_reducible exact Below.refl _ _) | (with_reducible refine Below.alloc ?_ ?_ _) | (with_reducible refine Below.drew ?_) | (with_reducible refine Below.drewN ?_ _) | (with_reducible refine Below.setCell ?_ ?_ _) | (with_reducible refine Below.trans ?_ (Below.mono hBA ?_)) | go_size | (have i0_ := hBA.size; (try simp at i0_); (try simp); omega))); done) | go_size | (have i0_ := hBA.size; (try simp at i0_); (try simp); omega)))
      (first | (go_at_call_of 41 (hiw a); refine (product_any a n _ HA.out hn).mono ?_; rintro e wA ⟨rfl, hBA⟩; (try (have q_ := hBA.cell (p := ⟨W0.heap.size, 0, none⟩) (by first | omega | (simp; done) | (simp; omega)); (try simp at q_))); (try (have q_ := hBA.frozen (p := ⟨W0.heap.size, 0, none⟩) (by first | omega | (simp; done) | (simp; omega)); (try simp at q_))); (try (have q_ := hBA.cell (p := ⟨W0.heap.size, 1, none⟩) (by first | omega | (simp; done) | (simp; omega)); (try simp at q_))); (try (have q_ := hBA.frozen (p := ⟨W0.heap.size, 1, none⟩) (by first | omega | (simp; done) | (simp; omega)); (try simp at q_))); (try (have q_ := hBA.cell (p := ⟨W0.heap.size, 2, none⟩) (by first | omega | (simp; done) | (simp; omega)); (try simp at q_))); (try (have q_ := hBA.frozen (p := ⟨W0.heap.size, 2, none⟩) (by first | omega | (simp; done) | (simp; omega)); (try simp at q_))); (try (have q_ : W0.heap.size < wA.heap.size := by have i_ := hBA.size; (try simp at i_); omega)); (try (have q_ := hBA.cell (p := ⟨W0.heap.size + 1, 0, none⟩) (by first | omega | (simp; done) | (simp; omega)); (try simp at q_))); (try (have q_ := hBA.frozen (p := ⟨W0.heap.size + 1, 0, none⟩) (by first | omega | (simp; done) | (simp; omega)); (try simp at q_))); (try (have q_ := hBA.cell (p := ⟨W0.heap.size + 1, 1, none⟩) (by first | omega | (simp; done) | (simp; omega)); (try simp at q_))); (try (have q_ := hBA.frozen (p := ⟨W0.heap.size + 1, 1, none⟩) (by first | omega | (simp; done) | (simp; omega)); (try simp at q_))); (try (have q_ := hBA.cell (p := ⟨W0.heap.size + 1, 2, none⟩) (by first | omega | (simp; done) | (simp; omega)); (try simp at q_))); (try (have q_ := hBA.frozen (p := ⟨W0.heap.size + 1, 2, none⟩) (by first | omega | (simp; done) | (simp; omega)); (try simp at q_))); (try (have q_ : W0.heap.size + 1 < wA.heap.size := by have i_ := hBA.size; (try simp at i_); omega))) | (go_at_call_of 41 (hiw b); refine (product_any b m _ HB.out hm).mono ?_; rintro e wB ⟨rfl, hBB⟩; (try (have q_ := hBB.cell (p := ⟨W0.heap.size, 0, none⟩) (by first | omega | (simp; done) | (simp; omega)); (try simp at q_))); (try (have q_ := hBB.frozen (p := ⟨W0.heap.size, 0, none⟩) (by first | omega | (simp; done) | (simp; omega)); (try simp at q_))); (try (have q_ := hBB.cell (p := ⟨W0.heap.size, 1, none⟩) (by first | omega | (simp; done) | (simp; omega)); (try simp at q_))); (try (have q_ := hBB.frozen (p := ⟨W0.heap.size, 1, none⟩) (by first | omega | (simp; done) | (simp; omega)); (try simp at q_))); (try (have q_ := hBB.cell (p := ⟨W0.heap.size, 2, none⟩) (by first | omega | (simp; done) | (simp; omega)); (try simp at q_))); (try (have q_ := hBB.frozen (p := ⟨W0.heap.size, 2, none⟩) (by first | omega | (simp; done) | (simp; omega)); (try simp at q_))); (try (have q_ : W0.heap.size < wB.heap.size := by have i_ := hBB.size; (try simp at i_); omega)); (try (have q_ := hBB.cell (p := ⟨W0.heap.size + 1, 0, none⟩) (by first | omega | (simp; done) | (simp; omega)); (try simp at q_))); (try (have q_ := hBB.frozen (p := ⟨W0.heap.size + 1, 0, none⟩) (by first | omega | (simp; done) | (simp; omega)); (try simp at q_))); (try (have q_ := hBB.cell (p := ⟨W0.heap.size + 1, 1, none⟩) (by first | omega | (simp; done) | (simp; omega)); (try simp at q_))); (try (have q_ := hBB.frozen (p := ⟨W0.heap.size + 1, 1, none⟩) (by first | omega | (simp; done) | (simp; omega)); (try simp at q_))); (try (have q_ := hBB.cell (p := ⟨W0.heap.size + 1, 2, none⟩) (by first | omega | (simp; done) | (simp; omega)); (try simp at q_))); (try (have q_ := hBB.frozen (p := ⟨W0.heap.size + 1, 2, none⟩) (by first | omega | (simp; done) | (simp; omega)); (try simp at q_))); (try (have q_ : W0.heap.size + 1 < wB.heap.size := by have i_ := hBB.size; (try simp at i_); omega)); (try (have q_ := hBB.cell (p := ⟨wA.heap.size, 0, none⟩) (by first | omega | (simp; done) | (simp; omega)); (try simp at q_))); (try (have q_ := hBB.frozen (p := ⟨wA.heap.size, 0, none⟩) (by first | omega | (simp; done) | (simp; omega)); (try simp at q_))); (try (have q_ := hBB.cell (p := ⟨wA.heap.size, 1, none⟩) (by first | omega | (simp; done) | (simp; omega)); (try simp at q_))); (try (have q_ := hBB.frozen (p := ⟨wA.heap.size, 1, none⟩) (by first | omega | (simp; done) | (simp; omega)); (try simp at q_))); (try (have q_ := hBB.cell (p := ⟨wA.heap.size, 2, none⟩) (by first | omega | (simp; done) | (simp; omega)); (try simp at q_))); (try (have q_ := hBB.frozen (p := ⟨wA.heap.size, 2, none⟩) (by first | omega | (simp; done) | (simp; omega)); (try simp at q_))); (try (have q_ : wA.heap.size < wB.heap.size := by have i_ := hBB.size; (try simp at i_); omega)); (try (have q_ := hBB.cell (p := ⟨wA.heap.size + 1, 0, none⟩) (by first | omega | (simp; done) | (simp; omega)); (try simp at q_))); (try (have q_ := hBB.frozen (p := ⟨wA.heap.size + 1, 0, none⟩) (by first | omega | (simp; done) | (simp; omega)); (try simp at q_))); (try (have q_ := hBB.cell (p := ⟨wA.heap.size + 1, 1, none⟩) (by first | omega | (simp; done) | (simp; omega)); (try simp at q_))); (try (have q_ := hBB.frozen (p := ⟨wA.heap.size + 1, 1, none⟩) (by first | omega | (simp; done) | (simp; omega)); (try simp at q_))); (try (have q_ := hBB.cell (p := ⟨wA.heap.size + 1, 2, none⟩) (by first | omega | (simp; done) | (simp; omega)); (try simp at q_))); (try (have q_ := hBB.frozen (p := ⟨wA.heap.size + 1, 2, none⟩) (by first | omega | (simp; done) | (simp; omega)); (try simp at q_))); (try (have q_ : wA.heap.size + 1 < wB.heap.size := by have i_ := hBB.size; (try simp at i_); omega))))
    all_goals go_wp2_with fail
    all_goals go_meet
    all_goals (refine ⟨_, _, rfl, rfl, ⟨?_, ?_, ?_⟩⟩)
    all_goals (first | (refine hBW.trans ?_; (repeat' (first | (with_reducible exact Below.refl _ _) | (with_reducible refine Below.alloc ?_ ?_ _) | (with_reducible refine Below.drew ?_) | (with_reducible refine Below.drewN ?_ _) | (with_reducible refine Below.setCell ?_ ?_ _) | (with_reducible refine Below.trans ?_ (Below.mono hBA ?_)) | (with_reducible refine Below.trans ?_ (Below.mono hBB ?_)) | go_size | (have i0_ := hBA.size; (try simp at i0_); (try simp); omega) | (have i0_ := hBA.size; (try simp at i0_); have i1_ := hBB.size; (try simp at i1_); (try simp); omega))); done) | skip)
    all_goals (repeat' (first | with_reducible assumption | (with_reducible refine three_new ?_; first | rfl | (simp; done)) | (with_reducible refine three_old ?_) | (with_reducible exact three_set (by first | with_reducible assumption | (with_reducible exact Eq.trans (by with_reducible assumption) (by first | with_reducible assumption | (with_reducible exact cell_alloc (by with_reducible assumption)))) | (with_reducible exact cell_far (by omega) (by first | with_reducible assumption | (with_reducible exact Eq.trans (by with_reducible assumption) (by first | with_reducible assumption | (with_reducible exact cell_alloc (by with_reducible assumption))))))) (by first | with_reducible assumption | (with_reducible exact Eq.trans (by with_reducible assumption) (by first | with_reducible assumption | (with_reducible exact cell_alloc (by with_reducible assumption)))) | (with_reducible exact cell_far (by omega) (by first | with_reducible assumption | (with_reducible exact Eq.trans (by with_reducible assumption) (by first | with_reducible assumption | (with_reducible exact cell_alloc (by with_reducible assumption))))))) (by first | with_reducible assumption | (with_reducible exact Eq.trans (by with_reducible assumption) (by first | with_reducible assumption | (with_reducible exact cell_alloc (by with_reducible assumption)))) | (with_reducible exact cell_far (by omega) (by first | with_reducible assumption | (with_reducible exact Eq.trans (by with_reducible assumption) (by first | with_reducible assumption | (with_reducible exact cell_alloc (by with_reducible assumption)))))))) | (with_reducible refine three_far ?_ ?_; omega)))
  case rest =>
    obtain ⟨g, h, rfl, rfl, hH⟩ := hcut
    go_wp2_with fail
    go_loopw [12] (fun i wr => ∃ k : Nat, ∃ ki : Int, k ≤ 3 ∧ ki = 2 - k ∧ i = .int .i64 ki ∧ Hid ((1 ≤ k → wd2 (a * n) = wd2 (b * m)) ∧ (2 ≤ k → wd1 (a * n) = wd1 (b * m)) ∧ (3 ≤ k → wd0 (a * n) = wd0 (b * m)) ∧ Below w.heap.size w wr ∧ three wr g (.int .u64 (wd0 (a * n))) (.int .u64 (wd1 (a * n))) (.int .u64 (wd2 (a * n))) ∧ three wr h (.int .u64 (wd0 (b * m))) (.int .u64 (wd1 (b * m))) (.int .u64 (wd2 (b * m))))) (fun i _ => (3 + intOf i).toNat - 2 + 2)
    case atStart => exact ⟨0, 2, by omega, rfl, rfl, fun h => by omega, fun h => by omega, fun h => by omega, hH.out⟩
    case round =>
      obtain ⟨k, ki, hk, hki, rfl, hr⟩ := hrel
      obtain ⟨hp0, hp1, hp2⟩ := hr.out.2.2.2.2.1
      obtain ⟨hq0, hq1, hq2⟩ := hr.out.2.2.2.2.2
      have hkk : k = 0 ∨ k = 1 ∨ k = 2 ∨ k = 3 := by omega
      rcases hkk with rfl | rfl | rfl | rfl
      · obtain rfl : ki = 2 := by omega
        clear hki hp0 hq0 hp1 hq1
        go_wp2
        go_quiet (fail)
        go_wp2
        all_goals first | (case roundEnd =>
          have he : wd2 (a * n) = wd2 (b * m) := ne_f (by assumption)
          refine ⟨⟨1, 1, by omega, rfl, rfl, fun _ => he, fun h_ => by omega, fun h_ => by omega, ?_, ?_, ?_⟩, ?_⟩
          · have hB := hr.out.2.2.2.1
            (repeat' (first | (with_reducible exact hB) | (with_reducible exact Below.refl _ _) | (with_reducible refine Below.alloc ?_ ?_ _) | (with_reducible refine Below.drew ?_) | (with_reducible refine Below.drewN ?_ _) | (with_reducible refine Below.setCell ?_ ?_ _) | go_size))
          · exact three_drewN hr.out.2.2.2.2.1
          · exact three_drewN hr.out.2.2.2.2.2
          · simp [intOf]) | (
          go_quiet (fail)
          go_wp2
          go_ret2
          have hB := hr.out.2.2.2.1
          refine ⟨?_, by (repeat' (first | (with_reducible exact hB) | (with_reducible exact Below.refl _ _) | (with_reducible refine Below.alloc ?_ ?_ _) | (with_reducible refine Below.drew ?_) | (with_reducible refine Below.drewN ?_ _) | (with_reducible refine Below.setCell ?_ ?_ _) | go_size))⟩
          rw [more_2  (ne_t (by assumption))]
          simp [go_sem])
      · obtain rfl : ki = 1 := by omega
        clear hki hp0 hq0 hp2 hq2
        go_wp2
        go_quiet (fail)
        go_wp2
        all_goals first | (case roundEnd =>
          have he : wd1 (a * n) = wd1 (b * m) := ne_f (by assumption)
          refine ⟨⟨2, 0, by omega, rfl, rfl, fun _ => hr.out.1 (by omega), fun _ => he, fun h_ => by omega, ?_, ?_, ?_⟩, ?_⟩
          · have hB := hr.out.2.2.2.1
            (repeat' (first | (with_reducible exact hB) | (with_reducible exact Below.refl _ _) | (with_reducible refine Below.alloc ?_ ?_ _) | (with_reducible refine Below.drew ?_) | (with_reducible refine Below.drewN ?_ _) | (with_reducible refine Below.setCell ?_ ?_ _) | go_size))
          · exact three_drewN hr.out.2.2.2.2.1
          · exact three_drewN hr.out.2.2.2.2.2
          · simp [intOf]) | (
          go_quiet (fail)
          go_wp2
          go_ret2
          have hB := hr.out.2.2.2.1
          refine ⟨?_, by (repeat' (first | (with_reducible exact hB) | (with_reducible exact Below.refl _ _) | (with_reducible refine Below.alloc ?_ ?_ _) | (with_reducible refine Below.drew ?_) | (with_reducible refine Below.drewN ?_ _) | (with_reducible refine Below.setCell ?_ ?_ _) | go_size))⟩
          rw [more_1 (hr.out.1 (by omega)) (ne_t (by assumption))]
          simp [go_sem])
      · obtain rfl : ki = 0 := by omega
        clear hki hp1 hq1 hp2 hq2
        go_wp2
        go_quiet (fail)
        go_wp2
        all_goals first | (case roundEnd =>
          have he : wd0 (a * n) = wd0 (b * m) := ne_f (by assumption)
          refine ⟨⟨3, -1, by omega, rfl, rfl, fun _ => hr.out.1 (by omega), fun _ => hr.out.2.1 (by omega), fun _ => he, ?_, ?_, ?_⟩, ?_⟩
          · have hB := hr.out.2.2.2.1
            (repeat' (first | (with_reducible exact hB) | (with_reducible exact Below.refl _ _) | (with_reducible refine Below.alloc ?_ ?_ _) | (with_reducible refine Below.drew ?_) | (with_reducible refine Below.drewN ?_ _) | (with_reducible refine Below.setCell ?_ ?_ _) | go_size))
          · exact three_drewN hr.out.2.2.2.2.1
          · exact three_drewN hr.out.2.2.2.2.2
          · simp [intOf]) | (
          go_quiet (fail)
          go_wp2
          go_ret2
          have hB := hr.out.2.2.2.1
          refine ⟨?_, by (repeat' (first | (with_reducible exact hB) | (with_reducible exact Below.refl _ _) | (with_reducible refine Below.alloc ?_ ?_ _) | (with_reducible refine Below.drew ?_) | (with_reducible refine Below.drewN ?_ _) | (with_reducible refine Below.setCell ?_ ?_ _) | go_size))⟩
          rw [more_0 (hr.out.1 (by omega)) (hr.out.2.1 (by omega)) (ne_t (by assumption))]
          simp [go_sem])
      · obtain rfl : ki = -1 := by omega
        clear hki hp0 hp1 hp2 hq0 hq1 hq2
        go_wp2
        go_ret2
        have hB := hr.out.2.2.2.1
        refine ⟨?_, by (repeat' (first | (with_reducible exact hB) | (with_reducible exact Below.refl _ _) | (with_reducible refine Below.alloc ?_ ?_ _) | (with_reducible refine Below.drew ?_) | (with_reducible refine Below.drewN ?_ _) | (with_reducible refine Below.setCell ?_ ?_ _) | go_size))⟩
        rw [more_eq (hr.out.1 (by omega)) (hr.out.2.1 (by omega)) (hr.out.2.2.1 (by omega))]
        rfl
end Go.Proofs.Ytbldmenaaedffaa
