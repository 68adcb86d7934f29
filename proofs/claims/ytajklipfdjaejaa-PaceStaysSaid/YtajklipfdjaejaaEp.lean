/-
  Contracts: Mean, and the answer's Mean, over a list of paces in memory.
-/
import Derived.Test.YtajklipfdjaejaaEi
namespace Go.Proofs.Ytajklipfdjaejaa
open Go.RowKit
attribute [local go_sem] run_bits run_frombits

/-- A slice of paces that can be read. -/
def FAt (w : World) (b : Nat) (xs : List Nat) : Prop := ∀ k, k < xs.length → w.cell? ⟨b, k, none⟩ = some (.float .f64 (xs.getD k 0))
def SlF (w : World) (v : Value) (xs : List Nat) : Prop := (v = .slice none 0 0 ∧ xs = []) ∨ ∃ b cap, v = .slice (some ⟨b, 0, none⟩) xs.length cap ∧ b < w.heap.size ∧ FAt w b xs
theorem FAt.below {w w' : World} {b B : Nat} {xs : List Nat} (h : FAt w b xs) (hB : Below B w w') (hb : b < B) : FAt w' b xs := fun k hk => (hB.cell (p := ⟨b, k, none⟩) hb).trans (h k hk)
theorem SlF.below {w w' : World} {v : Value} {xs : List Nat} (h : SlF w v xs) (hB : Below w.heap.size w w') : SlF w' v xs := by
  rcases h with h | ⟨b, cap, h1, h2, h3⟩
  · exact .inl h
  · exact .inr ⟨b, cap, h1, Nat.lt_of_lt_of_le h2 hB.size, h3.below hB h2⟩

/-- What a mean may be: up to the NaN's own bits. -/
def mStep (S : Nat → Prop) (y : Nat) : Nat → Prop := fun r => ∃ q, S q ∧ IsR (smO q y) r
def MeanR (xs : List Nat) : Nat → Prop := xs.foldl mStep (fun r => nanB r = true)
theorem mean_snoc (xs : List Nat) (y r : Nat) : MeanR (xs ++ [y]) r ↔ ∃ q, MeanR xs q ∧ IsR (smO q y) r := by
  unfold MeanR; rw [List.foldl_append]; rfl
theorem mean_take {xs : List Nat} {k q r : Nat} (h : k < xs.length) (hq : MeanR (xs.take k) q) (hr : IsR (smO q xs[k]) r) : MeanR (xs.take (k + 1)) r := by
  rw [List.take_succ_eq_append_getElem h]; exact (mean_snoc _ _ _).2 ⟨q, hq, hr⟩
theorem nan_form : nanB nanForm = true := by decide +kernel
theorem form_nan {q p : Nat} (h : formN q = formN p) : nanB q = nanB p ∧ (nanB q = false → q = p) := by
  cases hq : nanB q <;> cases hp : nanB p
  · rw [formN_no hq, formN_no hp] at h; exact ⟨rfl, fun _ => h⟩
  · rw [formN_no hq, formN_yes hp] at h; rw [h, nan_form] at hq; cases hq
  · rw [formN_yes hq, formN_no hp] at h; rw [← h, nan_form] at hp; cases hp
  · exact ⟨rfl, fun h => by cases h⟩
theorem smO_form {q p : Nat} (h : formN q = formN p) (y : Nat) : smO q y = smO p y := by
  obtain ⟨h1, h2⟩ := form_nan h
  cases hq : nanB q
  · rw [h2 hq]
  · unfold smO; rw [← h1, hq]; simp
theorem fold_form (xs : List Nat) : ∀ S T : Nat → Prop, (∀ r s, S r → T s → formN r = formN s) → ∀ r s, xs.foldl mStep S r → xs.foldl mStep T s → formN r = formN s := by
  induction xs with
  | nil => intro S T h r s hr hs; exact h r s hr hs
  | cons y xs ih =>
    intro S T h r s hr hs
    refine ih (mStep S y) (mStep T y) ?_ r s hr hs
    rintro r s ⟨q, h1, h2⟩ ⟨p, k1, k2⟩
    rw [smO_form (h q p h1 k1)] at h2
    exact form_isR h2 k2
theorem mean_form {xs : List Nat} {r s : Nat} (hr : MeanR xs r) (hs : MeanR xs s) : formN r = formN s :=
  fold_form xs _ _ (fun _ _ hr hs => (formN_yes hr).trans (formN_yes hs).symm) r s hr hs

def MeanP (xs : List Nat) (w : World) (e : Ending) (w' : World) : Prop := ∃ r, e = .returned (.float .f64 r) ∧ MeanR xs r ∧ Below w.heap.size w w'
set_option maxHeartbeats 1000000 in
theorem fold_any (b cap : Nat) (xs : List Nat) (r0 : Nat) (w : World) (hl : xs.length ≤ 9223372036854775807) (hb : b < w.heap.size) (hf : FAt w b xs) (h0 : nanB r0 = true) :
    Calls Try.prog 45 #[.slice (some ⟨b, 0, none⟩) xs.length cap, .float .f64 r0, .func (.func 23) #[] #[]] w (MeanP xs w) := by
  have HF := hidp hf; have H0 := hidp h0; clear hf h0
  go_enter Try.func45, Try.ntmps45
  go_wp2
  go_loopw [1, 11] (fun s i wr => ∃ k r : Nat, k ≤ xs.length ∧ i = .int .i64 k ∧ s = .float .f64 r ∧ Hid (MeanR (xs.take k) r) ∧ Below w.heap.size w wr) (fun _ i _ => xs.length - (intOf i).toNat)
  case atStart => exact ⟨0, r0, Nat.zero_le _, rfl, rfl, H0.out, Below.refl _ _⟩
  case round =>
    obtain ⟨k, r, hk, rfl, rfl, hr, hB⟩ := hrel
    by_cases hki : k < xs.length
    · have hc := (HF.out.below hB hb) k hki
      have HB := hidp hB; clear hB
      go_wp2_with (go_at_call 23; refine (Smooth_any _ _ _).mono ?_; rintro e w3 ⟨q, rfl, hq, hN⟩)
      have HQ := hidp (mean_take hki hr.out hq)
      have HN := hidp (btrans HB.out hN)
      clear hq hN
      go_wp2
      exact ⟨⟨k + 1, q, by omega, by go_num, rfl, HQ, HN.out⟩, by simp [intOf]; omega⟩
    · obtain rfl : k = xs.length := by omega
      have HB := hidp hB; clear hB
      rw [List.take_length] at hr
      go_wp2
      go_ret
      exact ⟨r, rfl, hr.out, HB.out⟩
theorem fold_nil (r0 : Nat) (w : World) (h0 : nanB r0 = true) :
    Calls Try.prog 45 #[.slice none 0 0, .float .f64 r0, .func (.func 23) #[] #[]] w (MeanP [] w) := by
  have H0 := hidp h0; clear h0
  go_enter Try.func45, Try.ntmps45
  go_wp2
  refine wp_loop_rounds 1 ?_
  rw [rounds_succ]
  go_wp2
  go_ret
  exact ⟨r0, rfl, H0.out, Below.refl _ _⟩
theorem nan_01 : nanB 9221120237041090561 = true := by decide +kernel
theorem nan_00 : nanB 9221120237041090560 = true := by decide +kernel
theorem Mean_any (v : Value) (xs : List Nat) (w : World) (hl : xs.length ≤ 9223372036854775807) (hv : SlF w v xs) : Calls Try.prog 26 #[v] w (MeanP xs w) := by
  rcases hv with ⟨rfl, rfl⟩ | ⟨b, cap, rfl, hb, hf⟩
  · go_enter Try.func26, Try.ntmps26
    go_wp2_with (first | (go_at_call 33; refine (NaN_any _).mono ?_; rintro e w' ⟨rfl, rfl⟩) | (go_at_call 45; refine (fold_nil _ _ nan_01).mono ?_; rintro e w' ⟨r, rfl, hr, hN⟩; have H := hidp hr; have HN := hidp hN; clear hr hN))
    go_ret
    exact ⟨r, rfl, H.out, HN.out⟩
  · have HF := hidp hf; clear hf
    go_enter Try.func26, Try.ntmps26
    go_wp2_with (first | (go_at_call 33; refine (NaN_any _).mono ?_; rintro e w' ⟨rfl, rfl⟩) | (go_at_call 45; refine (fold_any _ _ _ _ _ hl hb HF.out nan_01).mono ?_; rintro e w' ⟨r, rfl, hr, hN⟩; have H := hidp hr; have HN := hidp hN; clear hr hN))
    go_ret
    exact ⟨r, rfl, H.out, HN.out⟩

set_option maxHeartbeats 1000000 in
theorem refMean_any (v : Value) (xs : List Nat) (w : World) (hl : xs.length ≤ 9223372036854775807) (hv : SlF w v xs) : Calls Try.prog 27 #[v] w (MeanP xs w) := by
  rcases hv with ⟨rfl, rfl⟩ | ⟨b, cap, rfl, hb, hf⟩
  · go_enter Try.func27, Try.ntmps27
    go_wp2
    refine wp_loop_rounds 1 ?_
    rw [rounds_succ]
    go_wp2
    go_ret
    exact ⟨_, rfl, nan_00, Below.refl _ _⟩
  · have HF := hidp hf; clear hf
    go_enter Try.func27, Try.ntmps27
    go_wp2
    go_loopw [3, 4] (fun s i wr => ∃ k r : Nat, k ≤ xs.length ∧ i = .int .i64 k ∧ s = .float .f64 r ∧ Hid (MeanR (xs.take k) r) ∧ Below w.heap.size w wr) (fun _ i _ => xs.length - (intOf i).toNat)
    case atStart => exact ⟨0, _, Nat.zero_le _, rfl, rfl, nan_00, Below.refl _ _⟩
    case round =>
      obtain ⟨k, r, hk, rfl, rfl, hr, hB⟩ := hrel
      by_cases hki : k < xs.length
      · have hc := (HF.out.below hB hb) k hki
        have HB := hidp hB; clear hB
        go_wp2_with (go_at_call 24; refine (refSmooth_any _ _ _).mono ?_; rintro e w3 ⟨q, rfl, hq, hN⟩)
        have HQ := hidp (mean_take hki hr.out hq)
        have HN := hidp (btrans HB.out hN)
        clear hq hN
        go_wp2
        exact ⟨⟨k + 1, q, by omega, by go_num, rfl, HQ, HN.out⟩, by simp [intOf]; omega⟩
      · obtain rfl : k = xs.length := by omega
        have HB := hidp hB; clear hB
        rw [List.take_length] at hr
        go_wp2
        go_ret
        exact ⟨r, rfl, hr.out, HB.out⟩
end Go.Proofs.Ytajklipfdjaejaa
