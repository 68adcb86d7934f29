/-
  Contract: a round.
-/
import Derived.Test.YtdiklimikkplcaaHb
namespace Go.Proofs.Ytdiklimikkplcaa
open Go.RowKit

theorem roundL_eq (v m v0 v1 v2 v3 v4 v5 v6 v7 : List Nat) (h0 : v0 = mixL v 0 4 8 12 (m.getD 0 0) (m.getD 1 0)) (h1 : v1 = mixL v0 1 5 9 13 (m.getD 2 0) (m.getD 3 0)) (h2 : v2 = mixL v1 2 6 10 14 (m.getD 4 0) (m.getD 5 0))
    (h3 : v3 = mixL v2 3 7 11 15 (m.getD 6 0) (m.getD 7 0)) (h4 : v4 = mixL v3 0 5 10 15 (m.getD 8 0) (m.getD 9 0)) (h5 : v5 = mixL v4 1 6 11 12 (m.getD 10 0) (m.getD 11 0)) (h6 : v6 = mixL v5 2 7 8 13 (m.getD 12 0) (m.getD 13 0))
    (h7 : v7 = mixL v6 3 4 9 14 (m.getD 14 0) (m.getD 15 0)) : v7 = roundL v m := by
  simp only [roundL, ← h0, ← h1, ← h2, ← h3, ← h4, ← h5, ← h6, ← h7]

set_option maxRecDepth 20000 in
set_option maxHeartbeats 4000000 in
theorem round_any (b c : Nat) (T T' : TypeId) (v m : List Nat) (w : World) (hv : Words 16 v) (hm : m.length = 16) (hne : c ≠ b) (hb : Blk w b (wvs v) T) (hc : Blk w c (wvs m) T') :
    Calls Try.prog 196 #[.pointer (some ⟨b, 0, none⟩), .pointer (some ⟨c, 0, none⟩)] w fun e w' => e = .returned (.tuple #[]) ∧ Row b T w w' v (roundL v m) := by
  have HM := hidp hm
  have H := hidp (And.intro hb (And.intro hc (And.intro (But.refl b w) hv)))
  have HB := hidp hb
  have HN := hidp hne
  have wv := v
  clear hv hb hc wv hne
  have G0 : ∀ W : World, Blk W c (wvs m) T' → W.cell? ⟨c, 0, none⟩ = some (.int .u32 (m.getD 0 0 : Nat)) := fun W h => (h.cell 0).trans (wvs_get (by omega))
  have G1 : ∀ W : World, Blk W c (wvs m) T' → W.cell? ⟨c, 1, none⟩ = some (.int .u32 (m.getD 1 0 : Nat)) := fun W h => (h.cell 1).trans (wvs_get (by omega))
  have G2 : ∀ W : World, Blk W c (wvs m) T' → W.cell? ⟨c, 2, none⟩ = some (.int .u32 (m.getD 2 0 : Nat)) := fun W h => (h.cell 2).trans (wvs_get (by omega))
  have G3 : ∀ W : World, Blk W c (wvs m) T' → W.cell? ⟨c, 3, none⟩ = some (.int .u32 (m.getD 3 0 : Nat)) := fun W h => (h.cell 3).trans (wvs_get (by omega))
  have G4 : ∀ W : World, Blk W c (wvs m) T' → W.cell? ⟨c, 4, none⟩ = some (.int .u32 (m.getD 4 0 : Nat)) := fun W h => (h.cell 4).trans (wvs_get (by omega))
  have G5 : ∀ W : World, Blk W c (wvs m) T' → W.cell? ⟨c, 5, none⟩ = some (.int .u32 (m.getD 5 0 : Nat)) := fun W h => (h.cell 5).trans (wvs_get (by omega))
  have G6 : ∀ W : World, Blk W c (wvs m) T' → W.cell? ⟨c, 6, none⟩ = some (.int .u32 (m.getD 6 0 : Nat)) := fun W h => (h.cell 6).trans (wvs_get (by omega))
  have G7 : ∀ W : World, Blk W c (wvs m) T' → W.cell? ⟨c, 7, none⟩ = some (.int .u32 (m.getD 7 0 : Nat)) := fun W h => (h.cell 7).trans (wvs_get (by omega))
  have G8 : ∀ W : World, Blk W c (wvs m) T' → W.cell? ⟨c, 8, none⟩ = some (.int .u32 (m.getD 8 0 : Nat)) := fun W h => (h.cell 8).trans (wvs_get (by omega))
  have G9 : ∀ W : World, Blk W c (wvs m) T' → W.cell? ⟨c, 9, none⟩ = some (.int .u32 (m.getD 9 0 : Nat)) := fun W h => (h.cell 9).trans (wvs_get (by omega))
  have G10 : ∀ W : World, Blk W c (wvs m) T' → W.cell? ⟨c, 10, none⟩ = some (.int .u32 (m.getD 10 0 : Nat)) := fun W h => (h.cell 10).trans (wvs_get (by omega))
  have G11 : ∀ W : World, Blk W c (wvs m) T' → W.cell? ⟨c, 11, none⟩ = some (.int .u32 (m.getD 11 0 : Nat)) := fun W h => (h.cell 11).trans (wvs_get (by omega))
  have G12 : ∀ W : World, Blk W c (wvs m) T' → W.cell? ⟨c, 12, none⟩ = some (.int .u32 (m.getD 12 0 : Nat)) := fun W h => (h.cell 12).trans (wvs_get (by omega))
  have G13 : ∀ W : World, Blk W c (wvs m) T' → W.cell? ⟨c, 13, none⟩ = some (.int .u32 (m.getD 13 0 : Nat)) := fun W h => (h.cell 13).trans (wvs_get (by omega))
  have G14 : ∀ W : World, Blk W c (wvs m) T' → W.cell? ⟨c, 14, none⟩ = some (.int .u32 (m.getD 14 0 : Nat)) := fun W h => (h.cell 14).trans (wvs_get (by omega))
  have G15 : ∀ W : World, Blk W c (wvs m) T' → W.cell? ⟨c, 15, none⟩ = some (.int .u32 (m.getD 15 0 : Nat)) := fun W h => (h.cell 15).trans (wvs_get (by omega))
  clear hm
  revert G0 G1 G2 G3 G4 G5 G6 G7 G8 G9 G10 G11 G12 G13 G14 G15
  have HQ := hidp (roundL_eq v m)
  revert HQ
  generalize m.getD 0 0 = m0
  generalize m.getD 1 0 = m1
  generalize m.getD 2 0 = m2
  generalize m.getD 3 0 = m3
  generalize m.getD 4 0 = m4
  generalize m.getD 5 0 = m5
  generalize m.getD 6 0 = m6
  generalize m.getD 7 0 = m7
  generalize m.getD 8 0 = m8
  generalize m.getD 9 0 = m9
  generalize m.getD 10 0 = m10
  generalize m.getD 11 0 = m11
  generalize m.getD 12 0 = m12
  generalize m.getD 13 0 = m13
  generalize m.getD 14 0 = m14
  generalize m.getD 15 0 = m15
  intro HQ G0 G1 G2 G3 G4 G5 G6 G7 G8 G9 G10 G11 G12 G13 G14 G15
  have G0 := hidp G0; have G1 := hidp G1; have G2 := hidp G2; have G3 := hidp G3; have G4 := hidp G4; have G5 := hidp G5; have G6 := hidp G6; have G7 := hidp G7; have G8 := hidp G8; have G9 := hidp G9; have G10 := hidp G10; have G11 := hidp G11; have G12 := hidp G12; have G13 := hidp G13; have G14 := hidp G14; have G15 := hidp G15
  go_enter Try.func196, Try.ntmps196
  go_wp2
  refine region_tail 20 (by kernel_rfl) (by kernel_rfl) ?_
  intro wd hwd
  have ma : wd.cell? ⟨c, 0, none⟩ = some (.int .u32 (m0 : Nat)) := hwd.out.symm ▸ G0.out _ H.out.2.1.drew
  have mb : wd.cell? ⟨c, 1, none⟩ = some (.int .u32 (m1 : Nat)) := hwd.out.symm ▸ G1.out _ H.out.2.1.drew
  have H' : Hid (Blk wd b (wvs v) T ∧ Blk wd c (wvs m) T' ∧ But b w wd ∧ Words 16 v) := hwd.out.symm ▸ hidp ⟨H.out.1.drew, H.out.2.1.drew, H.out.2.2.1.drew, H.out.2.2.2⟩
  clear H hwd
  simp only [List.take_succ_cons, List.take_zero, List.drop_succ_cons, List.drop_zero]
  repeat still_step
  try refine wpStill_nil ?_
  clear ma mb
  go_wp2_with fail
  refine (mix_any b 0 4 8 12 T v m0 m1 wd H'.out.2.2.2 (by decide) (by decide) (by decide) (by decide) (by decide) (by decide) (by decide) (by decide) (by decide) (by decide) H'.out.1).mono ?_
  rintro e w0 ⟨rfl, hN⟩
  have hN := hidp hN
  obtain ⟨v0, hv0⟩ : ∃ r, r = mixL v 0 4 8 12 m0 m1 := ⟨_, rfl⟩
  have H : Hid (Blk w0 b (wvs v0) T ∧ Blk w0 c (wvs m) T' ∧ But b w w0 ∧ Words 16 v0) := hv0 ▸ hidp ⟨hN.out.new, hN.out.but.blk H'.out.2.1 HN.out, H'.out.2.2.1.trans hN.out.but, mixL_words H'.out.2.2.2 _ _ _ _ _ _⟩
  have hv0 := hidp hv0
  clear H' hN
  go_wp2_with fail
  refine region_tail 20 (by kernel_rfl) (by kernel_rfl) ?_
  intro wd hwd
  have ma : wd.cell? ⟨c, 2, none⟩ = some (.int .u32 (m2 : Nat)) := hwd.out.symm ▸ G2.out _ H.out.2.1.drew
  have mb : wd.cell? ⟨c, 3, none⟩ = some (.int .u32 (m3 : Nat)) := hwd.out.symm ▸ G3.out _ H.out.2.1.drew
  have H' : Hid (Blk wd b (wvs v0) T ∧ Blk wd c (wvs m) T' ∧ But b w wd ∧ Words 16 v0) := hwd.out.symm ▸ hidp ⟨H.out.1.drew, H.out.2.1.drew, H.out.2.2.1.drew, H.out.2.2.2⟩
  clear H hwd
  simp only [List.take_succ_cons, List.take_zero, List.drop_succ_cons, List.drop_zero]
  repeat still_step
  try refine wpStill_nil ?_
  clear ma mb
  go_wp2_with fail
  refine (mix_any b 1 5 9 13 T v0 m2 m3 wd H'.out.2.2.2 (by decide) (by decide) (by decide) (by decide) (by decide) (by decide) (by decide) (by decide) (by decide) (by decide) H'.out.1).mono ?_
  rintro e w1 ⟨rfl, hN⟩
  have hN := hidp hN
  obtain ⟨v1, hv1⟩ : ∃ r, r = mixL v0 1 5 9 13 m2 m3 := ⟨_, rfl⟩
  have H : Hid (Blk w1 b (wvs v1) T ∧ Blk w1 c (wvs m) T' ∧ But b w w1 ∧ Words 16 v1) := hv1 ▸ hidp ⟨hN.out.new, hN.out.but.blk H'.out.2.1 HN.out, H'.out.2.2.1.trans hN.out.but, mixL_words H'.out.2.2.2 _ _ _ _ _ _⟩
  have hv1 := hidp hv1
  clear H' hN
  go_wp2_with fail
  refine region_tail 20 (by kernel_rfl) (by kernel_rfl) ?_
  intro wd hwd
  have ma : wd.cell? ⟨c, 4, none⟩ = some (.int .u32 (m4 : Nat)) := hwd.out.symm ▸ G4.out _ H.out.2.1.drew
  have mb : wd.cell? ⟨c, 5, none⟩ = some (.int .u32 (m5 : Nat)) := hwd.out.symm ▸ G5.out _ H.out.2.1.drew
  have H' : Hid (Blk wd b (wvs v1) T ∧ Blk wd c (wvs m) T' ∧ But b w wd ∧ Words 16 v1) := hwd.out.symm ▸ hidp ⟨H.out.1.drew, H.out.2.1.drew, H.out.2.2.1.drew, H.out.2.2.2⟩
  clear H hwd
  simp only [List.take_succ_cons, List.take_zero, List.drop_succ_cons, List.drop_zero]
  repeat still_step
  try refine wpStill_nil ?_
  clear ma mb
  go_wp2_with fail
  refine (mix_any b 2 6 10 14 T v1 m4 m5 wd H'.out.2.2.2 (by decide) (by decide) (by decide) (by decide) (by decide) (by decide) (by decide) (by decide) (by decide) (by decide) H'.out.1).mono ?_
  rintro e w2 ⟨rfl, hN⟩
  have hN := hidp hN
  obtain ⟨v2, hv2⟩ : ∃ r, r = mixL v1 2 6 10 14 m4 m5 := ⟨_, rfl⟩
  have H : Hid (Blk w2 b (wvs v2) T ∧ Blk w2 c (wvs m) T' ∧ But b w w2 ∧ Words 16 v2) := hv2 ▸ hidp ⟨hN.out.new, hN.out.but.blk H'.out.2.1 HN.out, H'.out.2.2.1.trans hN.out.but, mixL_words H'.out.2.2.2 _ _ _ _ _ _⟩
  have hv2 := hidp hv2
  clear H' hN
  go_wp2_with fail
  refine region_tail 20 (by kernel_rfl) (by kernel_rfl) ?_
  intro wd hwd
  have ma : wd.cell? ⟨c, 6, none⟩ = some (.int .u32 (m6 : Nat)) := hwd.out.symm ▸ G6.out _ H.out.2.1.drew
  have mb : wd.cell? ⟨c, 7, none⟩ = some (.int .u32 (m7 : Nat)) := hwd.out.symm ▸ G7.out _ H.out.2.1.drew
  have H' : Hid (Blk wd b (wvs v2) T ∧ Blk wd c (wvs m) T' ∧ But b w wd ∧ Words 16 v2) := hwd.out.symm ▸ hidp ⟨H.out.1.drew, H.out.2.1.drew, H.out.2.2.1.drew, H.out.2.2.2⟩
  clear H hwd
  simp only [List.take_succ_cons, List.take_zero, List.drop_succ_cons, List.drop_zero]
  repeat still_step
  try refine wpStill_nil ?_
  clear ma mb
  go_wp2_with fail
  refine (mix_any b 3 7 11 15 T v2 m6 m7 wd H'.out.2.2.2 (by decide) (by decide) (by decide) (by decide) (by decide) (by decide) (by decide) (by decide) (by decide) (by decide) H'.out.1).mono ?_
  rintro e w3 ⟨rfl, hN⟩
  have hN := hidp hN
  obtain ⟨v3, hv3⟩ : ∃ r, r = mixL v2 3 7 11 15 m6 m7 := ⟨_, rfl⟩
  have H : Hid (Blk w3 b (wvs v3) T ∧ Blk w3 c (wvs m) T' ∧ But b w w3 ∧ Words 16 v3) := hv3 ▸ hidp ⟨hN.out.new, hN.out.but.blk H'.out.2.1 HN.out, H'.out.2.2.1.trans hN.out.but, mixL_words H'.out.2.2.2 _ _ _ _ _ _⟩
  have hv3 := hidp hv3
  clear H' hN
  go_wp2_with fail
  refine region_tail 20 (by kernel_rfl) (by kernel_rfl) ?_
  intro wd hwd
  have ma : wd.cell? ⟨c, 8, none⟩ = some (.int .u32 (m8 : Nat)) := hwd.out.symm ▸ G8.out _ H.out.2.1.drew
  have mb : wd.cell? ⟨c, 9, none⟩ = some (.int .u32 (m9 : Nat)) := hwd.out.symm ▸ G9.out _ H.out.2.1.drew
  have H' : Hid (Blk wd b (wvs v3) T ∧ Blk wd c (wvs m) T' ∧ But b w wd ∧ Words 16 v3) := hwd.out.symm ▸ hidp ⟨H.out.1.drew, H.out.2.1.drew, H.out.2.2.1.drew, H.out.2.2.2⟩
  clear H hwd
  simp only [List.take_succ_cons, List.take_zero, List.drop_succ_cons, List.drop_zero]
  repeat still_step
  try refine wpStill_nil ?_
  clear ma mb
  go_wp2_with fail
  refine (mix_any b 0 5 10 15 T v3 m8 m9 wd H'.out.2.2.2 (by decide) (by decide) (by decide) (by decide) (by decide) (by decide) (by decide) (by decide) (by decide) (by decide) H'.out.1).mono ?_
  rintro e w4 ⟨rfl, hN⟩
  have hN := hidp hN
  obtain ⟨v4, hv4⟩ : ∃ r, r = mixL v3 0 5 10 15 m8 m9 := ⟨_, rfl⟩
  have H : Hid (Blk w4 b (wvs v4) T ∧ Blk w4 c (wvs m) T' ∧ But b w w4 ∧ Words 16 v4) := hv4 ▸ hidp ⟨hN.out.new, hN.out.but.blk H'.out.2.1 HN.out, H'.out.2.2.1.trans hN.out.but, mixL_words H'.out.2.2.2 _ _ _ _ _ _⟩
  have hv4 := hidp hv4
  clear H' hN
  go_wp2_with fail
  refine region_tail 20 (by kernel_rfl) (by kernel_rfl) ?_
  intro wd hwd
  have ma : wd.cell? ⟨c, 10, none⟩ = some (.int .u32 (m10 : Nat)) := hwd.out.symm ▸ G10.out _ H.out.2.1.drew
  have mb : wd.cell? ⟨c, 11, none⟩ = some (.int .u32 (m11 : Nat)) := hwd.out.symm ▸ G11.out _ H.out.2.1.drew
  have H' : Hid (Blk wd b (wvs v4) T ∧ Blk wd c (wvs m) T' ∧ But b w wd ∧ Words 16 v4) := hwd.out.symm ▸ hidp ⟨H.out.1.drew, H.out.2.1.drew, H.out.2.2.1.drew, H.out.2.2.2⟩
  clear H hwd
  simp only [List.take_succ_cons, List.take_zero, List.drop_succ_cons, List.drop_zero]
  repeat still_step
  try refine wpStill_nil ?_
  clear ma mb
  go_wp2_with fail
  refine (mix_any b 1 6 11 12 T v4 m10 m11 wd H'.out.2.2.2 (by decide) (by decide) (by decide) (by decide) (by decide) (by decide) (by decide) (by decide) (by decide) (by decide) H'.out.1).mono ?_
  rintro e w5 ⟨rfl, hN⟩
  have hN := hidp hN
  obtain ⟨v5, hv5⟩ : ∃ r, r = mixL v4 1 6 11 12 m10 m11 := ⟨_, rfl⟩
  have H : Hid (Blk w5 b (wvs v5) T ∧ Blk w5 c (wvs m) T' ∧ But b w w5 ∧ Words 16 v5) := hv5 ▸ hidp ⟨hN.out.new, hN.out.but.blk H'.out.2.1 HN.out, H'.out.2.2.1.trans hN.out.but, mixL_words H'.out.2.2.2 _ _ _ _ _ _⟩
  have hv5 := hidp hv5
  clear H' hN
  go_wp2_with fail
  refine region_tail 20 (by kernel_rfl) (by kernel_rfl) ?_
  intro wd hwd
  have ma : wd.cell? ⟨c, 12, none⟩ = some (.int .u32 (m12 : Nat)) := hwd.out.symm ▸ G12.out _ H.out.2.1.drew
  have mb : wd.cell? ⟨c, 13, none⟩ = some (.int .u32 (m13 : Nat)) := hwd.out.symm ▸ G13.out _ H.out.2.1.drew
  have H' : Hid (Blk wd b (wvs v5) T ∧ Blk wd c (wvs m) T' ∧ But b w wd ∧ Words 16 v5) := hwd.out.symm ▸ hidp ⟨H.out.1.drew, H.out.2.1.drew, H.out.2.2.1.drew, H.out.2.2.2⟩
  clear H hwd
  simp only [List.take_succ_cons, List.take_zero, List.drop_succ_cons, List.drop_zero]
  repeat still_step
  try refine wpStill_nil ?_
  clear ma mb
  go_wp2_with fail
  refine (mix_any b 2 7 8 13 T v5 m12 m13 wd H'.out.2.2.2 (by decide) (by decide) (by decide) (by decide) (by decide) (by decide) (by decide) (by decide) (by decide) (by decide) H'.out.1).mono ?_
  rintro e w6 ⟨rfl, hN⟩
  have hN := hidp hN
  obtain ⟨v6, hv6⟩ : ∃ r, r = mixL v5 2 7 8 13 m12 m13 := ⟨_, rfl⟩
  have H : Hid (Blk w6 b (wvs v6) T ∧ Blk w6 c (wvs m) T' ∧ But b w w6 ∧ Words 16 v6) := hv6 ▸ hidp ⟨hN.out.new, hN.out.but.blk H'.out.2.1 HN.out, H'.out.2.2.1.trans hN.out.but, mixL_words H'.out.2.2.2 _ _ _ _ _ _⟩
  have hv6 := hidp hv6
  clear H' hN
  go_wp2_with fail
  refine region_tail 20 (by kernel_rfl) (by kernel_rfl) ?_
  intro wd hwd
  have ma : wd.cell? ⟨c, 14, none⟩ = some (.int .u32 (m14 : Nat)) := hwd.out.symm ▸ G14.out _ H.out.2.1.drew
  have mb : wd.cell? ⟨c, 15, none⟩ = some (.int .u32 (m15 : Nat)) := hwd.out.symm ▸ G15.out _ H.out.2.1.drew
  have H' : Hid (Blk wd b (wvs v6) T ∧ Blk wd c (wvs m) T' ∧ But b w wd ∧ Words 16 v6) := hwd.out.symm ▸ hidp ⟨H.out.1.drew, H.out.2.1.drew, H.out.2.2.1.drew, H.out.2.2.2⟩
  clear H hwd
  simp only [List.take_succ_cons, List.take_zero, List.drop_succ_cons, List.drop_zero]
  repeat still_step
  try refine wpStill_nil ?_
  clear ma mb
  go_wp2_with fail
  refine (mix_any b 3 4 9 14 T v6 m14 m15 wd H'.out.2.2.2 (by decide) (by decide) (by decide) (by decide) (by decide) (by decide) (by decide) (by decide) (by decide) (by decide) H'.out.1).mono ?_
  rintro e w7 ⟨rfl, hN⟩
  have hN := hidp hN
  obtain ⟨v7, hv7⟩ : ∃ r, r = mixL v6 3 4 9 14 m14 m15 := ⟨_, rfl⟩
  have H : Hid (Blk w7 b (wvs v7) T ∧ Blk w7 c (wvs m) T' ∧ But b w w7 ∧ Words 16 v7) := hv7 ▸ hidp ⟨hN.out.new, hN.out.but.blk H'.out.2.1 HN.out, H'.out.2.2.1.trans hN.out.but, mixL_words H'.out.2.2.2 _ _ _ _ _ _⟩
  have hv7 := hidp hv7
  clear H' hN
  go_wp2_with fail
  go_end0
  exact ⟨rfl, HB.out, HQ.out _ _ _ _ _ _ _ _ hv0.out hv1.out hv2.out hv3.out hv4.out hv5.out hv6.out hv7.out ▸ H.out.1, H.out.2.2.1⟩
end Go.Proofs.Ytdiklimikkplcaa
