/-
  Contracts: what ends an element, for each type.
-/
import Derived.Test.YtlfmmmlheloloaaJe
namespace Go.Proofs.Ytlfmmmlheloloaa
open Go.RowKit Go.Lib Go.Maps

/-- The mode of a frame whose panic was recovered. -/
def calm (x : Nat) : FrameMode := .panicking [{ v := .iface 182 (.int .i64 (x : Nat)), recovered := true }]
theorem Rd.drew {w : World} {g t : Nat} {p : Option Addr} {b o cap : Nat} {R : List Nat} {e f : Nat} (H : Rd w g t p b o cap R e f) : Rd w.drew g t p b o cap R e f := ⟨H.blk.drew, ⟨H.bs.byte, H.bs.le, H.bs.ptr, H.bs.here⟩, H.ne, H.lim⟩

theorem endNum_none (rb g : Nat) (w : World) (hc : w.cell? ⟨rb, 0, none⟩ = some (.pointer (some ⟨g, 0, none⟩))) :
    CallsD Try.prog 149 #[.pointer (some ⟨rb, 0, none⟩)] .returning w fun e u' w' => e = .returned (.tuple #[]) ∧ u' = .returning ∧ w' = w.drew := by
  have hcd : w.drew.cell? ⟨rb, 0, none⟩ = some (.pointer (some ⟨g, 0, none⟩)) := hc
  refine callsD_of_wpS Try.func149 rfl fun c₀ cs hu => ?_
  refine wpS_draw3 (by kernel_rfl) rfl (by kernel_rfl) (by kernel_rfl) (by kernel_rfl) (by kernel_rfl) ?_ ?_
  all_goals
    simp [wpOpsS, go_sem, recoverD, hu, hcd, Try.ntmps149]
    refine (settle_none g w.drew).mono ?_
    rintro e w' ⟨rfl, rfl⟩
    cases c₀
    simp_all [bodyPostS, results, Try.results149]
theorem endNum_brk (rb g t : Nat) (p : Option Addr) (b o cap : Nat) (R : List Nat) (e0 f0 x : Nat) (w : World) (H : Rd w g t p b o cap R e0 f0) (hc : w.cell? ⟨rb, 0, none⟩ = some (.pointer (some ⟨g, 0, none⟩))) :
    CallsD Try.prog 149 #[.pointer (some ⟨rb, 0, none⟩)] (.panicking (brk x)) w fun e u' w' => e = .returned (.tuple #[]) ∧ u' = calm x ∧ RdX w' g t b [] x t ∧ Bex g w w' := by
  have hcd : w.drew.cell? ⟨rb, 0, none⟩ = some (.pointer (some ⟨g, 0, none⟩)) := hc
  refine callsD_of_wpS Try.func149 rfl fun c₀ cs hu => ?_
  unfold brk at hu
  have HS := (settle_brk H.drew x).mono (R' := fun e w' => e = .returned (.tuple #[]) ∧ Hid (RdX w' g t b [] x t ∧ Bex g w w')) (fun e w' ⟨h1, h2, h3⟩ => ⟨h1, hidp ⟨h2, ((Bex.refl g w).drew).bex h3⟩⟩)
  refine wpS_draw3 (by kernel_rfl) rfl (by kernel_rfl) (by kernel_rfl) (by kernel_rfl) (by kernel_rfl) ?_ ?_
  all_goals
    simp [wpOpsS, go_sem, recoverD, hu, hcd, Try.ntmps149]
    refine HS.mono ?_
    rintro e w' ⟨rfl, hh⟩
    refine ⟨rfl, calm x, ?_, ?_⟩
    · cases c₀; simp [calm]
    · exact ⟨.tuple #[], by simp [results, Try.results149], rfl, rfl, hh.out.1, hh.out.2⟩

theorem endText_none (rb g : Nat) (w : World) (hc : w.cell? ⟨rb, 0, none⟩ = some (.pointer (some ⟨g, 0, none⟩))) :
    CallsD Try.prog 154 #[.pointer (some ⟨rb, 0, none⟩)] .returning w fun e u' w' => e = .returned (.tuple #[]) ∧ u' = .returning ∧ w' = w.drew := by
  have hcd : w.drew.cell? ⟨rb, 0, none⟩ = some (.pointer (some ⟨g, 0, none⟩)) := hc
  refine callsD_of_wpS Try.func154 rfl fun c₀ cs hu => ?_
  refine wpS_draw3 (by kernel_rfl) rfl (by kernel_rfl) (by kernel_rfl) (by kernel_rfl) (by kernel_rfl) ?_ ?_
  all_goals
    simp [wpOpsS, go_sem, recoverD, hu, hcd, Try.ntmps154]
    refine (settle_none g w.drew).mono ?_
    rintro e w' ⟨rfl, rfl⟩
    cases c₀
    simp_all [bodyPostS, results, Try.results154]
theorem endText_brk (rb g t : Nat) (p : Option Addr) (b o cap : Nat) (R : List Nat) (e0 f0 x : Nat) (w : World) (H : Rd w g t p b o cap R e0 f0) (hc : w.cell? ⟨rb, 0, none⟩ = some (.pointer (some ⟨g, 0, none⟩))) :
    CallsD Try.prog 154 #[.pointer (some ⟨rb, 0, none⟩)] (.panicking (brk x)) w fun e u' w' => e = .returned (.tuple #[]) ∧ u' = calm x ∧ RdX w' g t b [] x t ∧ Bex g w w' := by
  have hcd : w.drew.cell? ⟨rb, 0, none⟩ = some (.pointer (some ⟨g, 0, none⟩)) := hc
  refine callsD_of_wpS Try.func154 rfl fun c₀ cs hu => ?_
  unfold brk at hu
  have HS := (settle_brk H.drew x).mono (R' := fun e w' => e = .returned (.tuple #[]) ∧ Hid (RdX w' g t b [] x t ∧ Bex g w w')) (fun e w' ⟨h1, h2, h3⟩ => ⟨h1, hidp ⟨h2, ((Bex.refl g w).drew).bex h3⟩⟩)
  refine wpS_draw3 (by kernel_rfl) rfl (by kernel_rfl) (by kernel_rfl) (by kernel_rfl) (by kernel_rfl) ?_ ?_
  all_goals
    simp [wpOpsS, go_sem, recoverD, hu, hcd, Try.ntmps154]
    refine HS.mono ?_
    rintro e w' ⟨rfl, hh⟩
    refine ⟨rfl, calm x, ?_, ?_⟩
    · cases c₀; simp [calm]
    · exact ⟨.tuple #[], by simp [results, Try.results154], rfl, rfl, hh.out.1, hh.out.2⟩

theorem endBytes_none (rb g : Nat) (w : World) (hc : w.cell? ⟨rb, 0, none⟩ = some (.pointer (some ⟨g, 0, none⟩))) :
    CallsD Try.prog 155 #[.pointer (some ⟨rb, 0, none⟩)] .returning w fun e u' w' => e = .returned (.tuple #[]) ∧ u' = .returning ∧ w' = w.drew := by
  have hcd : w.drew.cell? ⟨rb, 0, none⟩ = some (.pointer (some ⟨g, 0, none⟩)) := hc
  refine callsD_of_wpS Try.func155 rfl fun c₀ cs hu => ?_
  refine wpS_draw3 (by kernel_rfl) rfl (by kernel_rfl) (by kernel_rfl) (by kernel_rfl) (by kernel_rfl) ?_ ?_
  all_goals
    simp [wpOpsS, go_sem, recoverD, hu, hcd, Try.ntmps155]
    refine (settle_none g w.drew).mono ?_
    rintro e w' ⟨rfl, rfl⟩
    cases c₀
    simp_all [bodyPostS, results, Try.results155]
theorem endBytes_brk (rb g t : Nat) (p : Option Addr) (b o cap : Nat) (R : List Nat) (e0 f0 x : Nat) (w : World) (H : Rd w g t p b o cap R e0 f0) (hc : w.cell? ⟨rb, 0, none⟩ = some (.pointer (some ⟨g, 0, none⟩))) :
    CallsD Try.prog 155 #[.pointer (some ⟨rb, 0, none⟩)] (.panicking (brk x)) w fun e u' w' => e = .returned (.tuple #[]) ∧ u' = calm x ∧ RdX w' g t b [] x t ∧ Bex g w w' := by
  have hcd : w.drew.cell? ⟨rb, 0, none⟩ = some (.pointer (some ⟨g, 0, none⟩)) := hc
  refine callsD_of_wpS Try.func155 rfl fun c₀ cs hu => ?_
  unfold brk at hu
  have HS := (settle_brk H.drew x).mono (R' := fun e w' => e = .returned (.tuple #[]) ∧ Hid (RdX w' g t b [] x t ∧ Bex g w w')) (fun e w' ⟨h1, h2, h3⟩ => ⟨h1, hidp ⟨h2, ((Bex.refl g w).drew).bex h3⟩⟩)
  refine wpS_draw3 (by kernel_rfl) rfl (by kernel_rfl) (by kernel_rfl) (by kernel_rfl) (by kernel_rfl) ?_ ?_
  all_goals
    simp [wpOpsS, go_sem, recoverD, hu, hcd, Try.ntmps155]
    refine HS.mono ?_
    rintro e w' ⟨rfl, hh⟩
    refine ⟨rfl, calm x, ?_, ?_⟩
    · cases c₀; simp [calm]
    · exact ⟨.tuple #[], by simp [results, Try.results155], rfl, rfl, hh.out.1, hh.out.2⟩

theorem endHash_none (rb g : Nat) (w : World) (hc : w.cell? ⟨rb, 0, none⟩ = some (.pointer (some ⟨g, 0, none⟩))) :
    CallsD Try.prog 156 #[.pointer (some ⟨rb, 0, none⟩)] .returning w fun e u' w' => e = .returned (.tuple #[]) ∧ u' = .returning ∧ w' = w.drew := by
  have hcd : w.drew.cell? ⟨rb, 0, none⟩ = some (.pointer (some ⟨g, 0, none⟩)) := hc
  refine callsD_of_wpS Try.func156 rfl fun c₀ cs hu => ?_
  refine wpS_draw3 (by kernel_rfl) rfl (by kernel_rfl) (by kernel_rfl) (by kernel_rfl) (by kernel_rfl) ?_ ?_
  all_goals
    simp [wpOpsS, go_sem, recoverD, hu, hcd, Try.ntmps156]
    refine (settle_none g w.drew).mono ?_
    rintro e w' ⟨rfl, rfl⟩
    cases c₀
    simp_all [bodyPostS, results, Try.results156]
theorem endHash_brk (rb g t : Nat) (p : Option Addr) (b o cap : Nat) (R : List Nat) (e0 f0 x : Nat) (w : World) (H : Rd w g t p b o cap R e0 f0) (hc : w.cell? ⟨rb, 0, none⟩ = some (.pointer (some ⟨g, 0, none⟩))) :
    CallsD Try.prog 156 #[.pointer (some ⟨rb, 0, none⟩)] (.panicking (brk x)) w fun e u' w' => e = .returned (.tuple #[]) ∧ u' = calm x ∧ RdX w' g t b [] x t ∧ Bex g w w' := by
  have hcd : w.drew.cell? ⟨rb, 0, none⟩ = some (.pointer (some ⟨g, 0, none⟩)) := hc
  refine callsD_of_wpS Try.func156 rfl fun c₀ cs hu => ?_
  unfold brk at hu
  have HS := (settle_brk H.drew x).mono (R' := fun e w' => e = .returned (.tuple #[]) ∧ Hid (RdX w' g t b [] x t ∧ Bex g w w')) (fun e w' ⟨h1, h2, h3⟩ => ⟨h1, hidp ⟨h2, ((Bex.refl g w).drew).bex h3⟩⟩)
  refine wpS_draw3 (by kernel_rfl) rfl (by kernel_rfl) (by kernel_rfl) (by kernel_rfl) (by kernel_rfl) ?_ ?_
  all_goals
    simp [wpOpsS, go_sem, recoverD, hu, hcd, Try.ntmps156]
    refine HS.mono ?_
    rintro e w' ⟨rfl, hh⟩
    refine ⟨rfl, calm x, ?_, ?_⟩
    · cases c₀; simp [calm]
    · exact ⟨.tuple #[], by simp [results, Try.results156], rfl, rfl, hh.out.1, hh.out.2⟩

theorem endKey_none (rb g : Nat) (w : World) (hc : w.cell? ⟨rb, 0, none⟩ = some (.pointer (some ⟨g, 0, none⟩))) :
    CallsD Try.prog 157 #[.pointer (some ⟨rb, 0, none⟩)] .returning w fun e u' w' => e = .returned (.tuple #[]) ∧ u' = .returning ∧ w' = w.drew := by
  have hcd : w.drew.cell? ⟨rb, 0, none⟩ = some (.pointer (some ⟨g, 0, none⟩)) := hc
  refine callsD_of_wpS Try.func157 rfl fun c₀ cs hu => ?_
  refine wpS_draw3 (by kernel_rfl) rfl (by kernel_rfl) (by kernel_rfl) (by kernel_rfl) (by kernel_rfl) ?_ ?_
  all_goals
    simp [wpOpsS, go_sem, recoverD, hu, hcd, Try.ntmps157]
    refine (settle_none g w.drew).mono ?_
    rintro e w' ⟨rfl, rfl⟩
    cases c₀
    simp_all [bodyPostS, results, Try.results157]
theorem endKey_brk (rb g t : Nat) (p : Option Addr) (b o cap : Nat) (R : List Nat) (e0 f0 x : Nat) (w : World) (H : Rd w g t p b o cap R e0 f0) (hc : w.cell? ⟨rb, 0, none⟩ = some (.pointer (some ⟨g, 0, none⟩))) :
    CallsD Try.prog 157 #[.pointer (some ⟨rb, 0, none⟩)] (.panicking (brk x)) w fun e u' w' => e = .returned (.tuple #[]) ∧ u' = calm x ∧ RdX w' g t b [] x t ∧ Bex g w w' := by
  have hcd : w.drew.cell? ⟨rb, 0, none⟩ = some (.pointer (some ⟨g, 0, none⟩)) := hc
  refine callsD_of_wpS Try.func157 rfl fun c₀ cs hu => ?_
  unfold brk at hu
  have HS := (settle_brk H.drew x).mono (R' := fun e w' => e = .returned (.tuple #[]) ∧ Hid (RdX w' g t b [] x t ∧ Bex g w w')) (fun e w' ⟨h1, h2, h3⟩ => ⟨h1, hidp ⟨h2, ((Bex.refl g w).drew).bex h3⟩⟩)
  refine wpS_draw3 (by kernel_rfl) rfl (by kernel_rfl) (by kernel_rfl) (by kernel_rfl) (by kernel_rfl) ?_ ?_
  all_goals
    simp [wpOpsS, go_sem, recoverD, hu, hcd, Try.ntmps157]
    refine HS.mono ?_
    rintro e w' ⟨rfl, hh⟩
    refine ⟨rfl, calm x, ?_, ?_⟩
    · cases c₀; simp [calm]
    · exact ⟨.tuple #[], by simp [results, Try.results157], rfl, rfl, hh.out.1, hh.out.2⟩

theorem endWord_none (rb g : Nat) (w : World) (hc : w.cell? ⟨rb, 0, none⟩ = some (.pointer (some ⟨g, 0, none⟩))) :
    CallsD Try.prog 158 #[.pointer (some ⟨rb, 0, none⟩)] .returning w fun e u' w' => e = .returned (.tuple #[]) ∧ u' = .returning ∧ w' = w.drew := by
  have hcd : w.drew.cell? ⟨rb, 0, none⟩ = some (.pointer (some ⟨g, 0, none⟩)) := hc
  refine callsD_of_wpS Try.func158 rfl fun c₀ cs hu => ?_
  refine wpS_draw3 (by kernel_rfl) rfl (by kernel_rfl) (by kernel_rfl) (by kernel_rfl) (by kernel_rfl) ?_ ?_
  all_goals
    simp [wpOpsS, go_sem, recoverD, hu, hcd, Try.ntmps158]
    refine (settle_none g w.drew).mono ?_
    rintro e w' ⟨rfl, rfl⟩
    cases c₀
    simp_all [bodyPostS, results, Try.results158]
theorem endWord_brk (rb g t : Nat) (p : Option Addr) (b o cap : Nat) (R : List Nat) (e0 f0 x : Nat) (w : World) (H : Rd w g t p b o cap R e0 f0) (hc : w.cell? ⟨rb, 0, none⟩ = some (.pointer (some ⟨g, 0, none⟩))) :
    CallsD Try.prog 158 #[.pointer (some ⟨rb, 0, none⟩)] (.panicking (brk x)) w fun e u' w' => e = .returned (.tuple #[]) ∧ u' = calm x ∧ RdX w' g t b [] x t ∧ Bex g w w' := by
  have hcd : w.drew.cell? ⟨rb, 0, none⟩ = some (.pointer (some ⟨g, 0, none⟩)) := hc
  refine callsD_of_wpS Try.func158 rfl fun c₀ cs hu => ?_
  unfold brk at hu
  have HS := (settle_brk H.drew x).mono (R' := fun e w' => e = .returned (.tuple #[]) ∧ Hid (RdX w' g t b [] x t ∧ Bex g w w')) (fun e w' ⟨h1, h2, h3⟩ => ⟨h1, hidp ⟨h2, ((Bex.refl g w).drew).bex h3⟩⟩)
  refine wpS_draw3 (by kernel_rfl) rfl (by kernel_rfl) (by kernel_rfl) (by kernel_rfl) (by kernel_rfl) ?_ ?_
  all_goals
    simp [wpOpsS, go_sem, recoverD, hu, hcd, Try.ntmps158]
    refine HS.mono ?_
    rintro e w' ⟨rfl, hh⟩
    refine ⟨rfl, calm x, ?_, ?_⟩
    · cases c₀; simp [calm]
    · exact ⟨.tuple #[], by simp [results, Try.results158], rfl, rfl, hh.out.1, hh.out.2⟩

theorem endPace_none (rb g : Nat) (w : World) (hc : w.cell? ⟨rb, 0, none⟩ = some (.pointer (some ⟨g, 0, none⟩))) :
    CallsD Try.prog 159 #[.pointer (some ⟨rb, 0, none⟩)] .returning w fun e u' w' => e = .returned (.tuple #[]) ∧ u' = .returning ∧ w' = w.drew := by
  have hcd : w.drew.cell? ⟨rb, 0, none⟩ = some (.pointer (some ⟨g, 0, none⟩)) := hc
  refine callsD_of_wpS Try.func159 rfl fun c₀ cs hu => ?_
  refine wpS_draw3 (by kernel_rfl) rfl (by kernel_rfl) (by kernel_rfl) (by kernel_rfl) (by kernel_rfl) ?_ ?_
  all_goals
    simp [wpOpsS, go_sem, recoverD, hu, hcd, Try.ntmps159]
    refine (settle_none g w.drew).mono ?_
    rintro e w' ⟨rfl, rfl⟩
    cases c₀
    simp_all [bodyPostS, results, Try.results159]
theorem endPace_brk (rb g t : Nat) (p : Option Addr) (b o cap : Nat) (R : List Nat) (e0 f0 x : Nat) (w : World) (H : Rd w g t p b o cap R e0 f0) (hc : w.cell? ⟨rb, 0, none⟩ = some (.pointer (some ⟨g, 0, none⟩))) :
    CallsD Try.prog 159 #[.pointer (some ⟨rb, 0, none⟩)] (.panicking (brk x)) w fun e u' w' => e = .returned (.tuple #[]) ∧ u' = calm x ∧ RdX w' g t b [] x t ∧ Bex g w w' := by
  have hcd : w.drew.cell? ⟨rb, 0, none⟩ = some (.pointer (some ⟨g, 0, none⟩)) := hc
  refine callsD_of_wpS Try.func159 rfl fun c₀ cs hu => ?_
  unfold brk at hu
  have HS := (settle_brk H.drew x).mono (R' := fun e w' => e = .returned (.tuple #[]) ∧ Hid (RdX w' g t b [] x t ∧ Bex g w w')) (fun e w' ⟨h1, h2, h3⟩ => ⟨h1, hidp ⟨h2, ((Bex.refl g w).drew).bex h3⟩⟩)
  refine wpS_draw3 (by kernel_rfl) rfl (by kernel_rfl) (by kernel_rfl) (by kernel_rfl) (by kernel_rfl) ?_ ?_
  all_goals
    simp [wpOpsS, go_sem, recoverD, hu, hcd, Try.ntmps159]
    refine HS.mono ?_
    rintro e w' ⟨rfl, hh⟩
    refine ⟨rfl, calm x, ?_, ?_⟩
    · cases c₀; simp [calm]
    · exact ⟨.tuple #[], by simp [results, Try.results159], rfl, rfl, hh.out.1, hh.out.2⟩

theorem endBool_none (rb g : Nat) (w : World) (hc : w.cell? ⟨rb, 0, none⟩ = some (.pointer (some ⟨g, 0, none⟩))) :
    CallsD Try.prog 161 #[.pointer (some ⟨rb, 0, none⟩)] .returning w fun e u' w' => e = .returned (.tuple #[]) ∧ u' = .returning ∧ w' = w.drew := by
  have hcd : w.drew.cell? ⟨rb, 0, none⟩ = some (.pointer (some ⟨g, 0, none⟩)) := hc
  refine callsD_of_wpS Try.func161 rfl fun c₀ cs hu => ?_
  refine wpS_draw3 (by kernel_rfl) rfl (by kernel_rfl) (by kernel_rfl) (by kernel_rfl) (by kernel_rfl) ?_ ?_
  all_goals
    simp [wpOpsS, go_sem, recoverD, hu, hcd, Try.ntmps161]
    refine (settle_none g w.drew).mono ?_
    rintro e w' ⟨rfl, rfl⟩
    cases c₀
    simp_all [bodyPostS, results, Try.results161]
theorem endBool_brk (rb g t : Nat) (p : Option Addr) (b o cap : Nat) (R : List Nat) (e0 f0 x : Nat) (w : World) (H : Rd w g t p b o cap R e0 f0) (hc : w.cell? ⟨rb, 0, none⟩ = some (.pointer (some ⟨g, 0, none⟩))) :
    CallsD Try.prog 161 #[.pointer (some ⟨rb, 0, none⟩)] (.panicking (brk x)) w fun e u' w' => e = .returned (.tuple #[]) ∧ u' = calm x ∧ RdX w' g t b [] x t ∧ Bex g w w' := by
  have hcd : w.drew.cell? ⟨rb, 0, none⟩ = some (.pointer (some ⟨g, 0, none⟩)) := hc
  refine callsD_of_wpS Try.func161 rfl fun c₀ cs hu => ?_
  unfold brk at hu
  have HS := (settle_brk H.drew x).mono (R' := fun e w' => e = .returned (.tuple #[]) ∧ Hid (RdX w' g t b [] x t ∧ Bex g w w')) (fun e w' ⟨h1, h2, h3⟩ => ⟨h1, hidp ⟨h2, ((Bex.refl g w).drew).bex h3⟩⟩)
  refine wpS_draw3 (by kernel_rfl) rfl (by kernel_rfl) (by kernel_rfl) (by kernel_rfl) (by kernel_rfl) ?_ ?_
  all_goals
    simp [wpOpsS, go_sem, recoverD, hu, hcd, Try.ntmps161]
    refine HS.mono ?_
    rintro e w' ⟨rfl, hh⟩
    refine ⟨rfl, calm x, ?_, ?_⟩
    · cases c₀; simp [calm]
    · exact ⟨.tuple #[], by simp [results, Try.results161], rfl, rfl, hh.out.1, hh.out.2⟩

end Go.Proofs.Ytlfmmmlheloloaa
