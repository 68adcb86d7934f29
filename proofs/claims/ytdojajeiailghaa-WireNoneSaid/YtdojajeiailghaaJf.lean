/-
  Contracts: what ends an element, for each type.
-/
import Derived.Test.YtdojajeiailghaaJe
namespace Go.Proofs.Ytdojajeiailghaa
open Go.RowKit Go.Lib Go.Maps

/-- The mode of a frame whose panic was recovered. -/
def calm (x : Nat) : FrameMode := .panicking [{ v := .iface 141 (.int .i64 (x : Nat)), recovered := true }]
theorem Rd.drew {w : World} {g t : Nat} {p : Option Addr} {b o cap : Nat} {R : List Nat} {e f : Nat} (H : Rd w g t p b o cap R e f) : Rd w.drew g t p b o cap R e f := ⟨H.blk.drew, ⟨H.bs.byte, H.bs.le, H.bs.ptr, H.bs.here⟩, H.ne, H.lim⟩

theorem endNum_none (rb g : Nat) (w : World) (hc : w.cell? ⟨rb, 0, none⟩ = some (.pointer (some ⟨g, 0, none⟩))) :
    CallsD Try.prog 113 #[.pointer (some ⟨rb, 0, none⟩)] .returning w fun e u' w' => e = .returned (.tuple #[]) ∧ u' = .returning ∧ w' = w.drew := by
  have hcd : w.drew.cell? ⟨rb, 0, none⟩ = some (.pointer (some ⟨g, 0, none⟩)) := hc
  refine callsD_of_wpS Try.func113 rfl fun c₀ cs hu => ?_
  refine wpS_draw3 (by kernel_rfl) rfl (by kernel_rfl) (by kernel_rfl) (by kernel_rfl) (by kernel_rfl) ?_ ?_
  all_goals
    simp [wpOpsS, go_sem, recoverD, hu, hcd, Try.ntmps113]
    refine (settle_none g w.drew).mono ?_
    rintro e w' ⟨rfl, rfl⟩
    cases c₀
    simp_all [bodyPostS, results, Try.results113]
theorem endNum_brk (rb g t : Nat) (p : Option Addr) (b o cap : Nat) (R : List Nat) (e0 f0 x : Nat) (w : World) (H : Rd w g t p b o cap R e0 f0) (hc : w.cell? ⟨rb, 0, none⟩ = some (.pointer (some ⟨g, 0, none⟩))) :
    CallsD Try.prog 113 #[.pointer (some ⟨rb, 0, none⟩)] (.panicking (brk x)) w fun e u' w' => e = .returned (.tuple #[]) ∧ u' = calm x ∧ RdX w' g t b [] x t ∧ Bex g w w' := by
  have hcd : w.drew.cell? ⟨rb, 0, none⟩ = some (.pointer (some ⟨g, 0, none⟩)) := hc
  refine callsD_of_wpS Try.func113 rfl fun c₀ cs hu => ?_
  unfold brk at hu
  have HS := (settle_brk H.drew x).mono (R' := fun e w' => e = .returned (.tuple #[]) ∧ Hid (RdX w' g t b [] x t ∧ Bex g w w')) (fun e w' ⟨h1, h2, h3⟩ => ⟨h1, hidp ⟨h2, ((Bex.refl g w).drew).bex h3⟩⟩)
  refine wpS_draw3 (by kernel_rfl) rfl (by kernel_rfl) (by kernel_rfl) (by kernel_rfl) (by kernel_rfl) ?_ ?_
  all_goals
    simp [wpOpsS, go_sem, recoverD, hu, hcd, Try.ntmps113]
    refine HS.mono ?_
    rintro e w' ⟨rfl, hh⟩
    refine ⟨rfl, calm x, ?_, ?_⟩
    · cases c₀; simp [calm]
    · exact ⟨.tuple #[], by simp [results, Try.results113], rfl, rfl, hh.out.1, hh.out.2⟩

theorem endText_none (rb g : Nat) (w : World) (hc : w.cell? ⟨rb, 0, none⟩ = some (.pointer (some ⟨g, 0, none⟩))) :
    CallsD Try.prog 118 #[.pointer (some ⟨rb, 0, none⟩)] .returning w fun e u' w' => e = .returned (.tuple #[]) ∧ u' = .returning ∧ w' = w.drew := by
  have hcd : w.drew.cell? ⟨rb, 0, none⟩ = some (.pointer (some ⟨g, 0, none⟩)) := hc
  refine callsD_of_wpS Try.func118 rfl fun c₀ cs hu => ?_
  refine wpS_draw3 (by kernel_rfl) rfl (by kernel_rfl) (by kernel_rfl) (by kernel_rfl) (by kernel_rfl) ?_ ?_
  all_goals
    simp [wpOpsS, go_sem, recoverD, hu, hcd, Try.ntmps118]
    refine (settle_none g w.drew).mono ?_
    rintro e w' ⟨rfl, rfl⟩
    cases c₀
    simp_all [bodyPostS, results, Try.results118]
theorem endText_brk (rb g t : Nat) (p : Option Addr) (b o cap : Nat) (R : List Nat) (e0 f0 x : Nat) (w : World) (H : Rd w g t p b o cap R e0 f0) (hc : w.cell? ⟨rb, 0, none⟩ = some (.pointer (some ⟨g, 0, none⟩))) :
    CallsD Try.prog 118 #[.pointer (some ⟨rb, 0, none⟩)] (.panicking (brk x)) w fun e u' w' => e = .returned (.tuple #[]) ∧ u' = calm x ∧ RdX w' g t b [] x t ∧ Bex g w w' := by
  have hcd : w.drew.cell? ⟨rb, 0, none⟩ = some (.pointer (some ⟨g, 0, none⟩)) := hc
  refine callsD_of_wpS Try.func118 rfl fun c₀ cs hu => ?_
  unfold brk at hu
  have HS := (settle_brk H.drew x).mono (R' := fun e w' => e = .returned (.tuple #[]) ∧ Hid (RdX w' g t b [] x t ∧ Bex g w w')) (fun e w' ⟨h1, h2, h3⟩ => ⟨h1, hidp ⟨h2, ((Bex.refl g w).drew).bex h3⟩⟩)
  refine wpS_draw3 (by kernel_rfl) rfl (by kernel_rfl) (by kernel_rfl) (by kernel_rfl) (by kernel_rfl) ?_ ?_
  all_goals
    simp [wpOpsS, go_sem, recoverD, hu, hcd, Try.ntmps118]
    refine HS.mono ?_
    rintro e w' ⟨rfl, hh⟩
    refine ⟨rfl, calm x, ?_, ?_⟩
    · cases c₀; simp [calm]
    · exact ⟨.tuple #[], by simp [results, Try.results118], rfl, rfl, hh.out.1, hh.out.2⟩

theorem endBytes_none (rb g : Nat) (w : World) (hc : w.cell? ⟨rb, 0, none⟩ = some (.pointer (some ⟨g, 0, none⟩))) :
    CallsD Try.prog 119 #[.pointer (some ⟨rb, 0, none⟩)] .returning w fun e u' w' => e = .returned (.tuple #[]) ∧ u' = .returning ∧ w' = w.drew := by
  have hcd : w.drew.cell? ⟨rb, 0, none⟩ = some (.pointer (some ⟨g, 0, none⟩)) := hc
  refine callsD_of_wpS Try.func119 rfl fun c₀ cs hu => ?_
  refine wpS_draw3 (by kernel_rfl) rfl (by kernel_rfl) (by kernel_rfl) (by kernel_rfl) (by kernel_rfl) ?_ ?_
  all_goals
    simp [wpOpsS, go_sem, recoverD, hu, hcd, Try.ntmps119]
    refine (settle_none g w.drew).mono ?_
    rintro e w' ⟨rfl, rfl⟩
    cases c₀
    simp_all [bodyPostS, results, Try.results119]
theorem endBytes_brk (rb g t : Nat) (p : Option Addr) (b o cap : Nat) (R : List Nat) (e0 f0 x : Nat) (w : World) (H : Rd w g t p b o cap R e0 f0) (hc : w.cell? ⟨rb, 0, none⟩ = some (.pointer (some ⟨g, 0, none⟩))) :
    CallsD Try.prog 119 #[.pointer (some ⟨rb, 0, none⟩)] (.panicking (brk x)) w fun e u' w' => e = .returned (.tuple #[]) ∧ u' = calm x ∧ RdX w' g t b [] x t ∧ Bex g w w' := by
  have hcd : w.drew.cell? ⟨rb, 0, none⟩ = some (.pointer (some ⟨g, 0, none⟩)) := hc
  refine callsD_of_wpS Try.func119 rfl fun c₀ cs hu => ?_
  unfold brk at hu
  have HS := (settle_brk H.drew x).mono (R' := fun e w' => e = .returned (.tuple #[]) ∧ Hid (RdX w' g t b [] x t ∧ Bex g w w')) (fun e w' ⟨h1, h2, h3⟩ => ⟨h1, hidp ⟨h2, ((Bex.refl g w).drew).bex h3⟩⟩)
  refine wpS_draw3 (by kernel_rfl) rfl (by kernel_rfl) (by kernel_rfl) (by kernel_rfl) (by kernel_rfl) ?_ ?_
  all_goals
    simp [wpOpsS, go_sem, recoverD, hu, hcd, Try.ntmps119]
    refine HS.mono ?_
    rintro e w' ⟨rfl, hh⟩
    refine ⟨rfl, calm x, ?_, ?_⟩
    · cases c₀; simp [calm]
    · exact ⟨.tuple #[], by simp [results, Try.results119], rfl, rfl, hh.out.1, hh.out.2⟩

theorem endHash_none (rb g : Nat) (w : World) (hc : w.cell? ⟨rb, 0, none⟩ = some (.pointer (some ⟨g, 0, none⟩))) :
    CallsD Try.prog 120 #[.pointer (some ⟨rb, 0, none⟩)] .returning w fun e u' w' => e = .returned (.tuple #[]) ∧ u' = .returning ∧ w' = w.drew := by
  have hcd : w.drew.cell? ⟨rb, 0, none⟩ = some (.pointer (some ⟨g, 0, none⟩)) := hc
  refine callsD_of_wpS Try.func120 rfl fun c₀ cs hu => ?_
  refine wpS_draw3 (by kernel_rfl) rfl (by kernel_rfl) (by kernel_rfl) (by kernel_rfl) (by kernel_rfl) ?_ ?_
  all_goals
    simp [wpOpsS, go_sem, recoverD, hu, hcd, Try.ntmps120]
    refine (settle_none g w.drew).mono ?_
    rintro e w' ⟨rfl, rfl⟩
    cases c₀
    simp_all [bodyPostS, results, Try.results120]
theorem endHash_brk (rb g t : Nat) (p : Option Addr) (b o cap : Nat) (R : List Nat) (e0 f0 x : Nat) (w : World) (H : Rd w g t p b o cap R e0 f0) (hc : w.cell? ⟨rb, 0, none⟩ = some (.pointer (some ⟨g, 0, none⟩))) :
    CallsD Try.prog 120 #[.pointer (some ⟨rb, 0, none⟩)] (.panicking (brk x)) w fun e u' w' => e = .returned (.tuple #[]) ∧ u' = calm x ∧ RdX w' g t b [] x t ∧ Bex g w w' := by
  have hcd : w.drew.cell? ⟨rb, 0, none⟩ = some (.pointer (some ⟨g, 0, none⟩)) := hc
  refine callsD_of_wpS Try.func120 rfl fun c₀ cs hu => ?_
  unfold brk at hu
  have HS := (settle_brk H.drew x).mono (R' := fun e w' => e = .returned (.tuple #[]) ∧ Hid (RdX w' g t b [] x t ∧ Bex g w w')) (fun e w' ⟨h1, h2, h3⟩ => ⟨h1, hidp ⟨h2, ((Bex.refl g w).drew).bex h3⟩⟩)
  refine wpS_draw3 (by kernel_rfl) rfl (by kernel_rfl) (by kernel_rfl) (by kernel_rfl) (by kernel_rfl) ?_ ?_
  all_goals
    simp [wpOpsS, go_sem, recoverD, hu, hcd, Try.ntmps120]
    refine HS.mono ?_
    rintro e w' ⟨rfl, hh⟩
    refine ⟨rfl, calm x, ?_, ?_⟩
    · cases c₀; simp [calm]
    · exact ⟨.tuple #[], by simp [results, Try.results120], rfl, rfl, hh.out.1, hh.out.2⟩

theorem endKey_none (rb g : Nat) (w : World) (hc : w.cell? ⟨rb, 0, none⟩ = some (.pointer (some ⟨g, 0, none⟩))) :
    CallsD Try.prog 121 #[.pointer (some ⟨rb, 0, none⟩)] .returning w fun e u' w' => e = .returned (.tuple #[]) ∧ u' = .returning ∧ w' = w.drew := by
  have hcd : w.drew.cell? ⟨rb, 0, none⟩ = some (.pointer (some ⟨g, 0, none⟩)) := hc
  refine callsD_of_wpS Try.func121 rfl fun c₀ cs hu => ?_
  refine wpS_draw3 (by kernel_rfl) rfl (by kernel_rfl) (by kernel_rfl) (by kernel_rfl) (by kernel_rfl) ?_ ?_
  all_goals
    simp [wpOpsS, go_sem, recoverD, hu, hcd, Try.ntmps121]
    refine (settle_none g w.drew).mono ?_
    rintro e w' ⟨rfl, rfl⟩
    cases c₀
    simp_all [bodyPostS, results, Try.results121]
theorem endKey_brk (rb g t : Nat) (p : Option Addr) (b o cap : Nat) (R : List Nat) (e0 f0 x : Nat) (w : World) (H : Rd w g t p b o cap R e0 f0) (hc : w.cell? ⟨rb, 0, none⟩ = some (.pointer (some ⟨g, 0, none⟩))) :
    CallsD Try.prog 121 #[.pointer (some ⟨rb, 0, none⟩)] (.panicking (brk x)) w fun e u' w' => e = .returned (.tuple #[]) ∧ u' = calm x ∧ RdX w' g t b [] x t ∧ Bex g w w' := by
  have hcd : w.drew.cell? ⟨rb, 0, none⟩ = some (.pointer (some ⟨g, 0, none⟩)) := hc
  refine callsD_of_wpS Try.func121 rfl fun c₀ cs hu => ?_
  unfold brk at hu
  have HS := (settle_brk H.drew x).mono (R' := fun e w' => e = .returned (.tuple #[]) ∧ Hid (RdX w' g t b [] x t ∧ Bex g w w')) (fun e w' ⟨h1, h2, h3⟩ => ⟨h1, hidp ⟨h2, ((Bex.refl g w).drew).bex h3⟩⟩)
  refine wpS_draw3 (by kernel_rfl) rfl (by kernel_rfl) (by kernel_rfl) (by kernel_rfl) (by kernel_rfl) ?_ ?_
  all_goals
    simp [wpOpsS, go_sem, recoverD, hu, hcd, Try.ntmps121]
    refine HS.mono ?_
    rintro e w' ⟨rfl, hh⟩
    refine ⟨rfl, calm x, ?_, ?_⟩
    · cases c₀; simp [calm]
    · exact ⟨.tuple #[], by simp [results, Try.results121], rfl, rfl, hh.out.1, hh.out.2⟩

theorem endWord_none (rb g : Nat) (w : World) (hc : w.cell? ⟨rb, 0, none⟩ = some (.pointer (some ⟨g, 0, none⟩))) :
    CallsD Try.prog 122 #[.pointer (some ⟨rb, 0, none⟩)] .returning w fun e u' w' => e = .returned (.tuple #[]) ∧ u' = .returning ∧ w' = w.drew := by
  have hcd : w.drew.cell? ⟨rb, 0, none⟩ = some (.pointer (some ⟨g, 0, none⟩)) := hc
  refine callsD_of_wpS Try.func122 rfl fun c₀ cs hu => ?_
  refine wpS_draw3 (by kernel_rfl) rfl (by kernel_rfl) (by kernel_rfl) (by kernel_rfl) (by kernel_rfl) ?_ ?_
  all_goals
    simp [wpOpsS, go_sem, recoverD, hu, hcd, Try.ntmps122]
    refine (settle_none g w.drew).mono ?_
    rintro e w' ⟨rfl, rfl⟩
    cases c₀
    simp_all [bodyPostS, results, Try.results122]
theorem endWord_brk (rb g t : Nat) (p : Option Addr) (b o cap : Nat) (R : List Nat) (e0 f0 x : Nat) (w : World) (H : Rd w g t p b o cap R e0 f0) (hc : w.cell? ⟨rb, 0, none⟩ = some (.pointer (some ⟨g, 0, none⟩))) :
    CallsD Try.prog 122 #[.pointer (some ⟨rb, 0, none⟩)] (.panicking (brk x)) w fun e u' w' => e = .returned (.tuple #[]) ∧ u' = calm x ∧ RdX w' g t b [] x t ∧ Bex g w w' := by
  have hcd : w.drew.cell? ⟨rb, 0, none⟩ = some (.pointer (some ⟨g, 0, none⟩)) := hc
  refine callsD_of_wpS Try.func122 rfl fun c₀ cs hu => ?_
  unfold brk at hu
  have HS := (settle_brk H.drew x).mono (R' := fun e w' => e = .returned (.tuple #[]) ∧ Hid (RdX w' g t b [] x t ∧ Bex g w w')) (fun e w' ⟨h1, h2, h3⟩ => ⟨h1, hidp ⟨h2, ((Bex.refl g w).drew).bex h3⟩⟩)
  refine wpS_draw3 (by kernel_rfl) rfl (by kernel_rfl) (by kernel_rfl) (by kernel_rfl) (by kernel_rfl) ?_ ?_
  all_goals
    simp [wpOpsS, go_sem, recoverD, hu, hcd, Try.ntmps122]
    refine HS.mono ?_
    rintro e w' ⟨rfl, hh⟩
    refine ⟨rfl, calm x, ?_, ?_⟩
    · cases c₀; simp [calm]
    · exact ⟨.tuple #[], by simp [results, Try.results122], rfl, rfl, hh.out.1, hh.out.2⟩

theorem endPace_none (rb g : Nat) (w : World) (hc : w.cell? ⟨rb, 0, none⟩ = some (.pointer (some ⟨g, 0, none⟩))) :
    CallsD Try.prog 123 #[.pointer (some ⟨rb, 0, none⟩)] .returning w fun e u' w' => e = .returned (.tuple #[]) ∧ u' = .returning ∧ w' = w.drew := by
  have hcd : w.drew.cell? ⟨rb, 0, none⟩ = some (.pointer (some ⟨g, 0, none⟩)) := hc
  refine callsD_of_wpS Try.func123 rfl fun c₀ cs hu => ?_
  refine wpS_draw3 (by kernel_rfl) rfl (by kernel_rfl) (by kernel_rfl) (by kernel_rfl) (by kernel_rfl) ?_ ?_
  all_goals
    simp [wpOpsS, go_sem, recoverD, hu, hcd, Try.ntmps123]
    refine (settle_none g w.drew).mono ?_
    rintro e w' ⟨rfl, rfl⟩
    cases c₀
    simp_all [bodyPostS, results, Try.results123]
theorem endPace_brk (rb g t : Nat) (p : Option Addr) (b o cap : Nat) (R : List Nat) (e0 f0 x : Nat) (w : World) (H : Rd w g t p b o cap R e0 f0) (hc : w.cell? ⟨rb, 0, none⟩ = some (.pointer (some ⟨g, 0, none⟩))) :
    CallsD Try.prog 123 #[.pointer (some ⟨rb, 0, none⟩)] (.panicking (brk x)) w fun e u' w' => e = .returned (.tuple #[]) ∧ u' = calm x ∧ RdX w' g t b [] x t ∧ Bex g w w' := by
  have hcd : w.drew.cell? ⟨rb, 0, none⟩ = some (.pointer (some ⟨g, 0, none⟩)) := hc
  refine callsD_of_wpS Try.func123 rfl fun c₀ cs hu => ?_
  unfold brk at hu
  have HS := (settle_brk H.drew x).mono (R' := fun e w' => e = .returned (.tuple #[]) ∧ Hid (RdX w' g t b [] x t ∧ Bex g w w')) (fun e w' ⟨h1, h2, h3⟩ => ⟨h1, hidp ⟨h2, ((Bex.refl g w).drew).bex h3⟩⟩)
  refine wpS_draw3 (by kernel_rfl) rfl (by kernel_rfl) (by kernel_rfl) (by kernel_rfl) (by kernel_rfl) ?_ ?_
  all_goals
    simp [wpOpsS, go_sem, recoverD, hu, hcd, Try.ntmps123]
    refine HS.mono ?_
    rintro e w' ⟨rfl, hh⟩
    refine ⟨rfl, calm x, ?_, ?_⟩
    · cases c₀; simp [calm]
    · exact ⟨.tuple #[], by simp [results, Try.results123], rfl, rfl, hh.out.1, hh.out.2⟩

theorem endBool_none (rb g : Nat) (w : World) (hc : w.cell? ⟨rb, 0, none⟩ = some (.pointer (some ⟨g, 0, none⟩))) :
    CallsD Try.prog 125 #[.pointer (some ⟨rb, 0, none⟩)] .returning w fun e u' w' => e = .returned (.tuple #[]) ∧ u' = .returning ∧ w' = w.drew := by
  have hcd : w.drew.cell? ⟨rb, 0, none⟩ = some (.pointer (some ⟨g, 0, none⟩)) := hc
  refine callsD_of_wpS Try.func125 rfl fun c₀ cs hu => ?_
  refine wpS_draw3 (by kernel_rfl) rfl (by kernel_rfl) (by kernel_rfl) (by kernel_rfl) (by kernel_rfl) ?_ ?_
  all_goals
    simp [wpOpsS, go_sem, recoverD, hu, hcd, Try.ntmps125]
    refine (settle_none g w.drew).mono ?_
    rintro e w' ⟨rfl, rfl⟩
    cases c₀
    simp_all [bodyPostS, results, Try.results125]
theorem endBool_brk (rb g t : Nat) (p : Option Addr) (b o cap : Nat) (R : List Nat) (e0 f0 x : Nat) (w : World) (H : Rd w g t p b o cap R e0 f0) (hc : w.cell? ⟨rb, 0, none⟩ = some (.pointer (some ⟨g, 0, none⟩))) :
    CallsD Try.prog 125 #[.pointer (some ⟨rb, 0, none⟩)] (.panicking (brk x)) w fun e u' w' => e = .returned (.tuple #[]) ∧ u' = calm x ∧ RdX w' g t b [] x t ∧ Bex g w w' := by
  have hcd : w.drew.cell? ⟨rb, 0, none⟩ = some (.pointer (some ⟨g, 0, none⟩)) := hc
  refine callsD_of_wpS Try.func125 rfl fun c₀ cs hu => ?_
  unfold brk at hu
  have HS := (settle_brk H.drew x).mono (R' := fun e w' => e = .returned (.tuple #[]) ∧ Hid (RdX w' g t b [] x t ∧ Bex g w w')) (fun e w' ⟨h1, h2, h3⟩ => ⟨h1, hidp ⟨h2, ((Bex.refl g w).drew).bex h3⟩⟩)
  refine wpS_draw3 (by kernel_rfl) rfl (by kernel_rfl) (by kernel_rfl) (by kernel_rfl) (by kernel_rfl) ?_ ?_
  all_goals
    simp [wpOpsS, go_sem, recoverD, hu, hcd, Try.ntmps125]
    refine HS.mono ?_
    rintro e w' ⟨rfl, hh⟩
    refine ⟨rfl, calm x, ?_, ?_⟩
    · cases c₀; simp [calm]
    · exact ⟨.tuple #[], by simp [results, Try.results125], rfl, rfl, hh.out.1, hh.out.2⟩

end Go.Proofs.Ytdojajeiailghaa
