/-
  Header: which text is a name; what Check tells.
-/
import Derived.Test.YtdiklimikkplcaaQe
import Derived.Laws.RangeAny
namespace Go.Proofs.Ytdiklimikkplcaa
open Go.RowKit Go.Lib

/-- A byte that a name may have. -/
def nmb (x : Nat) : Bool := decide (97 ≤ x ∧ x ≤ 122 ∨ 48 ≤ x ∧ x ≤ 57 ∨ x = 45)
/-- A text that is a name. -/
def nmA (s : ByteArray) : Bool := (strL s).all nmb
def nmS (s : ByteArray) : Bool := decide (1 ≤ s.size) && (decide (s.size ≤ 32) && nmA s)

set_option maxRecDepth 100000 in
theorem inName_any (x : Nat) (w : World) :
    Calls Try.prog 109 #[.int .i32 x] w fun e w' => e = .returned (.bool (nmb x)) ∧ w' = w := by
  have key : ∀ r : Bool, r = nmb x → (Calls Try.prog 109 #[.int .i32 x] w fun e w' => e = .returned (.bool r) ∧ w' = w) → Calls Try.prog 109 #[.int .i32 x] w fun e w' => e = .returned (.bool (nmb x)) ∧ w' = w := fun r h q => h ▸ q
  by_cases h1 : (97 : Int) ≤ (x : Int) <;> by_cases h2 : (x : Int) ≤ 122 <;> by_cases h3 : (48 : Int) ≤ (x : Int) <;> by_cases h4 : (x : Int) ≤ 57 <;> cases h5 : ((x : Int) == 45) <;> first
    | (exfalso; omega)
    | (exfalso; rw [beq_iff_eq] at h5; omega)
    | (refine key true (by unfold nmb; symm; apply decide_eq_true; first | omega | (rw [beq_iff_eq] at h5; omega)) ?_
       clear key
       go_enter Try.func109, Try.ntmps109
       go_wp2
       go_ret
       exact ⟨rfl, rfl⟩)
    | (refine key false (by unfold nmb; symm; apply decide_eq_false; rw [beq_eq_false_iff_ne] at h5; omega) ?_
       clear key
       go_enter Try.func109, Try.ntmps109
       go_wp2
       go_ret
       exact ⟨rfl, rfl⟩)
theorem decode_bnd (s : ByteArray) (pos : Nat) (h : pos < s.size) : (nmb (Utf8.decode s pos).1 = true → Utf8.decode s pos = ((s[pos]'h).toNat, 1)) ∧ nmb (s[pos]'h).toNat = nmb (Utf8.decode s pos).1 := by
  by_cases ha : (s[pos]'h).toNat < 128
  · rw [decode_ascii s pos h ha]; exact ⟨fun _ => rfl, rfl⟩
  · have q := decode_high s pos h (by omega)
    have e1 : nmb (Utf8.decode s pos).1 = false := by unfold nmb; apply decide_eq_false; omega
    have e2 : nmb (s[pos]'h).toNat = false := by unfold nmb; apply decide_eq_false; omega
    rw [e1, e2]
    exact ⟨fun h => by simp at h, rfl⟩
theorem strL_drop (s : ByteArray) (pos : Nat) (h : pos < s.size) : (strL s).drop pos = (s[pos]'h).toNat :: (strL s).drop (pos + 1) := by
  have hl : pos < (strL s).length := by rw [strL_len]; exact h
  rw [List.drop_eq_getElem_cons hl]
  congr 1
  show (s.data.toList.map (·.toNat))[pos]'(by rw [List.length_map]; exact h) = _
  rw [List.getElem_map]
  rfl
set_option maxRecDepth 100000 in
theorem only_any (s : ByteArray) (w : World) :
    Calls Try.prog 108 #[.string s, .func (.func 109) #[] #[]] w fun e w' => e = .returned (.bool (nmA s)) ∧ Below w.heap.size w w' := by
  go_enter Try.func108, Try.ntmps108
  go_wp2
  go_loopw [] (fun w' => ∃ pos : Nat, w' = w.iter s pos ∧ pos ≤ s.size ∧ nmA s = ((strL s).drop pos).all nmb) (fun w' => s.size - w'.iterPos w.heap.size)
  case atStart => exact ⟨0, rfl, Nat.zero_le _, rfl⟩
  case round =>
    obtain ⟨pos, rfl, hle, hc⟩ := hrel
    have hB := hidp (fun p => (Below.refl w.heap.size w).alloc (Nat.le_refl _) (.stringIter s p))
    by_cases hp : pos < s.size
    · have hnx : ∀ ty, (Instr.next (.pointer (some ⟨w.heap.size, 0, none⟩)) true ty).run Try.prog (w.iter s pos) = _ := fun ty => run_next_any w s pos ty hp
      obtain ⟨k1, k2⟩ := decode_bnd s pos hp
      have hd := strL_drop s pos hp
      obtain ⟨r, hr⟩ : ∃ r, r = (Utf8.decode s pos).1 := ⟨_, rfl⟩
      obtain ⟨n, hn⟩ : ∃ n, n = (Utf8.decode s pos).2 := ⟨_, rfl⟩
      rw [← hr] at k1 k2
      simp only [← hr, ← hn] at hnx
      have k1' := hidp k1
      have k2' := hidp k2
      have hd' := hidp hd
      have hc' := hidp hc
      have hrr := hidp hr
      have hnn := hidp hn
      clear k1 k2 hd hc hr hn
      go_wp2_with fail
      refine (inName_any r _).mono ?_
      rintro e w1 ⟨rfl, rfl⟩
      cases hb : nmb r
      · go_wp2
        go_ret
        refine ⟨ret_bool ?_, hB.out _⟩
        rw [hc'.out, hd'.out, List.all_cons, k2'.out, hb, Bool.false_and]
      · have e1 := k1'.out hb
        go_wp2
        go_roundw
        case rel =>
          have e2 : n = 1 := by rw [hnn.out, e1]
          refine ⟨pos + n, rfl, by omega, ?_⟩
          rw [hc'.out, hd'.out, List.all_cons, k2'.out, hb, Bool.true_and, e2]
        case measure =>
          have e2 : n = 1 := by rw [hnn.out, e1]
          simp
          omega
    · have hnx : ∀ ty, (Instr.next (.pointer (some ⟨w.heap.size, 0, none⟩)) true ty).run Try.prog (w.iter s pos) = _ := fun ty => run_next_end w s pos ty hp
      have e3 : (strL s).drop pos = [] := List.drop_eq_nil_of_le (by rw [strL_len]; omega)
      rw [e3] at hc
      have hc' := hidp hc
      clear hc e3
      go_wp2
      go_ret
      exact ⟨ret_bool hc'.out.symm, hB.out _⟩
set_option maxRecDepth 100000 in
theorem name_any (s : ByteArray) (w : World) :
    Calls Try.prog 47 #[.string s] w fun e w' => e = .returned (.bool (nmS s)) ∧ Below w.heap.size w w' := by
  obtain ⟨a, ha⟩ : ∃ a, a = nmA s := ⟨_, rfl⟩
  have HO := only_any s w
  rw [← ha] at HO
  have HO := hidp HO
  by_cases h1 : (1 : Int) ≤ (s.size : Int)
  · by_cases h2 : (s.size : Int) ≤ 32
    · have e : nmS s = a := by unfold nmS; rw [decide_eq_true (by omega), decide_eq_true (by omega), ← ha]; rfl
      rw [e]
      clear ha e
      go_enter Try.func47, Try.ntmps47
      go_wp2_with (go_at_call 108; refine HO.out.mono ?_; rintro e w1 ⟨rfl, hB⟩; have hBB := hidp hB; clear hB)
      go_ret
      exact ⟨rfl, hBB.out⟩
    · have e : nmS s = false := by unfold nmS; rw [decide_eq_true (by omega), decide_eq_false (by omega)]; rfl
      rw [e]
      clear ha e HO
      go_enter Try.func47, Try.ntmps47
      go_wp2
      go_ret
      exact ⟨rfl, Below.refl _ _⟩
  · have e : nmS s = false := by unfold nmS; rw [decide_eq_false (by omega)]; rfl
    rw [e]
    clear ha e HO
    go_enter Try.func47, Try.ntmps47
    go_wp2
    go_ret
    exact ⟨rfl, Below.refl _ _⟩
end Go.Proofs.Ytdiklimikkplcaa
