/-
  Contracts: what an element's read takes off a cursor.
-/
import Derived.Test.YtlfmmmlheloloaaJd
import Derived.Test.YtlfmmmlheloloaaJh
import Derived.Laws.IdiomStrings
namespace Go.Proofs.Ytlfmmmlheloloaa
open Go.RowKit Go.Lib Go.Maps

def strB (L : List Nat) : ByteArray := ⟨(L.map UInt8.ofNat).toArray⟩
theorem conv_at (w : World) (y : Addr) (c : Nat) (L : List Nat) (hb : ∀ x ∈ L, x < 256) (hc : ∀ j, j < L.length → w.cell? (y.add j) = some (.int .u8 (L.getD j 0 : Nat))) :
    (convert 32 9 (.slice (some y) L.length c)).run Try.prog w = .ok (.string (strB L)) w := by
  have q := run_convert_bytes_back (P := Try.prog) w 32 9 5 y c (L.map UInt8.ofNat) Try.underlying32 Try.underlying5 Try.underlying9 (fun j hj => by
    rw [List.length_map] at hj
    rw [hc j hj]
    have e : L.getD j 0 = L[j] := by rw [List.getD_eq_getElem?_getD, List.getElem?_eq_getElem hj]; rfl
    have hx := hb _ (List.getElem_mem hj)
    rw [e, List.getElem_map]
    congr 2
    rw [UInt8.toNat_ofNat', Nat.mod_eq_of_lt hx])
  rw [List.length_map] at q
  exact q
theorem conv_bs {w : World} {p : Option Addr} {b o cap : Nat} {L : List Nat} (h : Bs w p b o L cap) (c : Nat) :
    (convert 32 9 (.slice p L.length c)).run Try.prog w = .ok (.string (strB L)) w := by
  cases hp : p with
  | some y =>
    refine conv_at w y c L h.byte (fun j hj => ?_)
    obtain ⟨h1, _⟩ := h.ptr (by have := h.le; omega)
    rw [hp] at h1
    cases h1
    rw [Addr.add_mid]
    exact h.here j hj
  | none =>
    have hL : L = [] := by
      rcases Nat.eq_zero_or_pos cap with h0 | h0
      · exact List.eq_nil_of_length_eq_zero (by have := h.le; omega)
      · rw [hp] at h; exact absurd (h.ptr h0).1 (by simp)
    subst hL
    rw [run_convert_bytes_string w 32 9 5 none _ c Try.underlying32 Try.underlying5 Try.underlying9]
    simp [Conv.bytesToString]
    rfl
theorem textOf_any (p : Option Addr) (b o cap : Nat) (L : List Nat) (w : World) (h : Bs w p b o L cap) :
    Calls Try.prog 101 #[.slice p L.length cap] w fun e w' => e = .returned (.string (strB L)) ∧ w = w' := by
  have hc := conv_bs h cap
  clear h
  go_enter Try.func101, Try.ntmps101
  go_wp2
  go_ret
  exact ⟨rfl, rfl⟩
theorem paceOf_ok (p : Option Addr) (b o cap : Nat) (L : List Nat) (w : World) (h : Bs w p b o L cap) (h8 : L.length ≤ 8) (hf : formN (valL L) = valL L) :
    Calls Try.prog 120 #[.slice p L.length cap] w fun e w' => e = .returned (.float .f64 (valL L)) ∧ w = w' := by
  have hw := hidp (wordOf_any p b o cap L w h h8)
  have ho := hidp (Of_any (valL L) w)
  have e1 : ofV (valL L) = valL L := by unfold ofV; rw [if_pos hf]
  have e2 : ofE (valL L) = 0 := by unfold ofE; rw [if_pos hf]
  rw [e1, e2] at ho
  clear h h8 hf e1 e2
  go_enter Try.func120, Try.ntmps120
  go_wp2_with (first | (go_at_call 116; refine hw.out.mono ?_; rintro e w1 ⟨rfl, rfl⟩) | (go_at_call 160; refine ho.out.mono ?_; rintro e w1 ⟨rfl, rfl⟩))
  go_ret
  exact ⟨rfl, rfl⟩
theorem paceOf_bad (p : Option Addr) (b o cap : Nat) (L : List Nat) (w : World) (h : Bs w p b o L cap) (h8 : L.length ≤ 8) (hf : ¬ formN (valL L) = valL L) :
    Calls Try.prog 120 #[.slice p L.length cap] w fun e w' => e = .panicked (brk 5) ∧ w = w' := by
  have hw := hidp (wordOf_any p b o cap L w h h8)
  have ho := hidp (Of_any (valL L) w)
  have e2 : ofE (valL L) = 5 := by unfold ofE; rw [if_neg hf]
  rw [e2] at ho
  clear h h8 hf e2
  go_enter Try.func120, Try.ntmps120
  go_wp2_with (first | (go_at_call 116; refine hw.out.mono ?_; rintro e w1 ⟨rfl, rfl⟩) | (go_at_call 160; refine ho.out.mono ?_; rintro e w1 ⟨rfl, rfl⟩))
  exact ⟨rfl, rfl, rfl⟩

/-! Length. -/
def pLen (R : List Nat) (most : Int) : PR Nat := match pNum R with
  | .er x => .er x
  | .ok v n => if max most 0 < (v : Int) then .er 4 else .ok v n
theorem length_ok (c t : Nat) (p : Option Addr) (b o cap : Nat) (R : List Nat) (most : Int) (v n : Nat) (w : World) (H : Cu w c t p b o cap R) (hp : pLen R most = .ok v n) :
    Calls Try.prog 100 #[.pointer (some ⟨c, 0, none⟩), .int .i64 most] w fun e w' => e = .returned (.int .i64 (v : Nat)) ∧ CuX w' c (t + n) b (R.drop n) cap ∧ Bex c w w' := by
  unfold pLen at hp
  cases hn : pNum R with
  | er x => rw [hn] at hp; cases hp
  | ok v' n' =>
    rw [hn] at hp
    by_cases hm : max most 0 < (v' : Int)
    · simp only [hm, if_true] at hp; cases hp
    · simp only [hm, if_false] at hp
      cases hp
      have HN := hidp (number_ok c t p b o cap R v n w H hn)
      clear H hn
      by_cases hneg : most < 0
      · have hd : decide (0 < v) = false := decide_eq_false (by omega)
        clear hm
        go_enter Try.func100, Try.ntmps100
        go_wp2_with fail
        refine HN.out.mono ?_
        rintro e w1 ⟨rfl, hx, hb⟩
        have HX := hidp (And.intro hx hb)
        clear hx hb
        go_wp2
        go_ret
        exact ⟨rfl, HX.out⟩
      · have hd : decide (most < (v : Int)) = false := decide_eq_false (by omega)
        clear hm
        go_enter Try.func100, Try.ntmps100
        go_wp2_with fail
        refine HN.out.mono ?_
        rintro e w1 ⟨rfl, hx, hb⟩
        have HX := hidp (And.intro hx hb)
        clear hx hb
        go_wp2
        go_ret
        exact ⟨rfl, HX.out⟩
theorem length_er (c t : Nat) (p : Option Addr) (b o cap : Nat) (R : List Nat) (most : Int) (x : Nat) (w : World) (H : Cu w c t p b o cap R) (hp : pLen R most = .er x) :
    Calls Try.prog 100 #[.pointer (some ⟨c, 0, none⟩), .int .i64 most] w fun e w' => e = .panicked (brk x) ∧ Bex c w w' := by
  unfold pLen at hp
  cases hn : pNum R with
  | er x' =>
    rw [hn] at hp; cases hp
    have HN := hidp (number_er c t p b o cap R x w H hn)
    clear H hn
    go_enter Try.func100, Try.ntmps100
    go_wp2_with fail
    refine HN.out.mono ?_
    rintro e w1 ⟨rfl, hb⟩
    exact ⟨rfl, rfl, hb⟩
  | ok v' n' =>
    rw [hn] at hp
    by_cases hm : max most 0 < (v' : Int)
    · simp only [hm, if_true] at hp
      cases hp
      have HN := hidp (number_ok c t p b o cap R v' n' w H hn)
      clear H hn
      by_cases hneg : most < 0
      · have hd : decide (0 < v') = true := decide_eq_true (by omega)
        clear hm
        go_enter Try.func100, Try.ntmps100
        go_wp2_with fail
        refine HN.out.mono ?_
        rintro e w1 ⟨rfl, hx, hb⟩
        have HX := hidp (And.intro hx hb)
        clear hx hb
        go_wp2
        exact ⟨rfl, rfl, HX.out.2⟩
      · have hd : decide (most < (v' : Int)) = true := decide_eq_true (by omega)
        clear hm
        go_enter Try.func100, Try.ntmps100
        go_wp2_with fail
        refine HN.out.mono ?_
        rintro e w1 ⟨rfl, hx, hb⟩
        have HX := hidp (And.intro hx hb)
        clear hx hb
        go_wp2
        exact ⟨rfl, rfl, HX.out.2⟩
    · simp only [hm, if_false] at hp; cases hp

/-! A text. -/
def pText (R : List Nat) (most : Int) : PR (List Nat) := match pLen R most with
  | .er x => .er x
  | .ok v n => if R.length - n < v then .er 6 else .ok ((R.drop n).take v) (n + v)
theorem readText_ok (mb c t : Nat) (p : Option Addr) (b o cap : Nat) (R : List Nat) (most : Int) (T : List Nat) (n : Nat) (w : World) (H : Cu w c t p b o cap R) (hm : w.cell? ⟨mb, 0, none⟩ = some (.int .i64 most)) (hp : pText R most = .ok T n) :
    Calls Try.prog 98 #[.pointer (some ⟨c, 0, none⟩), .pointer (some ⟨mb, 0, none⟩)] w fun e w' => e = .returned (.string (strB T)) ∧ CuX w' c (t + n) b (R.drop n) cap ∧ Bex c w w' := by
  unfold pText at hp
  cases hn : pLen R most with
  | er x => rw [hn] at hp; cases hp
  | ok v n' =>
    rw [hn] at hp
    by_cases hl : R.length - n' < v
    · simp only [hl, if_true] at hp; cases hp
    · simp only [hl, if_false] at hp
      cases hp
      have HN := hidp (length_ok c t p b o cap R most v n' w H hn)
      have HL := hidp hl
      clear H hn hl
      go_enter Try.func98, Try.ntmps98
      go_wp2_with fail
      refine HN.out.mono ?_
      rintro e w1 ⟨rfl, ⟨p1, o1, cap1, hc1, hx⟩, hb⟩
      have HX := hidp hx
      have HB := hidp (And.intro hb hc1)
      clear hx hb hc1
      go_wp2_with fail
      refine takeText_ok c (t + n') p1 b o1 cap1 (R.drop n') v w1 HX.out (by have := HL.out; rw [List.length_drop]; omega) _ (fun w2 a1 a2 a3 => ?_)
      have hlen : ((R.drop n').take v).length = v := by have := HL.out; rw [List.length_take, List.length_drop]; omega
      have q := textOf_any p1 b o1 cap1 _ w2 a2
      rw [hlen] at q
      refine q.mono ?_
      rintro e w3 ⟨rfl, rfl⟩
      refine .inl ⟨_, rfl, ?_⟩
      have B1 := hidp a1
      have B3 := hidp (HB.out.1.trans a3)
      clear a1 a2 a3 q hlen
      go_wp2
      go_ret
      have hcu : Cu w2 c (t + (n' + v)) (partA p1 cap1 v) b (o1 + v) (cap1 - v) (R.drop (n' + v)) := by
        have := B1.out
        rw [List.drop_drop, Nat.add_assoc] at this
        exact this
      exact ⟨rfl, ⟨_, _, _, Nat.le_trans (Nat.sub_le _ _) HB.out.2, hcu⟩, B3.out⟩
theorem readText_er (mb c t : Nat) (p : Option Addr) (b o cap : Nat) (R : List Nat) (most : Int) (x : Nat) (w : World) (H : Cu w c t p b o cap R) (hm : w.cell? ⟨mb, 0, none⟩ = some (.int .i64 most)) (hp : pText R most = .er x) :
    Calls Try.prog 98 #[.pointer (some ⟨c, 0, none⟩), .pointer (some ⟨mb, 0, none⟩)] w fun e w' => e = .panicked (brk x) ∧ Bex c w w' := by
  unfold pText at hp
  cases hn : pLen R most with
  | er x' =>
    rw [hn] at hp; cases hp
    have HN := hidp (length_er c t p b o cap R most x w H hn)
    clear H hn
    go_enter Try.func98, Try.ntmps98
    go_wp2_with fail
    refine HN.out.mono ?_
    rintro e w1 ⟨rfl, hb⟩
    exact ⟨rfl, rfl, hb⟩
  | ok v n' =>
    rw [hn] at hp
    by_cases hl : R.length - n' < v
    · simp only [hl, if_true] at hp
      cases hp
      have HN := hidp (length_ok c t p b o cap R most v n' w H hn)
      have HL := hidp hl
      clear H hn hl
      go_enter Try.func98, Try.ntmps98
      go_wp2_with fail
      refine HN.out.mono ?_
      rintro e w1 ⟨rfl, ⟨p1, o1, cap1, hc1, hx⟩, hb⟩
      have HX := hidp hx
      have HB := hidp hb
      clear hx hb hc1
      go_wp2_with fail
      refine (takeText_short c (t + n') p1 b o1 cap1 (R.drop n') v w1 HX.out (by have := HL.out; rw [List.length_drop]; omega)).mono ?_
      rintro e w2 ⟨rfl, hB⟩
      exact ⟨rfl, rfl, HB.out.trans (Bex.of_below hB)⟩
    · simp only [hl, if_false] at hp; cases hp

/-! A word, a pace. -/
def pWord (R : List Nat) : PR Nat := if R.length < 8 then .er 6 else .ok (valL (R.take 8)) 8
theorem take8_len {R : List Nat} (h : ¬ R.length < 8) : (R.take 8).length = 8 := by rw [List.length_take]; omega
theorem readWord_ok (c t : Nat) (p : Option Addr) (b o cap : Nat) (R : List Nat) (v n : Nat) (w : World) (H : Cu w c t p b o cap R) (hp : pWord R = .ok v n) :
    Calls Try.prog 114 #[.pointer (some ⟨c, 0, none⟩)] w fun e w' => e = .returned (.int .u64 (v : Nat)) ∧ CuX w' c (t + n) b (R.drop n) cap ∧ Bex c w w' := by
  unfold pWord at hp
  by_cases hl : R.length < 8
  · rw [if_pos hl] at hp; cases hp
  rw [if_neg hl] at hp
  cases hp
  have HH := hidp H
  have HL := hidp hl
  clear H hl
  go_enter Try.func114, Try.ntmps114
  go_wp2_with fail
  refine takeWord_ok c t p b o cap R 8 w HH.out (by have := HL.out; omega) _ (fun w2 a1 a2 a3 => ?_)
  have q := wordOf_any p b o cap _ w2 a2 (by rw [take8_len HL.out]; omega)
  rw [take8_len HL.out] at q
  refine q.mono ?_
  rintro e w3 ⟨rfl, rfl⟩
  refine .inl ⟨_, rfl, ?_⟩
  have B1 := hidp a1
  have B3 := hidp a3
  clear a1 a2 a3 q
  go_wp2
  go_ret
  exact ⟨rfl, ⟨_, _, _, Nat.sub_le _ _, B1.out⟩, B3.out⟩
theorem readWord_er (c t : Nat) (p : Option Addr) (b o cap : Nat) (R : List Nat) (x : Nat) (w : World) (H : Cu w c t p b o cap R) (hp : pWord R = .er x) :
    Calls Try.prog 114 #[.pointer (some ⟨c, 0, none⟩)] w fun e w' => e = .panicked (brk x) ∧ Bex c w w' := by
  unfold pWord at hp
  by_cases hl : R.length < 8
  · rw [if_pos hl] at hp; cases hp
    have HH := hidp H
    clear H
    go_enter Try.func114, Try.ntmps114
    go_wp2_with fail
    refine (takeWord_short c t p b o cap R 8 w HH.out hl).mono ?_
    rintro e w2 ⟨rfl, hB⟩
    exact ⟨rfl, rfl, Bex.of_below hB⟩
  · rw [if_neg hl] at hp; cases hp
def pPace (R : List Nat) : PR Nat := if R.length < 8 then .er 6 else if formN (valL (R.take 8)) = valL (R.take 8) then .ok (valL (R.take 8)) 8 else .er 5
theorem readPace_ok (c t : Nat) (p : Option Addr) (b o cap : Nat) (R : List Nat) (v n : Nat) (w : World) (H : Cu w c t p b o cap R) (hp : pPace R = .ok v n) :
    Calls Try.prog 118 #[.pointer (some ⟨c, 0, none⟩)] w fun e w' => e = .returned (.float .f64 v) ∧ CuX w' c (t + n) b (R.drop n) cap ∧ Bex c w w' := by
  unfold pPace at hp
  by_cases hl : R.length < 8
  · rw [if_pos hl] at hp; cases hp
  rw [if_neg hl] at hp
  by_cases hf : formN (valL (R.take 8)) = valL (R.take 8)
  · rw [if_pos hf] at hp
    cases hp
    have HH := hidp H
    have HL := hidp hl
    have HF := hidp hf
    clear H hl hf
    go_enter Try.func118, Try.ntmps118
    go_wp2_with fail
    refine takePace_ok c t p b o cap R 8 w HH.out (by have := HL.out; omega) _ (fun w2 a1 a2 a3 => ?_)
    have q := paceOf_ok p b o cap _ w2 a2 (by rw [take8_len HL.out]; omega) HF.out
    rw [take8_len HL.out] at q
    refine q.mono ?_
    rintro e w3 ⟨rfl, rfl⟩
    refine .inl ⟨_, rfl, ?_⟩
    have B1 := hidp a1
    have B3 := hidp a3
    clear a1 a2 a3 q
    go_wp2
    go_ret
    exact ⟨rfl, ⟨_, _, _, Nat.sub_le _ _, B1.out⟩, B3.out⟩
  · rw [if_neg hf] at hp; cases hp
theorem readPace_er (c t : Nat) (p : Option Addr) (b o cap : Nat) (R : List Nat) (x : Nat) (w : World) (H : Cu w c t p b o cap R) (hp : pPace R = .er x) :
    Calls Try.prog 118 #[.pointer (some ⟨c, 0, none⟩)] w fun e w' => e = .panicked (brk x) ∧ Bex c w w' := by
  unfold pPace at hp
  have HH := hidp H
  by_cases hl : R.length < 8
  · rw [if_pos hl] at hp; cases hp
    clear H
    go_enter Try.func118, Try.ntmps118
    go_wp2_with fail
    refine (takePace_short c t p b o cap R 8 w HH.out hl).mono ?_
    rintro e w2 ⟨rfl, hB⟩
    exact ⟨rfl, rfl, Bex.of_below hB⟩
  rw [if_neg hl] at hp
  by_cases hf : formN (valL (R.take 8)) = valL (R.take 8)
  · rw [if_pos hf] at hp; cases hp
  · rw [if_neg hf] at hp; cases hp
    have HL := hidp hl
    have HF := hidp hf
    clear H hl hf
    go_enter Try.func118, Try.ntmps118
    go_wp2_with fail
    refine takePace_ok c t p b o cap R 8 w HH.out (by have := HL.out; omega) _ (fun w2 a1 a2 a3 => ?_)
    have q := paceOf_bad p b o cap _ w2 a2 (by rw [take8_len HL.out]; omega) HF.out
    rw [take8_len HL.out] at q
    refine q.mono ?_
    rintro e w3 ⟨rfl, rfl⟩
    exact .inr ⟨_, rfl, rfl, rfl, a3⟩

/-! A bool. -/
def pBool : List Nat → PR Bool
  | [] => .er 6
  | x :: _ => if 1 < x then .er 5 else .ok (decide (x = 1)) 1
theorem pBool_cons (x : Nat) (R : List Nat) : pBool (x :: R) = if 1 < x then .er 5 else .ok (decide (x = 1)) 1 := rfl
theorem readBool_ok (c t : Nat) (p : Option Addr) (b o cap : Nat) (R : List Nat) (v : Bool) (n : Nat) (w : World) (H : Cu w c t p b o cap R) (hp : pBool R = .ok v n) :
    Calls Try.prog 122 #[.pointer (some ⟨c, 0, none⟩)] w fun e w' => e = .returned (.bool v) ∧ CuX w' c (t + n) b (R.drop n) cap ∧ Bex c w w' := by
  match R, hp, H with
  | x :: R', hp, H =>
    rw [pBool_cons] at hp
    by_cases hl : 1 < x
    · rw [if_pos hl] at hp; cases hp
    rw [if_neg hl] at hp
    cases hp
    have HH := hidp H
    have HL := hidp hl
    clear H hl
    go_enter Try.func122, Try.ntmps122
    go_wp2_with fail
    refine takeBool_ok c t p b o cap (x :: R') 1 w HH.out (by simp) _ (fun w2 a1 a2 a3 => (boolOf_ok p b o cap x w2 a2 (by have := HL.out; omega)).mono ?_)
    rintro e w3 ⟨rfl, rfl⟩
    refine .inl ⟨_, rfl, ?_⟩
    have B1 := hidp a1
    have B3 := hidp a3
    clear a1 a2 a3
    go_wp2
    go_ret
    exact ⟨rfl, ⟨_, _, _, Nat.sub_le _ _, B1.out⟩, B3.out⟩
theorem readBool_er (c t : Nat) (p : Option Addr) (b o cap : Nat) (R : List Nat) (x : Nat) (w : World) (H : Cu w c t p b o cap R) (hp : pBool R = .er x) :
    Calls Try.prog 122 #[.pointer (some ⟨c, 0, none⟩)] w fun e w' => e = .panicked (brk x) ∧ Bex c w w' := by
  have HH := hidp H
  match R, hp, H, HH with
  | [], hp, H, HH =>
    cases hp
    clear H
    go_enter Try.func122, Try.ntmps122
    go_wp2_with fail
    refine (takeBool_short c t p b o cap [] 1 w HH.out (by simp)).mono ?_
    rintro e w2 ⟨rfl, hB⟩
    exact ⟨rfl, rfl, Bex.of_below hB⟩
  | y :: R', hp, H, HH =>
    rw [pBool_cons] at hp
    by_cases hl : 1 < y
    · rw [if_pos hl] at hp; cases hp
      have HL := hidp hl
      clear H hl
      go_enter Try.func122, Try.ntmps122
      go_wp2_with fail
      refine takeBool_ok c t p b o cap (y :: R') 1 w HH.out (by simp) _ (fun w2 a1 a2 a3 => (boolOf_bad p b o cap y w2 a2 HL.out).mono ?_)
      rintro e w3 ⟨rfl, rfl⟩
      exact .inr ⟨_, rfl, rfl, rfl, a3⟩
    · rw [if_neg hl] at hp; cases hp
end Go.Proofs.Ytlfmmmlheloloaa
