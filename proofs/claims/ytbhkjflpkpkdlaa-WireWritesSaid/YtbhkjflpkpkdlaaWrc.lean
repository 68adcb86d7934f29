/-
  WireReads: long; the walk.
-/
import Derived.Test.YtbhkjflpkpkdlaaWrb
import Derived.Test.YtbhkjflpkpkdlaaLk
import Derived.Test.YtbhkjflpkpkdlaaUj
import Derived.LoopN
namespace Go.Proofs.Ytbhkjflpkpkdlaa
open Go.RowKit Go.Lib
set_option linter.unusedSimpArgs false
set_option linter.unusedVariables false

def longT (l : List Tg) : Bool := (l.take 31).any (fun t => decide (300 < t.L.length)) || decide (30 < l.length)
theorem longT_no {l : List Tg} (h : longT l = false) : l.length ≤ 30 ∧ ∀ t ∈ l, t.L.length ≤ 300 := by
  unfold longT at h
  rw [Bool.or_eq_false_iff, decide_eq_false_iff_not, List.any_eq_false] at h
  refine ⟨by omega, fun t ht => ?_⟩
  have h1 := h.1 t (by rw [List.take_of_length_le (by omega)]; exact ht)
  simpa using h1
theorem TgS.c2 {w : World} {b o i : Nat} {t : Tg} (h : w.rangeAt b (o + i * 41) (tgL t)) : w.cell? ⟨b, o + i * 41 + 2, none⟩ = some (.slice t.p t.L.length t.cap) := h 2 _ rfl
set_option maxRecDepth 100000 in
set_option maxHeartbeats 2000000 in
theorem long_any (a : Option Addr) (b o cap : Nat) (l : List Tg) (w : World) (hT : TgS w a b o cap l) :
    Calls Try.prog 10 #[.slice a l.length cap] w fun e w' => e = .returned (.bool (longT l)) ∧ w' = w := by
  have HT := hidp hT
  obtain ⟨r, hr⟩ : ∃ r, r = longT l := ⟨_, rfl⟩
  rw [← hr]
  replace hr := hidp hr
  clear hT
  go_enter Try.func10, Try.ntmps10
  go_wp2_with fail
  go_loopw [3] (fun x wr => ∃ i : Nat, i ≤ l.length ∧ i ≤ 31 ∧ x = .int .i64 i ∧ wr = w ∧ Hid ((l.take i).any (fun t => decide (300 < t.L.length)) = false)) (fun x _ => 31 - (Go.RowKit.intOf x).toNat)
  case atStart => exact ⟨0, by omega, by omega, rfl, rfl, hidp (by simp)⟩
  case round =>
    obtain ⟨i, hi, hi31, rfl, rfl, hx⟩ := hrel
    have hiz : (0 : Int) ≤ (i : Int) := by omega
    by_cases hlt : i < l.length
    · have hlz : (i : Int) < (l.length : Int) := by omega
      by_cases h31 : i < 31
      · have h31z : (i : Int) < 31 := by omega
        obtain ⟨t, ht, htk, rfl, hrg⟩ := HT.out.at hlt
        have c2 := TgS.c2 hrg
        have HV := hidp ht
        have hadd := w64_nat (n := i) (by omega)
        have HI := hidp (And.intro hlt h31)
        clear ht htk hrg hi hi31
        by_cases hb : 300 < t.L.length
        · have tb : decide ((300 : Int) < (t.L.length : Int)) = true := decide_eq_true (by omega)
          have hR := hidp (show r = true by
            rw [hr.out]; unfold longT
            have : (l.take 31).any (fun t => decide (300 < t.L.length)) = true := List.any_eq_true.2 ⟨t, by
              obtain ⟨h1, rfl⟩ := List.getElem?_eq_some_iff.1 HV.out
              exact List.mem_take_iff_getElem.2 ⟨i, by omega, rfl⟩, decide_eq_true hb⟩
            rw [this]; rfl)
          clear hb hr hx
          go_wp2_with fail
          go_ret
          exact ⟨by rw [hR.out]; rfl, rfl⟩
        · have tb : decide ((300 : Int) < (t.L.length : Int)) = false := decide_eq_false (by omega)
          have hnx := hidp (show (l.take (i + 1)).any (fun t => decide (300 < t.L.length)) = false by
            obtain ⟨h1, e1⟩ := List.getElem?_eq_some_iff.1 HV.out
            rw [List.take_succ_eq_append_getElem h1, List.any_append, hx.out, e1]
            simp [hb])
          clear hb hx
          go_wp2_with fail
          try rw [hadd]
          exact ⟨⟨i + 1, by have := HI.out; omega, by have := HI.out; omega, rfl, by first | rfl | trivial, hnx⟩, by have := HI.out; show 31 - ((i + 1 : Nat) : Int).toNat < 31 - ((i : Nat) : Int).toNat; omega⟩
      · have h31z : ¬ ((i : Int) < 31) := by omega
        have tl : decide ((30 : Int) < (l.length : Int)) = true := decide_eq_true (by omega)
        have tl2 : decide (30 < l.length) = true := decide_eq_true (by omega)
        have hR := hidp (show r = true by rw [hr.out]; unfold longT; rw [tl2]; simp)
        obtain rfl : i = 31 := by omega
        clear hx hr hi31 hlt
        go_wp2_with fail
        go_ret
        exact ⟨by rw [hR.out]; first | rfl | (rw [tl2]) | simp [tl2], rfl⟩
    · obtain rfl : i = l.length := by omega
      have hR := hidp (show r = decide (30 < l.length) by rw [hr.out]; unfold longT; rw [List.take_of_length_le (by omega)]; have q := hx.out; rw [List.take_length] at q; rw [q]; rfl)
      have hlz : ¬ ((l.length : Int) < (l.length : Int)) := by omega
      have hcast : decide ((30 : Int) < (l.length : Int)) = decide (30 < l.length) := by rw [decide_eq_decide]; omega
      clear hx hr hlt hi
      go_wp2_with fail
      go_ret
      exact ⟨by rw [hR.out]; first | rfl | (rw [← hcast]; rfl), rfl⟩
end Go.Proofs.Ytbhkjflpkpkdlaa
