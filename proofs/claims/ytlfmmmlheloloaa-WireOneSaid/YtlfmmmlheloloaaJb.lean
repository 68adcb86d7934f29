/-
  Contracts of what is made of bytes: wordOf, leadOf, numOf, boolOf.
-/
import Derived.Test.YtlfmmmlheloloaaJa
namespace Go.Proofs.Ytlfmmmlheloloaa
open Go.RowKit Go.Lib Go.Maps

/-- The number of bytes, the highest first. -/
def valL (L : List Nat) : Nat := L.foldl (fun n d => n * 256 + d) 0
theorem valL_snoc (L : List Nat) (d : Nat) : valL (L ++ [d]) = valL L * 256 + d := by unfold valL; rw [List.foldl_append]; rfl
theorem valL_lt {L : List Nat} (h : ∀ x ∈ L, x < 256) : valL L < 256 ^ L.length := by
  have key : ∀ (L : List Nat) (n m : Nat), (∀ x ∈ L, x < 256) → n < 256 ^ m → L.foldl (fun n d => n * 256 + d) n < 256 ^ (m + L.length) := by
    intro L
    induction L with
    | nil => intro n m _ h; simpa using h
    | cons a L ih =>
      intro n m hb h
      have ha := hb a (by simp)
      rw [List.foldl_cons, List.length_cons, show m + (L.length + 1) = (m + 1) + L.length by omega]
      refine ih _ _ (fun x hx => hb x (by simp [hx])) ?_
      rw [Nat.pow_succ]; omega
  have := key L 0 0 h (by simp)
  rw [Nat.zero_add] at this
  exact this
theorem take_succ_get {L : List Nat} {k : Nat} (h : k < L.length) : L.take (k + 1) = L.take k ++ [L.getD k 0] := by
  rw [List.take_add_one, List.getElem?_eq_getElem h, List.getD_eq_getElem?_getD, List.getElem?_eq_getElem h]
  rfl
theorem valL_step {L : List Nat} {k : Nat} (h : k < L.length) : valL (L.take (k + 1)) = valL (L.take k) * 256 + L.getD k 0 := by rw [take_succ_get h, valL_snoc]
theorem valL_take_lt {L : List Nat} (h : ∀ x ∈ L, x < 256) {k : Nat} (hk : k < L.length) (h8 : L.length ≤ 8) : valL (L.take k) < 72057594037927936 := by
  have h1 := valL_lt (L := L.take k) (fun x hx => h x (List.mem_of_mem_take hx))
  have h2 : (L.take k).length ≤ 7 := by rw [List.length_take]; omega
  have h3 : 256 ^ (L.take k).length ≤ 256 ^ 7 := Nat.pow_le_pow_right (by decide) h2
  omega
theorem valL_word {L : List Nat} (h : ∀ x ∈ L, x < 256) (h8 : L.length ≤ 8) : valL L < 18446744073709551616 := by
  have h1 := valL_lt h
  have h3 : 256 ^ L.length ≤ 256 ^ 8 := Nat.pow_le_pow_right (by decide) h8
  omega

/-- Bytes lie in memory behind a slice. -/
structure Bs (w : World) (p : Option Addr) (b o : Nat) (L : List Nat) (cap : Nat) : Prop where
  byte : ∀ x ∈ L, x < 256
  le : L.length ≤ cap
  ptr : 0 < cap → p = some ⟨b, o, none⟩ ∧ b < w.heap.size
  here : BytesAt w b o L
theorem Bs.below {w w' : World} {p : Option Addr} {b o cap : Nat} {L : List Nat} (h : Bs w p b o L cap) (hB : Below w.heap.size w w') : Bs w' p b o L cap :=
  ⟨h.byte, h.le, fun h0 => ⟨(h.ptr h0).1, Nat.lt_of_lt_of_le (h.ptr h0).2 hB.size⟩, fun i hi => (hB.cell (p := ⟨b, o + i, none⟩) (h.ptr (by have := h.le; omega)).2).trans (h.here i hi)⟩
theorem Bs.drewN {w : World} {p : Option Addr} {b o cap : Nat} {L : List Nat} (h : Bs w p b o L cap) (n : Nat) : Bs (w.drewN n) p b o L cap := ⟨h.byte, h.le, h.ptr, h.here⟩
theorem Bs.cell {w : World} {p : Option Addr} {b o cap : Nat} {L : List Nat} (h : Bs w p b o L cap) {i : Nat} (hi : i < L.length) : w.cell? ⟨b, o + i, none⟩ = some (.int .u8 (L.getD i 0 : Nat)) := h.here i hi
theorem Bs.get {w : World} {p : Option Addr} {b o cap : Nat} {L : List Nat} (h : Bs w p b o L cap) (i : Nat) : L.getD i 0 < 256 := by
  rw [List.getD_eq_getElem?_getD]
  cases hi : L[i]? with
  | none => show 0 < 256; decide
  | some x => exact h.byte x (List.mem_of_getElem? hi)

set_option maxHeartbeats 1000000 in
theorem wordOf_any (p : Option Addr) (b o cap : Nat) (L : List Nat) (w : World) (h : Bs w p b o L cap) (h8 : L.length ≤ 8) :
    Calls Try.prog 116 #[.slice p L.length cap] w fun e w' => e = .returned (.int .u64 (valL L : Nat)) ∧ w = w' := by
  by_cases h0 : 0 < L.length
  · obtain ⟨rfl, hlt⟩ := h.ptr (by have := h.le; omega)
    have H := hidp h
    have H8 := hidp h8
    clear h h8 hlt h0
    go_enter Try.func116, Try.ntmps116
    go_wp2
    go_loopw [3, 8] (fun x i wr => ∃ k : Nat, k ≤ L.length ∧ i = .int .i64 k ∧ x = .int .u64 (valL (L.take k) : Nat) ∧ w = wr) (fun _ i _ => L.length - (Go.RowKit.intOf i).toNat)
    case atStart => exact ⟨0, by omega, rfl, rfl, rfl⟩
    case round =>
      obtain ⟨k, hk, rfl, rfl, rfl⟩ := hrel
      by_cases hlt : k < L.length
      · have hc := H.out.cell hlt
        have hd := H.out.get k
        have hv := valL_take_lt H.out.byte hlt H8.out
        have hs := hidp (valL_step hlt)
        have hor := bits_or_u64_nat (valL (L.take k) * 256) (L.getD k 0) (by omega) (by omega)
        have h256 := or_add (a := valL (L.take k)) (b := L.getD k 0) (k := 8) hd
        rw [show (2 : Nat) ^ 8 = 256 from rfl] at h256
        generalize L.getD k 0 = d at hc hd hs hor h256
        generalize valL (L.take k) = v at hv hs hor h256
        have hnew : Hid (bits .or .u64 ((v : Int) * 256) (d : Int) = ((valL (L.take (k + 1)) : Nat) : Int)) := hidp (by
          rw [show (v : Int) * 256 = ((v * 256 : Nat) : Int) by omega, hor, h256, hs.out])
        have hsh : IntKind.u64.wrap ((v : Int) * 256) = (v : Int) * 256 := by rw [IntKind.wrap_u64]; omega
        have hsh2 : (v : Int) * 256 % 18446744073709551616 = (v : Int) * 256 := by omega
        have hl8 := H8.out
        clear hor h256 hs hv
        go_wp2
        exact ⟨⟨k + 1, by omega, by go_num, by rw [hnew.out], trivial⟩, by simp [Go.RowKit.intOf]; omega⟩
      · obtain rfl : k = L.length := by omega
        go_wp2
        go_ret
        exact ⟨by simp, rfl⟩
  · obtain rfl : L = [] := List.eq_nil_of_length_eq_zero (by omega)
    clear h h8 h0
    go_enter Try.func116, Try.ntmps116
    go_wp2
    go_loopw [3, 8] (fun x i wr => i = .int .i64 0 ∧ x = .int .u64 0 ∧ w = wr) (fun _ _ _ => 0)
    case atStart => exact ⟨rfl, rfl, rfl⟩
    case round =>
      obtain ⟨rfl, rfl, rfl⟩ := hrel
      go_wp2
      go_ret
      exact ⟨rfl, rfl⟩

/-- What a panic carries that ends an element. -/
def brk (x : Nat) : List PanicEntry := [{ v := .iface 182 (.int .i64 (x : Nat)), recovered := false }]

theorem leadOf_ok (p : Option Addr) (b o cap x : Nat) (w : World) (h : Bs w p b o [x] cap) (h8 : x ≤ 8) :
    Calls Try.prog 152 #[.slice p 1 cap] w fun e w' => e = .returned (.int .i64 (x : Nat)) ∧ w = w' := by
  obtain ⟨rfl, hlt⟩ := h.ptr (by have := h.le; simp at this; omega)
  have hc : w.cell? ⟨b, o, none⟩ = some (.int .u8 (x : Nat)) := h.cell (i := 0) (by simp)
  have hx : ((8 : Int) < (x : Int)) = False := by simp; omega
  have hx2 : (x : Int) ≤ 8 := by omega
  clear h hlt h8
  go_enter Try.func152, Try.ntmps152
  go_wp2
  go_ret
  exact ⟨rfl, rfl⟩
theorem leadOf_bad (p : Option Addr) (b o cap x : Nat) (w : World) (h : Bs w p b o [x] cap) (h8 : 8 < x) :
    Calls Try.prog 152 #[.slice p 1 cap] w fun e w' => e = .panicked (brk 5) ∧ w = w' := by
  obtain ⟨rfl, hlt⟩ := h.ptr (by have := h.le; simp at this; omega)
  have hc : w.cell? ⟨b, o, none⟩ = some (.int .u8 (x : Nat)) := h.cell (i := 0) (by simp)
  have hx2 : decide ((8 : Int) < (x : Int)) = true := decide_eq_true (by omega)
  clear h hlt h8
  go_enter Try.func152, Try.ntmps152
  go_wp2
  exact ⟨rfl, rfl, rfl⟩

/-- Is a number's first digit 0, or the number too great? -/
def badN (L : List Nat) : Prop := (0 < L.length ∧ L.getD 0 0 = 0) ∨ 9223372036854775807 < valL L
def maxI : Nat := 9223372036854775807
theorem numOf_ok (p : Option Addr) (b o cap : Nat) (L : List Nat) (w : World) (h : Bs w p b o L cap) (h8 : L.length ≤ 8) (hb : ¬ badN L) :
    Calls Try.prog 153 #[.slice p L.length cap] w fun e w' => e = .returned (.int .i64 (valL L : Nat)) ∧ w = w' := by
  have hw := hidp (wordOf_any p b o cap L w h h8)
  have hv : valL L ≤ 9223372036854775807 := Nat.le_of_not_lt fun h1 => hb (.inr h1)
  have hgt : decide ((9223372036854775807 : Int) < ((valL L : Nat) : Int)) = false := decide_eq_false (by omega)
  have hcv : wrap64 ((valL L : Nat) : Int) = ((valL L : Nat) : Int) := by unfold wrap64; omega
  have hcv2 : IntKind.i64.wrap ((valL L : Nat) : Int) = ((valL L : Nat) : Int) := by rw [IntKind.wrap_i64]; omega
  by_cases h0 : 0 < L.length
  · obtain ⟨rfl, hlt⟩ := h.ptr (by have := h.le; omega)
    have hc : w.cell? ⟨b, o, none⟩ = some (.int .u8 (L.getD 0 0 : Nat)) := h.cell (i := 0) h0
    have hd : (((L.getD 0 0 : Nat) : Int) == 0) = false := by
      rw [beq_eq_false_iff_ne]
      intro h1; exact hb (.inl ⟨h0, by omega⟩)
    have hl : (0 : Int) < (L.length : Int) := by omega
    have hl2 : 0 < L.length := h0
    generalize L.getD 0 0 = d at hc hd
    generalize valL L = v at hw hgt hcv hcv2
    clear h hlt hb hv
    go_enter Try.func153, Try.ntmps153
    go_wp2_with (go_at_call 116; refine hw.out.mono ?_; rintro e w1 ⟨rfl, rfl⟩)
    go_ret
    exact ⟨rfl, rfl⟩
  · have hl : decide ((0 : Int) < (L.length : Int)) = false := decide_eq_false (by omega)
    have hl2 : ¬ 0 < L.length := h0
    generalize valL L = v at hw hgt hcv hcv2
    clear h hb hv h0
    go_enter Try.func153, Try.ntmps153
    go_wp2_with (go_at_call 116; refine hw.out.mono ?_; rintro e w1 ⟨rfl, rfl⟩)
    go_ret
    exact ⟨rfl, rfl⟩
theorem numOf_bad (p : Option Addr) (b o cap : Nat) (L : List Nat) (w : World) (h : Bs w p b o L cap) (h8 : L.length ≤ 8) (hb : badN L) :
    Calls Try.prog 153 #[.slice p L.length cap] w fun e w' => e = .panicked (brk 5) ∧ w = w' := by
  have hw := hidp (wordOf_any p b o cap L w h h8)
  have h0 : 0 < L.length := by
    rcases hb with hb | hb
    · exact hb.1
    · rcases Nat.eq_zero_or_pos L.length with h1 | h1
      · rw [List.eq_nil_of_length_eq_zero h1] at hb
        exact absurd hb (by decide)
      · exact h1
  obtain ⟨rfl, hlt⟩ := h.ptr (by have := h.le; omega)
  have hc : w.cell? ⟨b, o, none⟩ = some (.int .u8 (L.getD 0 0 : Nat)) := h.cell (i := 0) h0
  have hl : (0 : Int) < (L.length : Int) := by omega
  by_cases hz : L.getD 0 0 = 0
  · have hd : (((L.getD 0 0 : Nat) : Int) == 0) = true := by rw [beq_iff_eq]; omega
    generalize L.getD 0 0 = d at hc hd
    generalize valL L = v at hw
    clear h hlt hb hz
    go_enter Try.func153, Try.ntmps153
    go_wp2_with (go_at_call 116; refine hw.out.mono ?_; rintro e w1 ⟨rfl, rfl⟩)
    exact ⟨rfl, rfl, rfl⟩
  · have hd : (((L.getD 0 0 : Nat) : Int) == 0) = false := by rw [beq_eq_false_iff_ne]; omega
    have hv : 9223372036854775807 < valL L := by
      rcases hb with hb | hb
      · exact absurd hb.2 hz
      · exact hb
    have hgt : decide ((9223372036854775807 : Int) < ((valL L : Nat) : Int)) = true := decide_eq_true (by omega)
    generalize L.getD 0 0 = d at hc hd
    generalize valL L = v at hw hgt
    clear h hlt hb hz hv
    go_enter Try.func153, Try.ntmps153
    go_wp2_with (go_at_call 116; refine hw.out.mono ?_; rintro e w1 ⟨rfl, rfl⟩)
    exact ⟨rfl, rfl, rfl⟩

theorem boolOf_ok (p : Option Addr) (b o cap x : Nat) (w : World) (h : Bs w p b o [x] cap) (h1 : x ≤ 1) :
    Calls Try.prog 124 #[.slice p 1 cap] w fun e w' => e = .returned (.bool (decide (x = 1))) ∧ w = w' := by
  obtain ⟨rfl, hlt⟩ := h.ptr (by have := h.le; simp at this; omega)
  have hc : w.cell? ⟨b, o, none⟩ = some (.int .u8 (x : Nat)) := h.cell (i := 0) (by simp)
  clear h hlt
  rcases (show x = 0 ∨ x = 1 by omega) with rfl | rfl
  · simp only [Int.cast_ofNat_Int] at hc
    go_enter Try.func124, Try.ntmps124
    go_wp2
    go_ret
    exact ⟨rfl, rfl⟩
  · simp only [Int.cast_ofNat_Int] at hc
    go_enter Try.func124, Try.ntmps124
    go_wp2
    go_ret
    exact ⟨rfl, rfl⟩
theorem boolOf_bad (p : Option Addr) (b o cap x : Nat) (w : World) (h : Bs w p b o [x] cap) (h1 : 1 < x) :
    Calls Try.prog 124 #[.slice p 1 cap] w fun e w' => e = .panicked (brk 5) ∧ w = w' := by
  obtain ⟨rfl, hlt⟩ := h.ptr (by have := h.le; simp at this; omega)
  have hc : w.cell? ⟨b, o, none⟩ = some (.int .u8 (x : Nat)) := h.cell (i := 0) (by simp)
  have hx2 : decide ((1 : Int) < (x : Int)) = true := decide_eq_true (by omega)
  clear h hlt h1
  go_enter Try.func124, Try.ntmps124
  go_wp2
  exact ⟨rfl, rfl, rfl⟩
end Go.Proofs.Ytlfmmmlheloloaa
