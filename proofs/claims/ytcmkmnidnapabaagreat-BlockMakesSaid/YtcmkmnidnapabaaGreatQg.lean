/-
  Texts Ka, Kb, Nc, Jz, one behind the other.
-/
import Derived.Test.YtcmkmnidnapabaaGreatQd
import Derived.Test.YtcmkmnidnapabaaGreatQf
import Derived.Laws.Cover3

/-! Ka: Contracts: puts of a valid writer, kind by kind. -/
namespace Go.Proofs.YtcmkmnidnapabaaGreat
open Go.RowKit Go.Lib Go.Maps
theorem PutP.from {w w1 w' : World} {g lim : Nat} {v : Value} {L : List Nat} {e : Ending} (hB : Below w.heap.size w w1) (h : PutP w1 g lim v L e w') : PutP w g lim v L e w' := by
  obtain ⟨rfl, h⟩ := h
  exact PutP.of hB h
end Go.Proofs.YtcmkmnidnapabaaGreat

/-! Kb: Plain: what is read is what is written. -/
namespace Go.Proofs.YtcmkmnidnapabaaGreat
open Go.RowKit Go.Lib Go.Maps

theorem getD_lt {L : List Nat} (h : ∀ x ∈ L, x < 256) (i : Nat) : L.getD i 0 < 256 := by
  rw [List.getD_eq_getElem?_getD]
  cases hi : L[i]? with
  | none => show 0 < 256; decide
  | some x => exact h x (List.mem_of_getElem? hi)
theorem valL_dig {L : List Nat} (h : ∀ x ∈ L, x < 256) : ∀ k, k ≤ L.length → ∀ i, i < k → valL (L.take k) / 256 ^ i % 256 = L.getD (k - 1 - i) 0 := by
  intro k
  induction k with
  | zero => intro _ i hi; omega
  | succ k ih =>
    intro hk i hi
    rw [valL_step (by omega)]
    have hd := getD_lt h k
    cases i with
    | zero =>
      rw [Nat.pow_zero, Nat.div_one, show k + 1 - 1 - 0 = k by omega]
      omega
    | succ i =>
      rw [Nat.pow_succ', ← Nat.div_div_eq_div_mul, show (valL (L.take k) * 256 + L.getD k 0) / 256 = valL (L.take k) by omega, ih (by omega) i (by omega)]
      congr 1
      omega
theorem valL_digit {L : List Nat} (h : ∀ x ∈ L, x < 256) (i : Nat) (hi : i < L.length) : valL L / 256 ^ i % 256 = L.getD (L.length - 1 - i) 0 := by
  have q := valL_dig h L.length (Nat.le_refl _) i hi
  rw [List.take_length] at q
  exact q
theorem getD_some {L : List Nat} {j : Nat} (h : j < L.length) : L[j]? = some (L.getD j 0) := by
  rw [List.getD_eq_getElem?_getD, List.getElem?_eq_getElem h]; rfl
theorem wordB_back {L : List Nat} (h : ∀ x ∈ L, x < 256) (h8 : L.length = 8) : wordB (valL L) = L := by
  apply List.ext_getElem?
  intro j
  by_cases hj : j < 8
  · refine Eq.trans ?_ (getD_some (L := L) (by omega)).symm
    unfold wordB formW
    simp only [List.getElem?_map, List.getElem?_range hj, Option.map_some]
    rw [if_pos (by omega), valL_digit h (7 - j) (by omega)]
    congr 2
    omega
  · rw [List.getElem?_eq_none (by rw [wordB_len]; omega), List.getElem?_eq_none (by omega)]
theorem numB_back {D : List Nat} (h : ∀ x ∈ D, x < 256) (h8 : D.length ≤ 8) : numB (valL D) D.length = D.length :: D := by
  apply List.ext_getElem?
  intro j
  by_cases hj : j < D.length + 1
  · unfold numB numF
    rw [List.getElem?_drop]
    cases j with
    | zero =>
      rw [Nat.add_zero, List.getElem?_set_self (by rw [formL_len]; omega)]
      rfl
    | succ j =>
      rw [List.getElem?_set_ne (by omega), List.getElem?_cons_succ]
      refine Eq.trans ?_ (getD_some (L := D) (by omega)).symm
      unfold formL
      simp only [List.getElem?_map, List.getElem?_range (show 8 - D.length + (j + 1) < 9 by omega), Option.map_some]
      rw [if_pos (by omega), show 8 - (8 - D.length + (j + 1)) = D.length - 1 - j by omega, valL_digit h (D.length - 1 - j) (by omega)]
      congr 2
      omega
  · rw [List.getElem?_eq_none (by rw [numB_len _ h8]; omega), List.getElem?_eq_none (by rw [List.length_cons]; omega)]
theorem digs_back {D : List Nat} (h : ∀ x ∈ D, x < 256) (h8 : D.length ≤ 8) (hb : ¬ badN D) : Digs (valL D) D.length ∧ valL D < 9223372036854775808 := by
  unfold badN at hb
  refine ⟨⟨valL_lt h, fun h0 => ?_, h8⟩, by omega⟩
  have q := valL_digit h (D.length - 1) (by omega)
  rw [show D.length - 1 - (D.length - 1) = 0 by omega] at q
  have h1 : D.getD 0 0 ≠ 0 := by omega
  rcases Nat.lt_or_ge (valL D) (256 ^ (D.length - 1)) with h2 | h2
  · rw [Nat.div_eq_of_lt h2] at q
    omega
  · exact h2
theorem pNum_form {R : List Nat} {v n : Nat} (hb : ∀ x ∈ R, x < 256) (h : pNum R = .ok v n) : ∃ dk, Digs v dk ∧ numB v dk = R.take n ∧ n = dk + 1 ∧ n ≤ R.length ∧ v < 9223372036854775808 := by
  cases R with
  | nil => cases h
  | cons k R =>
    rw [pNum_cons] at h
    split at h
    · cases h
    split at h
    · cases h
    split at h
    · cases h
    rename_i h8 hl hbad
    cases h
    have hD : ∀ x ∈ R.take k, x < 256 := fun x hx => hb x (List.mem_cons_of_mem _ (List.mem_of_mem_take hx))
    have hlen : (R.take k).length = k := by rw [List.length_take]; omega
    have h1 := digs_back hD (by omega) hbad
    have h2 := numB_back hD (by omega)
    rw [hlen] at h1 h2
    exact ⟨k, h1.1, by rw [h2]; rfl, rfl, by rw [List.length_cons]; omega, h1.2⟩
theorem pWord_form {R : List Nat} {v n : Nat} (hb : ∀ x ∈ R, x < 256) (h : pWord R = .ok v n) : wordB v = R.take n ∧ n = 8 ∧ n ≤ R.length ∧ v < 18446744073709551616 := by
  unfold pWord at h
  split at h
  · cases h
  cases h
  have hD : ∀ x ∈ R.take 8, x < 256 := fun x hx => hb x (List.mem_of_mem_take hx)
  have hlen : (R.take 8).length = 8 := by rw [List.length_take]; omega
  exact ⟨wordB_back hD hlen, rfl, by omega, valL_word hD (by omega)⟩
end Go.Proofs.YtcmkmnidnapabaaGreat

/-! Nc: Plain: a number's form by its own digits; what is written is read as it was. -/
namespace Go.Proofs.YtcmkmnidnapabaaGreat
open Go.RowKit Go.Lib

/-- A number's digits of base 256, k of them, the highest first. -/
def dB : Nat → Nat → List Nat
  | 0, _ => []
  | k + 1, n => dB k (n / 256) ++ [n % 256]
theorem dB_len : ∀ k n, (dB k n).length = k
  | 0, _ => rfl
  | k + 1, n => by simp [dB, dB_len k]
theorem dB_byte : ∀ k n, ∀ x ∈ dB k n, x < 256
  | 0, _, x, hx => by simp [dB] at hx
  | k + 1, n, x, hx => by
    simp only [dB, List.mem_append, List.mem_cons, List.not_mem_nil, or_false] at hx
    rcases hx with hx | rfl
    · exact dB_byte k _ x hx
    · exact Nat.mod_lt _ (by decide)
theorem dB_val : ∀ k n, n < 256 ^ k → valL (dB k n) = n
  | 0, n, h => by simp at h; subst h; rfl
  | k + 1, n, h => by
    have ih := dB_val k (n / 256) (by rw [Nat.div_lt_iff_lt_mul (by decide)]; rw [Nat.pow_succ] at h; exact h)
    simp only [dB, valL_snoc, ih]
    omega
theorem dB_first : ∀ k n, (dB (k + 1) n).getD 0 0 = n / 256 ^ k % 256
  | 0, n => by simp [dB]
  | k + 1, n => by
    have ih := dB_first k (n / 256)
    have e : dB (k + 1 + 1) n = dB (k + 1) (n / 256) ++ [n % 256] := rfl
    rw [e, List.getD_eq_getElem?_getD, List.getElem?_append_left (by rw [dB_len]; omega), ← List.getD_eq_getElem?_getD, ih, Nat.div_div_eq_div_mul, Nat.pow_succ, Nat.mul_comm]
theorem numB_dB {n k : Nat} (hk : k ≤ 8) (h : n < 256 ^ k) : numB n k = k :: dB k n := by
  have q := numB_back (dB_byte k n) (by rw [dB_len]; exact hk)
  rw [dB_val k n h, dB_len] at q
  exact q
/-- How many digits a number has. -/
def dg (n : Nat) : Nat := if n = 0 then 0 else if n < 256 then 1 else if n < 65536 then 2 else if n < 16777216 then 3 else if n < 4294967296 then 4 else if n < 1099511627776 then 5 else if n < 281474976710656 then 6 else if n < 72057594037927936 then 7 else 8
theorem dg_digs {n : Nat} (h : n < 18446744073709551616) : Digs n (dg n) := by
  unfold dg Digs
  (repeat' split) <;> refine ⟨?_, ?_, ?_⟩ <;> (try simp only [Nat.reducePow, Nat.reduceSub]) <;> omega
theorem digs_dg {n k : Nat} (h : Digs n k) (hn : n < 18446744073709551616) : k = dg n := by
  obtain ⟨h1, h2, h3⟩ := h
  obtain ⟨g1, g2, g3⟩ := dg_digs hn
  rcases Nat.lt_trichotomy k (dg n) with h | h | h
  · have q := g2 (by omega)
    have p : 256 ^ k ≤ 256 ^ (dg n - 1) := Nat.pow_le_pow_right (by decide) (by omega)
    omega
  · exact h
  · have q := h2 (by omega)
    have p : 256 ^ (dg n) ≤ 256 ^ (k - 1) := Nat.pow_le_pow_right (by decide) (by omega)
    omega
/-- A number's form. -/
def nB (n : Nat) : List Nat := dg n :: dB (dg n) n
theorem nB_num {n : Nat} (h : n < 18446744073709551616) : numB n (dg n) = nB n := numB_dB (dg_digs h).2.2 (dg_digs h).1
theorem nB_len (n : Nat) : (nB n).length = dg n + 1 := by unfold nB; rw [List.length_cons, dB_len]
theorem dg_le (n : Nat) : dg n ≤ 8 := by unfold dg; (repeat' split) <;> omega
theorem nB_byte (n : Nat) : ∀ x ∈ nB n, x < 256 := by
  intro x hx
  unfold nB at hx
  rcases List.mem_cons.1 hx with rfl | hx
  · have := dg_le n; omega
  · exact dB_byte _ _ x hx
theorem nB_good {n : Nat} (h : n < 9223372036854775808) : ¬ badN (dB (dg n) n) := by
  obtain ⟨h1, h2, h3⟩ := dg_digs (n := n) (by omega)
  intro hb
  rcases hb with ⟨h4, h5⟩ | h4
  · rw [dB_len] at h4
    obtain ⟨j, hj⟩ : ∃ j, dg n = j + 1 := ⟨dg n - 1, by omega⟩
    rw [hj] at h5 h1 h2
    rw [dB_first] at h5
    have h6 := h2 (by omega)
    rw [Nat.add_sub_cancel] at h6
    have h7 : n / 256 ^ j < 256 := by rw [Nat.div_lt_iff_lt_mul (Nat.pow_pos (by decide))]; rw [Nat.pow_succ, Nat.mul_comm] at h1; exact h1
    have h8 : 0 < n / 256 ^ j := Nat.div_pos h6 (Nat.pow_pos (by decide))
    omega
  · rw [dB_val _ _ h1] at h4; omega
theorem pNum_nB {n : Nat} (h : n < 9223372036854775808) (R : List Nat) : pNum (nB n ++ R) = .ok n (dg n + 1) := by
  have h1 := dg_le n
  have h2 := dg_digs (n := n) (by omega)
  have ht : (dB (dg n) n ++ R).take (dg n) = dB (dg n) n := List.take_left' (dB_len _ _)
  unfold nB
  rw [List.cons_append, pNum_cons, if_neg (by omega), if_neg (by rw [List.length_append, dB_len]; omega), ht, if_neg (nB_good h), dB_val _ _ h2.1]
end Go.Proofs.YtcmkmnidnapabaaGreat

/-! Jz: Contracts: a reader's Hash and Key. -/
namespace Go.Proofs.YtcmkmnidnapabaaGreat
open Go.RowKit Go.Lib Go.Maps

theorem Bex.ofRow {w w' : World} {k : Nat} {cs : Array Value} (h : w' = w.setRow k cs) : Bex k w w' := by
  rw [h]; exact ⟨rfl, rfl, rfl, by simp [World.setRow], fun i _ hi => setRow_other _ _ _ _ hi⟩
theorem Cu.bex' {w w' : World} {k c t : Nat} {p : Option Addr} {b o cap : Nat} {R : List Nat} (H : Cu w c t p b o cap R) (hB : Bex k w w') (hc : c ≠ k) (hb : 0 < cap → k ≠ b) : Cu w' c t p b o cap R := ⟨hB.blk H.blk hc, H.bs.bex hB hb, H.ne, H.lim⟩
theorem CuX.bex' {w w' : World} {k c t b cap : Nat} {R : List Nat} (H : CuX w c t b R cap) (hB : Bex k w w') (hc : c ≠ k) (hb : k ≠ b) : CuX w' c t b R cap := by
  obtain ⟨p, o, cap', h1, h2⟩ := H
  exact ⟨p, o, cap', h1, h2.bex' hB hc (fun _ => hb)⟩
theorem Bex.newRow {c : Nat} {w w2 w6 : World} (h : Bex c w w2) (h6 : Bex w.heap.size w2 w6) : Bex c w w6 :=
  ⟨h6.os.trans h.os, h6.tape.trans h.tape, h6.output.trans h.output, Nat.le_trans h.size h6.size, fun k hk hne => (h6.block k (Nat.lt_of_lt_of_le hk h.size) (by omega)).trans (h.block k hk hne)⟩
theorem Blk.sc2 {w : World} {k g : Nat} {cs : List Value} {T : TypeId} (h : Blk w k cs T) (hne : k ≠ g) (i j : Nat) (v u : Value) : Blk ((w.setCell ⟨g, i, none⟩ v).setCell ⟨g, j, none⟩ u) k cs T :=
  (((Bex.refl g w).setCell i v).setCell j u).blk h hne
theorem add_at {t n : Nat} (h : t + n ≤ 1000000000) : wrap64 ((t : Int) + (n : Int)) = ((t + n : Nat) : Int) ∧ IntKind.i64.wrap ((t : Int) + (n : Int)) = ((t + n : Nat) : Int) :=
  ⟨by rw [w64 _ (by omega)]; omega, by rw [IntKind.wrap_i64]; omega⟩
/-- As many bytes as there are, or none. -/
def pRaw (m : Nat) (R : List Nat) : PR (List Nat) := if R.length < m then .er 6 else .ok (R.take m) m
theorem pRaw_ok {m n : Nat} {R T : List Nat} (h : pRaw m R = .ok T n) : T = R.take m ∧ n = m ∧ m ≤ R.length := by
  unfold pRaw at h
  by_cases hl : R.length < m
  · rw [if_pos hl] at h; cases h
  · rw [if_neg hl] at h; cases h; exact ⟨rfl, rfl, by omega⟩
theorem pRaw_er {m x : Nat} {R : List Nat} (h : pRaw m R = .er x) : x = 6 ∧ R.length < m := by
  unfold pRaw at h
  by_cases hl : R.length < m
  · rw [if_pos hl] at h; cases h; exact ⟨rfl, hl⟩
  · rw [if_neg hl] at h; cases h
/-- What an array's read begins with: the reader's box, two of zeros, the cursor. -/
def elWA (w : World) (g t : Nat) (p : Option Addr) (n cap : Nat) (Z Y : Array Value) (T : TypeId) : World := (((w.alloc (.cells #[.pointer (some ⟨g, 0, none⟩)] 128)).alloc (.cells Z T)).alloc (.cells Y T)).alloc (.cells #[.int .i64 (t : Nat), .slice p n cap] 213)
structure ElZ (w we : World) (g t : Nat) (p : Option Addr) (b o cap : Nat) (R : List Nat) (Z Y : Array Value) (T : TypeId) : Prop where
  cu : Cu we (w.heap.size + 1 + 1 + 1) t p b o cap R
  bel : Below w.heap.size w we
  box : Blk we w.heap.size [.pointer (some ⟨g, 0, none⟩)] 128
  z1 : Blk we (w.heap.size + 1) Z.toList T
  z2 : Blk we (w.heap.size + 1 + 1) Y.toList T
  rd : Rd we g t p b o cap R 0 0
  size : we.heap.size = w.heap.size + 4
theorem elWA_cu {w : World} {g t : Nat} {p : Option Addr} {b o cap : Nat} {R : List Nat} (H : Rd w g t p b o cap R 0 0) (Z Y : Array Value) (T : TypeId) : ElZ w (elWA w g t p R.length cap Z Y T) g t p b o cap R Z Y T := by
  have hB : Below w.heap.size w (elWA w g t p R.length cap Z Y T) := ((((Below.refl _ w).alloc (Nat.le_refl _) _).alloc (by simp) _).alloc (by simp; omega) _).alloc (by simp; omega) _
  refine ⟨⟨Blk.new' _ _ _ _ (by simp), H.bs.below hB, fun h0 => by have := (H.bs.ptr h0).2; omega, H.lim⟩, hB, (((Blk.new w _ _).alloc _).alloc _).alloc _, ((Blk.new' _ Z.toList _ _ (by simp)).alloc _).alloc _, (Blk.new' _ Y.toList _ _ (by simp)).alloc _, H.below hB, by unfold elWA; simp⟩
structure ElA (w w1 : World) (g t b n : Nat) (R : List Nat) (p' : Option Addr) (o' cap' : Nat) (Z Y : Array Value) (T : TypeId) : Prop where
  rd : ∃ p o cap, Rd w1 g t p b o cap R 0 0 ∧ (0 < cap → b < w.heap.size)
  cu : Cu w1 (w.heap.size + 1 + 1 + 1) (t + n) p' b o' cap' (R.drop n)
  box : Blk w1 w.heap.size [.pointer (some ⟨g, 0, none⟩)] 128
  z1 : Blk w1 (w.heap.size + 1) Z.toList T
  z2 : Blk w1 (w.heap.size + 1 + 1) Y.toList T
  bex : Bex g w w1
  ne : 0 < cap' → g ≠ b
  nb : 0 < cap' → b < w.heap.size
  hg : g < w.heap.size
theorem ElA.of {w w1 : World} {g t : Nat} {p : Option Addr} {b o cap : Nat} {R : List Nat} {n : Nat} {Z Y : Array Value} {T : TypeId} (H : Rd w g t p b o cap R 0 0) (hx : CuX w1 (w.heap.size + 1 + 1 + 1) (t + n) b (R.drop n) cap) (hb : Bex (w.heap.size + 1 + 1 + 1) (elWA w g t p R.length cap Z Y T) w1) : ∃ p' o' cap', ElA w w1 g t b n R p' o' cap' Z Y T := by
  have h := elWA_cu H Z Y T
  obtain ⟨p', o', cap', hcc, hc⟩ := hx
  have hg := H.blk.lt
  have hs := h.size
  refine ⟨p', o', cap', ⟨p, o, cap, h.rd.bex hb (by omega) (fun h0 => by have := (H.bs.ptr h0).2; omega), fun h0 => (H.bs.ptr h0).2⟩, hc, hb.blk h.box (by omega), hb.blk h.z1 (by omega), hb.blk h.z2 (by omega), ?_, fun h0 => H.ne (by omega), fun h0 => (H.bs.ptr (by omega)).2, hg⟩
  exact ⟨hb.os.trans h.bel.os, hb.tape.trans h.bel.tape, hb.output.trans h.bel.output, Nat.le_trans h.bel.size hb.size, fun k hk _ => (hb.block k (by omega) (by omega)).trans (h.bel.block k hk)⟩
theorem ElE_of {w w1 : World} {g t : Nat} {p : Option Addr} {b o cap : Nat} {R : List Nat} {Z Y : Array Value} {T : TypeId} (H : Rd w g t p b o cap R 0 0) (hb : Bex (w.heap.size + 1 + 1 + 1) (elWA w g t p R.length cap Z Y T) w1) : Rd w1 g t p b o cap R 0 0 ∧ Blk w1 w.heap.size [.pointer (some ⟨g, 0, none⟩)] 128 ∧ Blk w1 (w.heap.size + 1) Z.toList T ∧ Bex g w w1 ∧ g < w.heap.size := by
  have h := elWA_cu H Z Y T
  have hg := H.blk.lt
  have hs := h.size
  refine ⟨h.rd.bex hb (by omega) (fun h0 => by have := (H.bs.ptr h0).2; omega), hb.blk h.box (by omega), hb.blk h.z1 (by omega), ?_, hg⟩
  exact ⟨hb.os.trans h.bel.os, hb.tape.trans h.bel.tape, hb.output.trans h.bel.output, Nat.le_trans h.bel.size hb.size, fun k hk _ => (hb.block k (by omega) (by omega)).trans (h.bel.block k hk)⟩
theorem RdX.bexA {k : Nat} {w w' : World} {g t b : Nat} {R : List Nat} {e f : Nat} (H : RdX w g t b R e f) (hb : Bex k w w') (hg : g ≠ k) (hk : k ≠ b) : RdX w' g t b R e f := by
  obtain ⟨p, o, cap, h⟩ := H
  exact ⟨p, o, cap, h.bex hb hg (fun _ => hk)⟩
theorem Bex.newRowAt {c k : Nat} {w w2 w6 : World} (h : Bex c w w2) (h6 : Bex k w2 w6) (hk : w.heap.size ≤ k) : Bex c w w6 :=
  ⟨h6.os.trans h.os, h6.tape.trans h.tape, h6.output.trans h.output, Nat.le_trans h.size h6.size, fun i hi hne => (h6.block i (Nat.lt_of_lt_of_le hi h.size) (by omega)).trans (h.block i hi hne)⟩
/-- The bytes lie in their box. -/
structure ElC (w w2 : World) (g t b n : Nat) (R : List Nat) (p' : Option Addr) (o' cap' : Nat) (Z : Array Value) (V : List Value) (T : TypeId) : Prop where
  rd : ∃ p o cap, Rd w2 g t p b o cap R 0 0
  cu : Cu w2 (w.heap.size + 1 + 1 + 1) (t + n) p' b o' cap' (R.drop n)
  box : Blk w2 w.heap.size [.pointer (some ⟨g, 0, none⟩)] 128
  z1 : Blk w2 (w.heap.size + 1) Z.toList T
  z2 : Blk w2 (w.heap.size + 1 + 1) V T
  bex : Bex g w w2
theorem ElA.next {w w1 w2 : World} {g t b n : Nat} {R : List Nat} {p' : Option Addr} {o' cap' : Nat} {Z Y : Array Value} {V : List Value} {T : TypeId} (H : ElA w w1 g t b n R p' o' cap' Z Y T) (hw : w2 = w1.setRow (w.heap.size + 1 + 1) V.toArray) : ElC w w2 g t b n R p' o' cap' Z V T := by
  have hx := Bex.ofRow hw
  have hg := H.hg
  obtain ⟨p, o, cap, hr, hb⟩ := H.rd
  refine ⟨⟨p, o, cap, hr.bex hx (by omega) (fun h0 => by have := hb h0; omega)⟩, H.cu.bex' hx (by omega) (fun h0 => by have := H.nb h0; omega), hx.blk H.box (by omega), hx.blk H.z1 (by omega), by rw [hw]; exact H.z2.row, ?_⟩
  exact ⟨hx.os.trans H.bex.os, hx.tape.trans H.bex.tape, hx.output.trans H.bex.output, Nat.le_trans H.bex.size hx.size, fun k hk hne => (hx.block k (Nat.lt_of_lt_of_le hk H.bex.size) (by omega)).trans (H.bex.block k hk hne)⟩

set_option maxRecDepth 20000 in
theorem hashOf_any (b o cap : Nat) (L : List Nat) (w : World) (h : Bs w (some ⟨b, o, none⟩) b o L cap) (hl : L.length = 32) :
    Calls Tryz.prog 224 #[.slice (some ⟨b, o, none⟩) 32 cap] w fun e w' => e = .returned (.agg (bvs L).toArray) ∧ Below w.heap.size w w' := by
  have HB : Hid (Below w.heap.size w (w.alloc (.cells (bvs (List.replicate 32 0)).toArray 39))) := hidp ((Below.refl _ w).alloc (Nat.le_refl _) _)
  have HZ := hidp (Blk.new w (bvs (List.replicate 32 0)) 39)
  have ha := fun w' : World => run_arrayAt (P := Tryz.prog) (w := w') 39 5 32 (some ⟨b, o, none⟩) 32 cap Tryz.underlying39 (Nat.le_refl _)
  have hr : Hid ((w.alloc (.cells (bvs (List.replicate 32 0)).toArray 39)).rangeAt b o (bvs L)) := hidp (fun j v hj => by
    have hj2 := (List.getElem?_eq_some_iff.1 hj).1
    rw [bvs_len] at hj2
    have q := (h.below HB.out).here j hj2
    rw [bvs_get hj2] at hj
    cases hj
    exact q)
  have hi : (Tryz.prog.info? 39).map (·.size) = some (bvs L).length := by rw [bvs_len, hl]; kernel_rfl
  have hi2 : (Tryz.prog.info? 39).map (·.size) = some (bvs L).toArray.size := hi.trans (by rw [List.size_toArray])
  have hz : (bvs (List.replicate 32 0)).length = (bvs L).length := by rw [bvs_len, bvs_len, hl]; rfl
  have hi := hidp hi
  have hi2 := hidp hi2
  have hz := hidp hz
  clear h hl
  go_enter Tryz.func224, Tryz.ntmps224
  go_wp2_with (first | refine wpList_load_mid rfl 39 _ rfl b o rfl (bvs L) _ hr.out Tryz.underlying39 rfl hi.out ?_ | (refine wpList_store_blk rfl 39 _ _ rfl w.heap.size (bvs L) (bvs (List.replicate 32 0)) 39 rfl rfl HZ.out hi.out hz.out (bvs_one _) ?_; intro w6 hw6))
  have b2 : Blk w6 w.heap.size (bvs L) 39 := by rw [hw6.out]; exact HZ.out.row
  refine bodyPost_ret (v := .agg (bvs L).toArray) ?_ rfl ⟨rfl, ?_⟩
  · exact results_cell_row Tryz.results224 _ _ w.heap.size 39 _ (0, 0) _ rfl b2 Tryz.underlying39 rfl hi2.out
  · rw [hw6.out]; exact below_setRow HB.out (Nat.le_refl _) _

set_option maxRecDepth 20000 in
theorem takeHash_short (c t : Nat) (p : Option Addr) (b o cap : Nat) (R : List Nat) (n : Nat) (w : World) (H : Cu w c t p b o cap R) (hn : R.length < n) :
    Calls Tryz.prog 223 #[.pointer (some ⟨c, 0, none⟩), .int .i64 (n : Nat), .func (.func 224) #[] #[]] w fun e w' => e = .panicked (brk 6) ∧ Below w.heap.size w w' := by
  have HB : Hid (Below w.heap.size w (w.alloc (.cells (bvs (List.replicate 32 0)).toArray 39))) := hidp ((Below.refl _ w).alloc (Nat.le_refl _) _)
  have HZ := hidp (Blk.new w (bvs (List.replicate 32 0)) 39)
  have hc := fun o : Obj => (H.below' ((Below.refl _ w).alloc (Nat.le_refl _) o)).c1
  have hgt : decide (R.length < n) = true := decide_eq_true hn
  clear H hn
  go_enter Tryz.func223, Tryz.ntmps223
  go_wp2
  exact ⟨rfl, rfl, HB.out⟩
theorem takeHash_of {c t : Nat} {p : Option Addr} {b o cap : Nat} {R : List Nat} {n : Nat} {w : World} (H : Cu w c t p b o cap R) (h32 : n = 32) (hn : n ≤ R.length) (Z : Array Value) :
    Calls Tryz.prog 224 #[.slice p n cap] (((w.alloc (.cells Z 39)).setCell ⟨c, 1, none⟩ (.slice (partA p cap n) (R.length - n) (cap - n))).setCell ⟨c, 0, none⟩ (.int .i64 (t + n : Nat))) fun e w2 => e = .returned (.agg (bvs (R.take n)).toArray) ∧ (CuX w2 c (t + n) b (R.drop n) cap ∧ Bex c w w2 ∧ Blk w2 w.heap.size Z.toList 39 ∧ c < w.heap.size ∧ b < w.heap.size) := by
  have hB : Below w.heap.size w (w.alloc (.cells Z 39)) := (Below.refl _ w).alloc (Nat.le_refl _) _
  have hZ : Blk (w.alloc (.cells Z 39)) w.heap.size Z.toList 39 := Blk.new w Z.toList 39
  have H1 := H.below' hB
  have hc := H.blk.lt
  obtain ⟨hp0, hb0⟩ := H.bs.ptr (by have := H.bs.le; omega)
  have hl : (R.take n).length = 32 := by rw [List.length_take]; omega
  have hp := H1.pass hn
  have hq := hp.2.1
  rw [hp0] at hp hq ⊢
  subst h32
  refine (hashOf_any b o cap _ _ hq hl).mono ?_
  rintro e w2 ⟨rfl, hb2⟩
  have hz := hp.2.2.blk hZ (by omega)
  exact ⟨rfl, ⟨_, _, _, Nat.sub_le _ _, hp.1.below' hb2⟩, ((Bex.of_below hB).trans hp.2.2).trans (Bex.of_below hb2), hz.below hb2 hz.lt, hc, hb0⟩
set_option maxRecDepth 20000 in
set_option maxHeartbeats 1000000 in
theorem takeHash_ok (c t : Nat) (p : Option Addr) (b o cap : Nat) (R : List Nat) (n : Nat) (w : World) (H : Cu w c t p b o cap R) (h32 : n = 32) (hn : n ≤ R.length) :
    Calls Tryz.prog 223 #[.pointer (some ⟨c, 0, none⟩), .int .i64 (n : Nat), .func (.func 224) #[] #[]] w fun e w' => e = .returned (.agg (bvs (R.take n)).toArray) ∧ CuX w' c (t + n) b (R.drop n) cap ∧ Bex c w w' := by
  have hl : (R.take n).length = 32 := by rw [List.length_take]; omega
  have hi : (Tryz.prog.info? 39).map (·.size) = some (bvs (R.take n)).length := by rw [bvs_len, hl]; kernel_rfl
  have hi2 : (Tryz.prog.info? 39).map (·.size) = some (bvs (R.take n)).toArray.size := hi.trans (by rw [List.size_toArray])
  have hz : (bvs (List.replicate 32 0)).length = (bvs (R.take n)).length := by rw [bvs_len, bvs_len, hl]; rfl
  have hi := hidp hi
  have hi2 := hidp hi2
  have hz := hidp hz
  have HF := hidp (fun Z => takeHash_of H h32 hn Z)
  have HQ := fun o : Obj => H.below' ((Below.refl _ w).alloc (Nat.le_refl _) o)
  have hc := fun o : Obj => (HQ o).c1
  have hc0 := fun o : Obj => (HQ o).c0
  have hf0 := fun o : Obj => (HQ o).blk.free 0
  have hf1 := fun o : Obj => (HQ o).blk.free 1
  have hgt : decide (R.length < n) = false := decide_eq_false (by omega)
  have hs1 := fun w => run_part_h p R.length cap n (by have := H.bs.le; omega) w
  have hs2 := fun w => run_part_l p R.length cap n hn w
  obtain ⟨hadd, hadd2⟩ := add_at (t := t) (n := n) (by have := H.lim; omega)
  obtain ⟨tn, htn⟩ : ∃ tn, tn = t + n := ⟨_, rfl⟩
  rw [← htn] at hadd hadd2
  replace HF := HF.out
  rw [← htn] at HF ⊢
  obtain ⟨pa, hpa⟩ : ∃ pa, pa = partA p cap n := ⟨_, rfl⟩
  rw [← hpa] at hs2 HF
  obtain ⟨l2, hl2⟩ : ∃ l2, l2 = R.length - n := ⟨_, rfl⟩
  rw [← hl2] at hs2 HF
  obtain ⟨c2, hc2⟩ : ∃ c2, c2 = cap - n := ⟨_, rfl⟩
  rw [← hc2] at hs2 HF
  replace HF := hidp HF
  clear HQ H htn hpa hl2 hc2 hn hl h32
  go_enter Tryz.func223, Tryz.ntmps223
  go_wp2_with fail
  refine (HF.out _).mono ?_
  rintro e w2 ⟨rfl, hx2⟩
  replace hx2 := hidp hx2
  clear HF
  go_wp2_with (refine wpList_store_blk rfl 39 _ _ rfl w.heap.size (bvs (R.take n)) _ 39 rfl rfl hx2.out.2.2.1 hi.out hz.out (bvs_one _) ?_; intro w6 hw6)
  have b2 : Blk w6 w.heap.size (bvs (R.take n)) 39 := by rw [hw6.out]; exact hx2.out.2.2.1.row
  have hx6 := Bex.ofRow hw6.out
  obtain ⟨q1, q2, _, q4, q5⟩ := hx2.out
  refine bodyPost_ret (v := .agg (bvs (R.take n)).toArray) ?_ rfl ⟨rfl, q1.bex' hx6 (by omega) (by omega), q2.newRow hx6⟩
  exact results_cell_row Tryz.results223 _ _ w.heap.size 39 _ (0, 0) _ rfl b2 Tryz.underlying39 rfl hi2.out

set_option maxRecDepth 20000 in
theorem readHash_ok (c t : Nat) (p : Option Addr) (b o cap : Nat) (R X : List Nat) (n : Nat) (w : World) (H : Cu w c t p b o cap R) (hp : pRaw 32 R = .ok X n) :
    Calls Tryz.prog 222 #[.pointer (some ⟨c, 0, none⟩)] w fun e w' => e = .returned (.agg (bvs X).toArray) ∧ CuX w' c (t + n) b (R.drop n) cap ∧ Bex c w w' := by
  obtain ⟨rfl, rfl, hn⟩ := pRaw_ok hp
  have hl : (R.take 32).length = 32 := by rw [List.length_take]; omega
  have hi : (Tryz.prog.info? 39).map (·.size) = some (bvs (R.take 32)).length := by rw [bvs_len, hl]; kernel_rfl
  have hi2 : (Tryz.prog.info? 39).map (·.size) = some (bvs (R.take 32)).toArray.size := hi.trans (by rw [List.size_toArray])
  have hz : (bvs (List.replicate 32 0)).length = (bvs (R.take 32)).length := by rw [bvs_len, bvs_len, hl]; rfl
  have hi := hidp hi
  have hi2 := hidp hi2
  have hz := hidp hz
  have HF := hidp (fun o2 : Obj => takeHash_ok c t p b o cap R 32 (w.alloc o2) (H.below' ((Below.refl _ w).alloc (Nat.le_refl _) o2)) rfl hn)
  have HL := hidp (And.intro H.blk.lt (H.bs.ptr (by have := H.bs.le; omega)).2)
  clear H hl hn hp
  go_enter Tryz.func222, Tryz.ntmps222
  go_wp2_with fail
  refine (HF.out _).mono ?_
  rintro e w2 ⟨rfl, h1, h2⟩
  have hz2 := hidp (h2.blk (Blk.new w (Array.toList _) 39) (by have := HL.out.1; omega))
  have hx2 := hidp (And.intro h1 (((Bex.refl c w).alloc _).bex h2))
  clear HF h1 h2
  go_wp2_with (refine wpList_store_blk rfl 39 _ _ rfl w.heap.size (bvs (R.take 32)) _ 39 rfl rfl hz2.out hi.out hz.out (bvs_one _) ?_; intro w6 hw6)
  have b2 : Blk w6 w.heap.size (bvs (R.take 32)) 39 := by rw [hw6.out]; exact hz2.out.row
  have hx6 := Bex.ofRow hw6.out
  have q := HL.out
  refine bodyPost_ret (v := .agg (bvs (R.take 32)).toArray) ?_ rfl ⟨rfl, hx2.out.1.bex' hx6 (by omega) (by omega), hx2.out.2.newRow hx6⟩
  exact results_cell_row Tryz.results222 _ _ w.heap.size 39 _ (0, 0) _ rfl b2 Tryz.underlying39 rfl hi2.out
set_option maxRecDepth 20000 in
theorem readHash_er (c t : Nat) (p : Option Addr) (b o cap : Nat) (R : List Nat) (x : Nat) (w : World) (H : Cu w c t p b o cap R) (hp : pRaw 32 R = .er x) :
    Calls Tryz.prog 222 #[.pointer (some ⟨c, 0, none⟩)] w fun e w' => e = .panicked (brk x) ∧ Bex c w w' := by
  obtain ⟨rfl, hn⟩ := pRaw_er hp
  have HF := hidp (fun o2 : Obj => takeHash_short c t p b o cap R 32 (w.alloc o2) (H.below' ((Below.refl _ w).alloc (Nat.le_refl _) o2)) hn)
  clear H hn hp
  go_enter Tryz.func222, Tryz.ntmps222
  go_wp2_with fail
  refine (HF.out _).mono ?_
  rintro e w2 ⟨rfl, h1⟩
  exact ⟨rfl, rfl, ((Bex.refl c w).alloc _).bex (Bex.of_below h1)⟩

set_option maxRecDepth 20000 in
set_option maxHeartbeats 2000000 in
theorem elemHash_ok (g t : Nat) (p : Option Addr) (b o cap : Nat) (R X : List Nat) (n : Nat) (w : World) (H : Rd w g t p b o cap R 0 0) (hl : X.length = 32)
    (hread : ∀ w1 c, Below w.heap.size w w1 → w.heap.size ≤ c → Cu w1 c t p b o cap R → Calls Tryz.prog 222 #[.pointer (some ⟨c, 0, none⟩)] w1 fun e w' => e = .returned (.agg (bvs X).toArray) ∧ CuX w' c (t + n) b (R.drop n) cap ∧ Bex c w1 w') :
    Calls Tryz.prog 221 #[.pointer (some ⟨g, 0, none⟩), .func (.func 222) #[] #[]] w fun e w' => e = .returned (.agg (bvs X).toArray) ∧ RdX w' g (t + n) b (R.drop n) 0 0 ∧ Bex g w w' := by
  have hi : (Tryz.prog.info? 39).map (·.size) = some (bvs X).length := by rw [bvs_len, hl]; kernel_rfl
  have hi2 : (Tryz.prog.info? 39).map (·.size) = some (bvs X).toArray.size := hi.trans (by rw [List.size_toArray])
  have hz : (bvs (List.replicate 32 0)).length = (bvs X).length := by rw [bvs_len, bvs_len, hl]; rfl
  have hi := hidp hi
  have hi2 := hidp hi2
  have hz := hidp hz
  clear hl
  have hmf : ∀ (fn : Fn) (first cap : Array Value) (w : World), (Instr.makeFunc fn first cap).run Tryz.prog w = .ok (.func fn first cap) w := fun _ _ _ _ => rfl
  have HQ := fun o1 o2 o3 : Obj => H.below ((((Below.refl _ w).alloc (Nat.le_refl _) o1).alloc (by simp) o2).alloc (by simp; omega) o3)
  have h1 := fun o1 o2 o3 : Obj => (HQ o1 o2 o3).c1
  have h2 := fun o1 o2 o3 : Obj => (HQ o1 o2 o3).c2
  have h3 := fun o1 o2 o3 : Obj => (HQ o1 o2 o3).c3
  have HV := hidp (fun (w' : World) (hB : Below w.heap.size w w') => valid_yes (H.below hB))
  have HH := hidp H
  have hlt := H.blk.lt
  have hread := hidp hread
  clear H HQ
  go_enter_defers Tryz.func221, Tryz.ntmps221
  go_wp2_with (go_at_call 163; refine (HV.out _ (by (repeat' (first | (with_reducible exact Below.refl _ _) | (with_reducible refine Below.alloc ?_ ?_ _) | (with_reducible refine Below.drew ?_) | (with_reducible refine Below.drewN ?_ _) | (with_reducible refine Below.setCell ?_ ?_ _) | go_size)))).mono ?_; rintro e wx ⟨rfl, rfl⟩)
  refine (hread.out _ _ (elWA_cu HH.out _ _ _).bel (by omega) (elWA_cu HH.out _ _ _).cu).mono ?_
  rintro e w1 ⟨rfl, hx, hbx⟩
  obtain ⟨p', o', cap', hE⟩ := ElA.of HH.out hx hbx
  have HE := hidp hE
  clear hE hx hbx HV HH hread h1 h2 h3
  go_wp2_with (first | (refine wpList_store_blk rfl 39 _ _ rfl (w.heap.size + 1 + 1) (bvs X) _ 39 rfl rfl HE.out.z2 hi.out hz.out (bvs_one _) ?_; intro w2 hw2; replace HE := hidp (And.intro HE.out (HE.out.next hw2.out)); have d0 := HE.out.2.cu.c0; have d1 := HE.out.2.cu.c1; have hbox := HE.out.2.box.cell 0; obtain ⟨pq, oq, capq, hrd⟩ := HE.out.2.rd; have g1 := hrd.c1; have g2 := hrd.c2; have f1 := hrd.blk.free 1; have f2 := hrd.blk.free 2; replace hrd := hidp hrd) | refine wpList_load_blk rfl 39 _ rfl (w.heap.size + 1 + 1) (bvs X) 39 rfl (HE.out.2.z2.sc2 (by have := HE.out.1.hg; omega) _ _ _ _) _ Tryz.underlying39 rfl hi.out ?_ | (refine wpList_store_blk rfl 39 _ _ rfl (w.heap.size + 1) (bvs X) _ 39 rfl rfl (HE.out.2.z1.sc2 (by have := HE.out.1.hg; omega) _ _ _ _) hi.out hz.out (bvs_one _) ?_; intro w3 hw3))
  have e1 : (t : Int) + (n : Int) = ((t + n : Nat) : Int) := by omega
  have e2 : R.length - n = (R.drop n).length := by rw [List.length_drop]
  have hw := hw3.out
  rw [e1, e2] at hw
  have hq := HE.out.1.hg
  have hput := hrd.out.put HE.out.2.cu.bs HE.out.1.ne HE.out.2.cu.lim
  have hbe : Bex g w2 ((w2.setCell ⟨g, 1, none⟩ (.int .i64 (t + n : Nat))).setCell ⟨g, 2, none⟩ (.slice p' (R.drop n).length cap')) := ((Bex.refl g w2).setCell _ _).setCell _ _
  have hx3 := Bex.ofRow hw
  have hR3 := hput.bex hx3 (by omega) (fun h0 => by have := HE.out.1.nb h0; omega)
  have b3 : Blk w3 (w.heap.size + 1) (bvs X) 39 := by rw [hw]; exact (HE.out.2.z1.sc2 (by omega) _ _ _ _).row
  have hbox3 := hx3.blk (HE.out.2.box.sc2 (by omega) 1 2 (.int .i64 (t + n : Nat)) (.slice p' (R.drop n).length cap')) (by omega)
  have hB3 := (HE.out.2.bex.bex hbe).newRowAt hx3 (by omega)
  refine leaves_cons (f := 264) (args := #[.pointer (some ⟨w.heap.size, 0, none⟩)]) (by simp) (by simp [go_sem]) ?_
  refine (endHash_none w.heap.size g _ (hbox3.cell 0)).mono ?_
  rintro e u' w'' ⟨rfl, rfl, rfl⟩
  exact ⟨_, results_cell_row Tryz.results221 _ _ (w.heap.size + 1) 39 _ (0, 0) _ rfl (by exact b3) Tryz.underlying39 rfl hi2.out, rfl, ⟨_, _, _, hR3.drew⟩, hB3.drew⟩
set_option maxRecDepth 20000 in
set_option maxHeartbeats 2000000 in
theorem elemHash_er (g t : Nat) (p : Option Addr) (b o cap : Nat) (R : List Nat) (x : Nat) (w : World) (H : Rd w g t p b o cap R 0 0)
    (hread : ∀ w1 c, Below w.heap.size w w1 → w.heap.size ≤ c → Cu w1 c t p b o cap R → Calls Tryz.prog 222 #[.pointer (some ⟨c, 0, none⟩)] w1 fun e w' => e = .panicked (brk x) ∧ Bex c w1 w') :
    Calls Tryz.prog 221 #[.pointer (some ⟨g, 0, none⟩), .func (.func 222) #[] #[]] w fun e w' => e = .returned (.agg (bvs (List.replicate 32 0)).toArray) ∧ RdX w' g t b [] x t ∧ Bex g w w' := by
  have hmf : ∀ (fn : Fn) (first cap : Array Value) (w : World), (Instr.makeFunc fn first cap).run Tryz.prog w = .ok (.func fn first cap) w := fun _ _ _ _ => rfl
  have HQ := fun o1 o2 o3 : Obj => H.below ((((Below.refl _ w).alloc (Nat.le_refl _) o1).alloc (by simp) o2).alloc (by simp; omega) o3)
  have h1 := fun o1 o2 o3 : Obj => (HQ o1 o2 o3).c1
  have h2 := fun o1 o2 o3 : Obj => (HQ o1 o2 o3).c2
  have h3 := fun o1 o2 o3 : Obj => (HQ o1 o2 o3).c3
  have HV := hidp (fun (w' : World) (hB : Below w.heap.size w w') => valid_yes (H.below hB))
  have HH := hidp H
  have hlt := H.blk.lt
  have hread := hidp hread
  clear H HQ
  go_enter_defers Tryz.func221, Tryz.ntmps221
  go_wp2_with (go_at_call 163; refine (HV.out _ (by (repeat' (first | (with_reducible exact Below.refl _ _) | (with_reducible refine Below.alloc ?_ ?_ _) | (with_reducible refine Below.drew ?_) | (with_reducible refine Below.drewN ?_ _) | (with_reducible refine Below.setCell ?_ ?_ _) | go_size)))).mono ?_; rintro e wx ⟨rfl, rfl⟩)
  refine (hread.out _ _ (elWA_cu HH.out _ _ _).bel (by omega) (elWA_cu HH.out _ _ _).cu).mono ?_
  rintro e w1 ⟨rfl, hbx⟩
  obtain ⟨hrd, hbox, hz1, hb2, hq⟩ := ElE_of HH.out hbx
  refine leaves_cons (f := 264) (args := #[.pointer (some ⟨w.heap.size, 0, none⟩)]) (by simp) (by simp [go_sem]) ?_
  refine (endHash_brk w.heap.size g t p b o cap R 0 0 x _ hrd (hbox.cell 0)).mono ?_
  rintro e u' w'' ⟨rfl, rfl, h5, h6⟩
  exact ⟨_, results_cell_row Tryz.results221 _ _ (w.heap.size + 1) 39 _ (0, 0) _ rfl (h6.blk hz1 (by omega)) Tryz.underlying39 rfl (by kernel_rfl), rfl, h5, hb2.bex h6⟩
set_option maxRecDepth 20000 in
theorem mHash_ok (g t : Nat) (p : Option Addr) (b o cap : Nat) (R X : List Nat) (n : Nat) (w : World) (H : Rd w g t p b o cap R 0 0) (hp : pRaw 32 R = .ok X n) :
    Calls Tryz.prog 164 #[.pointer (some ⟨g, 0, none⟩)] w fun e w' => e = .returned (.agg (bvs X).toArray) ∧ RdX w' g (t + n) b (R.drop n) 0 0 ∧ Bex g w w' := by
  have hl : X.length = 32 := by obtain ⟨rfl, _, hn⟩ := pRaw_ok hp; rw [List.length_take]; omega
  have hi : (Tryz.prog.info? 39).map (·.size) = some (bvs X).length := by rw [bvs_len, hl]; kernel_rfl
  have hi2 : (Tryz.prog.info? 39).map (·.size) = some (bvs X).toArray.size := hi.trans (by rw [List.size_toArray])
  have hz : (bvs (List.replicate 32 0)).length = (bvs X).length := by rw [bvs_len, bvs_len, hl]; rfl
  have hi := hidp hi
  have hi2 := hidp hi2
  have hz := hidp hz
  have HE := hidp (fun o2 : Obj => elemHash_ok g t p b o cap R X n (w.alloc o2) (H.below ((Below.refl _ w).alloc (Nat.le_refl _) o2)) hl (fun w1 c _ _ hc => readHash_ok c t p b o cap R X n w1 hc hp))
  have HL := hidp (And.intro H.blk.lt (H.bs.ptr (by have := H.bs.le; have := (pRaw_ok hp).2.2; omega)).2)
  clear H hp hl
  go_enter Tryz.func164, Tryz.ntmps164
  go_wp2_with fail
  refine (HE.out _).mono ?_
  rintro e w2 ⟨rfl, h1, h2⟩
  have hz2 := hidp (h2.blk (Blk.new w (Array.toList _) 39) (by have := HL.out.1; omega))
  have hx2 := hidp (And.intro h1 (((Bex.refl g w).alloc _).bex h2))
  clear HE h1 h2
  go_wp2_with (refine wpList_store_blk rfl 39 _ _ rfl w.heap.size (bvs X) _ 39 rfl rfl hz2.out hi.out hz.out (bvs_one _) ?_; intro w6 hw6)
  have b2 : Blk w6 w.heap.size (bvs X) 39 := by rw [hw6.out]; exact hz2.out.row
  have hx6 := Bex.ofRow hw6.out
  have q := HL.out
  refine bodyPost_ret (v := .agg (bvs X).toArray) ?_ rfl ⟨rfl, hx2.out.1.bexA hx6 (by omega) (by omega), hx2.out.2.newRow hx6⟩
  exact results_cell_row Tryz.results164 _ _ w.heap.size 39 _ (0, 0) _ rfl b2 Tryz.underlying39 rfl hi2.out
set_option maxRecDepth 20000 in
theorem mHash_er (g t : Nat) (p : Option Addr) (b o cap : Nat) (R : List Nat) (x : Nat) (w : World) (H : Rd w g t p b o cap R 0 0) (hbw : b < w.heap.size) (hp : pRaw 32 R = .er x) :
    Calls Tryz.prog 164 #[.pointer (some ⟨g, 0, none⟩)] w fun e w' => e = .returned (.agg (bvs (List.replicate 32 0)).toArray) ∧ RdX w' g t b [] x t ∧ Bex g w w' := by
  have hi := hidp (show (Tryz.prog.info? 39).map (·.size) = some (bvs (List.replicate 32 0)).length by kernel_rfl)
  have HE := hidp (fun o2 : Obj => elemHash_er g t p b o cap R x (w.alloc o2) (H.below ((Below.refl _ w).alloc (Nat.le_refl _) o2)) (fun w1 c _ _ hc => readHash_er c t p b o cap R x w1 hc hp))
  have HL := hidp (And.intro H.blk.lt hbw)
  clear H hp hbw
  go_enter Tryz.func164, Tryz.ntmps164
  go_wp2_with fail
  refine (HE.out _).mono ?_
  rintro e w2 ⟨rfl, h1, h2⟩
  have hz2 := hidp (h2.blk (Blk.new w (Array.toList _) 39) (by have := HL.out.1; omega))
  have hx2 := hidp (And.intro h1 (((Bex.refl g w).alloc _).bex h2))
  clear HE h1 h2
  go_wp2_with (refine wpList_store_blk rfl 39 _ _ rfl w.heap.size (bvs (List.replicate 32 0)) _ 39 rfl rfl hz2.out hi.out rfl (bvs_one _) ?_; intro w6 hw6)
  have b2 : Blk w6 w.heap.size (bvs (List.replicate 32 0)) 39 := by rw [hw6.out]; exact hz2.out.row
  have hx6 := Bex.ofRow hw6.out
  have q := HL.out
  refine bodyPost_ret (v := .agg (bvs (List.replicate 32 0)).toArray) ?_ rfl ⟨rfl, hx2.out.1.bexA hx6 (by omega) (by omega), hx2.out.2.newRow hx6⟩
  exact results_cell_row Tryz.results164 _ _ w.heap.size 39 _ (0, 0) _ rfl b2 Tryz.underlying39 rfl (by kernel_rfl)

set_option maxRecDepth 20000 in
theorem keyOf_any (b o cap : Nat) (L : List Nat) (w : World) (h : Bs w (some ⟨b, o, none⟩) b o L cap) (hl : L.length = 4) :
    Calls Tryz.prog 203 #[.slice (some ⟨b, o, none⟩) 4 cap] w fun e w' => e = .returned (.agg (bvs L).toArray) ∧ Below w.heap.size w w' := by
  have HB : Hid (Below w.heap.size w (w.alloc (.cells (bvs (List.replicate 4 0)).toArray 24))) := hidp ((Below.refl _ w).alloc (Nat.le_refl _) _)
  have HZ := hidp (Blk.new w (bvs (List.replicate 4 0)) 24)
  have ha := fun w' : World => run_arrayAt (P := Tryz.prog) (w := w') 24 5 4 (some ⟨b, o, none⟩) 4 cap Tryz.underlying24 (Nat.le_refl _)
  have hr : Hid ((w.alloc (.cells (bvs (List.replicate 4 0)).toArray 24)).rangeAt b o (bvs L)) := hidp (fun j v hj => by
    have hj2 := (List.getElem?_eq_some_iff.1 hj).1
    rw [bvs_len] at hj2
    have q := (h.below HB.out).here j hj2
    rw [bvs_get hj2] at hj
    cases hj
    exact q)
  have hi : (Tryz.prog.info? 24).map (·.size) = some (bvs L).length := by rw [bvs_len, hl]; kernel_rfl
  have hi2 : (Tryz.prog.info? 24).map (·.size) = some (bvs L).toArray.size := hi.trans (by rw [List.size_toArray])
  have hz : (bvs (List.replicate 4 0)).length = (bvs L).length := by rw [bvs_len, bvs_len, hl]; rfl
  have hi := hidp hi
  have hi2 := hidp hi2
  have hz := hidp hz
  clear h hl
  go_enter Tryz.func203, Tryz.ntmps203
  go_wp2_with (first | refine wpList_load_mid rfl 24 _ rfl b o rfl (bvs L) _ hr.out Tryz.underlying24 rfl hi.out ?_ | (refine wpList_store_blk rfl 24 _ _ rfl w.heap.size (bvs L) (bvs (List.replicate 4 0)) 24 rfl rfl HZ.out hi.out hz.out (bvs_one _) ?_; intro w6 hw6))
  have b2 : Blk w6 w.heap.size (bvs L) 24 := by rw [hw6.out]; exact HZ.out.row
  refine bodyPost_ret (v := .agg (bvs L).toArray) ?_ rfl ⟨rfl, ?_⟩
  · exact results_cell_row Tryz.results203 _ _ w.heap.size 24 _ (0, 0) _ rfl b2 Tryz.underlying24 rfl hi2.out
  · rw [hw6.out]; exact below_setRow HB.out (Nat.le_refl _) _

set_option maxRecDepth 20000 in
theorem takeKey_short (c t : Nat) (p : Option Addr) (b o cap : Nat) (R : List Nat) (n : Nat) (w : World) (H : Cu w c t p b o cap R) (hn : R.length < n) :
    Calls Tryz.prog 202 #[.pointer (some ⟨c, 0, none⟩), .int .i64 (n : Nat), .func (.func 203) #[] #[]] w fun e w' => e = .panicked (brk 6) ∧ Below w.heap.size w w' := by
  have HB : Hid (Below w.heap.size w (w.alloc (.cells (bvs (List.replicate 4 0)).toArray 24))) := hidp ((Below.refl _ w).alloc (Nat.le_refl _) _)
  have HZ := hidp (Blk.new w (bvs (List.replicate 4 0)) 24)
  have hc := fun o : Obj => (H.below' ((Below.refl _ w).alloc (Nat.le_refl _) o)).c1
  have hgt : decide (R.length < n) = true := decide_eq_true hn
  clear H hn
  go_enter Tryz.func202, Tryz.ntmps202
  go_wp2
  exact ⟨rfl, rfl, HB.out⟩
theorem takeKey_of {c t : Nat} {p : Option Addr} {b o cap : Nat} {R : List Nat} {n : Nat} {w : World} (H : Cu w c t p b o cap R) (h32 : n = 4) (hn : n ≤ R.length) (Z : Array Value) :
    Calls Tryz.prog 203 #[.slice p n cap] (((w.alloc (.cells Z 24)).setCell ⟨c, 1, none⟩ (.slice (partA p cap n) (R.length - n) (cap - n))).setCell ⟨c, 0, none⟩ (.int .i64 (t + n : Nat))) fun e w2 => e = .returned (.agg (bvs (R.take n)).toArray) ∧ (CuX w2 c (t + n) b (R.drop n) cap ∧ Bex c w w2 ∧ Blk w2 w.heap.size Z.toList 24 ∧ c < w.heap.size ∧ b < w.heap.size) := by
  have hB : Below w.heap.size w (w.alloc (.cells Z 24)) := (Below.refl _ w).alloc (Nat.le_refl _) _
  have hZ : Blk (w.alloc (.cells Z 24)) w.heap.size Z.toList 24 := Blk.new w Z.toList 24
  have H1 := H.below' hB
  have hc := H.blk.lt
  obtain ⟨hp0, hb0⟩ := H.bs.ptr (by have := H.bs.le; omega)
  have hl : (R.take n).length = 4 := by rw [List.length_take]; omega
  have hp := H1.pass hn
  have hq := hp.2.1
  rw [hp0] at hp hq ⊢
  subst h32
  refine (keyOf_any b o cap _ _ hq hl).mono ?_
  rintro e w2 ⟨rfl, hb2⟩
  have hz := hp.2.2.blk hZ (by omega)
  exact ⟨rfl, ⟨_, _, _, Nat.sub_le _ _, hp.1.below' hb2⟩, ((Bex.of_below hB).trans hp.2.2).trans (Bex.of_below hb2), hz.below hb2 hz.lt, hc, hb0⟩
set_option maxRecDepth 20000 in
set_option maxHeartbeats 1000000 in
theorem takeKey_ok (c t : Nat) (p : Option Addr) (b o cap : Nat) (R : List Nat) (n : Nat) (w : World) (H : Cu w c t p b o cap R) (h32 : n = 4) (hn : n ≤ R.length) :
    Calls Tryz.prog 202 #[.pointer (some ⟨c, 0, none⟩), .int .i64 (n : Nat), .func (.func 203) #[] #[]] w fun e w' => e = .returned (.agg (bvs (R.take n)).toArray) ∧ CuX w' c (t + n) b (R.drop n) cap ∧ Bex c w w' := by
  have hl : (R.take n).length = 4 := by rw [List.length_take]; omega
  have hi : (Tryz.prog.info? 24).map (·.size) = some (bvs (R.take n)).length := by rw [bvs_len, hl]; kernel_rfl
  have hi2 : (Tryz.prog.info? 24).map (·.size) = some (bvs (R.take n)).toArray.size := hi.trans (by rw [List.size_toArray])
  have hz : (bvs (List.replicate 4 0)).length = (bvs (R.take n)).length := by rw [bvs_len, bvs_len, hl]; rfl
  have hi := hidp hi
  have hi2 := hidp hi2
  have hz := hidp hz
  have HF := hidp (fun Z => takeKey_of H h32 hn Z)
  have HQ := fun o : Obj => H.below' ((Below.refl _ w).alloc (Nat.le_refl _) o)
  have hc := fun o : Obj => (HQ o).c1
  have hc0 := fun o : Obj => (HQ o).c0
  have hf0 := fun o : Obj => (HQ o).blk.free 0
  have hf1 := fun o : Obj => (HQ o).blk.free 1
  have hgt : decide (R.length < n) = false := decide_eq_false (by omega)
  have hs1 := fun w => run_part_h p R.length cap n (by have := H.bs.le; omega) w
  have hs2 := fun w => run_part_l p R.length cap n hn w
  obtain ⟨hadd, hadd2⟩ := add_at (t := t) (n := n) (by have := H.lim; omega)
  obtain ⟨tn, htn⟩ : ∃ tn, tn = t + n := ⟨_, rfl⟩
  rw [← htn] at hadd hadd2
  replace HF := HF.out
  rw [← htn] at HF ⊢
  obtain ⟨pa, hpa⟩ : ∃ pa, pa = partA p cap n := ⟨_, rfl⟩
  rw [← hpa] at hs2 HF
  obtain ⟨l2, hl2⟩ : ∃ l2, l2 = R.length - n := ⟨_, rfl⟩
  rw [← hl2] at hs2 HF
  obtain ⟨c2, hc2⟩ : ∃ c2, c2 = cap - n := ⟨_, rfl⟩
  rw [← hc2] at hs2 HF
  replace HF := hidp HF
  clear HQ H htn hpa hl2 hc2 hn hl h32
  go_enter Tryz.func202, Tryz.ntmps202
  go_wp2_with fail
  refine (HF.out _).mono ?_
  rintro e w2 ⟨rfl, hx2⟩
  replace hx2 := hidp hx2
  clear HF
  go_wp2_with (refine wpList_store_blk rfl 24 _ _ rfl w.heap.size (bvs (R.take n)) _ 24 rfl rfl hx2.out.2.2.1 hi.out hz.out (bvs_one _) ?_; intro w6 hw6)
  have b2 : Blk w6 w.heap.size (bvs (R.take n)) 24 := by rw [hw6.out]; exact hx2.out.2.2.1.row
  have hx6 := Bex.ofRow hw6.out
  obtain ⟨q1, q2, _, q4, q5⟩ := hx2.out
  refine bodyPost_ret (v := .agg (bvs (R.take n)).toArray) ?_ rfl ⟨rfl, q1.bex' hx6 (by omega) (by omega), q2.newRow hx6⟩
  exact results_cell_row Tryz.results202 _ _ w.heap.size 24 _ (0, 0) _ rfl b2 Tryz.underlying24 rfl hi2.out

set_option maxRecDepth 20000 in
theorem readKey_ok (c t : Nat) (p : Option Addr) (b o cap : Nat) (R X : List Nat) (n : Nat) (w : World) (H : Cu w c t p b o cap R) (hp : pRaw 4 R = .ok X n) :
    Calls Tryz.prog 201 #[.pointer (some ⟨c, 0, none⟩)] w fun e w' => e = .returned (.agg (bvs X).toArray) ∧ CuX w' c (t + n) b (R.drop n) cap ∧ Bex c w w' := by
  obtain ⟨rfl, rfl, hn⟩ := pRaw_ok hp
  have hl : (R.take 4).length = 4 := by rw [List.length_take]; omega
  have hi : (Tryz.prog.info? 24).map (·.size) = some (bvs (R.take 4)).length := by rw [bvs_len, hl]; kernel_rfl
  have hi2 : (Tryz.prog.info? 24).map (·.size) = some (bvs (R.take 4)).toArray.size := hi.trans (by rw [List.size_toArray])
  have hz : (bvs (List.replicate 4 0)).length = (bvs (R.take 4)).length := by rw [bvs_len, bvs_len, hl]; rfl
  have hi := hidp hi
  have hi2 := hidp hi2
  have hz := hidp hz
  have HF := hidp (fun o2 : Obj => takeKey_ok c t p b o cap R 4 (w.alloc o2) (H.below' ((Below.refl _ w).alloc (Nat.le_refl _) o2)) rfl hn)
  have HL := hidp (And.intro H.blk.lt (H.bs.ptr (by have := H.bs.le; omega)).2)
  clear H hl hn hp
  go_enter Tryz.func201, Tryz.ntmps201
  go_wp2_with fail
  refine (HF.out _).mono ?_
  rintro e w2 ⟨rfl, h1, h2⟩
  have hz2 := hidp (h2.blk (Blk.new w (Array.toList _) 24) (by have := HL.out.1; omega))
  have hx2 := hidp (And.intro h1 (((Bex.refl c w).alloc _).bex h2))
  clear HF h1 h2
  go_wp2_with (refine wpList_store_blk rfl 24 _ _ rfl w.heap.size (bvs (R.take 4)) _ 24 rfl rfl hz2.out hi.out hz.out (bvs_one _) ?_; intro w6 hw6)
  have b2 : Blk w6 w.heap.size (bvs (R.take 4)) 24 := by rw [hw6.out]; exact hz2.out.row
  have hx6 := Bex.ofRow hw6.out
  have q := HL.out
  refine bodyPost_ret (v := .agg (bvs (R.take 4)).toArray) ?_ rfl ⟨rfl, hx2.out.1.bex' hx6 (by omega) (by omega), hx2.out.2.newRow hx6⟩
  exact results_cell_row Tryz.results201 _ _ w.heap.size 24 _ (0, 0) _ rfl b2 Tryz.underlying24 rfl hi2.out
set_option maxRecDepth 20000 in
theorem readKey_er (c t : Nat) (p : Option Addr) (b o cap : Nat) (R : List Nat) (x : Nat) (w : World) (H : Cu w c t p b o cap R) (hp : pRaw 4 R = .er x) :
    Calls Tryz.prog 201 #[.pointer (some ⟨c, 0, none⟩)] w fun e w' => e = .panicked (brk x) ∧ Bex c w w' := by
  obtain ⟨rfl, hn⟩ := pRaw_er hp
  have HF := hidp (fun o2 : Obj => takeKey_short c t p b o cap R 4 (w.alloc o2) (H.below' ((Below.refl _ w).alloc (Nat.le_refl _) o2)) hn)
  clear H hn hp
  go_enter Tryz.func201, Tryz.ntmps201
  go_wp2_with fail
  refine (HF.out _).mono ?_
  rintro e w2 ⟨rfl, h1⟩
  exact ⟨rfl, rfl, ((Bex.refl c w).alloc _).bex (Bex.of_below h1)⟩

set_option maxRecDepth 20000 in
set_option maxHeartbeats 2000000 in
theorem elemKey_ok (g t : Nat) (p : Option Addr) (b o cap : Nat) (R X : List Nat) (n : Nat) (w : World) (H : Rd w g t p b o cap R 0 0) (hl : X.length = 4)
    (hread : ∀ w1 c, Below w.heap.size w w1 → w.heap.size ≤ c → Cu w1 c t p b o cap R → Calls Tryz.prog 201 #[.pointer (some ⟨c, 0, none⟩)] w1 fun e w' => e = .returned (.agg (bvs X).toArray) ∧ CuX w' c (t + n) b (R.drop n) cap ∧ Bex c w1 w') :
    Calls Tryz.prog 200 #[.pointer (some ⟨g, 0, none⟩), .func (.func 201) #[] #[]] w fun e w' => e = .returned (.agg (bvs X).toArray) ∧ RdX w' g (t + n) b (R.drop n) 0 0 ∧ Bex g w w' := by
  have hi : (Tryz.prog.info? 24).map (·.size) = some (bvs X).length := by rw [bvs_len, hl]; kernel_rfl
  have hi2 : (Tryz.prog.info? 24).map (·.size) = some (bvs X).toArray.size := hi.trans (by rw [List.size_toArray])
  have hz : (bvs (List.replicate 4 0)).length = (bvs X).length := by rw [bvs_len, bvs_len, hl]; rfl
  have hi := hidp hi
  have hi2 := hidp hi2
  have hz := hidp hz
  clear hl
  have hmf : ∀ (fn : Fn) (first cap : Array Value) (w : World), (Instr.makeFunc fn first cap).run Tryz.prog w = .ok (.func fn first cap) w := fun _ _ _ _ => rfl
  have HQ := fun o1 o2 o3 : Obj => H.below ((((Below.refl _ w).alloc (Nat.le_refl _) o1).alloc (by simp) o2).alloc (by simp; omega) o3)
  have h1 := fun o1 o2 o3 : Obj => (HQ o1 o2 o3).c1
  have h2 := fun o1 o2 o3 : Obj => (HQ o1 o2 o3).c2
  have h3 := fun o1 o2 o3 : Obj => (HQ o1 o2 o3).c3
  have HV := hidp (fun (w' : World) (hB : Below w.heap.size w w') => valid_yes (H.below hB))
  have HH := hidp H
  have hlt := H.blk.lt
  have hread := hidp hread
  clear H HQ
  go_enter_defers Tryz.func200, Tryz.ntmps200
  go_wp2_with (go_at_call 163; refine (HV.out _ (by (repeat' (first | (with_reducible exact Below.refl _ _) | (with_reducible refine Below.alloc ?_ ?_ _) | (with_reducible refine Below.drew ?_) | (with_reducible refine Below.drewN ?_ _) | (with_reducible refine Below.setCell ?_ ?_ _) | go_size)))).mono ?_; rintro e wx ⟨rfl, rfl⟩)
  refine (hread.out _ _ (elWA_cu HH.out _ _ _).bel (by omega) (elWA_cu HH.out _ _ _).cu).mono ?_
  rintro e w1 ⟨rfl, hx, hbx⟩
  obtain ⟨p', o', cap', hE⟩ := ElA.of HH.out hx hbx
  have HE := hidp hE
  clear hE hx hbx HV HH hread h1 h2 h3
  go_wp2_with (first | (refine wpList_store_blk rfl 24 _ _ rfl (w.heap.size + 1 + 1) (bvs X) _ 24 rfl rfl HE.out.z2 hi.out hz.out (bvs_one _) ?_; intro w2 hw2; replace HE := hidp (And.intro HE.out (HE.out.next hw2.out)); have d0 := HE.out.2.cu.c0; have d1 := HE.out.2.cu.c1; have hbox := HE.out.2.box.cell 0; obtain ⟨pq, oq, capq, hrd⟩ := HE.out.2.rd; have g1 := hrd.c1; have g2 := hrd.c2; have f1 := hrd.blk.free 1; have f2 := hrd.blk.free 2; replace hrd := hidp hrd) | refine wpList_load_blk rfl 24 _ rfl (w.heap.size + 1 + 1) (bvs X) 24 rfl (HE.out.2.z2.sc2 (by have := HE.out.1.hg; omega) _ _ _ _) _ Tryz.underlying24 rfl hi.out ?_ | (refine wpList_store_blk rfl 24 _ _ rfl (w.heap.size + 1) (bvs X) _ 24 rfl rfl (HE.out.2.z1.sc2 (by have := HE.out.1.hg; omega) _ _ _ _) hi.out hz.out (bvs_one _) ?_; intro w3 hw3))
  have e1 : (t : Int) + (n : Int) = ((t + n : Nat) : Int) := by omega
  have e2 : R.length - n = (R.drop n).length := by rw [List.length_drop]
  have hw := hw3.out
  rw [e1, e2] at hw
  have hq := HE.out.1.hg
  have hput := hrd.out.put HE.out.2.cu.bs HE.out.1.ne HE.out.2.cu.lim
  have hbe : Bex g w2 ((w2.setCell ⟨g, 1, none⟩ (.int .i64 (t + n : Nat))).setCell ⟨g, 2, none⟩ (.slice p' (R.drop n).length cap')) := ((Bex.refl g w2).setCell _ _).setCell _ _
  have hx3 := Bex.ofRow hw
  have hR3 := hput.bex hx3 (by omega) (fun h0 => by have := HE.out.1.nb h0; omega)
  have b3 : Blk w3 (w.heap.size + 1) (bvs X) 24 := by rw [hw]; exact (HE.out.2.z1.sc2 (by omega) _ _ _ _).row
  have hbox3 := hx3.blk (HE.out.2.box.sc2 (by omega) 1 2 (.int .i64 (t + n : Nat)) (.slice p' (R.drop n).length cap')) (by omega)
  have hB3 := (HE.out.2.bex.bex hbe).newRowAt hx3 (by omega)
  refine leaves_cons (f := 253) (args := #[.pointer (some ⟨w.heap.size, 0, none⟩)]) (by simp) (by simp [go_sem]) ?_
  refine (endKey_none w.heap.size g _ (hbox3.cell 0)).mono ?_
  rintro e u' w'' ⟨rfl, rfl, rfl⟩
  exact ⟨_, results_cell_row Tryz.results200 _ _ (w.heap.size + 1) 24 _ (0, 0) _ rfl (by exact b3) Tryz.underlying24 rfl hi2.out, rfl, ⟨_, _, _, hR3.drew⟩, hB3.drew⟩
set_option maxRecDepth 20000 in
set_option maxHeartbeats 2000000 in
theorem elemKey_er (g t : Nat) (p : Option Addr) (b o cap : Nat) (R : List Nat) (x : Nat) (w : World) (H : Rd w g t p b o cap R 0 0)
    (hread : ∀ w1 c, Below w.heap.size w w1 → w.heap.size ≤ c → Cu w1 c t p b o cap R → Calls Tryz.prog 201 #[.pointer (some ⟨c, 0, none⟩)] w1 fun e w' => e = .panicked (brk x) ∧ Bex c w1 w') :
    Calls Tryz.prog 200 #[.pointer (some ⟨g, 0, none⟩), .func (.func 201) #[] #[]] w fun e w' => e = .returned (.agg (bvs (List.replicate 4 0)).toArray) ∧ RdX w' g t b [] x t ∧ Bex g w w' := by
  have hmf : ∀ (fn : Fn) (first cap : Array Value) (w : World), (Instr.makeFunc fn first cap).run Tryz.prog w = .ok (.func fn first cap) w := fun _ _ _ _ => rfl
  have HQ := fun o1 o2 o3 : Obj => H.below ((((Below.refl _ w).alloc (Nat.le_refl _) o1).alloc (by simp) o2).alloc (by simp; omega) o3)
  have h1 := fun o1 o2 o3 : Obj => (HQ o1 o2 o3).c1
  have h2 := fun o1 o2 o3 : Obj => (HQ o1 o2 o3).c2
  have h3 := fun o1 o2 o3 : Obj => (HQ o1 o2 o3).c3
  have HV := hidp (fun (w' : World) (hB : Below w.heap.size w w') => valid_yes (H.below hB))
  have HH := hidp H
  have hlt := H.blk.lt
  have hread := hidp hread
  clear H HQ
  go_enter_defers Tryz.func200, Tryz.ntmps200
  go_wp2_with (go_at_call 163; refine (HV.out _ (by (repeat' (first | (with_reducible exact Below.refl _ _) | (with_reducible refine Below.alloc ?_ ?_ _) | (with_reducible refine Below.drew ?_) | (with_reducible refine Below.drewN ?_ _) | (with_reducible refine Below.setCell ?_ ?_ _) | go_size)))).mono ?_; rintro e wx ⟨rfl, rfl⟩)
  refine (hread.out _ _ (elWA_cu HH.out _ _ _).bel (by omega) (elWA_cu HH.out _ _ _).cu).mono ?_
  rintro e w1 ⟨rfl, hbx⟩
  obtain ⟨hrd, hbox, hz1, hb2, hq⟩ := ElE_of HH.out hbx
  refine leaves_cons (f := 253) (args := #[.pointer (some ⟨w.heap.size, 0, none⟩)]) (by simp) (by simp [go_sem]) ?_
  refine (endKey_brk w.heap.size g t p b o cap R 0 0 x _ hrd (hbox.cell 0)).mono ?_
  rintro e u' w'' ⟨rfl, rfl, h5, h6⟩
  exact ⟨_, results_cell_row Tryz.results200 _ _ (w.heap.size + 1) 24 _ (0, 0) _ rfl (h6.blk hz1 (by omega)) Tryz.underlying24 rfl (by kernel_rfl), rfl, h5, hb2.bex h6⟩
set_option maxRecDepth 20000 in
theorem mKey_ok (g t : Nat) (p : Option Addr) (b o cap : Nat) (R X : List Nat) (n : Nat) (w : World) (H : Rd w g t p b o cap R 0 0) (hp : pRaw 4 R = .ok X n) :
    Calls Tryz.prog 140 #[.pointer (some ⟨g, 0, none⟩)] w fun e w' => e = .returned (.agg (bvs X).toArray) ∧ RdX w' g (t + n) b (R.drop n) 0 0 ∧ Bex g w w' := by
  have hl : X.length = 4 := by obtain ⟨rfl, _, hn⟩ := pRaw_ok hp; rw [List.length_take]; omega
  have hi : (Tryz.prog.info? 24).map (·.size) = some (bvs X).length := by rw [bvs_len, hl]; kernel_rfl
  have hi2 : (Tryz.prog.info? 24).map (·.size) = some (bvs X).toArray.size := hi.trans (by rw [List.size_toArray])
  have hz : (bvs (List.replicate 4 0)).length = (bvs X).length := by rw [bvs_len, bvs_len, hl]; rfl
  have hi := hidp hi
  have hi2 := hidp hi2
  have hz := hidp hz
  have HE := hidp (fun o2 : Obj => elemKey_ok g t p b o cap R X n (w.alloc o2) (H.below ((Below.refl _ w).alloc (Nat.le_refl _) o2)) hl (fun w1 c _ _ hc => readKey_ok c t p b o cap R X n w1 hc hp))
  have HL := hidp (And.intro H.blk.lt (H.bs.ptr (by have := H.bs.le; have := (pRaw_ok hp).2.2; omega)).2)
  clear H hp hl
  go_enter Tryz.func140, Tryz.ntmps140
  go_wp2_with fail
  refine (HE.out _).mono ?_
  rintro e w2 ⟨rfl, h1, h2⟩
  have hz2 := hidp (h2.blk (Blk.new w (Array.toList _) 24) (by have := HL.out.1; omega))
  have hx2 := hidp (And.intro h1 (((Bex.refl g w).alloc _).bex h2))
  clear HE h1 h2
  go_wp2_with (refine wpList_store_blk rfl 24 _ _ rfl w.heap.size (bvs X) _ 24 rfl rfl hz2.out hi.out hz.out (bvs_one _) ?_; intro w6 hw6)
  have b2 : Blk w6 w.heap.size (bvs X) 24 := by rw [hw6.out]; exact hz2.out.row
  have hx6 := Bex.ofRow hw6.out
  have q := HL.out
  refine bodyPost_ret (v := .agg (bvs X).toArray) ?_ rfl ⟨rfl, hx2.out.1.bexA hx6 (by omega) (by omega), hx2.out.2.newRow hx6⟩
  exact results_cell_row Tryz.results140 _ _ w.heap.size 24 _ (0, 0) _ rfl b2 Tryz.underlying24 rfl hi2.out
set_option maxRecDepth 20000 in
theorem mKey_er (g t : Nat) (p : Option Addr) (b o cap : Nat) (R : List Nat) (x : Nat) (w : World) (H : Rd w g t p b o cap R 0 0) (hbw : b < w.heap.size) (hp : pRaw 4 R = .er x) :
    Calls Tryz.prog 140 #[.pointer (some ⟨g, 0, none⟩)] w fun e w' => e = .returned (.agg (bvs (List.replicate 4 0)).toArray) ∧ RdX w' g t b [] x t ∧ Bex g w w' := by
  have hi := hidp (show (Tryz.prog.info? 24).map (·.size) = some (bvs (List.replicate 4 0)).length by kernel_rfl)
  have HE := hidp (fun o2 : Obj => elemKey_er g t p b o cap R x (w.alloc o2) (H.below ((Below.refl _ w).alloc (Nat.le_refl _) o2)) (fun w1 c _ _ hc => readKey_er c t p b o cap R x w1 hc hp))
  have HL := hidp (And.intro H.blk.lt hbw)
  clear H hp hbw
  go_enter Tryz.func140, Tryz.ntmps140
  go_wp2_with fail
  refine (HE.out _).mono ?_
  rintro e w2 ⟨rfl, h1, h2⟩
  have hz2 := hidp (h2.blk (Blk.new w (Array.toList _) 24) (by have := HL.out.1; omega))
  have hx2 := hidp (And.intro h1 (((Bex.refl g w).alloc _).bex h2))
  clear HE h1 h2
  go_wp2_with (refine wpList_store_blk rfl 24 _ _ rfl w.heap.size (bvs (List.replicate 4 0)) _ 24 rfl rfl hz2.out hi.out rfl (bvs_one _) ?_; intro w6 hw6)
  have b2 : Blk w6 w.heap.size (bvs (List.replicate 4 0)) 24 := by rw [hw6.out]; exact hz2.out.row
  have hx6 := Bex.ofRow hw6.out
  have q := HL.out
  refine bodyPost_ret (v := .agg (bvs (List.replicate 4 0)).toArray) ?_ rfl ⟨rfl, hx2.out.1.bexA hx6 (by omega) (by omega), hx2.out.2.newRow hx6⟩
  exact results_cell_row Tryz.results140 _ _ w.heap.size 24 _ (0, 0) _ rfl b2 Tryz.underlying24 rfl (by kernel_rfl)

end Go.Proofs.YtcmkmnidnapabaaGreat
