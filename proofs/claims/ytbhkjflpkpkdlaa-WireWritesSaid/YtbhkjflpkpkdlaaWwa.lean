/-
  WireWrites: the code's writer: what a method does in whatever state.
-/
import Derived.Test.YtbhkjflpkpkdlaaWbb
namespace Go.Proofs.Ytbhkjflpkpkdlaa
open Go.RowKit Go.Lib Go.Maps
set_option linter.unusedVariables false
set_option linter.unusedSimpArgs false

/-- What a writer with an error does. -/
def DeadP (w : World) (g lim : Nat) (v : Value) (L : List Nat) (e : Nat) (e' : Ending) (w' : World) : Prop := e' = .returned (.int .i64 (e : Nat)) ∧ Wr w' g lim v L e ∧ Below w.heap.size w w'
theorem DeadP.lift {w w1 w' : World} {g lim e : Nat} {v : Value} {L : List Nat} {e' : Ending} (hB : Below w.heap.size w w1) (h : DeadP w1 g lim v L e e' w') : DeadP w g lim v L e e' w' := ⟨h.1, h.2.1, hB.trans (h.2.2.mono hB.size)⟩
theorem LongP.lift {w w1 w' : World} {g lim : Nat} {e' : Ending} (hB : Below w.heap.size w w1) (h : LongP w1 g lim e' w') : LongP w g lim e' w' := ⟨h.1, h.2.1, (Bex.of_below hB).trans h.2.2⟩
theorem put1_dead {w w2 : World} {g lim e : Nat} {v : Value} {L : List Nat} (H : Wr w g lim v L e) (he : e ≠ 0) (hB : Below w.heap.size w w2) (s : Value) :
    Calls Try.prog 128 #[.pointer (some ⟨g, 0, none⟩), s] w2 (DeadP w g lim v L e) :=
  (put_dead (H.below hB) he s).mono fun e' w' ⟨h1, h2⟩ => ⟨h1, by rw [← h2]; exact H.below hB, by rw [← h2]; exact hB⟩
set_option maxRecDepth 20000 in
theorem wBool_dead {w : World} {g lim e0 : Nat} {v : Value} {L : List Nat} (H : Wr w g lim v L e0) (he : e0 ≠ 0) (is : Bool) :
    Calls Try.prog 65 #[.pointer (some ⟨g, 0, none⟩), .bool is] w (DeadP w g lim v L e0) := by
  have HH := hidp H
  have HS := hidp he
  clear H he
  cases is
  · go_enter Try.func65, Try.ntmps65
    go_wp2_with fail
    refine (put1_dead HH.out HS.out (((Below.refl _ w).alloc (Nat.le_refl _) _).alloc (by simp) _) _).mono ?_
    rintro e w2 ⟨rfl, h⟩
    replace h := hidp h
    go_wp2
    go_ret
    exact ⟨rfl, h.out⟩
  · go_enter Try.func65, Try.ntmps65
    go_wp2_with fail
    refine (put1_dead HH.out HS.out (((Below.refl _ w).alloc (Nat.le_refl _) _).alloc (by simp) _) _).mono ?_
    rintro e w2 ⟨rfl, h⟩
    replace h := hidp h
    go_wp2
    go_ret
    exact ⟨rfl, h.out⟩

set_option maxRecDepth 20000 in
set_option maxHeartbeats 4000000 in
theorem wWord_dead {w : World} {g lim e0 : Nat} {v : Value} {L : List Nat} (H : Wr w g lim v L e0) (he : e0 ≠ 0) (n : Nat) (hn : n < 18446744073709551616) :
    Calls Try.prog 64 #[.pointer (some ⟨g, 0, none⟩), .int .u64 (n : Nat)] w (DeadP w g lim v L e0) := by
  have HH := hidp H
  have HS := hidp he
  have h0 := hidp (Blk.new w (bvs (formW n 0)) 172)
  have hB := hidp ((Below.refl _ w).alloc (Nat.le_refl _) (.cells (bvs (formW n 0)).toArray 172))
  rw [formW_zero] at h0 hB
  clear H he
  go_enter Try.func64, Try.ntmps64
  go_wp2
  go_loopw [7] (fun x wr => ∃ i : Nat, i ≤ 8 ∧ x = .int .i64 i ∧ Hid (Blk wr w.heap.size (bvs (formW n i)) 172 ∧ Below w.heap.size w wr)) (fun x _ => 8 - (Go.RowKit.intOf x).toNat)
  case atStart => exact ⟨0, by omega, rfl, by rw [formW_zero]; exact hidp ⟨h0.out, hB.out⟩⟩
  case round =>
    obtain ⟨i, hi, rfl, hr⟩ := hrel
    by_cases hik : i < 8
    · have hset := hidp (formW_set n hik)
      obtain ⟨vo, ho⟩ : ∃ v, wr.cell? ⟨w.heap.size, 7 - i, none⟩ = some v := ⟨_, (hr.out.1.cell (7 - i)).trans (bvs_get (by rw [formW_len]; omega))⟩
      have hfree := hr.out.1.free (7 - i)
      have h8 : i = 0 ∨ i = 1 ∨ i = 2 ∨ i = 3 ∨ i = 4 ∨ i = 5 ∨ i = 6 ∨ i = 7 := by omega
      clear h0 hB hi hik
      rcases h8 with rfl | rfl | rfl | rfl | rfl | rfl | rfl | rfl
      · simp only [Int.cast_ofNat_Int]
        have hv : Hid (((n / 256 ^ 0 % 256 : Nat) : Int) = (n : Int) % 256) := hidp (by omega)
        go_wp2
        refine ⟨⟨0 + 1, by omega, rfl, ?_⟩, by simp [Go.RowKit.intOf]⟩
        rw [← hset.out]
        have hE := hv.out
        try rw [← hE]
        exact hidp ⟨bvs_set _ _ _ ▸ hr.out.1.set _ _, hr.out.2.setCell (by simp) _⟩
      · simp only [Int.cast_ofNat_Int]
        have hv : Hid (((n / 256 ^ 1 % 256 : Nat) : Int) = (n : Int) / 256 % 256) := hidp (by omega)
        go_wp2
        refine ⟨⟨1 + 1, by omega, rfl, ?_⟩, by simp [Go.RowKit.intOf]⟩
        rw [← hset.out]
        have hE := hv.out
        try rw [← hE]
        exact hidp ⟨bvs_set _ _ _ ▸ hr.out.1.set _ _, hr.out.2.setCell (by simp) _⟩
      · simp only [Int.cast_ofNat_Int]
        have hv : Hid (((n / 256 ^ 2 % 256 : Nat) : Int) = (n : Int) / 65536 % 256) := hidp (by omega)
        go_wp2
        refine ⟨⟨2 + 1, by omega, rfl, ?_⟩, by simp [Go.RowKit.intOf]⟩
        rw [← hset.out]
        have hE := hv.out
        try rw [← hE]
        exact hidp ⟨bvs_set _ _ _ ▸ hr.out.1.set _ _, hr.out.2.setCell (by simp) _⟩
      · simp only [Int.cast_ofNat_Int]
        have hv : Hid (((n / 256 ^ 3 % 256 : Nat) : Int) = (n : Int) / 16777216 % 256) := hidp (by omega)
        go_wp2
        refine ⟨⟨3 + 1, by omega, rfl, ?_⟩, by simp [Go.RowKit.intOf]⟩
        rw [← hset.out]
        have hE := hv.out
        try rw [← hE]
        exact hidp ⟨bvs_set _ _ _ ▸ hr.out.1.set _ _, hr.out.2.setCell (by simp) _⟩
      · simp only [Int.cast_ofNat_Int]
        have hv : Hid (((n / 256 ^ 4 % 256 : Nat) : Int) = (n : Int) / 4294967296 % 256) := hidp (by omega)
        go_wp2
        refine ⟨⟨4 + 1, by omega, rfl, ?_⟩, by simp [Go.RowKit.intOf]⟩
        rw [← hset.out]
        have hE := hv.out
        try rw [← hE]
        exact hidp ⟨bvs_set _ _ _ ▸ hr.out.1.set _ _, hr.out.2.setCell (by simp) _⟩
      · simp only [Int.cast_ofNat_Int]
        have hv : Hid (((n / 256 ^ 5 % 256 : Nat) : Int) = (n : Int) / 1099511627776 % 256) := hidp (by omega)
        go_wp2
        refine ⟨⟨5 + 1, by omega, rfl, ?_⟩, by simp [Go.RowKit.intOf]⟩
        rw [← hset.out]
        have hE := hv.out
        try rw [← hE]
        exact hidp ⟨bvs_set _ _ _ ▸ hr.out.1.set _ _, hr.out.2.setCell (by simp) _⟩
      · simp only [Int.cast_ofNat_Int]
        have hv : Hid (((n / 256 ^ 6 % 256 : Nat) : Int) = (n : Int) / 281474976710656 % 256) := hidp (by omega)
        go_wp2
        refine ⟨⟨6 + 1, by omega, rfl, ?_⟩, by simp [Go.RowKit.intOf]⟩
        rw [← hset.out]
        have hE := hv.out
        try rw [← hE]
        exact hidp ⟨bvs_set _ _ _ ▸ hr.out.1.set _ _, hr.out.2.setCell (by simp) _⟩
      · simp only [Int.cast_ofNat_Int]
        have hv : Hid (((n / 256 ^ 7 % 256 : Nat) : Int) = (n : Int) / 72057594037927936) := hidp (by omega)
        go_wp2
        refine ⟨⟨7 + 1, by omega, rfl, ?_⟩, by simp [Go.RowKit.intOf]⟩
        rw [← hset.out]
        have hE := hv.out
        try rw [← hE]
        exact hidp ⟨bvs_set _ _ _ ▸ hr.out.1.set _ _, hr.out.2.setCell (by simp) _⟩
    · obtain rfl : i = 8 := by omega
      simp only [Int.cast_ofNat_Int]
      have hsl := fun w' => run_sliceAt_all (P := Try.prog) (t := 172) (e := 5) (n := 8) Try.underlying172 (by kernel_rfl) (by decide) w.heap.size 0 w'
      clear h0 hB hi hik
      go_wp2_with fail
      have hsz := hr.out.2.size
      have hlt := hr.out.1.lt
      have hb := (arr_bs (formW_byte n 8) hr.out.1)
      rw [formW_len] at hb
      have hlw : (formW n 8).length = 8 := formW_len n 8
      refine (put1_dead HH.out HS.out (hr.out.2.alloc hsz _) _).mono ?_
      rintro e w2 ⟨rfl, h⟩
      replace h := hidp h
      clear hsz hlt hb hsl
      go_wp2
      go_ret
      exact ⟨rfl, h.out⟩

set_option maxRecDepth 20000 in
theorem wHash_dead {w : World} {g lim e0 : Nat} {v : Value} {L : List Nat} (H : Wr w g lim v L e0) (he : e0 ≠ 0) (a : List Nat) (ha : Bytes 32 a) :
    Calls Try.prog 72 #[.pointer (some ⟨g, 0, none⟩), .agg (bvs a).toArray] w (DeadP w g lim v L e0) := by
  have HH := hidp H
  have HS := hidp he
  have HA := hidp ha
  have hsl := fun w' => run_sliceAt_all (P := Try.prog) (t := 34) (e := 5) (n := 32) Try.underlying34 (by kernel_rfl) (by decide) w.heap.size 0 w'
  clear H he ha
  go_enter Try.func72, Try.ntmps72
  go_wp2_with fail
  have hpc := new_piece w a HA.out.2 34 (.cells #[.slice (some ⟨w.heap.size, 0, none⟩) 32 32] 32)
  rw [HA.out.1] at hpc
  refine (put1_dead HH.out HS.out (((Below.refl _ w).alloc (Nat.le_refl _) _).alloc (by simp) _) _).mono ?_
  rintro e w2 ⟨rfl, h⟩
  replace h := hidp h
  clear hpc
  go_wp2
  go_ret
  exact ⟨rfl, h.out⟩

set_option maxRecDepth 20000 in
theorem wKey_dead {w : World} {g lim e0 : Nat} {v : Value} {L : List Nat} (H : Wr w g lim v L e0) (he : e0 ≠ 0) (a : List Nat) (ha : Bytes 4 a) :
    Calls Try.prog 73 #[.pointer (some ⟨g, 0, none⟩), .agg (bvs a).toArray] w (DeadP w g lim v L e0) := by
  have HH := hidp H
  have HS := hidp he
  have HA := hidp ha
  have hsl := fun w' => run_sliceAt_all (P := Try.prog) (t := 36) (e := 5) (n := 4) Try.underlying36 (by kernel_rfl) (by decide) w.heap.size 0 w'
  clear H he ha
  go_enter Try.func73, Try.ntmps73
  go_wp2_with fail
  have hpc := new_piece w a HA.out.2 36 (.cells #[.slice (some ⟨w.heap.size, 0, none⟩) 4 4] 32)
  rw [HA.out.1] at hpc
  refine (put1_dead HH.out HS.out (((Below.refl _ w).alloc (Nat.le_refl _) _).alloc (by simp) _) _).mono ?_
  rintro e w2 ⟨rfl, h⟩
  replace h := hidp h
  clear hpc
  go_wp2
  go_ret
  exact ⟨rfl, h.out⟩

set_option maxRecDepth 20000 in
theorem wPace_dead {w : World} {g lim e0 : Nat} {v : Value} {L : List Nat} (H : Wr w g lim v L e0) (he : e0 ≠ 0) (n : Nat) (hn : n < 18446744073709551616) :
    Calls Try.prog 74 #[.pointer (some ⟨g, 0, none⟩), .float .f64 n] w (DeadP w g lim v L e0) := by
  have HB := hidp (fun w' => Bits_any n w')
  have HW := hidp (wWord_dead H he (formN n) (formN_lt n hn))
  clear H hn he
  go_enter Try.func74, Try.ntmps74
  go_wp2_with (go_at_call 145; refine (HB.out _).mono ?_; rintro e w1 ⟨rfl, rfl⟩)
  refine HW.out.mono ?_
  rintro e w2 ⟨rfl, h⟩
  replace h := hidp h
  go_wp2
  go_ret
  exact ⟨rfl, h.out⟩

set_option maxRecDepth 20000 in
theorem wBytes_long {w : World} {g lim : Nat} {v : Value} {L : List Nat} (H : Wr w g lim v L 0) (p : Option Addr) (b o cap : Nat) (X : List Nat) (hX : Bs w p b o X cap) (hp : p = none → cap = 0) (hap : ∀ a, p = some a → 0 < X.length → a.block ≠ g ∧ v.ownBlock ≠ some a.block)
    (k : Nat) (hd : Digs X.length k) (hs : lim < L.length + (k + 1) + X.length) (hx : X.length ≤ 1000) :
    Calls Try.prog 71 #[.pointer (some ⟨g, 0, none⟩), .slice p X.length cap] w (LongP w g lim) := by
  have hlm := H.lim
  have HN := hidp (numForm_any X.length k w (by omega) hd)
  have HH := hidp H
  have HXX := hidp hx
  have HX := hidp (And.intro hX (And.intro hp hap))
  have HS := hidp (And.intro hs hd.2.2)
  clear hx H hd hs hX hp hap hlm
  go_enter Try.func71, Try.ntmps71
  go_wp2_with (first | (go_at_call 129; refine HN.out.mono ?_; rintro e w1 ⟨rfl, hb1, hB1⟩; have hb1 := hidp hb1; have hB1 := hidp hB1) | fail)
  have hsz := hB1.out.size
  have hlen := numB_len X.length HS.out.2
  have hB2 : Below w.heap.size w (w1.alloc (.cells #[.slice (some ⟨w.heap.size, 8 - k, none⟩) (k + 1) (k + 1), .slice p X.length cap] 32)) := hB1.out.alloc hsz _
  have hpb : Blk (w1.alloc (.cells #[.slice (some ⟨w.heap.size, 8 - k, none⟩) (k + 1) (k + 1), .slice p X.length cap] 32)) w1.heap.size [.slice (some ⟨w.heap.size, 8 - k, none⟩) (numB X.length k).length (k + 1), .slice p X.length cap] 32 := by rw [hlen]; exact Blk.new _ _ _
  have hg := HH.out.blk.lt
  have hPc : Pcs (w1.alloc (.cells #[.slice (some ⟨w.heap.size, 8 - k, none⟩) (k + 1) (k + 1), .slice p X.length cap] 32)) g v w1.heap.size [⟨some ⟨w.heap.size, 8 - k, none⟩, k + 1, numB X.length k⟩, ⟨p, cap, X⟩] := by
    refine ⟨hpb, ⟨by omega, fun e => by have := (HH.out.ownGe e).2; omega⟩, fun x hx => ?_, fun x hx a ha h0 => ?_⟩
    · simp only [List.mem_cons, List.not_mem_nil, or_false] at hx
      rcases hx with rfl | rfl
      · exact ByS.of_bs (num_piece HS.out.2 hb1.out _) (fun h => by cases h)
      · exact ByS.of_bs (HX.out.1.below hB2) HX.out.2.1
    · simp only [List.mem_cons, List.not_mem_nil, or_false] at hx
      rcases hx with rfl | rfl
      · exact Bs.apart HH.out (num_piece HS.out.2 hb1.out (.cells #[] 5)) (fun _ => Nat.le_refl _) a ha h0
      · exact HX.out.2.2 a ha h0
  have q := put_long (pcap := 2) (HH.out.below hB2) hPc (by simp) (by rw [joinP_two]; simp only [List.length_append, hlen]; have := HS.out.1; omega) (by rw [joinP_two]; simp only [List.length_append, hlen]; have := HS.out.2; have := HXX.out; omega)
  refine q.mono ?_
  rintro e w2 ⟨rfl, h⟩
  have h := hidp (show LongP w g lim (.returned (.int .i64 4)) w2 from ⟨rfl, h.1, (Bex.of_below hB2).trans h.2⟩)
  clear q hPc hpb hB2 hsz hlen
  go_wp2
  go_ret
  exact h.out

set_option maxRecDepth 20000 in
theorem wBytes_dead {w : World} {g lim e0 : Nat} {v : Value} {L : List Nat} (H : Wr w g lim v L e0) (he : e0 ≠ 0) (p : Option Addr) (b o cap : Nat) (X : List Nat) (hX : Bs w p b o X cap) (hp : p = none → cap = 0) (hap : ∀ a, p = some a → 0 < X.length → a.block ≠ g ∧ v.ownBlock ≠ some a.block)
    (k : Nat) (hd : Digs X.length k) (hs : X.length ≤ 1000) :
    Calls Try.prog 71 #[.pointer (some ⟨g, 0, none⟩), .slice p X.length cap] w (DeadP w g lim v L e0) := by
  have hlm := H.lim
  have HN := hidp (numForm_any X.length k w (by omega) hd)
  have HH := hidp H
  have HE := hidp he
  have HX := hidp (And.intro hX (And.intro hp hap))
  have HS := hidp (And.intro hs hd.2.2)
  clear he H hd hs hX hp hap hlm
  go_enter Try.func71, Try.ntmps71
  go_wp2_with (first | (go_at_call 129; refine HN.out.mono ?_; rintro e w1 ⟨rfl, hb1, hB1⟩; have hb1 := hidp hb1; have hB1 := hidp hB1) | fail)
  have hsz := hB1.out.size
  have hlen := numB_len X.length HS.out.2
  have hB2 : Below w.heap.size w (w1.alloc (.cells #[.slice (some ⟨w.heap.size, 8 - k, none⟩) (k + 1) (k + 1), .slice p X.length cap] 32)) := hB1.out.alloc hsz _
  have q := put1_dead HH.out HE.out hB2 (.slice (some ⟨w1.heap.size, 0, none⟩) 2 2)
  refine q.mono ?_
  rintro e w2 h0
  obtain ⟨rfl, h⟩ := h0
  have h := hidp (show DeadP w g lim v L e0 (.returned (.int .i64 (e0 : Nat))) w2 from ⟨rfl, h⟩)
  clear q hB2 hsz hlen
  go_wp2
  go_ret
  exact h.out

set_option maxRecDepth 20000 in
theorem wText_long {w : World} {g lim : Nat} {v : Value} {L : List Nat} (H : Wr w g lim v L 0) (s : ByteArray) (k : Nat) (hd : Digs s.size k) (hs : lim < L.length + (k + 1) + s.size) (hx : s.size ≤ 1000) :
    Calls Try.prog 63 #[.pointer (some ⟨g, 0, none⟩), .string s] w (LongP w g lim) := by
  have kc := fun W : World => _root_.Go.Lib.run_convert_string_bytes (P := Try.prog) W 9 32 5 s Try.underlying9 Try.underlying32 Try.underlying5
  have q := wBytes_long (H.below (bytesW_below w s)) _ _ _ _ (strL s) (bytesW_bs w s) (fun h => by cases h) (Bs.apart H (bytesW_bs w s) (fun _ => Nat.le_refl _)) k (by rw [strL_len]; exact hd) (by rw [strL_len]; exact hs) (by rw [strL_len]; exact hx)
  rw [strL_len] at q
  have Q := hidp (q.mono fun e w' h => LongP.lift (bytesW_below w s) h)
  clear q H hd hs
  go_enter Try.func63, Try.ntmps63
  go_wp2_with fail
  refine Q.out.mono ?_
  rintro e w2 ⟨rfl, h⟩
  replace h := hidp h
  go_wp2
  go_ret
  exact ⟨rfl, h.out⟩

set_option maxRecDepth 20000 in
theorem wText_dead {w : World} {g lim e0 : Nat} {v : Value} {L : List Nat} (H : Wr w g lim v L e0) (he : e0 ≠ 0) (s : ByteArray) (k : Nat) (hd : Digs s.size k) (hs : s.size ≤ 1000) :
    Calls Try.prog 63 #[.pointer (some ⟨g, 0, none⟩), .string s] w (DeadP w g lim v L e0) := by
  have kc := fun W : World => _root_.Go.Lib.run_convert_string_bytes (P := Try.prog) W 9 32 5 s Try.underlying9 Try.underlying32 Try.underlying5
  have q := wBytes_dead (H.below (bytesW_below w s)) he _ _ _ _ (strL s) (bytesW_bs w s) (fun h => by cases h) (Bs.apart H (bytesW_bs w s) (fun _ => Nat.le_refl _)) k (by rw [strL_len]; exact hd) (by rw [strL_len]; exact hs)
  rw [strL_len] at q
  have Q := hidp (q.mono fun e w' h => DeadP.lift (bytesW_below w s) h)
  clear q H he hd hs
  go_enter Try.func63, Try.ntmps63
  go_wp2_with fail
  refine Q.out.mono ?_
  rintro e w2 ⟨rfl, h⟩
  replace h := hidp h
  go_wp2
  go_ret
  exact ⟨rfl, h.out⟩

/-- The error behind a write of X. -/
def nxE (e lim : Nat) (L X : List Nat) : Nat := if e ≠ 0 then e else if lim < L.length + X.length then 4 else 0
/-- The code's writer: its bytes count where it has no error. -/
def CW (w : World) (g lim : Nat) (v : Value) (L : List Nat) (e : Nat) : Prop := ∃ M, Wr w g lim v M e ∧ (e = 0 → M = L)
def PutG (w : World) (g lim : Nat) (v : Value) (L : List Nat) (e1 : Nat) (e : Ending) (w' : World) : Prop := e = .returned (.int .i64 (e1 : Nat)) ∧ ∃ v', CW w' g lim v' L e1 ∧ Wfr g v w w' v'
theorem Wfr.of_bex {g : Nat} {v : Value} {w w' : World} (h : Bex g w w') : Wfr g v w w' (.slice none 0 0) := ⟨h.os, h.tape, h.output, h.size, fun i hi hg _ => h.block i hi hg, fun i hi => by cases hi⟩
theorem PutP.g {w w' : World} {g lim : Nat} {v : Value} {L : List Nat} {e : Ending} (h : PutP w g lim v L e w') : PutG w g lim v L 0 e w' := by
  obtain ⟨h1, v', h2, h3⟩ := h
  exact ⟨h1, v', ⟨_, h2, fun _ => rfl⟩, h3⟩
theorem LongP.g {w w' : World} {g lim : Nat} {v : Value} {L : List Nat} {e : Ending} (h : LongP w g lim e w') : PutG w g lim v L 4 e w' := by
  obtain ⟨h1, h2, h3⟩ := h
  exact ⟨h1, _, ⟨_, h2, fun h => absurd h (by decide)⟩, Wfr.of_bex h3⟩
theorem DeadP.g {w w' : World} {g lim e0 : Nat} {v : Value} {M L : List Nat} {e : Ending} (he : e0 ≠ 0) (h : DeadP w g lim v M e0 e w') : PutG w g lim v L e0 e w' := by
  obtain ⟨h1, h2, h3⟩ := h
  exact ⟨h1, _, ⟨_, h2, fun h => absurd h he⟩, Wfr.ofBelow h3⟩
theorem wBool_gen {w : World} {g lim e0 : Nat} {v : Value} {L : List Nat} (H : CW w g lim v L e0) (is : Bool) :
    Calls Try.prog 65 #[.pointer (some ⟨g, 0, none⟩), .bool is] w (PutG w g lim v (L ++ ([bN is])) (nxE e0 lim L ([bN is]))) := by
  obtain ⟨M, h, hM⟩ := H
  have hX : ([bN is]).length = 1 := rfl
  unfold nxE
  by_cases he : e0 = 0
  · subst he
    obtain rfl := hM rfl
    rw [if_neg (by omega)]
    by_cases hs : lim < M.length + ([bN is]).length
    · rw [if_pos hs]
      exact (wBool_long h is (by rw [hX] at hs; omega)).mono fun e w' q => q.g
    · rw [if_neg hs]
      exact (wBool_ok h is (by rw [hX] at hs; omega)).mono fun e w' q => q.g
  · rw [if_pos he]
    exact (wBool_dead h he is).mono fun e w' q => q.g he
theorem wWord_gen {w : World} {g lim e0 : Nat} {v : Value} {L : List Nat} (H : CW w g lim v L e0) (n : Nat) (hn : n < 18446744073709551616) :
    Calls Try.prog 64 #[.pointer (some ⟨g, 0, none⟩), .int .u64 (n : Nat)] w (PutG w g lim v (L ++ (wordB n)) (nxE e0 lim L (wordB n))) := by
  obtain ⟨M, h, hM⟩ := H
  have hX : (wordB n).length = 8 := wordB_len n
  unfold nxE
  by_cases he : e0 = 0
  · subst he
    obtain rfl := hM rfl
    rw [if_neg (by omega)]
    by_cases hs : lim < M.length + (wordB n).length
    · rw [if_pos hs]
      exact (wWord_long h n hn (by rw [hX] at hs; omega)).mono fun e w' q => q.g
    · rw [if_neg hs]
      exact (wWord_ok h n hn (by rw [hX] at hs; omega)).mono fun e w' q => q.g
  · rw [if_pos he]
    exact (wWord_dead h he n hn).mono fun e w' q => q.g he
theorem wHash_gen {w : World} {g lim e0 : Nat} {v : Value} {L : List Nat} (H : CW w g lim v L e0) (a : List Nat) (ha : Bytes 32 a) :
    Calls Try.prog 72 #[.pointer (some ⟨g, 0, none⟩), .agg (bvs a).toArray] w (PutG w g lim v (L ++ (a)) (nxE e0 lim L (a))) := by
  obtain ⟨M, h, hM⟩ := H
  have hX : (a).length = 32 := ha.1
  unfold nxE
  by_cases he : e0 = 0
  · subst he
    obtain rfl := hM rfl
    rw [if_neg (by omega)]
    by_cases hs : lim < M.length + (a).length
    · rw [if_pos hs]
      exact (wHash_long h a ha (by rw [hX] at hs; omega)).mono fun e w' q => q.g
    · rw [if_neg hs]
      exact (wHash_ok h a ha (by rw [hX] at hs; omega)).mono fun e w' q => q.g
  · rw [if_pos he]
    exact (wHash_dead h he a ha).mono fun e w' q => q.g he
theorem wKey_gen {w : World} {g lim e0 : Nat} {v : Value} {L : List Nat} (H : CW w g lim v L e0) (a : List Nat) (ha : Bytes 4 a) :
    Calls Try.prog 73 #[.pointer (some ⟨g, 0, none⟩), .agg (bvs a).toArray] w (PutG w g lim v (L ++ (a)) (nxE e0 lim L (a))) := by
  obtain ⟨M, h, hM⟩ := H
  have hX : (a).length = 4 := ha.1
  unfold nxE
  by_cases he : e0 = 0
  · subst he
    obtain rfl := hM rfl
    rw [if_neg (by omega)]
    by_cases hs : lim < M.length + (a).length
    · rw [if_pos hs]
      exact (wKey_long h a ha (by rw [hX] at hs; omega)).mono fun e w' q => q.g
    · rw [if_neg hs]
      exact (wKey_ok h a ha (by rw [hX] at hs; omega)).mono fun e w' q => q.g
  · rw [if_pos he]
    exact (wKey_dead h he a ha).mono fun e w' q => q.g he
theorem wPace_gen {w : World} {g lim e0 : Nat} {v : Value} {L : List Nat} (H : CW w g lim v L e0) (n : Nat) (hn : n < 18446744073709551616) :
    Calls Try.prog 74 #[.pointer (some ⟨g, 0, none⟩), .float .f64 n] w (PutG w g lim v (L ++ (wordB (formN n))) (nxE e0 lim L (wordB (formN n)))) := by
  obtain ⟨M, h, hM⟩ := H
  have hX : (wordB (formN n)).length = 8 := wordB_len _
  unfold nxE
  by_cases he : e0 = 0
  · subst he
    obtain rfl := hM rfl
    rw [if_neg (by omega)]
    by_cases hs : lim < M.length + (wordB (formN n)).length
    · rw [if_pos hs]
      exact (wPace_long h n hn (by rw [hX] at hs; omega)).mono fun e w' q => q.g
    · rw [if_neg hs]
      exact (wPace_ok h n hn (by rw [hX] at hs; omega)).mono fun e w' q => q.g
  · rw [if_pos he]
    exact (wPace_dead h he n hn).mono fun e w' q => q.g he
theorem wBytes_gen {w : World} {g lim e0 : Nat} {v : Value} {L : List Nat} (H : CW w g lim v L e0) (p : Option Addr) (b o cap : Nat) (X : List Nat) (hXX : Bs w p b o X cap) (hap : ∀ a, p = some a → 0 < X.length → a.block ≠ g ∧ v.ownBlock ≠ some a.block) (hl : X.length ≤ 1000) :
    Calls Try.prog 71 #[.pointer (some ⟨g, 0, none⟩), .slice p X.length cap] w (PutG w g lim v (L ++ (nB X.length ++ X)) (nxE e0 lim L (nB X.length ++ X))) := by
  obtain ⟨M, h, hM⟩ := H
  have hX : (nB X.length ++ X).length = dg X.length + 1 + X.length := by rw [List.length_append, nB_len]
  unfold nxE
  by_cases he : e0 = 0
  · subst he
    obtain rfl := hM rfl
    rw [if_neg (by omega)]
    by_cases hs : lim < M.length + (nB X.length ++ X).length
    · rw [if_pos hs]
      have q := wBytes_long h p b o cap X hXX hXX.none_cap hap (dg X.length) (dg_digs (by omega)) (by rw [hX] at hs; omega) hl
      exact q.mono fun e w' q => q.g
    · rw [if_neg hs]
      have q := wBytes_ok h p b o cap X hXX hXX.none_cap hap (dg X.length) (dg_digs (by omega)) (by rw [hX] at hs; omega)
      rw [nB_num (by omega)] at q
      exact q.mono fun e w' q => q.g
  · rw [if_pos he]
    exact (wBytes_dead h he p b o cap X hXX hXX.none_cap hap (dg X.length) (dg_digs (by omega)) hl).mono fun e w' q => q.g he
theorem wText_gen {w : World} {g lim e0 : Nat} {v : Value} {L : List Nat} (H : CW w g lim v L e0) (s : ByteArray) (hl : s.size ≤ 1000) :
    Calls Try.prog 63 #[.pointer (some ⟨g, 0, none⟩), .string s] w (PutG w g lim v (L ++ (nB s.size ++ strL s)) (nxE e0 lim L (nB s.size ++ strL s))) := by
  obtain ⟨M, h, hM⟩ := H
  have hX : (nB s.size ++ strL s).length = dg s.size + 1 + s.size := by rw [List.length_append, nB_len, strL_len]
  unfold nxE
  by_cases he : e0 = 0
  · subst he
    obtain rfl := hM rfl
    rw [if_neg (by omega)]
    by_cases hs : lim < M.length + (nB s.size ++ strL s).length
    · rw [if_pos hs]
      have q := wText_long h s (dg s.size) (dg_digs (by omega)) (by rw [hX] at hs; omega) hl
      exact q.mono fun e w' q => q.g
    · rw [if_neg hs]
      have q := wText_ok h s (dg s.size) (dg_digs (by omega)) (by rw [hX] at hs; omega)
      rw [nB_num (by omega)] at q
      exact q.mono fun e w' q => q.g
  · rw [if_pos he]
    exact (wText_dead h he s (dg s.size) (dg_digs (by omega)) hl).mono fun e w' q => q.g he
/-- The error behind a number. -/
def nxN (e lim : Nat) (L : List Nat) (n : Int) : Nat := if e = 0 ∧ n < 0 then 3 else nxE e lim L (nB n.toNat)
theorem wNum_gen {w : World} {g lim e0 : Nat} {v : Value} {L : List Nat} (H : CW w g lim v L e0) (n : Int) (hn : n ≤ 9223372036854775807) :
    Calls Try.prog 62 #[.pointer (some ⟨g, 0, none⟩), .int .i64 n] w (PutG w g lim v (L ++ nB n.toNat) (nxN e0 lim L n)) := by
  obtain ⟨M, h, hM⟩ := H
  have hX : (nB n.toNat).length = dg n.toNat + 1 := nB_len _
  unfold nxN nxE
  by_cases he : e0 = 0
  · subst he
    obtain rfl := hM rfl
    by_cases hn0 : n < 0
    · rw [if_pos ⟨rfl, hn0⟩]
      refine (wNum_neg h n hn0).mono ?_
      rintro e w' ⟨h1, h2, h3⟩
      exact ⟨h1, _, ⟨_, h2, fun h => absurd h (by decide)⟩, Wfr.of_bex h3⟩
    · rw [if_neg (by omega), if_neg (by omega)]
      have hz : ((n.toNat : Nat) : Int) = n := by omega
      by_cases hs : lim < M.length + (nB n.toNat).length
      · rw [if_pos hs]
        have q := wNum_long h n.toNat (dg n.toNat) (by omega) (dg_digs (by omega)) (by rw [hX] at hs; omega)
        rw [hz] at q
        exact q.mono fun e w' q => q.g
      · rw [if_neg hs]
        have q := wNum_ok h n.toNat (dg n.toNat) (by omega) (dg_digs (by omega)) (by rw [hX] at hs; omega)
        rw [nB_num (by omega), hz] at q
        exact q.mono fun e w' q => q.g
  · rw [if_neg (by omega), if_pos he]
    refine (wNum_dead h he n).mono ?_
    rintro e w' ⟨h1, h2⟩
    subst h2
    exact ⟨h1, _, ⟨_, h, fun h => absurd h he⟩, Wfr.refl _ _ _⟩
end Go.Proofs.Ytbhkjflpkpkdlaa
