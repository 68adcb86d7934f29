/-
  Contracts: a writer's methods.
-/
import Derived.Test.YtlfmmmlheloloaaJm
namespace Go.Proofs.Ytlfmmmlheloloaa
open Go.RowKit Go.Lib Go.Maps

theorem joinP_one (x : Pc) : joinP [x] = x.L := by simp [joinP]
theorem joinP_two (x y : Pc) : joinP [x, y] = x.L ++ y.L := by simp [joinP]
theorem pcs_one {w w2 : World} {g lim : Nat} {v : Value} {L : List Nat} {e : Nat} (H : Wr w g lim v L e) {p : Option Addr} {b o cap : Nat} {X : List Nat} (hs : Bs w2 p b o X cap) (hb : 0 < cap → w.heap.size ≤ b) (hp : p = none → cap = 0) {pb : Nat} (hpb : w.heap.size ≤ pb)
    (hblk : Blk w2 pb [.slice p X.length cap] 32) : Pcs w2 g v pb [⟨p, cap, X⟩] := by
  have hg := H.blk.lt
  have hv : ∀ k, w.heap.size ≤ k → v.ownBlock ≠ some k := fun k hk e => by have := (H.ownGe e).2; omega
  refine ⟨hblk, ⟨by omega, hv pb hpb⟩, fun x hx => ?_, fun x hx a ha h0 => ?_⟩
  · simp only [List.mem_singleton] at hx
    subst hx
    exact ByS.of_bs hs hp
  · simp only [List.mem_singleton] at hx
    subst hx
    have h1 := hs.le
    simp only at h0 ha
    obtain ⟨h2, h3⟩ := hs.ptr (by omega)
    rw [ha] at h2
    cases h2
    have h4 := hb (by omega)
    exact ⟨by simp only; omega, hv b h4⟩
/-- What a method that writes leaves. -/
def PutP (w : World) (g lim : Nat) (v : Value) (L : List Nat) (e : Ending) (w' : World) : Prop := e = .returned (.int .i64 0) ∧ ∃ v', Wr w' g lim v' L 0 ∧ Wfr g v w w' v'
theorem PutP.of {w w1 w' : World} {g lim : Nat} {v : Value} {L : List Nat} (hB : Below w.heap.size w w1) (h : ∃ v', Wr w' g lim v' L 0 ∧ Wfr g v w1 w' v') : PutP w g lim v L (.returned (.int .i64 0)) w' := by
  obtain ⟨v', h1, h2⟩ := h
  exact ⟨rfl, v', h1, (Wfr.ofBelow hB).trans h2⟩

/-- What a method that is too long leaves. -/
def LongP (w : World) (g lim : Nat) (e : Ending) (w' : World) : Prop := e = .returned (.int .i64 4) ∧ Wr w' g lim (.slice none 0 0) [] 4 ∧ Bex g w w'
theorem put1 {w w2 : World} {g lim : Nat} {v : Value} {L : List Nat} (H : Wr w g lim v L 0) (hB : Below w.heap.size w w2) {p : Option Addr} {b o cap : Nat} {X : List Nat} (hs : Bs w2 p b o X cap) (hb : 0 < cap → w.heap.size ≤ b) (hp : p = none → cap = 0) {pb : Nat} (hpb : w.heap.size ≤ pb)
    (hblk : Blk w2 pb [.slice p X.length cap] 32) (hfit : L.length + X.length ≤ lim) (pcap : Nat) :
    Calls Try.prog 126 #[.pointer (some ⟨g, 0, none⟩), .slice (some ⟨pb, 0, none⟩) 1 pcap] w2 (PutP w g lim v (L ++ X)) := by
  have q := put_ok (pcap := pcap) (H.below hB) (pcs_one H hs hb hp hpb hblk) (by simp) (by rw [joinP_one]; exact hfit)
  rw [joinP_one] at q
  exact q.mono fun e w' ⟨he, h⟩ => by subst he; exact PutP.of hB h
theorem put1_long {w w2 : World} {g lim : Nat} {v : Value} {L : List Nat} (H : Wr w g lim v L 0) (hB : Below w.heap.size w w2) {p : Option Addr} {b o cap : Nat} {X : List Nat} (hs : Bs w2 p b o X cap) (hb : 0 < cap → w.heap.size ≤ b) (hp : p = none → cap = 0) {pb : Nat} (hpb : w.heap.size ≤ pb)
    (hblk : Blk w2 pb [.slice p X.length cap] 32) (hfit : lim < L.length + X.length) (hX : X.length ≤ 2000000) (pcap : Nat) :
    Calls Try.prog 126 #[.pointer (some ⟨g, 0, none⟩), .slice (some ⟨pb, 0, none⟩) 1 pcap] w2 (LongP w g lim) := by
  have q := put_long (pcap := pcap) (H.below hB) (pcs_one H hs hb hp hpb hblk) (by simp) (by rw [joinP_one]; exact hfit) (by rw [joinP_one]; exact hX)
  exact q.mono fun e w' ⟨he, h1, h2⟩ => ⟨he, h1, (Bex.of_below hB).trans h2⟩

/-! Num. -/
theorem num_piece {w w1 : World} {n k : Nat} (hk : k ≤ 8) (hb : Blk w1 w.heap.size (bvs (numF n k)) 184) (o : Obj) : Bs (w1.alloc o) (some ⟨w.heap.size, 8 - k, none⟩) w.heap.size (8 - k) (numB n k) (k + 1) := numF_bs hk (hb.alloc o)

set_option maxRecDepth 20000 in
theorem wNum_ok {w : World} {g lim : Nat} {v : Value} {L : List Nat} (H : Wr w g lim v L 0) (n k : Nat) (hn : n < 9223372036854775808) (hd : Digs n k) (hs : L.length + (k + 1) ≤ lim) :
    Calls Try.prog 41 #[.pointer (some ⟨g, 0, none⟩), .int .i64 (n : Nat)] w (PutP w g lim v (L ++ numB n k)) := by
  have HR := hidp (refusal_any H)
  have HN := hidp (numForm_any n k w hn hd)
  have HH := hidp H
  have HS := hidp (And.intro hs hd.2.2)
  have hnn : decide ((n : Int) < 0) = false := decide_eq_false (by omega)
  clear H hn hd hs
  go_enter Try.func41, Try.ntmps41
  go_wp2_with (first | (go_at_call 83; refine HR.out.mono ?_; rintro e wx ⟨rfl, rfl⟩) | (go_at_call 127; refine HN.out.mono ?_; rintro e w1 ⟨rfl, hb1, hB1⟩; have hb1 := hidp hb1; have hB1 := hidp hB1) | fail)
  have hsz := hB1.out.size
  have hlen := numB_len n HS.out.2
  refine (put1 HH.out (hB1.out.alloc hsz _) (num_piece HS.out.2 hb1.out _) (fun _ => Nat.le_refl _) (fun h => by cases h) hsz (by rw [hlen]; exact Blk.new _ _ _) (by rw [hlen]; exact HS.out.1) _).mono ?_
  rintro e w2 ⟨rfl, h⟩
  replace h := hidp h
  clear hsz hlen
  go_wp2
  go_ret
  exact ⟨rfl, h.out⟩

set_option maxRecDepth 20000 in
theorem wNum_long {w : World} {g lim : Nat} {v : Value} {L : List Nat} (H : Wr w g lim v L 0) (n k : Nat) (hn : n < 9223372036854775808) (hd : Digs n k) (hs : lim < L.length + (k + 1)) :
    Calls Try.prog 41 #[.pointer (some ⟨g, 0, none⟩), .int .i64 (n : Nat)] w (LongP w g lim) := by
  have HR := hidp (refusal_any H)
  have HN := hidp (numForm_any n k w hn hd)
  have HH := hidp H
  have HS := hidp (And.intro hs hd.2.2)
  have hnn : decide ((n : Int) < 0) = false := decide_eq_false (by omega)
  clear H hn hd hs
  go_enter Try.func41, Try.ntmps41
  go_wp2_with (first | (go_at_call 83; refine HR.out.mono ?_; rintro e wx ⟨rfl, rfl⟩) | (go_at_call 127; refine HN.out.mono ?_; rintro e w1 ⟨rfl, hb1, hB1⟩; have hb1 := hidp hb1; have hB1 := hidp hB1) | fail)
  have hsz := hB1.out.size
  have hlen := numB_len n HS.out.2
  refine (put1_long HH.out (hB1.out.alloc hsz _) (num_piece HS.out.2 hb1.out _) (fun _ => Nat.le_refl _) (fun h => by cases h) hsz (by rw [hlen]; exact Blk.new _ _ _) (by rw [hlen]; exact HS.out.1) (by rw [numB_len n HS.out.2]; have := HS.out.2; omega) _).mono ?_
  rintro e w2 ⟨rfl, h⟩
  replace h := hidp h
  clear hsz hlen
  go_wp2
  go_ret
  exact ⟨rfl, h.out⟩

theorem wNum_neg {w : World} {g lim : Nat} {v : Value} {L : List Nat} (H : Wr w g lim v L 0) (n : Int) (hn : n < 0) :
    Calls Try.prog 41 #[.pointer (some ⟨g, 0, none⟩), .int .i64 n] w fun e w' => e = .returned (.int .i64 3) ∧ Wr w' g lim (.slice none 0 0) [] 3 ∧ Bex g w w' := by
  have HR := hidp (refusal_any H)
  have HF := hidp (fail_any H 3)
  clear H
  go_enter Try.func41, Try.ntmps41
  go_wp2_with (first | (go_at_call 83; refine HR.out.mono ?_; rintro e wx ⟨rfl, rfl⟩) | fail)
  refine HF.out.mono ?_
  rintro e w2 ⟨rfl, h1, h2⟩
  have HX := hidp (And.intro h1 h2)
  clear h1 h2
  go_wp2
  go_ret
  exact ⟨rfl, HX.out⟩
theorem wNum_dead {w : World} {g lim e : Nat} {v : Value} {L : List Nat} (H : Wr w g lim v L e) (he : e ≠ 0) (n : Int) :
    Calls Try.prog 41 #[.pointer (some ⟨g, 0, none⟩), .int .i64 n] w fun e' w' => e' = .returned (.int .i64 (e : Nat)) ∧ w = w' := by
  have HR := hidp (refusal_any H)
  have hz : ((e : Int) == 0) = false := by rw [beq_eq_false_iff_ne]; omega
  have hz2 : ((e : Int) != 0) = true := by rw [bne_iff_ne]; omega
  clear H he
  go_enter Try.func41, Try.ntmps41
  go_wp2_with (go_at_call 83; refine HR.out.mono ?_; rintro e wx ⟨rfl, rfl⟩)
  go_ret
  exact ⟨rfl, rfl⟩

/-! Bool. -/
theorem new_piece (w : World) (X : List Nat) (hX : ∀ x ∈ X, x < 256) (T : TypeId) (o : Obj) : Bs ((w.alloc (.cells (bvs X).toArray T)).alloc o) (some ⟨w.heap.size, 0, none⟩) w.heap.size 0 X X.length :=
  ⟨hX, Nat.le_refl _, fun _ => ⟨rfl, by simp; omega⟩, fun i hi => by rw [Nat.zero_add, ((Blk.new w (bvs X) T).alloc o).cell i]; exact bvs_get hi⟩
def bN (is : Bool) : Nat := if is then 1 else 0

set_option maxRecDepth 20000 in
theorem wBool_ok {w : World} {g lim : Nat} {v : Value} {L : List Nat} (H : Wr w g lim v L 0) (is : Bool) (hs : L.length + 1 ≤ lim) :
    Calls Try.prog 68 #[.pointer (some ⟨g, 0, none⟩), .bool is] w (PutP w g lim v (L ++ [bN is])) := by
  have HH := hidp H
  have HS := hidp hs
  clear H hs
  cases is
  · go_enter Try.func68, Try.ntmps68
    go_wp2_with fail
    refine (put1 HH.out (((Below.refl _ w).alloc (Nat.le_refl _) _).alloc (by simp) _) (new_piece w [0] (by decide) _ _) (fun _ => Nat.le_refl _) (fun h => by cases h) (by simp) (Blk.new' _ _ _ _ (by simp)) HS.out _).mono ?_
    rintro e w2 ⟨rfl, h⟩
    replace h := hidp h
    go_wp2
    go_ret
    exact ⟨rfl, h.out⟩
  · go_enter Try.func68, Try.ntmps68
    go_wp2_with fail
    refine (put1 HH.out (((Below.refl _ w).alloc (Nat.le_refl _) _).alloc (by simp) _) (new_piece w [1] (by decide) _ _) (fun _ => Nat.le_refl _) (fun h => by cases h) (by simp) (Blk.new' _ _ _ _ (by simp)) HS.out _).mono ?_
    rintro e w2 ⟨rfl, h⟩
    replace h := hidp h
    go_wp2
    go_ret
    exact ⟨rfl, h.out⟩

set_option maxRecDepth 20000 in
theorem wBool_long {w : World} {g lim : Nat} {v : Value} {L : List Nat} (H : Wr w g lim v L 0) (is : Bool) (hs : lim < L.length + 1) :
    Calls Try.prog 68 #[.pointer (some ⟨g, 0, none⟩), .bool is] w (LongP w g lim) := by
  have HH := hidp H
  have HS := hidp hs
  clear H hs
  cases is
  · go_enter Try.func68, Try.ntmps68
    go_wp2_with fail
    refine (put1_long HH.out (((Below.refl _ w).alloc (Nat.le_refl _) _).alloc (by simp) _) (new_piece w [0] (by decide) _ _) (fun _ => Nat.le_refl _) (fun h => by cases h) (by simp) (Blk.new' _ _ _ _ (by simp)) HS.out (by simp) _).mono ?_
    rintro e w2 ⟨rfl, h⟩
    replace h := hidp h
    go_wp2
    go_ret
    exact ⟨rfl, h.out⟩
  · go_enter Try.func68, Try.ntmps68
    go_wp2_with fail
    refine (put1_long HH.out (((Below.refl _ w).alloc (Nat.le_refl _) _).alloc (by simp) _) (new_piece w [1] (by decide) _ _) (fun _ => Nat.le_refl _) (fun h => by cases h) (by simp) (Blk.new' _ _ _ _ (by simp)) HS.out (by simp) _).mono ?_
    rintro e w2 ⟨rfl, h⟩
    replace h := hidp h
    go_wp2
    go_ret
    exact ⟨rfl, h.out⟩

end Go.Proofs.Ytlfmmmlheloloaa
