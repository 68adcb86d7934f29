/-
  Contracts: a writer's Bytes, Text, Done; new writers and readers.
-/
import Derived.Test.YtlfmmmlheloloaaJo
namespace Go.Proofs.Ytlfmmmlheloloaa
open Go.RowKit Go.Lib Go.Maps

theorem PutP.lift {w w1 w' : World} {g lim : Nat} {v : Value} {L : List Nat} {e : Ending} (hB : Below w.heap.size w w1) (h : PutP w1 g lim v L e w') : PutP w g lim v L e w' := by
  obtain ⟨h1, h2⟩ := h
  rw [h1]
  exact PutP.of hB h2
theorem Bs.apart {w : World} {g lim e : Nat} {v : Value} {L : List Nat} (H : Wr w g lim v L e) {w2 : World} {p : Option Addr} {b o cap : Nat} {X : List Nat} (hs : Bs w2 p b o X cap) (hb : 0 < cap → w.heap.size ≤ b) : ∀ a, p = some a → 0 < X.length → a.block ≠ g ∧ v.ownBlock ≠ some a.block := by
  intro a ha h0
  have h1 := hs.le
  obtain ⟨h2, _⟩ := hs.ptr (by omega)
  rw [ha] at h2
  cases h2
  have h4 := hb (by omega)
  have hg := H.blk.lt
  exact ⟨by simp only; omega, fun e => by have h5 : b < w.heap.size := (H.ownGe e).2; omega⟩
set_option maxRecDepth 20000 in
theorem wBytes_ok {w : World} {g lim : Nat} {v : Value} {L : List Nat} (H : Wr w g lim v L 0) (p : Option Addr) (b o cap : Nat) (X : List Nat) (hX : Bs w p b o X cap) (hp : p = none → cap = 0) (hap : ∀ a, p = some a → 0 < X.length → a.block ≠ g ∧ v.ownBlock ≠ some a.block)
    (k : Nat) (hd : Digs X.length k) (hs : L.length + (k + 1) + X.length ≤ lim) :
    Calls Try.prog 70 #[.pointer (some ⟨g, 0, none⟩), .slice p X.length cap] w (PutP w g lim v (L ++ (numB X.length k ++ X))) := by
  have hlm := H.lim
  have HN := hidp (numForm_any X.length k w (by omega) hd)
  have HH := hidp H
  have HX := hidp (And.intro hX (And.intro hp hap))
  have HS := hidp (And.intro hs hd.2.2)
  clear H hd hs hX hp hap hlm
  go_enter Try.func70, Try.ntmps70
  go_wp2_with (first | (go_at_call 127; refine HN.out.mono ?_; rintro e w1 ⟨rfl, hb1, hB1⟩; have hb1 := hidp hb1; have hB1 := hidp hB1) | fail)
  have hsz := hB1.out.size
  have hlen := numB_len X.length HS.out.2
  have hB2 : Below w.heap.size w (w1.alloc (.cells #[.slice (some ⟨w.heap.size, 8 - k, none⟩) (k + 1) (k + 1), .slice p X.length cap] 32)) := hB1.out.alloc hsz _
  have hpb : Blk (w1.alloc (.cells #[.slice (some ⟨w.heap.size, 8 - k, none⟩) (k + 1) (k + 1), .slice p X.length cap] 32)) w1.heap.size [.slice (some ⟨w.heap.size, 8 - k, none⟩) (numB X.length k).length (k + 1), .slice p X.length cap] 32 := by rw [hlen]; exact Blk.new _ _ _
  have hg := HH.out.blk.lt
  have hPc : Pcs (w1.alloc (.cells #[.slice (some ⟨w.heap.size, 8 - k, none⟩) (k + 1) (k + 1), .slice p X.length cap] 32)) g v w1.heap.size [⟨some ⟨w.heap.size, 8 - k, none⟩, k + 1, numB X.length k⟩, ⟨p, cap, X⟩] := by
    refine ⟨hpb, ⟨by omega, fun e => by have := (HH.out.ownGe e).2; omega⟩, fun x hx => ?_, fun x hx a ha h0 => ?_⟩
    · simp only [List.mem_cons, List.not_mem_nil, or_false] at hx
      rcases hx with rfl | rfl
      · exact ByS.of_bs (num_piece HS.out.2 hb1.out _) (fun h => by cases h)
      · exact ByS.of_bs (HX.out.1.below hB2) HX.out.2.1
    · simp only [List.mem_cons, List.not_mem_nil, or_false] at hx
      rcases hx with rfl | rfl
      · exact Bs.apart HH.out (num_piece HS.out.2 hb1.out (.cells #[] 5)) (fun _ => Nat.le_refl _) a ha h0
      · exact HX.out.2.2 a ha h0
  have q := put_ok (pcap := 2) (HH.out.below hB2) hPc (by simp) (by rw [joinP_two]; simp only [List.length_append, hlen]; have := HS.out.1; omega)
  rw [joinP_two] at q
  refine q.mono ?_
  rintro e w2 ⟨rfl, h⟩
  have h := hidp (PutP.of hB2 h)
  clear q hPc hpb hB2 hsz hlen
  go_wp2
  go_ret
  exact h.out

/-! Text. -/
def strL (s : ByteArray) : List Nat := s.data.toList.map (·.toNat)
theorem strL_len (s : ByteArray) : (strL s).length = s.size := by unfold strL; rw [List.length_map, Array.length_toList]; rfl
theorem bytesW_below (w : World) (s : ByteArray) : Below w.heap.size w (bytesWorld w 5 s) := by
  refine ⟨rfl, rfl, rfl, by rw [bytesWorld_size]; omega, fun k hk => bytesWorld_at_old w _ s k hk⟩
theorem bytesW_bs (w : World) (s : ByteArray) : Bs (bytesWorld w 5 s) (some ⟨w.heap.size, 0, none⟩) w.heap.size 0 (strL s) (grownCap w s.size 0 5) := by
  refine ⟨fun x hx => ?_, by rw [strL_len]; exact grownCap_ge _ _ _ _, fun _ => ⟨rfl, by rw [bytesWorld_size]; omega⟩, fun i hi => ?_⟩
  · unfold strL at hx
    obtain ⟨y, _, rfl⟩ := List.mem_map.1 hx
    exact y.toNat_lt
  · rw [strL_len] at hi
    rw [Nat.zero_add, bytesWorld_cell w _ s i hi]
    unfold strL
    have h2 : i < s.data.toList.length := by rw [Array.length_toList]; exact hi
    rw [List.getD_eq_getElem?_getD, List.getD_eq_getElem?_getD, List.getElem?_map, List.getElem?_eq_getElem h2]
    rfl
set_option maxRecDepth 20000 in
theorem wText_ok {w : World} {g lim : Nat} {v : Value} {L : List Nat} (H : Wr w g lim v L 0) (s : ByteArray) (k : Nat) (hd : Digs s.size k) (hs : L.length + (k + 1) + s.size ≤ lim) :
    Calls Try.prog 66 #[.pointer (some ⟨g, 0, none⟩), .string s] w (PutP w g lim v (L ++ (numB s.size k ++ strL s))) := by
  have kc := fun W : World => _root_.Go.Lib.run_convert_string_bytes (P := Try.prog) W 9 32 5 s Try.underlying9 Try.underlying32 Try.underlying5
  have q := wBytes_ok (H.below (bytesW_below w s)) _ _ _ _ (strL s) (bytesW_bs w s) (fun h => by cases h) (Bs.apart H (bytesW_bs w s) (fun _ => Nat.le_refl _)) k (by rw [strL_len]; exact hd) (by rw [strL_len]; exact hs)
  rw [strL_len] at q
  have Q := hidp (q.mono fun e w' h => PutP.lift (bytesW_below w s) h)
  clear q H hd hs
  go_enter Try.func66, Try.ntmps66
  go_wp2_with fail
  refine Q.out.mono ?_
  rintro e w2 ⟨rfl, h⟩
  replace h := hidp h
  go_wp2
  go_ret
  exact ⟨rfl, h.out⟩

/-! Done. -/
def DoneP (w : World) (L : List Nat) (e : Ending) (w' : World) : Prop := (∃ p b cap, e = .returned (.tuple #[.slice p L.length cap, .int .i64 0]) ∧ w.heap.size ≤ b ∧ (p = none → cap = 0) ∧ Bs w' p b 0 L cap) ∧ Below w.heap.size w w'
theorem own_byS {w : World} {base g c : Nat} {L : List Nat} (h : w.ownsRow base 5 1 (.slice (some ⟨g, 0, none⟩) L.length c) L.length (bvs L)) (hb : ∀ x ∈ L, x < 256) : ByS w (some ⟨g, 0, none⟩) c L := by
  refine ⟨hb, ?_, fun h => (by cases h), fun x hx i hi => ?_⟩
  · rcases h.2 with ⟨h1, _⟩ | ⟨g', cap, cur, h1, _, _, h4, _⟩
    · cases h1
    · cases h1; exact h4
  · cases hx
    have := h.cells (g := g) rfl i (.int .u8 (L.getD i 0 : Nat)) (bvs_get hi)
    exact this
set_option maxRecDepth 20000 in
theorem wDone_ok {w : World} {g lim : Nat} {v : Value} {L : List Nat} (H : Wr w g lim v L 0) :
    Calls Try.prog 23 #[.pointer (some ⟨g, 0, none⟩)] w (DoneP w L) := by
  have HR := hidp (refusal_any H)
  have h2 : w.cell? ⟨g, 2, none⟩ = some v := H.blk.cell 2
  have hlm := H.lim
  have hle := H.le
  rcases H.own.2 with ⟨rfl, hn⟩ | ⟨gr, c, cur, rfl, _⟩
  · obtain rfl : L = [] := List.eq_nil_of_length_eq_zero hn
    clear H hn
    go_enter Try.func23, Try.ntmps23
    go_wp2_with (go_at_call 83; refine HR.out.mono ?_; rintro e wx ⟨rfl, rfl⟩)
    refine (clone_none _).mono ?_
    rintro e wx ⟨rfl, rfl⟩
    go_wp2
    go_ret2
    exact ⟨⟨none, w.heap.size, 0, rfl, Nat.le_refl _, fun _ => rfl, by simp, by simp, fun h0 => absurd h0 (by omega), fun i hi => absurd hi (by simp)⟩, Below.refl _ _⟩
  · have HC := hidp (clone_some ⟨gr, 0, none⟩ c L w (own_byS H.own H.byte))
    have HL := hidp (show L.length ≤ 4000000 by omega)
    clear H hlm hle
    go_enter Try.func23, Try.ntmps23
    go_wp2_with (first | (go_at_call 83; refine HR.out.mono ?_; rintro e wx ⟨rfl, rfl⟩) | (go_at_call 84; refine (HC.out HL.out).mono ?_; rintro e wx ⟨⟨p, b, cap', rfl, hb, hp, hs⟩, hB⟩; have hX := hidp (And.intro hb (And.intro hp (And.intro hs hB))); clear hb hp hs hB))
    go_ret2
    exact ⟨⟨p, b, cap', rfl, hX.out.1, hX.out.2.1, hX.out.2.2.1⟩, hX.out.2.2.2⟩
set_option maxRecDepth 20000 in
theorem wDone_dead {w : World} {g lim e : Nat} {v : Value} {L : List Nat} (H : Wr w g lim v L e) (he : e ≠ 0) :
    Calls Try.prog 23 #[.pointer (some ⟨g, 0, none⟩)] w fun e' w' => e' = .returned (.tuple #[.slice none 0 0, .int .i64 (e : Nat)]) ∧ w = w' := by
  have HR := hidp (refusal_any H)
  have hz : ((e : Int) == 0) = false := by rw [beq_eq_false_iff_ne]; omega
  have hz2 : ((e : Int) != 0) = true := by rw [bne_iff_ne]; omega
  clear H he
  go_enter Try.func23, Try.ntmps23
  go_wp2_with (go_at_call 83; refine HR.out.mono ?_; rintro e wx ⟨rfl, rfl⟩)
  go_ret2
  exact ⟨rfl, rfl⟩

/-! New ones. -/
set_option maxRecDepth 20000 in
theorem newWriter_any (lim : Nat) (w : World) (hl : lim ≤ 1048576) :
    Calls Try.prog 16 #[.int .i64 (lim : Nat)] w fun e w' => e = .returned (.tuple #[.pointer (some ⟨w.heap.size, 0, none⟩), .int .i64 0]) ∧ Wr w' w.heap.size lim (.slice none 0 0) [] 0 ∧ Below w.heap.size w w' := by
  have h1 : decide ((lim : Int) < 0) = false := decide_eq_false (by omega)
  have h2 : decide ((1048576 : Int) < (lim : Int)) = false := decide_eq_false (by omega)
  have HL := hidp hl
  clear hl
  go_enter Try.func16, Try.ntmps16
  go_wp2
  go_ret2
  refine ⟨rfl, ⟨?_, ⟨rfl, .inl ⟨rfl, rfl⟩⟩, by simp, by simp, HL.out⟩, by (repeat' (first | (with_reducible exact Below.refl _ _) | (with_reducible refine Below.alloc ?_ ?_ _) | (with_reducible refine Below.drew ?_) | (with_reducible refine Below.drewN ?_ _) | (with_reducible refine Below.setCell ?_ ?_ _) | go_size))⟩
  exact Blk.new w [.pointer (some ⟨w.heap.size, 0, none⟩), .int .i64 (lim : Nat), .slice none 0 0, .int .i64 (0 : Nat)] _
def NewP (w : World) (L : List Nat) (e : Ending) (w' : World) : Prop := ∃ g b, e = .returned (.pointer (some ⟨g, 0, none⟩)) ∧ w.heap.size ≤ g ∧ w.heap.size ≤ b ∧ RdX w' g 0 b L 0 0 ∧ Below w.heap.size w w'
set_option maxRecDepth 20000 in
theorem newReader_some (y : Addr) (cap : Nat) (L : List Nat) (w : World) (h : ByS w (some y) cap L) (hn : L.length ≤ 4000000) :
    Calls Try.prog 26 #[.slice (some y) L.length cap] w (NewP w L) := by
  have HC := hidp (clone_some y cap L w h hn)
  have HN := hidp hn
  clear h hn
  go_enter Try.func26, Try.ntmps26
  go_wp2_with (go_at_call 84; refine HC.out.mono ?_; rintro e w1 ⟨⟨p, b, cap', rfl, hb, hp, hs⟩, hB⟩; have hX := hidp (And.intro hb (And.intro hp (And.intro hs hB))); clear hb hp hs hB)
  go_ret
  have hB2 : Below w1.heap.size w1 (w1.alloc (.cells #[.pointer (some ⟨w1.heap.size, 0, none⟩), .int .i64 (0 : Nat), .slice p L.length cap', .int .i64 (0 : Nat), .int .i64 (0 : Nat)] 64)) := (Below.refl _ w1).alloc (Nat.le_refl _) _
  exact ⟨w1.heap.size, b, rfl, hX.out.2.2.2.size, hX.out.1, ⟨p, 0, cap', Blk.new w1 [.pointer (some ⟨w1.heap.size, 0, none⟩), .int .i64 (0 : Nat), .slice p L.length cap', .int .i64 (0 : Nat), .int .i64 (0 : Nat)] _, hX.out.2.2.1.below hB2, fun h0 => by have := (hX.out.2.2.1.ptr h0).2; omega, by have := HN.out; omega⟩, btrans hX.out.2.2.2 hB2⟩
end Go.Proofs.Ytlfmmmlheloloaa
