/-
  The walk of BlakePieces.
-/
import Derived.Test.YthcgenlhblbjaaaId
import Derived.Test.YthcgenlhblbjaaaHw
import Derived.Deep.CutRange
namespace Go.Proofs.Ythcgenlhblbjaaa
open Go.RowKit Go.Lib

theorem St.below' {B : Nat} {w w' : World} {g : Nat} {sf : Value} {n : Nat} {h bl : List Nat} (hs : St w g sf n h bl) (hB : Below B w w') (hg : g < B) : St w' g sf n h bl := ⟨hs.blk.below hB hg, hs.words, hs.bytes⟩
/-- What the loop of BlakePieces knows. -/
structure Pw (w wr : World) (g : Nat) (all : List Nat) (bx : List (Nat × List Nat)) : Prop where
  so : So wr g (ptrV g) all
  bel : Below w.heap.size w wr
  out : w.heap.size ≤ g
  box : ∀ p ∈ bx, Blk wr p.1 (bvs p.2) 26
theorem Pw.step {w w1 w2 : World} {g : Nat} {all : List Nat} {bx : List (Nat × List Nat)} (h : Pw w w1 g all bx) (k : Below w1.heap.size w1 w2) : Pw w w2 g all bx :=
  ⟨St.below h.so k, h.bel.trans (k.mono h.bel.size), h.out, fun p hp => (h.box p hp).below k (h.box p hp).lt⟩
theorem Pw.drew {w w1 : World} {g : Nat} {all : List Nat} {bx : List (Nat × List Nat)} (h : Pw w w1 g all bx) : Pw w w1.drew g all bx :=
  ⟨St.drew h.so, h.bel.drew, h.out, fun p hp => (h.box p hp).drew⟩
theorem Pw.same {w w1 w2 : World} {g : Nat} {all : List Nat} {bx : List (Nat × List Nat)} (h : Pw w w1 g all bx) (k : w2 = w1) : Pw w w2 g all bx := k ▸ h
theorem Pw.box' {w w1 w2 : World} {g : Nat} {all x : List Nat} {bx : List (Nat × List Nat)} (h : Pw w w1 g all bx) (hw2 : w2 = (w1.alloc (.cells z32.toArray 26)).setRow w1.heap.size (bvs x).toArray) : Pw w w2 g all ((w1.heap.size, x) :: bx) := by
  have q := box_mid (h := x) h.bel hw2
  refine ⟨St.below h.so q.2.1, q.1, h.out, fun p hp => ?_⟩
  rcases List.mem_cons.1 hp with rfl | hp
  · exact q.2.2
  · exact (h.box p hp).below q.2.1 (h.box p hp).lt
theorem Pw.range {w w1 : World} {g : Nat} {all : List Nat} {bx : List (Nat × List Nat)} (h : Pw w w1 g all bx) {b : Nat} {x : List Nat} (hm : (b, x) ∈ bx) : w1.rangeAt b 0 (bvs x) := fun j v hj => by rw [Nat.zero_add]; exact ((h.box _ hm).cell j).trans hj
theorem Pw.none {w w1 : World} {g : Nat} {all : List Nat} {bx : List (Nat × List Nat)} (h : Pw w w1 g all bx) : Pw w w1 g all [] := ⟨h.so, h.bel, h.out, fun _ hp => absurd hp List.not_mem_nil⟩
/-- A part written, then written over. -/
theorem Pw.over {w wr w1 w2 w3 : World} {g : Nat} {all all2 : List Nat} (h : Pw w wr g all []) (h1 : Below wr.heap.size wr w1) (h2 : So w2 g (ptrV g) all2) (hx : Bex g w1 w2) (h3 : Below wr.heap.size w2 w3) : Pw w w3 g all2 [] := by
  have hg := h.so.lt
  have hs := h.bel.size
  exact ⟨St.below' h2 h3 hg, ((h.bel.trans (h1.mono hs)).trans (hx.below h.out (Nat.le_trans hs h1.size))).trans (h3.mono hs), h.out, fun _ hp => absurd hp List.not_mem_nil⟩
theorem len_part {w w1 : World} {g k : Nat} {L : List Nat} {bx : List (Nat × List Nat)} (h : Pw w w1 g (L.take k) bx) (hk : k ≤ L.length) :
    Calls Try.prog 22 #[.pointer (some ⟨g, 0, none⟩)] w1 fun e w' => e = .returned (.int .i64 (k : Nat)) ∧ w' = w1 := by
  have q := len_any g (L.take k) w1 h.so
  rw [show (L.take k).length = k by rw [List.length_take]; omega] at q
  exact q
theorem piece_at {w : World} {a : Option Addr} {len cap : Nat} {zs : List Int} (h : IsRow .i64 w a len cap zs) {m : Nat} (hm : m < len) : ∃ x, a = some x ∧ w.cell? (x.add m) = some (.int .i64 (zs.getD m 0)) := by
  rcases h with ⟨_, h, _, _⟩ | ⟨x, rfl, h2, h3, h4, h5, _⟩
  · omega
  · exact ⟨x, rfl, h5 m (by omega)⟩
theorem write_part {w wr w1 : World} {g : Nat} {all ps : List Nat} {p : Option Addr} {cap : Nat} (h : Pw w wr g all []) (ho : OwnB wr.heap.size w1 p ps cap) (hB : Below wr.heap.size wr w1) (hb : ∀ x ∈ ps, x < 256) (ha : ∀ y ∈ all, y < 256) (hn : all.length + ps.length ≤ 9223372036854775807) :
    Calls Try.prog 21 #[.pointer (some ⟨g, 0, none⟩), .slice p ps.length cap] w1 fun e w' => e = .returned (.int .i64 0) ∧ So w' g (ptrV g) (all ++ ps) ∧ Bex g w1 w' := by
  obtain ⟨bb, h1, h2⟩ := ho.bsl' hb h.so.lt
  exact write_any g all ps p bb 0 cap w1 (St.below h.so hB) h1 h2 ha hn

theorem write_part2 {w wr w1 : World} {g k n k2 : Nat} {L : List Nat} {a p : Option Addr} {cap c0 : Nat} (h : Pw w wr g (L.take k) []) (ho : OwnB wr.heap.size w1 p ((L.drop k).take n) cap) (hB : Below wr.heap.size wr w1) (hL : ByS w a c0 L) (e : k2 = k + n) (hk : k2 ≤ L.length) (hl : L.length ≤ 1000) :
    Calls Try.prog 21 #[.pointer (some ⟨g, 0, none⟩), .slice p n cap] w1 fun e w' => e = .returned (.int .i64 0) ∧ So w' g (ptrV g) (L.take k2) ∧ OwnB wr.heap.size w' p ((L.drop k).take n) cap ∧ Bex g w1 w' := by
  have h1 : ((L.drop k).take n).length = n := by rw [List.length_take, List.length_drop]; omega
  have h2 : (L.take k).length = k := by rw [List.length_take]; omega
  have q := write_part h ho hB (fun x hx => hL.byte x (List.mem_of_mem_drop (List.mem_of_mem_take hx))) (fun x hx => hL.byte x (List.mem_of_mem_take hx)) (by omega)
  rw [h1, take_part, ← e] at q
  exact q.mono fun e w' ⟨q1, q2, q3⟩ => ⟨q1, q2, ho.bex q3 h.so.lt, q3⟩
theorem over_part {B k n : Nat} {w : World} {L : List Nat} {p : Option Addr} {cap : Nat} (ho : OwnB B w p ((L.drop k).take n) cap) (hk : k + n ≤ L.length) (hl : L.length ≤ 1000) :
    Calls Try.prog 27 #[.slice p n cap] w fun e w' => e = .returned (.tuple #[]) ∧ Below B w w' := by
  have h1 : ((L.drop k).take n).length = n := by rw [List.length_take, List.length_drop]; omega
  have q := over_any B _ p cap w ho (by omega)
  rw [h1] at q
  exact q
theorem sum_state {w w1 : World} {g k : Nat} {L X : List Nat} {bx : List (Nat × List Nat)} (h : Pw w w1 g (L.take k) bx) (hl : L.length ≤ 1000) (hX : hashL (L.take k) = X) :
    Calls Try.prog 20 #[.pointer (some ⟨g, 0, none⟩)] w1 fun e w' => e = .returned (.tuple #[.agg (bvs X).toArray, .int .i64 0]) ∧ Below w1.heap.size w1 w' := by
  have q := sumM_any g (L.take k) w1 h.so (by rw [List.length_take]; omega)
  rw [hX] at q
  exact q
theorem sum_part2 {w : World} {a : Option Addr} {cap : Nat} {L X : List Nat} (h : ByS w a cap L) (k : Nat) (hk : k ≤ L.length) (hl : L.length ≤ 1000) (hX : hashL (L.take k) = X) :
    Calls Try.prog 11 #[.slice a k cap] w fun e w' => e = .returned (.agg (bvs X).toArray) ∧ Below w.heap.size w w' := by
  have q := sum_part h k hk hl
  rw [hX] at q
  exact q

set_option linter.unusedSimpArgs false
set_option maxRecDepth 20000 in
set_option maxHeartbeats 32000000 in
theorem lawPieces_w (a : Option Addr) (len cap : Nat) (zs : List Int) (a1 : Option Addr) (len1 cap1 : Nat) (zs1 : List Int) (w : World) (h0 : IsRow .u8 w a len cap zs) (h1 : IsRow .i64 w a1 len1 cap1 zs1) :
    Calls Try.prog 7 #[.slice a len cap, .slice a1 len1 cap1] w fun e w' => e = .returned (.bool true) ∧ Below w.heap.size w w' := by
  by_cases h400 : 400 < len
  · have ht : decide ((400 : Int) < ((len : Nat) : Int)) = true := decide_eq_true (by omega)
    clear h400 h0 h1
    go_enter Try.func7, Try.ntmps7
    go_wp2_with fail
    refine (known_any _).mono ?_
    rintro e w1 ⟨rfl, hB1⟩
    have h1 := hidp hB1
    clear hB1
    go_wp2
    go_ret
    exact ⟨rfl, h1.out⟩
  by_cases h12 : 12 < len1
  · have ht0 : decide ((400 : Int) < ((len : Nat) : Int)) = false := decide_eq_false (by omega)
    have ht : decide ((12 : Int) < ((len1 : Nat) : Int)) = true := decide_eq_true (by omega)
    clear h400 h12 h0 h1
    go_enter Try.func7, Try.ntmps7
    go_wp2_with fail
    refine (known_any _).mono ?_
    rintro e w1 ⟨rfl, hB1⟩
    have h1 := hidp hB1
    clear hB1
    go_wp2
    go_ret
    exact ⟨rfl, h1.out⟩
  have hgd := guard_hash
  have hu := Try.underlying26
  obtain ⟨L, rfl, hL⟩ := ByS.of_row h0
  have HL := hidp hL
  have HP := hidp (And.intro h1 h12)
  have H400 := hidp h400
  have ht0 : decide ((400 : Int) < ((L.length : Nat) : Int)) = false := decide_eq_false (by omega)
  have ht : decide ((12 : Int) < ((len1 : Nat) : Int)) = false := decide_eq_false (by omega)
  clear h0 hL h1 h12 h400
  go_enter Try.func7, Try.ntmps7
  go_wp2_with fail
  refine (known_any _).mono ?_
  rintro e w1 ⟨rfl, hB1⟩
  have hB1 := hidp hB1
  go_wp2_with fail
  refine (new_any _).mono ?_
  rintro e w2 ⟨g, rfl, hg, hs2, hB2⟩
  have H0 : Hid (Pw w w2 g (L.take 0) []) := hidp ⟨by rw [List.take_zero]; exact hs2, hB1.out.trans (hB2.mono hB1.out.size), Nat.le_trans hB1.out.size hg, fun _ hp => absurd hp List.not_mem_nil⟩
  clear hg hs2 hB2 hB1 ht0 ht
  unfold ptrV
  go_wp2
  go_loopw [7, 8] (fun x y wr => ∃ k m : Nat, k ≤ L.length ∧ m ≤ len1 + 1 ∧ x = .int .i64 k ∧ y = .int .i64 m ∧ (m = len1 + 1 → k = L.length) ∧ Hid (Pw w wr g (L.take k) [])) (fun _ y _ => len1 + 1 - (RowKit.intOf y).toNat)
  case atStart => exact ⟨0, 0, by omega, by omega, rfl, rfl, fun h => by omega, H0⟩
  case round =>
    obtain ⟨k, m, hk, hm, rfl, rfl, hend, hr⟩ := hrel
    clear H0
    by_cases hin : m ≤ len1
    · go_upto_if 42 with fail
      go_cut [9] from 29 to 103 (fun s wx => ∃ n k2 : Nat, s = .int .i64 n ∧ wx = wr ∧ Hid (k2 = k + n ∧ k2 ≤ L.length ∧ L.length ≤ 1000 ∧ m ≤ len1 ∧ (m < len1 ∨ k2 = L.length)))
      case first =>
        have hsub : wrap64 ((L.length : Int) - (k : Int)) = ((L.length - k : Nat) : Int) := by rw [w64 _ (by have := H400.out; omega)]; omega
        obtain ⟨d, hd⟩ : ∃ d, L.length = k + d := ⟨L.length - k, by omega⟩
        rw [show L.length - k = d by omega] at hsub
        by_cases hlt : m < len1
        · obtain ⟨z, rfl, hz⟩ := piece_at (HP.out.1.below hr.out.bel) hlt
          have hadd : wrap64 ((d : Int) + 1) = (d : Int) + 1 := w64 _ (by have := H400.out; omega)
          generalize zs1.getD m 0 = q at hz
          have HD := hidp (And.intro hd (And.intro hlt hin))
          clear hd hk hend
          go_wp2_with fail
          refine (Pick_any q (d + 1) _ (by omega) (by have := HD.out.1; have := H400.out; omega)).mono ?_
          rintro e wx ⟨⟨n, hn, rfl⟩, hwx⟩
          rw [hwx]
          clear hwx wx
          go_wp2_with fail
          go_meet
          case rel => exact ⟨n, k + n, rfl, rfl, hidp ⟨rfl, by have := HD.out.1; omega, by have := H400.out; omega, HD.out.2.2, .inl HD.out.2.1⟩⟩
        · have HD := hidp (And.intro hd (And.intro hlt hin))
          clear hd hk hend
          go_wp2_with fail
          go_meet
          case rel => exact ⟨d, k + d, by rw [hsub], rfl, hidp ⟨rfl, by have := HD.out.1; omega, by have := H400.out; omega, HD.out.2.2, .inr HD.out.1.symm⟩⟩
      case rest =>
        obtain ⟨n, k2, rfl, rfl, HE⟩ := hcut
        clear hin hk hend hm
        have hkn : wrap64 ((k : Int) + (n : Int)) = (k2 : Int) := by have := HE.out.1; have := HE.out.2.1; have := HE.out.2.2.1; rw [w64 _ (by omega)]; omega
        have hsl := fun w => run_part_lh a L.length cap k n k2 HE.out.1 (Nat.le_trans HE.out.2.1 HL.out.le) w
        go_wp2_with fail
        refine (copy_part (HL.out.below hr.out.bel) k n (HE.out.1 ▸ HE.out.2.1) HE.out.2.2.1).mono ?_
        rintro e w3 ⟨⟨p, cp, rfl, ho⟩, hB3⟩
        have ho := hidp ho
        have hB3 := hidp hB3
        clear hsl
        go_wp2_with fail
        refine (write_part2 hr.out ho.out hB3.out HL.out HE.out.1 HE.out.2.1 HE.out.2.2.1).mono ?_
        rintro e w4 ⟨rfl, hs, ho4, hx⟩
        have hs := hidp hs
        have ho4 := hidp ho4
        have hx := hidp hx
        go_wp2_with fail
        refine (over_part ho4.out (HE.out.1 ▸ HE.out.2.1) HE.out.2.2.1).mono ?_
        rintro e w5 ⟨rfl, hB5⟩
        have hT := hidp (hr.out.over hB3.out hs.out hx.out hB5)
        clear ho hB3 hs ho4 hx hB5 hr
        obtain ⟨X, hX, hXL⟩ : ∃ X, hashL (L.take k2) = X ∧ X.length = 32 := ⟨_, rfl, hashL_len _⟩
        have hneq := run_neq_hash X X hXL hXL
        rw [decide_eq_true rfl] at hneq
        have HIX : Hid ((Try.prog.info? 26).map (·.size) = some (bvs X).length) := hidp (by rw [bvs_len, hXL]; kernel_rfl)
        have HXL : Hid ((bvs X).length = 32) := hidp (by rw [bvs_len, hXL])
        have HX := hidp hX
        clear hX hXL
        go_wp2_with fail
        refine (sum_state hT.out HE.out.2.2.1 HX.out).mono ?_
        rintro e w6 ⟨rfl, hN⟩
        have hT := hidp (hT.out.step hN)
        clear hN
        have hz6 := hidp (Blk.new w6 z32 26)
        go_wp2_with (refine wpList_store_blk rfl 26 _ _ rfl w6.heap.size (bvs X) z32 26 rfl rfl hz6.out HIX.out (by rw [HXL.out]; rfl) (bvs_one _) ?_; intro w7 hw7)
        have hT := hidp (hT.out.box' hw7.out)
        clear hz6 hw7
        refine (sum_state hT.out HE.out.2.2.1 HX.out).mono ?_
        rintro e w8 ⟨rfl, hN⟩
        have hT := hidp (hT.out.step hN)
        clear hN
        have hz8 := hidp (Blk.new w8 z32 26)
        have hsl2 := fun w => run_part_h a L.length cap k2 (Nat.le_trans HE.out.2.1 HL.out.le) w
        go_wp2_with (refine wpList_store_blk rfl 26 _ _ rfl w8.heap.size (bvs X) z32 26 rfl rfl hz8.out HIX.out (by rw [HXL.out]; rfl) (bvs_one _) ?_; intro w9 hw9)
        have hT := hidp (hT.out.box' hw9.out)
        clear hz8 hw9
        refine wp_region_held_drew (S := fun w' => Pw w w' g (L.take k2) [(w8.heap.size, X), (w6.heap.size, X)]) (by kernel_rfl) hT.out.drew (fun hHeld => ?_)
        have hT := hidp hT.out.drew
        refine wpAnyH_takeTo (i := 0) (oi := _) (v := ?_) (some 75) rfl rfl (by kernel_rfl) (by kernel_rfl) (by kernel_rfl) (fun _ _ _ h => h) (Or.inl ⟨by rfl, ?_⟩) (by assumption) ?_
        rotate_left
        · intro w hSw
          go_simp
          try with_reducible rfl
        try simp only [Act.put, List.setIfInBounds_toArray, List.set_cons_zero, List.set_cons_succ]
        refine wpAnyH_takeTo (i := 1) (oi := _) (v := ?_) (some 76) rfl rfl (by kernel_rfl) (by kernel_rfl) (by kernel_rfl) (fun _ _ _ h => h) (Or.inl ⟨by rfl, ?_⟩) (by assumption) ?_
        rotate_left
        · intro w hSw
          go_simp
          try with_reducible rfl
        try simp only [Act.put, List.setIfInBounds_toArray, List.set_cons_zero, List.set_cons_succ]
        refine wpAnyH_takeTo (i := 2) (oi := _) (v := ?_) (some 77) rfl rfl (by kernel_rfl) (by kernel_rfl) (by kernel_rfl) (fun _ _ _ h => h) (Or.inl ⟨by rfl, ?_⟩) (by assumption) ?_
        rotate_left
        · intro w hSw
          go_simp
          try with_reducible rfl
        try simp only [Act.put, List.setIfInBounds_toArray, List.set_cons_zero, List.set_cons_succ]
        refine wpAnyH_takeTo (i := 3) (oi := _) (v := ?_) (some 78) rfl rfl (by kernel_rfl) (by kernel_rfl) (by kernel_rfl) (fun _ _ _ h => h) (Or.inl ⟨by rfl, ?_⟩) (by assumption) ?_
        rotate_left
        · intro w hSw
          go_simp
          try with_reducible rfl
        try simp only [Act.put, List.setIfInBounds_toArray, List.set_cons_zero, List.set_cons_succ]
        refine wpAnyH_takeTo (i := 4) (oi := _) (v := ?_) (some 79) rfl rfl (by kernel_rfl) (by kernel_rfl) (by kernel_rfl) (fun _ _ _ h => h) (Or.inl ⟨by rfl, ?_⟩) (by assumption) ?_
        rotate_left
        · intro w hSw
          go_simp
          try with_reducible rfl
        try simp only [Act.put, List.setIfInBounds_toArray, List.set_cons_zero, List.set_cons_succ]
        refine wpAnyH_takeTo (i := 5) (oi := _) (v := ?_) (some 80) rfl rfl (by kernel_rfl) (by kernel_rfl) (by kernel_rfl) (fun _ _ _ h => h) (Or.inl ⟨by rfl, ?_⟩) (by assumption) ?_
        rotate_left
        · intro w hSw
          go_simp
          try with_reducible rfl
        try simp only [Act.put, List.setIfInBounds_toArray, List.set_cons_zero, List.set_cons_succ]
        refine wpAnyH_takeTo (i := 6) (oi := _) (v := ?_) (some 81) rfl rfl (by kernel_rfl) (by kernel_rfl) (by kernel_rfl) (fun _ _ _ h => h) (Or.inl ⟨by rfl, ?_⟩) (by assumption) ?_
        rotate_left
        · intro w hSw
          go_simp
          try with_reducible rfl
        try simp only [Act.put, List.setIfInBounds_toArray, List.set_cons_zero, List.set_cons_succ]
        refine wpAnyH_takeTo (i := 7) (oi := _) (v := ?_) (some 82) rfl rfl (by kernel_rfl) (by kernel_rfl) (by kernel_rfl) (fun _ _ _ h => h) (Or.inl ⟨by rfl, ?_⟩) (by assumption) ?_
        rotate_left
        · intro w hSw
          go_simp
          try with_reducible rfl
        try simp only [Act.put, List.setIfInBounds_toArray, List.set_cons_zero, List.set_cons_succ]
        refine wpAnyH_takeTo (i := 8) (oi := _) (v := ?_) (some 83) rfl rfl (by kernel_rfl) (by kernel_rfl) (by kernel_rfl) (fun _ _ _ h => h) (Or.inl ⟨by rfl, ?_⟩) (by assumption) ?_
        rotate_left
        · intro w hSw
          go_simp
          try with_reducible rfl
        try simp only [Act.put, List.setIfInBounds_toArray, List.set_cons_zero, List.set_cons_succ]
        refine wpAnyH_takeTo (i := 9) (oi := _) (v := ?_) (some 84) rfl rfl (by kernel_rfl) (by kernel_rfl) (by kernel_rfl) (fun _ _ _ h => h) (Or.inl ⟨by rfl, ?_⟩) (by assumption) ?_
        rotate_left
        · intro w hSw
          go_simp
          try with_reducible rfl
        try simp only [Act.put, List.setIfInBounds_toArray, List.set_cons_zero, List.set_cons_succ]
        refine wpAnyH_takeTo (i := 10) (oi := _) (v := ?_) (some 85) rfl rfl (by kernel_rfl) (by kernel_rfl) (by kernel_rfl) (fun _ _ _ h => h) (Or.inl ⟨by rfl, ?_⟩) (by assumption) ?_
        rotate_left
        · intro w hSw
          go_simp
          try with_reducible rfl
        try simp only [Act.put, List.setIfInBounds_toArray, List.set_cons_zero, List.set_cons_succ]
        refine' wpAnyH_takeTo (i := 11) (oi := _) (v := _) (some 86) rfl rfl (by kernel_rfl) (by kernel_rfl) (by kernel_rfl) (fun _ _ _ h => h) (yieldsIf_load_mid (by rfl) _ _ rfl _ _ rfl (bvs X) _ (fun w' hw' => hw'.range (by simp)) hu rfl HIX.out) (by assumption) ?_
        try simp only [Act.put, List.setIfInBounds_toArray, List.set_cons_zero, List.set_cons_succ]
        refine' wpAnyH_takeTo (i := 12) (oi := _) (v := _) (some 87) rfl rfl (by kernel_rfl) (by kernel_rfl) (by kernel_rfl) (fun _ _ _ h => h) (yieldsIf_load_mid (by rfl) _ _ rfl _ _ rfl (bvs X) _ (fun w' hw' => hw'.range (by simp)) hu rfl HIX.out) (by assumption) ?_
        try simp only [Act.put, List.setIfInBounds_toArray, List.set_cons_zero, List.set_cons_succ]
        refine wpAnyH_takeTo (i := 13) (oi := _) (v := ?_) (some 88) rfl rfl (by kernel_rfl) (by kernel_rfl) (by kernel_rfl) (fun _ _ _ h => h) (Or.inl ⟨by rfl, ?_⟩) (by assumption) ?_
        rotate_left
        · intro w hSw
          go_simp
          try with_reducible rfl
        try simp only [Act.put, List.setIfInBounds_toArray, List.set_cons_zero, List.set_cons_succ]
        refine wpAnyH_takeTo (i := 14) (oi := _) (v := ?_) (some 89) rfl rfl (by kernel_rfl) (by kernel_rfl) (by kernel_rfl) (fun _ _ _ h => h) (Or.inl ⟨by rfl, ?_⟩) (by assumption) ?_
        rotate_left
        · intro w hSw
          go_simp
          try with_reducible rfl
        try simp only [Act.put, List.setIfInBounds_toArray, List.set_cons_zero, List.set_cons_succ]
        refine wpAnyH_takeTo (i := 15) (oi := _) (v := ?_) (some 90) rfl rfl (by kernel_rfl) (by kernel_rfl) (by kernel_rfl) (fun _ _ _ h => h) (Or.inl ⟨by rfl, ?_⟩) (by assumption) ?_
        rotate_left
        · intro w hSw
          go_simp
          try with_reducible rfl
        try simp only [Act.put, List.setIfInBounds_toArray, List.set_cons_zero, List.set_cons_succ]
        refine' wpAnyH_takeTo (i := 16) (oi := _) (v := _) (some 91) rfl rfl (by kernel_rfl) (by kernel_rfl) (by kernel_rfl) (fun _ _ _ h => h) (yieldsIf_load_mid (by rfl) _ _ rfl _ _ rfl (bvs X) _ (fun w' hw' => hw'.range (by simp)) hu rfl HIX.out) (by assumption) ?_
        try simp only [Act.put, List.setIfInBounds_toArray, List.set_cons_zero, List.set_cons_succ]
        refine wpAnyH_takeTo (i := 17) (oi := _) (v := ?_) (some 92) rfl rfl (by kernel_rfl) (by kernel_rfl) (by kernel_rfl) (fun _ _ _ h => h) (Or.inl ⟨by rfl, ?_⟩) (by assumption) ?_
        rotate_left
        · intro w hSw
          go_simp
          try with_reducible rfl
        try simp only [Act.put, List.setIfInBounds_toArray, List.set_cons_zero, List.set_cons_succ]
        refine wpAnyH_takeTo (i := 18) (oi := _) (v := ?_) (some 93) rfl rfl (by kernel_rfl) (by kernel_rfl) (by kernel_rfl) (fun _ _ _ h => h) (Or.inl ⟨by rfl, ?_⟩) (by assumption) ?_
        rotate_left
        · intro w hSw
          go_simp
          try with_reducible rfl
        try simp only [Act.put, List.setIfInBounds_toArray, List.set_cons_zero, List.set_cons_succ]
        refine wpAnyH_takeTo (i := 19) (oi := _) (v := ?_) (some 94) rfl rfl (by kernel_rfl) (by kernel_rfl) (by kernel_rfl) (fun _ _ _ h => h) (Or.inl ⟨by rfl, ?_⟩) (by assumption) ?_
        rotate_left
        · intro w hSw
          go_simp
          try with_reducible rfl
        try simp only [Act.put, List.setIfInBounds_toArray, List.set_cons_zero, List.set_cons_succ]
        refine wpAnyH_ready (rs := [20]) (by kernel_rfl) (by simp) ?_
        refine AllReadyH.cons (o := _) rfl (fun K hK => ?_) AllReadyH.nil
        go_simp
        refine (sum_part2 (HL.out.below hT.out.bel) k2 HE.out.2.1 HE.out.2.2.1 HX.out).mono ?_
        rintro e wN ⟨rfl, hN⟩
        have hT := hidp (hT.out.step hN)
        clear hN
        go_wp2_with fail
        refine hK.out _ _ hT.out (fun hHeld' => ?_)
        clear hK K hHeld
        have hHeld := hHeld'
        clear hHeld'
        try simp only [Act.put, List.setIfInBounds_toArray, List.set_cons_zero, List.set_cons_succ]
        refine wpAnyH_takeTo (i := 21) (oi := _) (v := ?_) (some 96) rfl rfl (by kernel_rfl) (by kernel_rfl) (by kernel_rfl) (fun _ _ _ h => h) (Or.inl ⟨by rfl, ?_⟩) (by assumption) ?_
        rotate_left
        · intro w hSw
          go_simp
          try with_reducible rfl
        try simp only [Act.put, List.setIfInBounds_toArray, List.set_cons_zero, List.set_cons_succ]
        refine wpAnyH_takeTo (i := 22) (oi := _) (v := ?_) (some 97) rfl rfl (by kernel_rfl) (by kernel_rfl) (by kernel_rfl) (fun _ _ _ h => h) (Or.inl ⟨by rfl, ?_⟩) (by assumption) ?_
        rotate_left
        · intro w hSw
          go_simp
          try with_reducible rfl
        try simp only [Act.put, List.setIfInBounds_toArray, List.set_cons_zero, List.set_cons_succ]
        refine wpAnyH_takeTo (i := 23) (oi := _) (v := ?_) (some 98) rfl rfl (by kernel_rfl) (by kernel_rfl) (by kernel_rfl) (fun _ _ _ h => h) (Or.inl ⟨by rfl, ?_⟩) (by assumption) ?_
        rotate_left
        · intro w hSw
          go_simp
          try with_reducible rfl
        try simp only [Act.put, List.setIfInBounds_toArray, List.set_cons_zero, List.set_cons_succ]
        refine wpAnyH_takeTo (i := 24) (oi := _) (v := ?_) (some 99) rfl rfl (by kernel_rfl) (by kernel_rfl) (by kernel_rfl) (fun _ _ _ h => h) (Or.inl ⟨by rfl, ?_⟩) (by assumption) ?_
        rotate_left
        · intro w hSw
          go_simp
          try with_reducible rfl
        try simp only [Act.put, List.setIfInBounds_toArray, List.set_cons_zero, List.set_cons_succ]
        refine wpAnyH_takeTo (i := 26) (oi := _) (v := ?_) (some 101) rfl rfl (by kernel_rfl) (by kernel_rfl) (by kernel_rfl) (fun _ _ _ h => h) (Or.inl ⟨by rfl, ?_⟩) (by assumption) ?_
        rotate_left
        · intro w hSw
          go_simp
          try with_reducible rfl
        try simp only [Act.put, List.setIfInBounds_toArray, List.set_cons_zero, List.set_cons_succ]
        refine wpAnyH_ready (rs := [25]) (by kernel_rfl) (by simp) ?_
        refine AllReadyH.cons (o := _) rfl (fun K hK => ?_) AllReadyH.nil
        go_simp
        refine (len_part hT.out HE.out.2.1).mono ?_
        rintro e wN ⟨rfl, hN⟩
        have hT := hidp (hT.out.same hN)
        clear hN
        go_wp2_with fail
        refine hK.out _ _ hT.out (fun hHeld' => ?_)
        clear hK K hHeld
        have hHeld := hHeld'
        clear hHeld'
        try simp only [Act.put, List.setIfInBounds_toArray, List.set_cons_zero, List.set_cons_succ]
        refine wpAnyH_takeTo (i := 27) (oi := _) (v := ?_) (some 102) rfl rfl (by kernel_rfl) (by kernel_rfl) (by kernel_rfl) (fun _ _ _ h => h) (Or.inl ⟨by rfl, ?_⟩) (by assumption) ?_
        rotate_left
        · intro w hSw
          go_simp
          try with_reducible rfl
        try simp only [Act.put, List.setIfInBounds_toArray, List.set_cons_zero, List.set_cons_succ]
        refine wpAnyH_takeTo (i := 28) (oi := _) (v := ?_) (some 103) rfl rfl (by kernel_rfl) (by kernel_rfl) (by kernel_rfl) (fun _ _ _ h => h) (Or.inl ⟨by rfl, ?_⟩) (by assumption) ?_
        rotate_left
        · intro w hSw
          go_simp
          try with_reducible rfl
        try simp only [Act.put, List.setIfInBounds_toArray, List.set_cons_zero, List.set_cons_succ]
        refine wpAnyH_done (by kernel_rfl) ?_ _
        have hm1 : wrap64 ((m : Int) + 1) = (m : Int) + 1 := w64 _ (by have := HP.out.2; have := HE.out.2.2.2.1; omega)
        go_wp2
        rw [hm1]
        have hq := HE.out.2.2.2.1
        exact ⟨⟨k2, m + 1, HE.out.2.1, by omega, rfl, rfl, fun h => HE.out.2.2.2.2.resolve_left (by omega), hidp hT.out.none⟩, by simp only [RowKit.intOf]; omega⟩

    · obtain rfl : m = len1 + 1 := by omega
      obtain rfl := hend rfl
      have hle : decide (((len1 + 1 : Nat) : Int) ≤ (len1 : Int)) = false := decide_eq_false (by omega)
      clear hm hin hk hend
      go_wp2
      go_ret
      exact ⟨rfl, hr.out.bel⟩
end Go.Proofs.Ythcgenlhblbjaaa
