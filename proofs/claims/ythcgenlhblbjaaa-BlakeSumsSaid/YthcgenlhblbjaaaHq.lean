/-
  Contract: what the laws hold first: some of the chapter's examples.
-/
import Derived.Test.YthcgenlhblbjaaaHp
import Derived.Deep.RegionHeld3
import Derived.Deep.MidRow
import Derived.Lib.SlBytesConst
namespace Go.Proofs.Ythcgenlhblbjaaa
open Go.RowKit Go.Lib

def abcL : List Nat := [97, 98, 99]
def abcH : List Nat := hashL abcL
set_option maxRecDepth 20000 in
def noneS : ByteArray := ⟨#[54, 57, 50, 49, 55, 97, 51, 48, 55, 57, 57, 48, 56, 48, 57, 52, 101, 49, 49, 49, 50, 49, 100, 48, 52, 50, 51, 53, 52, 97, 55, 99, 49, 102, 53, 53, 98, 54, 52, 56, 50, 99, 97, 49, 97, 53, 49, 101, 49, 98, 50, 53, 48, 100, 102, 100, 49, 101, 100, 48, 101, 101, 102, 57]⟩
set_option maxRecDepth 20000 in
def abcS : ByteArray := ⟨#[53, 48, 56, 99, 53, 101, 56, 99, 51, 50, 55, 99, 49, 52, 101, 50, 101, 49, 97, 55, 50, 98, 97, 51, 52, 101, 101, 98, 52, 53, 50, 102, 51, 55, 52, 53, 56, 98, 50, 48, 57, 101, 100, 54, 51, 97, 50, 57, 52, 100, 57, 57, 57, 98, 52, 99, 56, 54, 54, 55, 53, 57, 56, 50]⟩
theorem text_none : textB (hashL []) = noneS := by rw [hash_none]; decide +kernel
theorem text_abc : textB abcH = abcS := by unfold abcH abcL; rw [hash_abc]; decide +kernel
theorem good_abc : goodR abcS := ⟨by decide +kernel, by decide +kernel⟩
theorem read_abc : readL abcS = abcH := by unfold abcH abcL; rw [hash_abc]; decide +kernel
theorem abcH_len : abcH.length = 32 := hashL_len _
theorem bytesL_lt (h : List Nat) : ∀ x ∈ bytesL h, x < 256 := by
  intro x hx
  simp only [bytesL, List.mem_map] at hx
  obtain ⟨i, _, rfl⟩ := hx
  exact Nat.mod_lt _ (by decide)
theorem hashL_bytes (b : List Nat) : Bytes 32 (hashL b) := ⟨hashL_len b, bytesL_lt _⟩
theorem kr_abc (w : World) : Calls Try.prog 14 #[.string ⟨#[53, 48, 56, 99, 53, 101, 56, 99, 51, 50, 55, 99, 49, 52, 101, 50, 101, 49, 97, 55, 50, 98, 97, 51, 52, 101, 101, 98, 52, 53, 50, 102, 51, 55, 52, 53, 56, 98, 50, 48, 57, 101, 100, 54, 51, 97, 50, 57, 52, 100, 57, 57, 57, 98, 52, 99, 56, 54, 54, 55, 53, 57, 56, 50]⟩] w fun e w' => e = .returned (.tuple #[.agg (bvs abcH).toArray, .int .i64 0]) ∧ Below w.heap.size w w' := by
  have h := read_ok abcS w good_abc.1 good_abc.2
  rw [read_abc] at h
  exact h
theorem kt_none (w : World) : Calls Try.prog 16 #[.agg (bvs (hashL [])).toArray] w fun e w' => e = .returned (.string ⟨#[54, 57, 50, 49, 55, 97, 51, 48, 55, 57, 57, 48, 56, 48, 57, 52, 101, 49, 49, 49, 50, 49, 100, 48, 52, 50, 51, 53, 52, 97, 55, 99, 49, 102, 53, 53, 98, 54, 52, 56, 50, 99, 97, 49, 97, 53, 49, 101, 49, 98, 50, 53, 48, 100, 102, 100, 49, 101, 100, 48, 101, 101, 102, 57]⟩) ∧ Below w.heap.size w w' := by
  have h := text_any (hashL []) w (hashL_bytes _)
  rw [text_none] at h
  exact h
theorem kt_abc (w : World) : Calls Try.prog 16 #[.agg (bvs abcH).toArray] w fun e w' => e = .returned (.string ⟨#[53, 48, 56, 99, 53, 101, 56, 99, 51, 50, 55, 99, 49, 52, 101, 50, 101, 49, 97, 55, 50, 98, 97, 51, 52, 101, 101, 98, 52, 53, 50, 102, 51, 55, 52, 53, 56, 98, 50, 48, 57, 101, 100, 54, 51, 97, 50, 57, 52, 100, 57, 57, 57, 98, 52, 99, 56, 54, 54, 55, 53, 57, 56, 50]⟩) ∧ Below w.heap.size w w' := by
  have h := text_any abcH w (hashL_bytes _)
  rw [text_abc] at h
  exact h
theorem ks_none (w : World) : Calls Try.prog 11 #[.slice none 0 0] w fun e w' => e = .returned (.agg (bvs (hashL [])).toArray) ∧ Below w.heap.size w w' :=
  sum_any [] none 0 0 0 w ⟨by simp, by simp, fun h => absurd h (by decide), fun i hi => absurd hi (by simp)⟩ (by simp)
theorem abc_here (w : World) : Bsl (w.alloc (.cells #[.int .u8 97, .int .u8 98, .int .u8 99] 5 (3, 4))) (some ⟨w.heap.size, 0, none⟩) w.heap.size 0 abcL 3 := by
  refine ⟨by decide, by decide, fun _ => ⟨rfl, by simp⟩, fun i hi => ?_⟩
  have hg : (w.alloc (.cells #[.int .u8 97, .int .u8 98, .int .u8 99] 5 (3, 4))).heap[w.heap.size]? = some (.cells #[.int .u8 97, .int .u8 98, .int .u8 99] 5 (3, 4)) := by
    show (w.heap.push _)[w.heap.size]? = _
    simp
  rw [Nat.zero_add]
  simp only [World.cell?, hg]
  have hi3 : i < 3 := hi
  rcases (show i = 0 ∨ i = 1 ∨ i = 2 by omega) with rfl | rfl | rfl <;> rfl
theorem ks_abc (w : World) : Calls Try.prog 11 #[.slice (some ⟨w.heap.size, 0, none⟩) 3 3] (w.alloc (.cells #[.int .u8 97, .int .u8 98, .int .u8 99] 5 (3, 4))) fun e w' => e = .returned (.agg (bvs abcH).toArray) ∧ Below (w.alloc (.cells #[.int .u8 97, .int .u8 98, .int .u8 99] 5 (3, 4))).heap.size (w.alloc (.cells #[.int .u8 97, .int .u8 98, .int .u8 99] 5 (3, 4))) w' :=
  sum_any abcL _ w.heap.size 0 3 _ (abc_here w) (by decide)
/-- All is as it was, and a box holds the hash. -/
def Sa (w : World) (b : Nat) (h : List Nat) (w' : World) : Prop := Below w.heap.size w w' ∧ w'.rangeAt b 0 (bvs h) ∧ Blk w' b (bvs h) 26
theorem Sa.mk {w w' : World} {b : Nat} {h : List Nat} (h1 : Below w.heap.size w w') (h2 : Blk w' b (bvs h) 26) : Hid (Sa w b h w') :=
  hidp ⟨h1, fun j v hj => by rw [Nat.zero_add]; exact (h2.cell j).trans hj, h2⟩
theorem stepA {w w1 w2 : World} {b : Nat} {h : List Nat} (H : Hid (Sa w b h w1)) (k : Below w1.heap.size w1 w2) : Hid (Sa w b h w2) := Sa.mk (btrans H.out.1 k) (H.out.2.2.below k H.out.2.2.lt)
theorem drewA {w w1 : World} {b : Nat} {h : List Nat} (H : Hid (Sa w b h w1)) : Hid (Sa w b h w1.drew) := Sa.mk H.out.1.drew H.out.2.2.drew
theorem allocA {w w1 : World} {b : Nat} {h : List Nat} {o : Obj} (H : Hid (Sa w b h w1)) : Hid (Sa w b h (w1.alloc o)) := stepA H ((Below.refl _ _).alloc (Nat.le_refl _) _)

theorem wpAnyH_takeTo {P : Program} {md : Region.Mode} {ops : Array Oper} {Q : Exit → Act → World → Prop} {S : World → Prop} {i : Nat} {oi : Oper} {v : Value} {fuel : Nat} {listed : Array Bool} {a : Act} {w : World} (d : Option Tmp) (hd : oi.dst = d) (hi : ops[i]? = some oi)
    (hs : Region.noSelect ops = true) (hf : Region.free md ops listed i = true) (hr : (Region.ready md ops listed).contains i = true)
    (hQ : ∀ c a w, Q (.panic c) (a.put d v) w → Q (.panic c) a w) (hy : YieldsIf P ops S oi v a) (hS : S w)
    (h : wpAnyH P md ops Q S fuel (listed.setIfInBounds i true) (a.put d v) w) : wpAnyH P md ops Q S (fuel + 1) listed a w := by
  subst hd
  exact wpAnyH_take hi hs hf hr hQ hy hS h

set_option linter.unusedSimpArgs false
set_option maxRecDepth 100000 in
set_option maxHeartbeats 8000000 in
theorem awake_any (w : World) : Calls Try.prog 9 #[] w fun e w' => e = .returned (.bool true) ∧ Below w.heap.size w w' := by
  have hu := Try.underlying26
  have hi : (Try.prog.info? 26).map (·.size) = some (bvs abcH).length := by rw [bvs_len, abcH_len]; kernel_rfl
  have heq := run_eql_hash abcH abcH abcH_len abcH_len
  rw [decide_eq_true rfl] at heq
  have hgd := guard_hash
  have hcv := fun w n c => run_convert_bytes_const (P := Try.prog) w 22 5 #[.int .u8 97, .int .u8 98, .int .u8 99] n c Try.underlying22 Try.underlying5
  go_enter Try.func9, Try.ntmps9
  go_wp2_with fail
  refine (kr_abc _).mono ?_
  rintro e w1 ⟨rfl, hB1⟩
  have hB1 := hidp hB1
  have hz := hidp (Blk.new w1 z32 26)
  go_wp2_with (refine wpList_store_blk rfl 26 _ _ rfl w1.heap.size (bvs abcH) z32 26 rfl rfl hz.out (by rw [bvs_len, abcH_len]; kernel_rfl) (by rw [bvs_len, abcH_len]; rfl) (bvs_one _) ?_; intro w2 hw2)
  have hT : Hid (Sa w w1.heap.size abcH w2) := by
    have hbt : But w1.heap.size (w1.alloc (.cells z32.toArray 26)) w2 := hw2.out ▸ (But.refl _ _).setRow _
    exact Sa.mk ((hB1.out.alloc hB1.out.size _).trans (hbt.below hB1.out.size)) (hw2.out ▸ hz.out.row)
  clear hz hw2 hB1
  refine wp_region_held_drew (S := Sa w w1.heap.size abcH) (by kernel_rfl) (drewA hT).out (fun hHeld => ?_)
  have hT := drewA hT
  refine wpAnyH_ready (rs := [0]) (by kernel_rfl) (by simp) ?_
  refine AllReadyH.cons (o := _) rfl (fun K hK => ?_) AllReadyH.nil
  go_simp
  refine (ks_none _).mono ?_
  rintro e wN ⟨rfl, hN⟩
  have hT := stepA hT hN
  clear hN
  go_wp2_with fail
  refine hK.out _ _ hT.out (fun hHeld' => ?_)
  clear hK K hHeld
  have hHeld := hHeld'
  clear hHeld'
  try simp only [Act.put, List.setIfInBounds_toArray, List.set_cons_zero, List.set_cons_succ]
  refine wpAnyH_ready (rs := [1]) (by kernel_rfl) (by simp) ?_
  refine AllReadyH.cons (o := _) rfl (fun K hK => ?_) AllReadyH.nil
  go_simp
  refine (kt_none _).mono ?_
  rintro e wN ⟨rfl, hN⟩
  have hT := stepA hT hN
  clear hN
  go_wp2_with fail
  refine hK.out _ _ hT.out (fun hHeld' => ?_)
  clear hK K hHeld
  have hHeld := hHeld'
  clear hHeld'
  try simp only [Act.put, List.setIfInBounds_toArray, List.set_cons_zero, List.set_cons_succ]
  refine wpAnyH_takeTo (i := 2) (oi := _) (v := ?_) (some 9) rfl rfl (by kernel_rfl) (by kernel_rfl) (by kernel_rfl) (fun _ _ _ h => h) (Or.inl ⟨by rfl, ?_⟩) (by assumption) ?_
  rotate_left
  · intro w hSw
    go_simp
    try with_reducible rfl
  try simp only [Act.put, List.setIfInBounds_toArray, List.set_cons_zero, List.set_cons_succ]
  refine wpAnyH_takeTo (i := 3) (oi := _) (v := ?_) (some 10) rfl rfl (by kernel_rfl) (by kernel_rfl) (by kernel_rfl) (fun _ _ _ h => h) (Or.inl ⟨by rfl, ?_⟩) (by assumption) ?_
  rotate_left
  · intro w hSw
    go_simp
    try with_reducible rfl
  try simp only [Act.put, List.setIfInBounds_toArray, List.set_cons_zero, List.set_cons_succ]
  refine wpAnyH_ready (rs := [4]) (by kernel_rfl) (by simp) ?_
  refine AllReadyH.cons (o := _) rfl (fun K hK => ?_) AllReadyH.nil
  go_simp
  refine hK.out _ _ (allocA hT).out (fun hHeld' => ?_)
  clear hK K hHeld
  have hHeld := hHeld'
  clear hHeld'
  try simp only [Act.put, List.setIfInBounds_toArray, List.set_cons_zero, List.set_cons_succ]
  refine wpAnyH_ready (rs := [5]) (by kernel_rfl) (by simp) ?_
  refine AllReadyH.cons (o := _) rfl (fun K hK => ?_) AllReadyH.nil
  go_simp
  refine hK.out _ _ (allocA hT).out (fun hHeld' => ?_)
  clear hK K hHeld
  have hHeld := hHeld'
  clear hHeld'
  try simp only [Act.put, List.setIfInBounds_toArray, List.set_cons_zero, List.set_cons_succ]
  refine wpAnyH_ready (rs := [6]) (by kernel_rfl) (by simp) ?_
  refine AllReadyH.cons (o := _) rfl (fun K hK => ?_) AllReadyH.nil
  go_simp
  refine (ks_abc _).mono ?_
  rintro e wN ⟨rfl, hN⟩
  have hT := stepA (allocA hT) hN
  clear hN
  go_wp2_with fail
  refine hK.out _ _ hT.out (fun hHeld' => ?_)
  clear hK K hHeld
  have hHeld := hHeld'
  clear hHeld'
  try simp only [Act.put, List.setIfInBounds_toArray, List.set_cons_zero, List.set_cons_succ]
  refine wpAnyH_ready (rs := [7]) (by kernel_rfl) (by simp) ?_
  refine AllReadyH.cons (o := _) rfl (fun K hK => ?_) AllReadyH.nil
  go_simp
  refine (kt_abc _).mono ?_
  rintro e wN ⟨rfl, hN⟩
  have hT := stepA hT hN
  clear hN
  go_wp2_with fail
  refine hK.out _ _ hT.out (fun hHeld' => ?_)
  clear hK K hHeld
  have hHeld := hHeld'
  clear hHeld'
  try simp only [Act.put, List.setIfInBounds_toArray, List.set_cons_zero, List.set_cons_succ]
  refine wpAnyH_takeTo (i := 8) (oi := _) (v := ?_) (some 15) rfl rfl (by kernel_rfl) (by kernel_rfl) (by kernel_rfl) (fun _ _ _ h => h) (Or.inl ⟨by rfl, ?_⟩) (by assumption) ?_
  rotate_left
  · intro w hSw
    go_simp
    try with_reducible rfl
  try simp only [Act.put, List.setIfInBounds_toArray, List.set_cons_zero, List.set_cons_succ]
  refine wpAnyH_takeTo (i := 9) (oi := _) (v := ?_) (some 16) rfl rfl (by kernel_rfl) (by kernel_rfl) (by kernel_rfl) (fun _ _ _ h => h) (Or.inl ⟨by rfl, ?_⟩) (by assumption) ?_
  rotate_left
  · intro w hSw
    go_simp
    try with_reducible rfl
  try simp only [Act.put, List.setIfInBounds_toArray, List.set_cons_zero, List.set_cons_succ]
  refine wpAnyH_takeTo (i := 10) (oi := _) (v := ?_) (some 17) rfl rfl (by kernel_rfl) (by kernel_rfl) (by kernel_rfl) (fun _ _ _ h => h) (Or.inl ⟨by rfl, ?_⟩) (by assumption) ?_
  rotate_left
  · intro w hSw
    go_simp
    try with_reducible rfl
  try simp only [Act.put, List.setIfInBounds_toArray, List.set_cons_zero, List.set_cons_succ]
  refine' wpAnyH_takeTo (i := 11) (oi := _) (v := _) (some 18) rfl rfl (by kernel_rfl) (by kernel_rfl) (by kernel_rfl) (fun _ _ _ h => h) (yieldsIf_load_mid (by rfl) _ _ rfl _ _ rfl (bvs abcH) _ (fun w' hw' => hw'.2.1) hu rfl hi) (by assumption) ?_
  try simp only [Act.put, List.setIfInBounds_toArray, List.set_cons_zero, List.set_cons_succ]
  refine wpAnyH_ready (rs := [12]) (by kernel_rfl) (by simp) ?_
  refine AllReadyH.cons (o := _) rfl (fun K hK => ?_) AllReadyH.nil
  go_simp
  refine hK.out _ _ (allocA hT).out (fun hHeld' => ?_)
  clear hK K hHeld
  have hHeld := hHeld'
  clear hHeld'
  try simp only [Act.put, List.setIfInBounds_toArray, List.set_cons_zero, List.set_cons_succ]
  refine wpAnyH_ready (rs := [13]) (by kernel_rfl) (by simp) ?_
  refine AllReadyH.cons (o := _) rfl (fun K hK => ?_) AllReadyH.nil
  go_simp
  refine hK.out _ _ (allocA hT).out (fun hHeld' => ?_)
  clear hK K hHeld
  have hHeld := hHeld'
  clear hHeld'
  try simp only [Act.put, List.setIfInBounds_toArray, List.set_cons_zero, List.set_cons_succ]
  refine wpAnyH_ready (rs := [14]) (by kernel_rfl) (by simp) ?_
  refine AllReadyH.cons (o := _) rfl (fun K hK => ?_) AllReadyH.nil
  go_simp
  refine (ks_abc _).mono ?_
  rintro e wN ⟨rfl, hN⟩
  have hT := stepA (allocA hT) hN
  clear hN
  go_wp2_with fail
  refine hK.out _ _ hT.out (fun hHeld' => ?_)
  clear hK K hHeld
  have hHeld := hHeld'
  clear hHeld'
  try simp only [Act.put, List.setIfInBounds_toArray, List.set_cons_zero, List.set_cons_succ]
  refine wpAnyH_takeTo (i := 15) (oi := _) (v := ?_) (some 22) rfl rfl (by kernel_rfl) (by kernel_rfl) (by kernel_rfl) (fun _ _ _ h => h) (Or.inl ⟨by rfl, ?_⟩) (by assumption) ?_
  rotate_left
  · intro w hSw
    go_simp
    try with_reducible rfl
  try simp only [Act.put, List.setIfInBounds_toArray, List.set_cons_zero, List.set_cons_succ]
  refine wpAnyH_takeTo (i := 16) (oi := _) (v := ?_) (some 23) rfl rfl (by kernel_rfl) (by kernel_rfl) (by kernel_rfl) (fun _ _ _ h => h) (Or.inl ⟨by rfl, ?_⟩) (by assumption) ?_
  rotate_left
  · intro w hSw
    go_simp
    try with_reducible rfl
  try simp only [Act.put, List.setIfInBounds_toArray, List.set_cons_zero, List.set_cons_succ]
  refine wpAnyH_takeTo (i := 17) (oi := _) (v := ?_) (some 24) rfl rfl (by kernel_rfl) (by kernel_rfl) (by kernel_rfl) (fun _ _ _ h => h) (Or.inl ⟨by rfl, ?_⟩) (by assumption) ?_
  rotate_left
  · intro w hSw
    go_simp
    try with_reducible rfl
  try simp only [Act.put, List.setIfInBounds_toArray, List.set_cons_zero, List.set_cons_succ]
  refine wpAnyH_takeTo (i := 18) (oi := _) (v := ?_) (some 25) rfl rfl (by kernel_rfl) (by kernel_rfl) (by kernel_rfl) (fun _ _ _ h => h) (Or.inl ⟨by rfl, ?_⟩) (by assumption) ?_
  rotate_left
  · intro w hSw
    go_simp
    try with_reducible rfl
  try simp only [Act.put, List.setIfInBounds_toArray, List.set_cons_zero, List.set_cons_succ]
  refine wpAnyH_takeTo (i := 19) (oi := _) (v := ?_) (some 26) rfl rfl (by kernel_rfl) (by kernel_rfl) (by kernel_rfl) (fun _ _ _ h => h) (Or.inl ⟨by rfl, ?_⟩) (by assumption) ?_
  rotate_left
  · intro w hSw
    go_simp
    try with_reducible rfl
  try simp only [Act.put, List.setIfInBounds_toArray, List.set_cons_zero, List.set_cons_succ]
  refine wpAnyH_takeTo (i := 20) (oi := _) (v := ?_) (some 27) rfl rfl (by kernel_rfl) (by kernel_rfl) (by kernel_rfl) (fun _ _ _ h => h) (Or.inl ⟨by rfl, ?_⟩) (by assumption) ?_
  rotate_left
  · intro w hSw
    go_simp
    try with_reducible rfl
  try simp only [Act.put, List.setIfInBounds_toArray, List.set_cons_zero, List.set_cons_succ]
  refine wpAnyH_takeTo (i := 21) (oi := _) (v := ?_) (some 0) rfl rfl (by kernel_rfl) (by kernel_rfl) (by kernel_rfl) (fun _ _ _ h => h) (Or.inl ⟨by rfl, ?_⟩) (by assumption) ?_
  rotate_left
  · intro w hSw
    go_simp
    try with_reducible rfl
  try simp only [Act.put, List.setIfInBounds_toArray, List.set_cons_zero, List.set_cons_succ]
  refine wpAnyH_done (by kernel_rfl) ?_ _
  go_wp2
  go_ret
  exact ⟨rfl, hT.out.1⟩
end Go.Proofs.Ythcgenlhblbjaaa
