/-
  Contracts: words turned, words mixed through pointers.
-/
import Derived.Test.YtdiklimikkplcaaRows
import Derived.Test.YtdiklimikkplcaaHa
import Derived.Test.YtdiklimikkplcaaMem
import Derived.Test.YtdiklimikkplcaaQa
import Derived.WalkKit
import Derived.WalkSpells
import Derived.WalkLawsBesides
import Derived.StillTailTactics
import Derived.BigQuiet
namespace Go.Proofs.Ytdiklimikkplcaa
set_option maxRecDepth 100000
open Go.RowKit

theorem wraps_u32 (n : Int) (h₀ : 0 ≤ n) (h₁ : n < 2 ^ 32) : IntKind.u32.wrap n = n := by rw [IntKind.wrap_u32]; omega
theorem or_word {a b : Nat} (ha : a < W32) (hb : b < W32) : bits .or .u32 (a : Int) (b : Int) = ((a ||| b : Nat) : Int) := (bits_nat .u32 32 (by decide) wraps_u32 a b ha hb).2
theorem xor_word {a b : Nat} (ha : a < W32) (hb : b < W32) : bits .xor .u32 (a : Int) (b : Int) = ((xorW a b : Nat) : Int) := by
  have ha' : a % 2 ^ IntKind.u32.bits = a := Nat.mod_eq_of_lt ha
  have hb' : b % 2 ^ IntKind.u32.bits = b := Nat.mod_eq_of_lt hb
  simp only [bits, BitVec.ofInt_natCast, BitVec.toNat_xor, BitVec.toNat_ofNat, ha', hb']
  have h := xorW_lt ha hb
  unfold xorW at *
  exact wraps_u32 _ (Int.natCast_nonneg _) (by unfold W32 at h; omega)
theorem rot_or {x n : Nat} (hx : x < W32) (hn : n ≤ 32) : x * 2 ^ (32 - n) % 4294967296 ||| x / 2 ^ n = rotW x n := by
  have h1 : (2 : Nat) ^ n * 2 ^ (32 - n) = 4294967296 := by rw [← Nat.pow_add, show n + (32 - n) = 32 by omega]
  have hp : 0 < (2 : Nat) ^ n := Nat.pow_pos (by decide)
  have h2 : x / 2 ^ n < 2 ^ (32 - n) := by rw [Nat.div_lt_iff_lt_mul hp, Nat.mul_comm, h1]; exact hx
  rw [← h1, Nat.mul_mod_mul_right, or_add h2]
  unfold rotW
  omega

theorem rot_word {x : Nat} (n : Nat) (hx : x < W32) (hn : n ≤ 32) : bits .or .u32 (((x * 2 ^ (32 - n) % 4294967296 : Nat)) : Int) (((x / 2 ^ n : Nat)) : Int) = ((rotW x n : Nat) : Int) := by
  have h1 : x * 2 ^ (32 - n) % 4294967296 < W32 := Nat.mod_lt _ (by decide)
  have h2 : x / 2 ^ n < W32 := Nat.lt_of_le_of_lt (Nat.div_le_self _ _) hx
  rw [or_word h1 h2, rot_or hx hn]

theorem rotate_any (x n : Nat) (w : World) (hx : x < W32) (hn : n = 16 ∨ n = 12 ∨ n = 8 ∨ n = 7) :
    Calls Try.prog 212 #[.int .u32 x, .int .i64 (-(n : Int))] w fun e w' => e = .returned (.int .u32 (rotW x n : Nat)) ∧ w = w' := by
  rcases hn with rfl | rfl | rfl | rfl
  · have hk : bits .and .u64 (IntKind.u64.wrap (-16)) 31 = 16 := by decide
    have hr := rot_word 16 hx (by decide)
    clear hx
    go_enter Try.func212, Try.ntmps212
    go_wp2
    go_ret
    exact ⟨ret_int hr, rfl⟩
  · have hk : bits .and .u64 (IntKind.u64.wrap (-12)) 31 = 20 := by decide
    have hr := rot_word 12 hx (by decide)
    clear hx
    go_enter Try.func212, Try.ntmps212
    go_wp2
    go_ret
    exact ⟨ret_int hr, rfl⟩
  · have hk : bits .and .u64 (IntKind.u64.wrap (-8)) 31 = 24 := by decide
    have hr := rot_word 8 hx (by decide)
    clear hx
    go_enter Try.func212, Try.ntmps212
    go_wp2
    go_ret
    exact ⟨ret_int hr, rfl⟩
  · have hk : bits .and .u64 (IntKind.u64.wrap (-7)) 31 = 25 := by decide
    have hr := rot_word 7 hx (by decide)
    clear hx
    go_enter Try.func212, Try.ntmps212
    go_wp2
    go_ret
    exact ⟨ret_int hr, rfl⟩

theorem rotated_any (x n : Nat) (w : World) (hx : x < W32) (hn : n = 16 ∨ n = 12 ∨ n = 8 ∨ n = 7) :
    Calls Try.prog 211 #[.int .u32 x, .int .i64 n] w fun e w' => e = .returned (.int .u32 (rotW x n : Nat)) ∧ w = w' := by
  have hr := hidp (rotate_any x n w hx hn)
  rcases hn with rfl | rfl | rfl | rfl
  all_goals go_enter Try.func211, Try.ntmps211
  all_goals go_wp2_with (go_at_call 212; refine hr.out.mono ?_; rintro e w' ⟨rfl, rfl⟩)
  all_goals go_ret
  all_goals exact ⟨rfl, rfl⟩

theorem rotated_still (x n r : Nat) (w : World) (hx : x < W32) (hn : n = 16 ∨ n = 12 ∨ n = 8 ∨ n = 7) (hr : rotW x n = r) :
    Calls Try.prog 211 #[.int .u32 x, .int .i64 n] w fun e w' => e = .returned (.int .u32 (r : Nat)) ∧ w' = w :=
  (rotated_any x n w hx hn).mono fun _ _ h => ⟨hr ▸ h.1, h.2.symm⟩

/-- Four words of a block. -/
structure Four (w : World) (b i j k l : Nat) (a1 b1 c1 d1 : Nat) : Prop where
  ca : w.cell? ⟨b, i, none⟩ = some (.int .u32 (a1 : Nat))
  cb : w.cell? ⟨b, j, none⟩ = some (.int .u32 (b1 : Nat))
  cc : w.cell? ⟨b, k, none⟩ = some (.int .u32 (c1 : Nat))
  cd : w.cell? ⟨b, l, none⟩ = some (.int .u32 (d1 : Nat))
  fa : w.frozen? ⟨b, i, none⟩ = false
  fb : w.frozen? ⟨b, j, none⟩ = false
  fc : w.frozen? ⟨b, k, none⟩ = false
  fd : w.frozen? ⟨b, l, none⟩ = false
theorem Four.drew {w : World} {b i j k l a1 b1 c1 d1 : Nat} (h : Four w b i j k l a1 b1 c1 d1) : Four w.drew b i j k l a1 b1 c1 d1 := ⟨h.1, h.2, h.3, h.4, h.5, h.6, h.7, h.8⟩
theorem ne_addr {b i j : Nat} (h : i ≠ j) : (⟨b, i, none⟩ : Addr) ≠ ⟨b, j, none⟩ := fun e => h (by injection e)
theorem cset {w : World} {a : Addr} {u v : Value} (h : w.cell? a = some u) : (w.setCell a v).cell? a = some v := by apply World.cell?_setCell_same; exact h
theorem cother {w : World} {a b : Addr} {v : Value} (h : a ≠ b) : (w.setCell a v).cell? b = w.cell? b := by apply World.cell?_setCell_other; exact h
theorem fset (w : World) (a b : Addr) (v : Value) : (w.setCell a v).frozen? b = w.frozen? b := by apply World.frozen?_setCell
theorem Four.seta {w : World} {b i j k l a1 b1 c1 d1 : Nat} (h : Four w b i j k l a1 b1 c1 d1) (hij : i ≠ j) (hik : i ≠ k) (hil : i ≠ l) (v : Nat) : Four (w.setCell ⟨b, i, none⟩ (.int .u32 (v : Nat))) b i j k l v b1 c1 d1 :=
  ⟨cset h.ca, (cother (ne_addr hij)).trans h.cb, (cother (ne_addr hik)).trans h.cc, (cother (ne_addr hil)).trans h.cd,
   (fset ..).trans h.fa, (fset ..).trans h.fb, (fset ..).trans h.fc, (fset ..).trans h.fd⟩
theorem Four.setb {w : World} {b i j k l a1 b1 c1 d1 : Nat} (h : Four w b i j k l a1 b1 c1 d1) (hji : j ≠ i) (hjk : j ≠ k) (hjl : j ≠ l) (v : Nat) : Four (w.setCell ⟨b, j, none⟩ (.int .u32 (v : Nat))) b i j k l a1 v c1 d1 :=
  ⟨(cother (ne_addr hji)).trans h.ca, cset h.cb, (cother (ne_addr hjk)).trans h.cc, (cother (ne_addr hjl)).trans h.cd,
   (fset ..).trans h.fa, (fset ..).trans h.fb, (fset ..).trans h.fc, (fset ..).trans h.fd⟩
theorem Four.setc {w : World} {b i j k l a1 b1 c1 d1 : Nat} (h : Four w b i j k l a1 b1 c1 d1) (hki : k ≠ i) (hkj : k ≠ j) (hkl : k ≠ l) (v : Nat) : Four (w.setCell ⟨b, k, none⟩ (.int .u32 (v : Nat))) b i j k l a1 b1 v d1 :=
  ⟨(cother (ne_addr hki)).trans h.ca, (cother (ne_addr hkj)).trans h.cb, cset h.cc, (cother (ne_addr hkl)).trans h.cd,
   (fset ..).trans h.fa, (fset ..).trans h.fb, (fset ..).trans h.fc, (fset ..).trans h.fd⟩
theorem Four.setd {w : World} {b i j k l a1 b1 c1 d1 : Nat} (h : Four w b i j k l a1 b1 c1 d1) (hli : l ≠ i) (hlj : l ≠ j) (hlk : l ≠ k) (v : Nat) : Four (w.setCell ⟨b, l, none⟩ (.int .u32 (v : Nat))) b i j k l a1 b1 c1 v :=
  ⟨(cother (ne_addr hli)).trans h.ca, (cother (ne_addr hlj)).trans h.cb, (cother (ne_addr hlk)).trans h.cc, cset h.cd,
   (fset ..).trans h.fa, (fset ..).trans h.fb, (fset ..).trans h.fc, (fset ..).trans h.fd⟩

/-- Block b, a row of words; another world that has those words instead, and is as it was but for that. -/
def wvs (v : List Nat) : List Value := v.map fun x => Value.int .u32 (x : Nat)
structure Row (b : Nat) (T : TypeId) (w w' : World) (v v' : List Nat) : Prop where
  old : Blk w b (wvs v) T
  new : Blk w' b (wvs v') T
  but : But b w w'
theorem wvs_get {v : List Nat} {i : Nat} (h : i < v.length) : (wvs v)[i]? = some (.int .u32 (v.getD i 0 : Nat)) := by
  unfold wvs
  rw [List.getElem?_map, List.getD_eq_getElem?_getD, List.getElem?_eq_getElem h]; rfl
theorem wvs_set (v : List Nat) (i x : Nat) : (wvs v).set i (.int .u32 (x : Nat)) = wvs (v.set i x) := by unfold wvs; rw [List.map_set]
theorem Row.refl {b : Nat} {T : TypeId} {w : World} {v : List Nat} (h : Blk w b (wvs v) T) : Row b T w w v v := ⟨h, h, But.refl b w⟩
theorem Row.drew {b : Nat} {T : TypeId} {w w' : World} {v v' : List Nat} (h : Row b T w w' v v') : Row b T w w'.drew v v' := ⟨h.old, h.new.drew, h.but.drew⟩
theorem Row.set {b : Nat} {T : TypeId} {w w' : World} {v v' : List Nat} (h : Row b T w w' v v') (i x : Nat) : Row b T w (w'.setCell ⟨b, i, none⟩ (.int .u32 (x : Nat))) v (v'.set i x) :=
  ⟨h.old, wvs_set v' i x ▸ h.new.set i _, h.but.setCell i _⟩
theorem Row.four {b : Nat} {T : TypeId} {w : World} {v : List Nat} (h : Blk w b (wvs v) T) {i j k l : Nat} (hi : i < v.length) (hj : j < v.length) (hk : k < v.length) (hl : l < v.length) :
    Four w b i j k l (v.getD i 0) (v.getD j 0) (v.getD k 0) (v.getD l 0) :=
  ⟨(h.cell i).trans (wvs_get hi), (h.cell j).trans (wvs_get hj), (h.cell k).trans (wvs_get hk), (h.cell l).trans (wvs_get hl), h.free i, h.free j, h.free k, h.free l⟩

theorem sets_eq (v : List Nat) {i j k l : Nat} (A1 D1 C1 B1 A2 D2 C2 B2 : Nat) (hij : i ≠ j) (hik : i ≠ k) (hil : i ≠ l) (hjk : j ≠ k) (hjl : j ≠ l) (hkl : k ≠ l) :
    (((((((v.set i A1).set l D1).set k C1).set j B1).set i A2).set l D2).set k C2).set j B2 = (((v.set i A2).set j B2).set k C2).set l D2 := by
  apply List.ext_getElem?
  intro n
  simp only [List.getElem?_set, List.length_set]
  by_cases hi : i = n
  · subst hi; simp [hij.symm, hik.symm, hil.symm]
  · by_cases hj : j = n
    · subst hj; simp [hjk.symm, hjl.symm]
    · by_cases hk : k = n
      · subst hk; simp [hj, hkl.symm]
      · by_cases hl : l = n
        · subst hl; simp [hj, hk]
        · simp [hi, hj, hk, hl]
theorem wrap_add {a b : Nat} : IntKind.u32.wrap ((a : Int) + (b : Int)) = ((addW a b : Nat) : Int) := by
  rw [IntKind.wrap_u32]; unfold addW; omega
theorem wrap_add2 {a b x : Nat} : IntKind.u32.wrap ((a : Int) + IntKind.u32.wrap ((b : Int) + (x : Int))) = ((addW (addW a b) x : Nat) : Int) := by
  rw [IntKind.wrap_u32, IntKind.wrap_u32]; unfold addW; omega

set_option maxHeartbeats 4000000 in
theorem mix_any (b i j k l : Nat) (T : TypeId) (v : List Nat) (x y : Nat) (w : World) (hv : Words 16 v) (hi : i < 16) (hj : j < 16) (hk : k < 16) (hl : l < 16)
    (hij : i ≠ j) (hik : i ≠ k) (hil : i ≠ l) (hjk : j ≠ k) (hjl : j ≠ l) (hkl : k ≠ l) (hw : Blk w b (wvs v) T) :
    Calls Try.prog 207 #[.pointer (some ⟨b, i, none⟩), .pointer (some ⟨b, j, none⟩), .pointer (some ⟨b, k, none⟩), .pointer (some ⟨b, l, none⟩), .int .u32 x, .int .u32 y] w fun e w' => e = .returned (.tuple #[]) ∧ Row b T w w' v (mixL v i j k l x y) := by
  have h4 := Row.four hw (hv.1.symm ▸ hi) (hv.1.symm ▸ hj) (hv.1.symm ▸ hk) (hv.1.symm ▸ hl)
  have hR := hidp (Row.refl hw)
  have hb1 : v.getD j 0 < W32 := hv.get j
  have hd1 : v.getD l 0 < W32 := hv.get l
  have HM : mixL v i j k l x y = (((v.set i (gA2 (v.getD i 0) (v.getD j 0) (v.getD k 0) (v.getD l 0) x y)).set j (gB2 (v.getD i 0) (v.getD j 0) (v.getD k 0) (v.getD l 0) x y)).set k (gC2 (v.getD i 0) (v.getD j 0) (v.getD k 0) (v.getD l 0) x y)).set l (gD2 (v.getD i 0) (v.getD j 0) (v.getD k 0) (v.getD l 0) x y) := rfl
  clear hv hw
  revert h4 hb1 hd1 HM
  generalize v.getD i 0 = a1
  generalize v.getD j 0 = b1
  generalize v.getD k 0 = c1
  generalize v.getD l 0 = d1
  intro h4 hb1 hd1 HM
  obtain ⟨A1, hA1⟩ : ∃ r, r = gA1 a1 b1 x := ⟨_, rfl⟩
  obtain ⟨D1, hD1⟩ : ∃ r, r = gD1 a1 b1 d1 x := ⟨_, rfl⟩
  obtain ⟨C1, hC1⟩ : ∃ r, r = gC1 a1 b1 c1 d1 x := ⟨_, rfl⟩
  obtain ⟨B1, hB1⟩ : ∃ r, r = gB1 a1 b1 c1 d1 x := ⟨_, rfl⟩
  obtain ⟨A2, hA2⟩ : ∃ r, r = gA2 a1 b1 c1 d1 x y := ⟨_, rfl⟩
  obtain ⟨D2, hD2⟩ : ∃ r, r = gD2 a1 b1 c1 d1 x y := ⟨_, rfl⟩
  obtain ⟨C2, hC2⟩ : ∃ r, r = gC2 a1 b1 c1 d1 x y := ⟨_, rfl⟩
  obtain ⟨B2, hB2⟩ : ∃ r, r = gB2 a1 b1 c1 d1 x y := ⟨_, rfl⟩
  have lA1 : A1 < W32 := hA1 ▸ gA1_lt _ _ _
  have lD1 : D1 < W32 := hD1 ▸ gD1_lt _ _ _ hd1
  have lC1 : C1 < W32 := hC1 ▸ gC1_lt _ _ _ _ _
  have lB1 : B1 < W32 := hB1 ▸ gB1_lt _ _ _ _ hb1
  have lA2 : A2 < W32 := hA2 ▸ gA2_lt _ _ _ _ _ _
  have lC2 : C2 < W32 := hC2 ▸ gC2_lt _ _ _ _ _ _
  have e1 : IntKind.u32.wrap ((a1 : Int) + IntKind.u32.wrap ((b1 : Int) + (x : Int))) = (A1 : Int) := by rw [wrap_add2, hA1]; rfl
  have e2 := xor_word hd1 lA1
  have H2 := hidp (rotated_still (xorW d1 A1) 16 D1 · (xorW_lt hd1 lA1) (by simp) (by rw [hD1, hA1]; rfl))
  have e3 : IntKind.u32.wrap ((c1 : Int) + (D1 : Int)) = (C1 : Int) := by rw [wrap_add, hC1, hD1]; rfl
  have e4 := xor_word hb1 lC1
  have H4 := hidp (rotated_still (xorW b1 C1) 12 B1 · (xorW_lt hb1 lC1) (by simp) (by rw [hB1, hC1]; rfl))
  have e5 : IntKind.u32.wrap ((A1 : Int) + IntKind.u32.wrap ((B1 : Int) + (y : Int))) = (A2 : Int) := by rw [wrap_add2, hA2, hA1, hB1]; rfl
  have e6 := xor_word lD1 lA2
  have H6 := hidp (rotated_still (xorW D1 A2) 8 D2 · (xorW_lt lD1 lA2) (by simp) (by rw [hD2, hD1, hA2]; rfl))
  have e7 : IntKind.u32.wrap ((C1 : Int) + (D2 : Int)) = (C2 : Int) := by rw [wrap_add, hC2, hC1, hD2]; rfl
  have e8 := xor_word lB1 lC2
  have H8 := hidp (rotated_still (xorW B1 C2) 7 B2 · (xorW_lt lB1 lC2) (by simp) (by rw [hB2, hB1, hC2]; rfl))
  rw [← hA2, ← hD2, ← hC2, ← hB2, ← sets_eq v A1 D1 C1 B1 A2 D2 C2 B2 hij hik hil hjk hjl hkl] at HM
  have HM := hidp HM
  clear hA1 hD1 hC1 hB1 hA2 hD2 hC2 hB2 lA1 lD1 lC1 lB1 lA2 lC2 hb1 hd1
  have H0 := hidp h4
  obtain ⟨ca, cb, cc, cd, fa, fb, fc, fd⟩ := h4
  go_enter Try.func207, Try.ntmps207
  go_wp2
  refine region_tail 9 (by kernel_rfl) (by kernel_rfl) ?_
  intro wd0 hwd0
  have h4d := hidp (hwd0.out.symm ▸ H0.out.drew)
  have hRd := hidp (hwd0.out.symm ▸ hR.out.drew)
  clear ca cb cc cd fa fb fc fd
  obtain ⟨ca, cb, cc, cd, fa, fb, fc, fd⟩ := h4d.out
  simp only [List.take_succ_cons, List.take_zero, List.drop_succ_cons, List.drop_zero]
  repeat still_step
  try refine wpStill_nil ?_
  go_wp2
  have h40 := hidp (h4d.out.seta hij hik hil A1)
  have hR0 := hidp (hRd.out.set i A1)
  generalize (wd0.setCell _ _) = w0 at h40 hR0 ⊢
  clear h4d hRd
  clear ca cb cc cd fa fb fc fd
  obtain ⟨ca, cb, cc, cd, fa, fb, fc, fd⟩ := h40.out
  refine region_tail 9 (by kernel_rfl) (by kernel_rfl) ?_
  intro wd1 hwd1
  have h4d := hidp (hwd1.out.symm ▸ h40.out.drew)
  have hRd := hidp (hwd1.out.symm ▸ hR0.out.drew)
  clear ca cb cc cd fa fb fc fd
  obtain ⟨ca, cb, cc, cd, fa, fb, fc, fd⟩ := h4d.out
  simp only [List.take_succ_cons, List.take_zero, List.drop_succ_cons, List.drop_zero]
  repeat still_step
  still_call (H2.out _)
  repeat still_step
  try refine wpStill_nil ?_
  go_wp2
  have h41 := hidp (h4d.out.setd hil.symm hjl.symm hkl.symm D1)
  have hR1 := hidp (hRd.out.set l D1)
  generalize (wd1.setCell _ _) = w1 at h41 hR1 ⊢
  clear h4d hRd
  clear ca cb cc cd fa fb fc fd
  obtain ⟨ca, cb, cc, cd, fa, fb, fc, fd⟩ := h41.out
  refine region_tail 7 (by kernel_rfl) (by kernel_rfl) ?_
  intro wd2 hwd2
  have h4d := hidp (hwd2.out.symm ▸ h41.out.drew)
  have hRd := hidp (hwd2.out.symm ▸ hR1.out.drew)
  clear ca cb cc cd fa fb fc fd
  obtain ⟨ca, cb, cc, cd, fa, fb, fc, fd⟩ := h4d.out
  simp only [List.take_succ_cons, List.take_zero, List.drop_succ_cons, List.drop_zero]
  repeat still_step
  try refine wpStill_nil ?_
  go_wp2
  have h42 := hidp (h4d.out.setc hik.symm hjk.symm hkl C1)
  have hR2 := hidp (hRd.out.set k C1)
  generalize (wd2.setCell _ _) = w2 at h42 hR2 ⊢
  clear h4d hRd
  clear ca cb cc cd fa fb fc fd
  obtain ⟨ca, cb, cc, cd, fa, fb, fc, fd⟩ := h42.out
  refine region_tail 9 (by kernel_rfl) (by kernel_rfl) ?_
  intro wd3 hwd3
  have h4d := hidp (hwd3.out.symm ▸ h42.out.drew)
  have hRd := hidp (hwd3.out.symm ▸ hR2.out.drew)
  clear ca cb cc cd fa fb fc fd
  obtain ⟨ca, cb, cc, cd, fa, fb, fc, fd⟩ := h4d.out
  simp only [List.take_succ_cons, List.take_zero, List.drop_succ_cons, List.drop_zero]
  repeat still_step
  still_call (H4.out _)
  repeat still_step
  try refine wpStill_nil ?_
  go_wp2
  have h43 := hidp (h4d.out.setb hij.symm hjk hjl B1)
  have hR3 := hidp (hRd.out.set j B1)
  generalize (wd3.setCell _ _) = w3 at h43 hR3 ⊢
  clear h4d hRd
  clear ca cb cc cd fa fb fc fd
  obtain ⟨ca, cb, cc, cd, fa, fb, fc, fd⟩ := h43.out
  refine region_tail 9 (by kernel_rfl) (by kernel_rfl) ?_
  intro wd4 hwd4
  have h4d := hidp (hwd4.out.symm ▸ h43.out.drew)
  have hRd := hidp (hwd4.out.symm ▸ hR3.out.drew)
  clear ca cb cc cd fa fb fc fd
  obtain ⟨ca, cb, cc, cd, fa, fb, fc, fd⟩ := h4d.out
  simp only [List.take_succ_cons, List.take_zero, List.drop_succ_cons, List.drop_zero]
  repeat still_step
  try refine wpStill_nil ?_
  go_wp2
  have h44 := hidp (h4d.out.seta hij hik hil A2)
  have hR4 := hidp (hRd.out.set i A2)
  generalize (wd4.setCell _ _) = w4 at h44 hR4 ⊢
  clear h4d hRd
  clear ca cb cc cd fa fb fc fd
  obtain ⟨ca, cb, cc, cd, fa, fb, fc, fd⟩ := h44.out
  refine region_tail 9 (by kernel_rfl) (by kernel_rfl) ?_
  intro wd5 hwd5
  have h4d := hidp (hwd5.out.symm ▸ h44.out.drew)
  have hRd := hidp (hwd5.out.symm ▸ hR4.out.drew)
  clear ca cb cc cd fa fb fc fd
  obtain ⟨ca, cb, cc, cd, fa, fb, fc, fd⟩ := h4d.out
  simp only [List.take_succ_cons, List.take_zero, List.drop_succ_cons, List.drop_zero]
  repeat still_step
  still_call (H6.out _)
  repeat still_step
  try refine wpStill_nil ?_
  go_wp2
  have h45 := hidp (h4d.out.setd hil.symm hjl.symm hkl.symm D2)
  have hR5 := hidp (hRd.out.set l D2)
  generalize (wd5.setCell _ _) = w5 at h45 hR5 ⊢
  clear h4d hRd
  clear ca cb cc cd fa fb fc fd
  obtain ⟨ca, cb, cc, cd, fa, fb, fc, fd⟩ := h45.out
  refine region_tail 7 (by kernel_rfl) (by kernel_rfl) ?_
  intro wd6 hwd6
  have h4d := hidp (hwd6.out.symm ▸ h45.out.drew)
  have hRd := hidp (hwd6.out.symm ▸ hR5.out.drew)
  clear ca cb cc cd fa fb fc fd
  obtain ⟨ca, cb, cc, cd, fa, fb, fc, fd⟩ := h4d.out
  simp only [List.take_succ_cons, List.take_zero, List.drop_succ_cons, List.drop_zero]
  repeat still_step
  try refine wpStill_nil ?_
  go_wp2
  have h46 := hidp (h4d.out.setc hik.symm hjk.symm hkl C2)
  have hR6 := hidp (hRd.out.set k C2)
  generalize (wd6.setCell _ _) = w6 at h46 hR6 ⊢
  clear h4d hRd
  clear ca cb cc cd fa fb fc fd
  obtain ⟨ca, cb, cc, cd, fa, fb, fc, fd⟩ := h46.out
  refine region_tail 9 (by kernel_rfl) (by kernel_rfl) ?_
  intro wd7 hwd7
  have h4d := hidp (hwd7.out.symm ▸ h46.out.drew)
  have hRd := hidp (hwd7.out.symm ▸ hR6.out.drew)
  clear ca cb cc cd fa fb fc fd
  obtain ⟨ca, cb, cc, cd, fa, fb, fc, fd⟩ := h4d.out
  simp only [List.take_succ_cons, List.take_zero, List.drop_succ_cons, List.drop_zero]
  repeat still_step
  still_call (H8.out _)
  repeat still_step
  try refine wpStill_nil ?_
  go_wp2
  go_end0
  exact ⟨rfl, HM.out ▸ hRd.out.set j B2⟩
end Go.Proofs.Ytdiklimikkplcaa
