/-
  Texts Ha, Hb, Hc, Hd, He, one behind the other.
-/
import Derived.Test.YtcmkmnidnapabaaGreatRows
import Derived.Test.YtcmkmnidnapabaaGreatIr
import Derived.Test.YtcmkmnidnapabaaGreatQa
import Derived.WalkKit
import Derived.WalkSpells
import Derived.WalkLawsBesides
import Derived.StillTailTactics
import Derived.BigQuiet
import Derived.Deep.QuietTactic
import Derived.Deep.MidRow
import Derived.Laws.CopyOwn

/-! Ha: Plain: hashes of bytes over lists of natural numbers: BLAKE2s, 32 bytes, no key. -/
namespace Go.Proofs.YtcmkmnidnapabaaGreat

def addW (x y : Nat) : Nat := (x + y) % 4294967296
def xorW (x y : Nat) : Nat := x ^^^ y
/-- The lowest n bits moved to the top. -/
def rotW (x n : Nat) : Nat := x / 2 ^ n + x % 2 ^ n * 2 ^ (32 - n)

/-- The four words behind mixing. -/
def gA1 (a b x : Nat) : Nat := addW (addW a b) x
def gD1 (a b d x : Nat) : Nat := rotW (xorW d (gA1 a b x)) 16
def gC1 (a b c d x : Nat) : Nat := addW c (gD1 a b d x)
def gB1 (a b c d x : Nat) : Nat := rotW (xorW b (gC1 a b c d x)) 12
def gA2 (a b c d x y : Nat) : Nat := addW (addW (gA1 a b x) (gB1 a b c d x)) y
def gD2 (a b c d x y : Nat) : Nat := rotW (xorW (gD1 a b d x) (gA2 a b c d x y)) 8
def gC2 (a b c d x y : Nat) : Nat := addW (gC1 a b c d x) (gD2 a b c d x y)
def gB2 (a b c d x y : Nat) : Nat := rotW (xorW (gB1 a b c d x) (gC2 a b c d x y)) 7

/-- Mixing at four places of a list of words. -/
def mixL (v : List Nat) (i j k l x y : Nat) : List Nat :=
  let a := v.getD i 0; let b := v.getD j 0; let c := v.getD k 0; let d := v.getD l 0
  (((v.set i (gA2 a b c d x y)).set j (gB2 a b c d x y)).set k (gC2 a b c d x y)).set l (gD2 a b c d x y)

/-- A round: m are the words in the row's order. -/
def roundL (v m : List Nat) : List Nat :=
  let v := mixL v 0 4 8 12 (m.getD 0 0) (m.getD 1 0)
  let v := mixL v 1 5 9 13 (m.getD 2 0) (m.getD 3 0)
  let v := mixL v 2 6 10 14 (m.getD 4 0) (m.getD 5 0)
  let v := mixL v 3 7 11 15 (m.getD 6 0) (m.getD 7 0)
  let v := mixL v 0 5 10 15 (m.getD 8 0) (m.getD 9 0)
  let v := mixL v 1 6 11 12 (m.getD 10 0) (m.getD 11 0)
  let v := mixL v 2 7 8 13 (m.getD 12 0) (m.getD 13 0)
  mixL v 3 4 9 14 (m.getD 14 0) (m.getD 15 0)

/-- The table, row by row. -/
def tabL : List Nat :=
  [0, 1, 2, 3, 4, 5, 6, 7, 8, 9, 10, 11, 12, 13, 14, 15,
   14, 10, 4, 8, 9, 15, 13, 6, 1, 12, 0, 2, 11, 7, 5, 3,
   11, 8, 12, 0, 5, 2, 15, 13, 10, 14, 3, 6, 7, 1, 9, 4,
   7, 9, 3, 1, 13, 12, 11, 14, 2, 6, 5, 10, 4, 0, 15, 8,
   9, 0, 5, 7, 2, 4, 10, 15, 14, 1, 11, 12, 6, 8, 3, 13,
   2, 12, 6, 10, 0, 11, 8, 3, 4, 13, 7, 5, 15, 14, 1, 9,
   12, 5, 1, 15, 14, 13, 4, 10, 0, 7, 6, 3, 9, 2, 8, 11,
   13, 11, 7, 14, 12, 1, 3, 9, 5, 0, 15, 4, 8, 6, 2, 10,
   6, 15, 14, 9, 11, 3, 0, 8, 12, 2, 13, 7, 1, 4, 10, 5,
   10, 2, 8, 4, 7, 6, 1, 5, 15, 11, 9, 14, 3, 12, 13, 0]
/-- Row r. -/
def rowL (r : Nat) : List Nat := (tabL.drop (16 * r)).take 16
/-- The words of a block in the order of row r. -/
def pickL (m : List Nat) (r : Nat) : List Nat := (rowL r).map fun i => m.getD i 0
/-- r rounds. -/
def roundsL (v m : List Nat) : Nat → List Nat
  | 0 => v
  | r + 1 => roundL (roundsL v m r) (pickL m r)

def initL : List Nat := [0x6a09e667, 0xbb67ae85, 0x3c6ef372, 0xa54ff53a, 0x510e527f, 0x9b05688c, 0x1f83d9ab, 0x5be0cd19]
/-- The words that the rounds begin with; t bytes so far; the mark of the last block. -/
def beginL (h : List Nat) (t mark : Nat) : List Nat :=
  h ++ [0x6a09e667, 0xbb67ae85, 0x3c6ef372, 0xa54ff53a, xorW 0x510e527f (t % 4294967296), xorW 0x9b05688c (t / 4294967296 % 4294967296), xorW 0x1f83d9ab mark, 0x5be0cd19]
/-- A block of 16 words put into the eight. -/
def blockL (h m : List Nat) (t mark : Nat) : List Nat :=
  let v := roundsL (beginL h t mark) m 10
  (List.range 8).map fun i => xorW (xorW (h.getD i 0) (v.getD i 0)) (v.getD (i + 8) 0)
/-- The word of four bytes, the lowest one first. -/
def wordL (b : List Nat) (i : Nat) : Nat := b.getD (4 * i) 0 + 256 * b.getD (4 * i + 1) 0 + 65536 * b.getD (4 * i + 2) 0 + 16777216 * b.getD (4 * i + 3) 0
/-- The words of a block of bytes; what isn't there is 0. -/
def wordsL (b : List Nat) : List Nat := (List.range 16).map (wordL b)
def startL : List Nat := [0x6b08e647, 0xbb67ae85, 0x3c6ef372, 0xa54ff53a, 0x510e527f, 0x9b05688c, 0x1f83d9ab, 0x5be0cd19]
/-- The eight words behind k whole blocks of b. -/
def fullL (b : List Nat) : Nat → List Nat
  | 0 => startL
  | k + 1 => blockL (fullL b k) (wordsL ((b.drop (64 * k)).take 64)) (64 * (k + 1)) 0
/-- How many whole blocks lie ahead of the last one. -/
def aheadL (n : Nat) : Nat := (n - 1) / 64
def lastL (b : List Nat) : List Nat :=
  blockL (fullL b (aheadL b.length)) (wordsL (b.drop (64 * aheadL b.length))) b.length 0xffffffff
/-- The bytes of words, the lowest one first. -/
def bytesL (h : List Nat) : List Nat := (List.range 32).map fun i => h.getD (i / 4) 0 / 256 ^ (i % 4) % 256
def hashL (b : List Nat) : List Nat := bytesL (lastL b)

/-! Words are below 2^32; lists keep their length. -/
def W32 : Nat := 4294967296
theorem addW_lt (x y : Nat) : addW x y < W32 := Nat.mod_lt _ (by decide)
theorem xorW_lt {x y : Nat} (hx : x < W32) (hy : y < W32) : xorW x y < W32 := Nat.xor_lt_two_pow (n := 32) hx hy
theorem rotW_lt {x : Nat} (hx : x < W32) {n : Nat} (hn : n ≤ 32) : rotW x n < W32 := by
  unfold rotW W32 at *
  have h1 : (2 : Nat) ^ n * 2 ^ (32 - n) = 4294967296 := by rw [← Nat.pow_add, show n + (32 - n) = 32 by omega]
  have hp : 0 < (2 : Nat) ^ n := Nat.pow_pos (by decide)
  have hq : 0 < (2 : Nat) ^ (32 - n) := Nat.pow_pos (by decide)
  have h2 : x / 2 ^ n < 2 ^ (32 - n) := by rw [Nat.div_lt_iff_lt_mul hp, Nat.mul_comm, h1]; exact hx
  have h3 : x % 2 ^ n < 2 ^ n := Nat.mod_lt _ hp
  have h4 : (x % 2 ^ n + 1) * 2 ^ (32 - n) ≤ 2 ^ n * 2 ^ (32 - n) := Nat.mul_le_mul_right _ h3
  rw [h1, Nat.add_mul] at h4
  omega
theorem gA1_lt (a b x : Nat) : gA1 a b x < W32 := addW_lt _ _
theorem gD1_lt {d : Nat} (a b x : Nat) (hd : d < W32) : gD1 a b d x < W32 := rotW_lt (xorW_lt hd (gA1_lt a b x)) (by decide)
theorem gC1_lt (a b c d x : Nat) : gC1 a b c d x < W32 := addW_lt _ _
theorem gB1_lt {b : Nat} (a c d x : Nat) (hb : b < W32) : gB1 a b c d x < W32 := rotW_lt (xorW_lt hb (gC1_lt a b c d x)) (by decide)
theorem gA2_lt (a b c d x y : Nat) : gA2 a b c d x y < W32 := addW_lt _ _
theorem gD2_lt {d : Nat} (a b c x y : Nat) (hd : d < W32) : gD2 a b c d x y < W32 := rotW_lt (xorW_lt (gD1_lt a b x hd) (gA2_lt a b c d x y)) (by decide)
theorem gC2_lt (a b c d x y : Nat) : gC2 a b c d x y < W32 := addW_lt _ _
theorem gB2_lt {b : Nat} (a c d x y : Nat) (hb : b < W32) : gB2 a b c d x y < W32 := rotW_lt (xorW_lt (gB1_lt a c d x hb) (gC2_lt a b c d x y)) (by decide)

/-- All are words. -/
def Words (n : Nat) (v : List Nat) : Prop := v.length = n ∧ ∀ x ∈ v, x < W32
theorem Words.get {n : Nat} {v : List Nat} (h : Words n v) (i : Nat) : v.getD i 0 < W32 := by
  rw [List.getD_eq_getElem?_getD]
  cases hi : v[i]? with
  | none => show 0 < W32; decide
  | some x => exact h.2 x (List.mem_of_getElem? hi)
theorem Words.set {n : Nat} {v : List Nat} (h : Words n v) (i : Nat) {x : Nat} (hx : x < W32) : Words n (v.set i x) := by
  refine ⟨by rw [List.length_set]; exact h.1, fun y hy => ?_⟩
  rcases List.mem_or_eq_of_mem_set hy with hy | rfl
  · exact h.2 y hy
  · exact hx
theorem mixL_words {n : Nat} {v : List Nat} (h : Words n v) (i j k l x y : Nat) : Words n (mixL v i j k l x y) := by
  unfold mixL
  exact (((h.set i (gA2_lt _ _ _ _ _ _)).set j (gB2_lt _ _ _ _ _ (h.get j))).set k (gC2_lt _ _ _ _ _ _)).set l (gD2_lt _ _ _ _ _ (h.get l))
theorem roundL_words {n : Nat} {v : List Nat} (h : Words n v) (m : List Nat) : Words n (roundL v m) := by
  unfold roundL
  exact mixL_words (mixL_words (mixL_words (mixL_words (mixL_words (mixL_words (mixL_words (mixL_words h _ _ _ _ _ _) _ _ _ _ _ _) _ _ _ _ _ _) _ _ _ _ _ _) _ _ _ _ _ _) _ _ _ _ _ _) _ _ _ _ _ _) _ _ _ _ _ _
theorem roundsL_words {n : Nat} {v : List Nat} (h : Words n v) (m : List Nat) : ∀ r, Words n (roundsL v m r)
  | 0 => h
  | r + 1 => roundL_words (roundsL_words h m r) _
end Go.Proofs.YtcmkmnidnapabaaGreat

/-! Hb: Contracts: words turned, words mixed through pointers. -/
namespace Go.Proofs.YtcmkmnidnapabaaGreat
set_option maxRecDepth 100000
open Go.RowKit

theorem wraps_u32 (n : Int) (h₀ : 0 ≤ n) (h₁ : n < 2 ^ 32) : IntKind.u32.wrap n = n := by rw [IntKind.wrap_u32]; omega
theorem or_word {a b : Nat} (ha : a < W32) (hb : b < W32) : bits .or .u32 (a : Int) (b : Int) = ((a ||| b : Nat) : Int) := (bits_nat .u32 32 (by decide) wraps_u32 a b ha hb).2
theorem xor_word {a b : Nat} (ha : a < W32) (hb : b < W32) : bits .xor .u32 (a : Int) (b : Int) = ((xorW a b : Nat) : Int) := by
  have ha' : a % 2 ^ IntKind.u32.bits = a := Nat.mod_eq_of_lt ha
  have hb' : b % 2 ^ IntKind.u32.bits = b := Nat.mod_eq_of_lt hb
  simp only [bits, BitVec.ofInt_natCast, BitVec.toNat_xor, BitVec.toNat_ofNat, ha', hb']
  have h := xorW_lt ha hb
  unfold xorW at *
  exact wraps_u32 _ (Int.natCast_nonneg _) (by unfold W32 at h; omega)
theorem rot_or {x n : Nat} (hx : x < W32) (hn : n ≤ 32) : x * 2 ^ (32 - n) % 4294967296 ||| x / 2 ^ n = rotW x n := by
  have h1 : (2 : Nat) ^ n * 2 ^ (32 - n) = 4294967296 := by rw [← Nat.pow_add, show n + (32 - n) = 32 by omega]
  have hp : 0 < (2 : Nat) ^ n := Nat.pow_pos (by decide)
  have h2 : x / 2 ^ n < 2 ^ (32 - n) := by rw [Nat.div_lt_iff_lt_mul hp, Nat.mul_comm, h1]; exact hx
  rw [← h1, Nat.mul_mod_mul_right, or_add h2]
  unfold rotW
  omega

theorem rot_word {x : Nat} (n : Nat) (hx : x < W32) (hn : n ≤ 32) : bits .or .u32 (((x * 2 ^ (32 - n) % 4294967296 : Nat)) : Int) (((x / 2 ^ n : Nat)) : Int) = ((rotW x n : Nat) : Int) := by
  have h1 : x * 2 ^ (32 - n) % 4294967296 < W32 := Nat.mod_lt _ (by decide)
  have h2 : x / 2 ^ n < W32 := Nat.lt_of_le_of_lt (Nat.div_le_self _ _) hx
  rw [or_word h1 h2, rot_or hx hn]

theorem rotate_any (x n : Nat) (w : World) (hx : x < W32) (hn : n = 16 ∨ n = 12 ∨ n = 8 ∨ n = 7) :
    Calls Tryz.prog 307 #[.int .u32 x, .int .i64 (-(n : Int))] w fun e w' => e = .returned (.int .u32 (rotW x n : Nat)) ∧ w = w' := by
  rcases hn with rfl | rfl | rfl | rfl
  · have hk : bits .and .u64 (IntKind.u64.wrap (-16)) 31 = 16 := by decide
    have hr := rot_word 16 hx (by decide)
    clear hx
    go_enter Tryz.func307, Tryz.ntmps307
    go_wp2
    go_ret
    exact ⟨ret_int hr, rfl⟩
  · have hk : bits .and .u64 (IntKind.u64.wrap (-12)) 31 = 20 := by decide
    have hr := rot_word 12 hx (by decide)
    clear hx
    go_enter Tryz.func307, Tryz.ntmps307
    go_wp2
    go_ret
    exact ⟨ret_int hr, rfl⟩
  · have hk : bits .and .u64 (IntKind.u64.wrap (-8)) 31 = 24 := by decide
    have hr := rot_word 8 hx (by decide)
    clear hx
    go_enter Tryz.func307, Tryz.ntmps307
    go_wp2
    go_ret
    exact ⟨ret_int hr, rfl⟩
  · have hk : bits .and .u64 (IntKind.u64.wrap (-7)) 31 = 25 := by decide
    have hr := rot_word 7 hx (by decide)
    clear hx
    go_enter Tryz.func307, Tryz.ntmps307
    go_wp2
    go_ret
    exact ⟨ret_int hr, rfl⟩

theorem rotated_any (x n : Nat) (w : World) (hx : x < W32) (hn : n = 16 ∨ n = 12 ∨ n = 8 ∨ n = 7) :
    Calls Tryz.prog 302 #[.int .u32 x, .int .i64 n] w fun e w' => e = .returned (.int .u32 (rotW x n : Nat)) ∧ w = w' := by
  have hr := hidp (rotate_any x n w hx hn)
  rcases hn with rfl | rfl | rfl | rfl
  all_goals go_enter Tryz.func302, Tryz.ntmps302
  all_goals go_wp2_with (go_at_call 307; refine hr.out.mono ?_; rintro e w' ⟨rfl, rfl⟩)
  all_goals go_ret
  all_goals exact ⟨rfl, rfl⟩

theorem rotated_still (x n r : Nat) (w : World) (hx : x < W32) (hn : n = 16 ∨ n = 12 ∨ n = 8 ∨ n = 7) (hr : rotW x n = r) :
    Calls Tryz.prog 302 #[.int .u32 x, .int .i64 n] w fun e w' => e = .returned (.int .u32 (r : Nat)) ∧ w' = w :=
  (rotated_any x n w hx hn).mono fun _ _ h => ⟨hr ▸ h.1, h.2.symm⟩

/-- Four words of a block. -/
structure Four (w : World) (b i j k l : Nat) (a1 b1 c1 d1 : Nat) : Prop where
  ca : w.cell? ⟨b, i, none⟩ = some (.int .u32 (a1 : Nat))
  cb : w.cell? ⟨b, j, none⟩ = some (.int .u32 (b1 : Nat))
  cc : w.cell? ⟨b, k, none⟩ = some (.int .u32 (c1 : Nat))
  cd : w.cell? ⟨b, l, none⟩ = some (.int .u32 (d1 : Nat))
  fa : w.frozen? ⟨b, i, none⟩ = false
  fb : w.frozen? ⟨b, j, none⟩ = false
  fc : w.frozen? ⟨b, k, none⟩ = false
  fd : w.frozen? ⟨b, l, none⟩ = false
theorem Four.drew {w : World} {b i j k l a1 b1 c1 d1 : Nat} (h : Four w b i j k l a1 b1 c1 d1) : Four w.drew b i j k l a1 b1 c1 d1 := ⟨h.1, h.2, h.3, h.4, h.5, h.6, h.7, h.8⟩
theorem ne_addr {b i j : Nat} (h : i ≠ j) : (⟨b, i, none⟩ : Addr) ≠ ⟨b, j, none⟩ := fun e => h (by injection e)
theorem cset {w : World} {a : Addr} {u v : Value} (h : w.cell? a = some u) : (w.setCell a v).cell? a = some v := by apply World.cell?_setCell_same; exact h
theorem cother {w : World} {a b : Addr} {v : Value} (h : a ≠ b) : (w.setCell a v).cell? b = w.cell? b := by apply World.cell?_setCell_other; exact h
theorem fset (w : World) (a b : Addr) (v : Value) : (w.setCell a v).frozen? b = w.frozen? b := by apply World.frozen?_setCell
theorem Four.seta {w : World} {b i j k l a1 b1 c1 d1 : Nat} (h : Four w b i j k l a1 b1 c1 d1) (hij : i ≠ j) (hik : i ≠ k) (hil : i ≠ l) (v : Nat) : Four (w.setCell ⟨b, i, none⟩ (.int .u32 (v : Nat))) b i j k l v b1 c1 d1 :=
  ⟨cset h.ca, (cother (ne_addr hij)).trans h.cb, (cother (ne_addr hik)).trans h.cc, (cother (ne_addr hil)).trans h.cd,
   (fset ..).trans h.fa, (fset ..).trans h.fb, (fset ..).trans h.fc, (fset ..).trans h.fd⟩
theorem Four.setb {w : World} {b i j k l a1 b1 c1 d1 : Nat} (h : Four w b i j k l a1 b1 c1 d1) (hji : j ≠ i) (hjk : j ≠ k) (hjl : j ≠ l) (v : Nat) : Four (w.setCell ⟨b, j, none⟩ (.int .u32 (v : Nat))) b i j k l a1 v c1 d1 :=
  ⟨(cother (ne_addr hji)).trans h.ca, cset h.cb, (cother (ne_addr hjk)).trans h.cc, (cother (ne_addr hjl)).trans h.cd,
   (fset ..).trans h.fa, (fset ..).trans h.fb, (fset ..).trans h.fc, (fset ..).trans h.fd⟩
theorem Four.setc {w : World} {b i j k l a1 b1 c1 d1 : Nat} (h : Four w b i j k l a1 b1 c1 d1) (hki : k ≠ i) (hkj : k ≠ j) (hkl : k ≠ l) (v : Nat) : Four (w.setCell ⟨b, k, none⟩ (.int .u32 (v : Nat))) b i j k l a1 b1 v d1 :=
  ⟨(cother (ne_addr hki)).trans h.ca, (cother (ne_addr hkj)).trans h.cb, cset h.cc, (cother (ne_addr hkl)).trans h.cd,
   (fset ..).trans h.fa, (fset ..).trans h.fb, (fset ..).trans h.fc, (fset ..).trans h.fd⟩
theorem Four.setd {w : World} {b i j k l a1 b1 c1 d1 : Nat} (h : Four w b i j k l a1 b1 c1 d1) (hli : l ≠ i) (hlj : l ≠ j) (hlk : l ≠ k) (v : Nat) : Four (w.setCell ⟨b, l, none⟩ (.int .u32 (v : Nat))) b i j k l a1 b1 c1 v :=
  ⟨(cother (ne_addr hli)).trans h.ca, (cother (ne_addr hlj)).trans h.cb, (cother (ne_addr hlk)).trans h.cc, cset h.cd,
   (fset ..).trans h.fa, (fset ..).trans h.fb, (fset ..).trans h.fc, (fset ..).trans h.fd⟩

/-- Block b, a row of words; another world that has those words instead, and is as it was but for that. -/
def wvs (v : List Nat) : List Value := v.map fun x => Value.int .u32 (x : Nat)
structure Row (b : Nat) (T : TypeId) (w w' : World) (v v' : List Nat) : Prop where
  old : Blk w b (wvs v) T
  new : Blk w' b (wvs v') T
  but : But b w w'
theorem wvs_get {v : List Nat} {i : Nat} (h : i < v.length) : (wvs v)[i]? = some (.int .u32 (v.getD i 0 : Nat)) := by
  unfold wvs
  rw [List.getElem?_map, List.getD_eq_getElem?_getD, List.getElem?_eq_getElem h]; rfl
theorem wvs_set (v : List Nat) (i x : Nat) : (wvs v).set i (.int .u32 (x : Nat)) = wvs (v.set i x) := by unfold wvs; rw [List.map_set]
theorem Row.refl {b : Nat} {T : TypeId} {w : World} {v : List Nat} (h : Blk w b (wvs v) T) : Row b T w w v v := ⟨h, h, But.refl b w⟩
theorem Row.drew {b : Nat} {T : TypeId} {w w' : World} {v v' : List Nat} (h : Row b T w w' v v') : Row b T w w'.drew v v' := ⟨h.old, h.new.drew, h.but.drew⟩
theorem Row.set {b : Nat} {T : TypeId} {w w' : World} {v v' : List Nat} (h : Row b T w w' v v') (i x : Nat) : Row b T w (w'.setCell ⟨b, i, none⟩ (.int .u32 (x : Nat))) v (v'.set i x) :=
  ⟨h.old, wvs_set v' i x ▸ h.new.set i _, h.but.setCell i _⟩
theorem Row.four {b : Nat} {T : TypeId} {w : World} {v : List Nat} (h : Blk w b (wvs v) T) {i j k l : Nat} (hi : i < v.length) (hj : j < v.length) (hk : k < v.length) (hl : l < v.length) :
    Four w b i j k l (v.getD i 0) (v.getD j 0) (v.getD k 0) (v.getD l 0) :=
  ⟨(h.cell i).trans (wvs_get hi), (h.cell j).trans (wvs_get hj), (h.cell k).trans (wvs_get hk), (h.cell l).trans (wvs_get hl), h.free i, h.free j, h.free k, h.free l⟩

theorem sets_eq (v : List Nat) {i j k l : Nat} (A1 D1 C1 B1 A2 D2 C2 B2 : Nat) (hij : i ≠ j) (hik : i ≠ k) (hil : i ≠ l) (hjk : j ≠ k) (hjl : j ≠ l) (hkl : k ≠ l) :
    (((((((v.set i A1).set l D1).set k C1).set j B1).set i A2).set l D2).set k C2).set j B2 = (((v.set i A2).set j B2).set k C2).set l D2 := by
  apply List.ext_getElem?
  intro n
  simp only [List.getElem?_set, List.length_set]
  by_cases hi : i = n
  · subst hi; simp [hij.symm, hik.symm, hil.symm]
  · by_cases hj : j = n
    · subst hj; simp [hjk.symm, hjl.symm]
    · by_cases hk : k = n
      · subst hk; simp [hj, hkl.symm]
      · by_cases hl : l = n
        · subst hl; simp [hj, hk]
        · simp [hi, hj, hk, hl]
theorem wrap_add {a b : Nat} : IntKind.u32.wrap ((a : Int) + (b : Int)) = ((addW a b : Nat) : Int) := by
  rw [IntKind.wrap_u32]; unfold addW; omega
theorem wrap_add2 {a b x : Nat} : IntKind.u32.wrap ((a : Int) + IntKind.u32.wrap ((b : Int) + (x : Int))) = ((addW (addW a b) x : Nat) : Int) := by
  rw [IntKind.wrap_u32, IntKind.wrap_u32]; unfold addW; omega

set_option maxHeartbeats 4000000 in
theorem mix_any (b i j k l : Nat) (T : TypeId) (v : List Nat) (x y : Nat) (w : World) (hv : Words 16 v) (hi : i < 16) (hj : j < 16) (hk : k < 16) (hl : l < 16)
    (hij : i ≠ j) (hik : i ≠ k) (hil : i ≠ l) (hjk : j ≠ k) (hjl : j ≠ l) (hkl : k ≠ l) (hw : Blk w b (wvs v) T) :
    Calls Tryz.prog 286 #[.pointer (some ⟨b, i, none⟩), .pointer (some ⟨b, j, none⟩), .pointer (some ⟨b, k, none⟩), .pointer (some ⟨b, l, none⟩), .int .u32 x, .int .u32 y] w fun e w' => e = .returned (.tuple #[]) ∧ Row b T w w' v (mixL v i j k l x y) := by
  have h4 := Row.four hw (hv.1.symm ▸ hi) (hv.1.symm ▸ hj) (hv.1.symm ▸ hk) (hv.1.symm ▸ hl)
  have hR := hidp (Row.refl hw)
  have hb1 : v.getD j 0 < W32 := hv.get j
  have hd1 : v.getD l 0 < W32 := hv.get l
  have HM : mixL v i j k l x y = (((v.set i (gA2 (v.getD i 0) (v.getD j 0) (v.getD k 0) (v.getD l 0) x y)).set j (gB2 (v.getD i 0) (v.getD j 0) (v.getD k 0) (v.getD l 0) x y)).set k (gC2 (v.getD i 0) (v.getD j 0) (v.getD k 0) (v.getD l 0) x y)).set l (gD2 (v.getD i 0) (v.getD j 0) (v.getD k 0) (v.getD l 0) x y) := rfl
  clear hv hw
  revert h4 hb1 hd1 HM
  generalize v.getD i 0 = a1
  generalize v.getD j 0 = b1
  generalize v.getD k 0 = c1
  generalize v.getD l 0 = d1
  intro h4 hb1 hd1 HM
  obtain ⟨A1, hA1⟩ : ∃ r, r = gA1 a1 b1 x := ⟨_, rfl⟩
  obtain ⟨D1, hD1⟩ : ∃ r, r = gD1 a1 b1 d1 x := ⟨_, rfl⟩
  obtain ⟨C1, hC1⟩ : ∃ r, r = gC1 a1 b1 c1 d1 x := ⟨_, rfl⟩
  obtain ⟨B1, hB1⟩ : ∃ r, r = gB1 a1 b1 c1 d1 x := ⟨_, rfl⟩
  obtain ⟨A2, hA2⟩ : ∃ r, r = gA2 a1 b1 c1 d1 x y := ⟨_, rfl⟩
  obtain ⟨D2, hD2⟩ : ∃ r, r = gD2 a1 b1 c1 d1 x y := ⟨_, rfl⟩
  obtain ⟨C2, hC2⟩ : ∃ r, r = gC2 a1 b1 c1 d1 x y := ⟨_, rfl⟩
  obtain ⟨B2, hB2⟩ : ∃ r, r = gB2 a1 b1 c1 d1 x y := ⟨_, rfl⟩
  have lA1 : A1 < W32 := hA1 ▸ gA1_lt _ _ _
  have lD1 : D1 < W32 := hD1 ▸ gD1_lt _ _ _ hd1
  have lC1 : C1 < W32 := hC1 ▸ gC1_lt _ _ _ _ _
  have lB1 : B1 < W32 := hB1 ▸ gB1_lt _ _ _ _ hb1
  have lA2 : A2 < W32 := hA2 ▸ gA2_lt _ _ _ _ _ _
  have lC2 : C2 < W32 := hC2 ▸ gC2_lt _ _ _ _ _ _
  have e1 : IntKind.u32.wrap ((a1 : Int) + IntKind.u32.wrap ((b1 : Int) + (x : Int))) = (A1 : Int) := by rw [wrap_add2, hA1]; rfl
  have e2 := xor_word hd1 lA1
  have H2 := hidp (rotated_still (xorW d1 A1) 16 D1 · (xorW_lt hd1 lA1) (by simp) (by rw [hD1, hA1]; rfl))
  have e3 : IntKind.u32.wrap ((c1 : Int) + (D1 : Int)) = (C1 : Int) := by rw [wrap_add, hC1, hD1]; rfl
  have e4 := xor_word hb1 lC1
  have H4 := hidp (rotated_still (xorW b1 C1) 12 B1 · (xorW_lt hb1 lC1) (by simp) (by rw [hB1, hC1]; rfl))
  have e5 : IntKind.u32.wrap ((A1 : Int) + IntKind.u32.wrap ((B1 : Int) + (y : Int))) = (A2 : Int) := by rw [wrap_add2, hA2, hA1, hB1]; rfl
  have e6 := xor_word lD1 lA2
  have H6 := hidp (rotated_still (xorW D1 A2) 8 D2 · (xorW_lt lD1 lA2) (by simp) (by rw [hD2, hD1, hA2]; rfl))
  have e7 : IntKind.u32.wrap ((C1 : Int) + (D2 : Int)) = (C2 : Int) := by rw [wrap_add, hC2, hC1, hD2]; rfl
  have e8 := xor_word lB1 lC2
  have H8 := hidp (rotated_still (xorW B1 C2) 7 B2 · (xorW_lt lB1 lC2) (by simp) (by rw [hB2, hB1, hC2]; rfl))
  rw [← hA2, ← hD2, ← hC2, ← hB2, ← sets_eq v A1 D1 C1 B1 A2 D2 C2 B2 hij hik hil hjk hjl hkl] at HM
  have HM := hidp HM
  clear hA1 hD1 hC1 hB1 hA2 hD2 hC2 hB2 lA1 lD1 lC1 lB1 lA2 lC2 hb1 hd1
  have H0 := hidp h4
  obtain ⟨ca, cb, cc, cd, fa, fb, fc, fd⟩ := h4
  go_enter Tryz.func286, Tryz.ntmps286
  go_wp2
  refine region_tail 9 (by kernel_rfl) (by kernel_rfl) ?_
  intro wd0 hwd0
  have h4d := hidp (hwd0.out.symm ▸ H0.out.drew)
  have hRd := hidp (hwd0.out.symm ▸ hR.out.drew)
  clear ca cb cc cd fa fb fc fd
  obtain ⟨ca, cb, cc, cd, fa, fb, fc, fd⟩ := h4d.out
  simp only [List.take_succ_cons, List.take_zero, List.drop_succ_cons, List.drop_zero]
  repeat still_step
  try refine wpStill_nil ?_
  go_wp2
  have h40 := hidp (h4d.out.seta hij hik hil A1)
  have hR0 := hidp (hRd.out.set i A1)
  generalize (wd0.setCell _ _) = w0 at h40 hR0 ⊢
  clear h4d hRd
  clear ca cb cc cd fa fb fc fd
  obtain ⟨ca, cb, cc, cd, fa, fb, fc, fd⟩ := h40.out
  refine region_tail 9 (by kernel_rfl) (by kernel_rfl) ?_
  intro wd1 hwd1
  have h4d := hidp (hwd1.out.symm ▸ h40.out.drew)
  have hRd := hidp (hwd1.out.symm ▸ hR0.out.drew)
  clear ca cb cc cd fa fb fc fd
  obtain ⟨ca, cb, cc, cd, fa, fb, fc, fd⟩ := h4d.out
  simp only [List.take_succ_cons, List.take_zero, List.drop_succ_cons, List.drop_zero]
  repeat still_step
  still_call (H2.out _)
  repeat still_step
  try refine wpStill_nil ?_
  go_wp2
  have h41 := hidp (h4d.out.setd hil.symm hjl.symm hkl.symm D1)
  have hR1 := hidp (hRd.out.set l D1)
  generalize (wd1.setCell _ _) = w1 at h41 hR1 ⊢
  clear h4d hRd
  clear ca cb cc cd fa fb fc fd
  obtain ⟨ca, cb, cc, cd, fa, fb, fc, fd⟩ := h41.out
  refine region_tail 7 (by kernel_rfl) (by kernel_rfl) ?_
  intro wd2 hwd2
  have h4d := hidp (hwd2.out.symm ▸ h41.out.drew)
  have hRd := hidp (hwd2.out.symm ▸ hR1.out.drew)
  clear ca cb cc cd fa fb fc fd
  obtain ⟨ca, cb, cc, cd, fa, fb, fc, fd⟩ := h4d.out
  simp only [List.take_succ_cons, List.take_zero, List.drop_succ_cons, List.drop_zero]
  repeat still_step
  try refine wpStill_nil ?_
  go_wp2
  have h42 := hidp (h4d.out.setc hik.symm hjk.symm hkl C1)
  have hR2 := hidp (hRd.out.set k C1)
  generalize (wd2.setCell _ _) = w2 at h42 hR2 ⊢
  clear h4d hRd
  clear ca cb cc cd fa fb fc fd
  obtain ⟨ca, cb, cc, cd, fa, fb, fc, fd⟩ := h42.out
  refine region_tail 9 (by kernel_rfl) (by kernel_rfl) ?_
  intro wd3 hwd3
  have h4d := hidp (hwd3.out.symm ▸ h42.out.drew)
  have hRd := hidp (hwd3.out.symm ▸ hR2.out.drew)
  clear ca cb cc cd fa fb fc fd
  obtain ⟨ca, cb, cc, cd, fa, fb, fc, fd⟩ := h4d.out
  simp only [List.take_succ_cons, List.take_zero, List.drop_succ_cons, List.drop_zero]
  repeat still_step
  still_call (H4.out _)
  repeat still_step
  try refine wpStill_nil ?_
  go_wp2
  have h43 := hidp (h4d.out.setb hij.symm hjk hjl B1)
  have hR3 := hidp (hRd.out.set j B1)
  generalize (wd3.setCell _ _) = w3 at h43 hR3 ⊢
  clear h4d hRd
  clear ca cb cc cd fa fb fc fd
  obtain ⟨ca, cb, cc, cd, fa, fb, fc, fd⟩ := h43.out
  refine region_tail 9 (by kernel_rfl) (by kernel_rfl) ?_
  intro wd4 hwd4
  have h4d := hidp (hwd4.out.symm ▸ h43.out.drew)
  have hRd := hidp (hwd4.out.symm ▸ hR3.out.drew)
  clear ca cb cc cd fa fb fc fd
  obtain ⟨ca, cb, cc, cd, fa, fb, fc, fd⟩ := h4d.out
  simp only [List.take_succ_cons, List.take_zero, List.drop_succ_cons, List.drop_zero]
  repeat still_step
  try refine wpStill_nil ?_
  go_wp2
  have h44 := hidp (h4d.out.seta hij hik hil A2)
  have hR4 := hidp (hRd.out.set i A2)
  generalize (wd4.setCell _ _) = w4 at h44 hR4 ⊢
  clear h4d hRd
  clear ca cb cc cd fa fb fc fd
  obtain ⟨ca, cb, cc, cd, fa, fb, fc, fd⟩ := h44.out
  refine region_tail 9 (by kernel_rfl) (by kernel_rfl) ?_
  intro wd5 hwd5
  have h4d := hidp (hwd5.out.symm ▸ h44.out.drew)
  have hRd := hidp (hwd5.out.symm ▸ hR4.out.drew)
  clear ca cb cc cd fa fb fc fd
  obtain ⟨ca, cb, cc, cd, fa, fb, fc, fd⟩ := h4d.out
  simp only [List.take_succ_cons, List.take_zero, List.drop_succ_cons, List.drop_zero]
  repeat still_step
  still_call (H6.out _)
  repeat still_step
  try refine wpStill_nil ?_
  go_wp2
  have h45 := hidp (h4d.out.setd hil.symm hjl.symm hkl.symm D2)
  have hR5 := hidp (hRd.out.set l D2)
  generalize (wd5.setCell _ _) = w5 at h45 hR5 ⊢
  clear h4d hRd
  clear ca cb cc cd fa fb fc fd
  obtain ⟨ca, cb, cc, cd, fa, fb, fc, fd⟩ := h45.out
  refine region_tail 7 (by kernel_rfl) (by kernel_rfl) ?_
  intro wd6 hwd6
  have h4d := hidp (hwd6.out.symm ▸ h45.out.drew)
  have hRd := hidp (hwd6.out.symm ▸ hR5.out.drew)
  clear ca cb cc cd fa fb fc fd
  obtain ⟨ca, cb, cc, cd, fa, fb, fc, fd⟩ := h4d.out
  simp only [List.take_succ_cons, List.take_zero, List.drop_succ_cons, List.drop_zero]
  repeat still_step
  try refine wpStill_nil ?_
  go_wp2
  have h46 := hidp (h4d.out.setc hik.symm hjk.symm hkl C2)
  have hR6 := hidp (hRd.out.set k C2)
  generalize (wd6.setCell _ _) = w6 at h46 hR6 ⊢
  clear h4d hRd
  clear ca cb cc cd fa fb fc fd
  obtain ⟨ca, cb, cc, cd, fa, fb, fc, fd⟩ := h46.out
  refine region_tail 9 (by kernel_rfl) (by kernel_rfl) ?_
  intro wd7 hwd7
  have h4d := hidp (hwd7.out.symm ▸ h46.out.drew)
  have hRd := hidp (hwd7.out.symm ▸ hR6.out.drew)
  clear ca cb cc cd fa fb fc fd
  obtain ⟨ca, cb, cc, cd, fa, fb, fc, fd⟩ := h4d.out
  simp only [List.take_succ_cons, List.take_zero, List.drop_succ_cons, List.drop_zero]
  repeat still_step
  still_call (H8.out _)
  repeat still_step
  try refine wpStill_nil ?_
  go_wp2
  go_end0
  exact ⟨rfl, HM.out ▸ hRd.out.set j B2⟩
end Go.Proofs.YtcmkmnidnapabaaGreat

/-! Hc: Contract: a round. -/
namespace Go.Proofs.YtcmkmnidnapabaaGreat
open Go.RowKit

theorem roundL_eq (v m v0 v1 v2 v3 v4 v5 v6 v7 : List Nat) (h0 : v0 = mixL v 0 4 8 12 (m.getD 0 0) (m.getD 1 0)) (h1 : v1 = mixL v0 1 5 9 13 (m.getD 2 0) (m.getD 3 0)) (h2 : v2 = mixL v1 2 6 10 14 (m.getD 4 0) (m.getD 5 0))
    (h3 : v3 = mixL v2 3 7 11 15 (m.getD 6 0) (m.getD 7 0)) (h4 : v4 = mixL v3 0 5 10 15 (m.getD 8 0) (m.getD 9 0)) (h5 : v5 = mixL v4 1 6 11 12 (m.getD 10 0) (m.getD 11 0)) (h6 : v6 = mixL v5 2 7 8 13 (m.getD 12 0) (m.getD 13 0))
    (h7 : v7 = mixL v6 3 4 9 14 (m.getD 14 0) (m.getD 15 0)) : v7 = roundL v m := by
  simp only [roundL, ← h0, ← h1, ← h2, ← h3, ← h4, ← h5, ← h6, ← h7]

set_option maxRecDepth 20000 in
set_option maxHeartbeats 4000000 in
theorem round_any (b c : Nat) (T T' : TypeId) (v m : List Nat) (w : World) (hv : Words 16 v) (hm : m.length = 16) (hne : c ≠ b) (hb : Blk w b (wvs v) T) (hc : Blk w c (wvs m) T') :
    Calls Tryz.prog 262 #[.pointer (some ⟨b, 0, none⟩), .pointer (some ⟨c, 0, none⟩)] w fun e w' => e = .returned (.tuple #[]) ∧ Row b T w w' v (roundL v m) := by
  have HM := hidp hm
  have H := hidp (And.intro hb (And.intro hc (And.intro (But.refl b w) hv)))
  have HB := hidp hb
  have HN := hidp hne
  have wv := v
  clear hv hb hc wv hne
  have G0 : ∀ W : World, Blk W c (wvs m) T' → W.cell? ⟨c, 0, none⟩ = some (.int .u32 (m.getD 0 0 : Nat)) := fun W h => (h.cell 0).trans (wvs_get (by omega))
  have G1 : ∀ W : World, Blk W c (wvs m) T' → W.cell? ⟨c, 1, none⟩ = some (.int .u32 (m.getD 1 0 : Nat)) := fun W h => (h.cell 1).trans (wvs_get (by omega))
  have G2 : ∀ W : World, Blk W c (wvs m) T' → W.cell? ⟨c, 2, none⟩ = some (.int .u32 (m.getD 2 0 : Nat)) := fun W h => (h.cell 2).trans (wvs_get (by omega))
  have G3 : ∀ W : World, Blk W c (wvs m) T' → W.cell? ⟨c, 3, none⟩ = some (.int .u32 (m.getD 3 0 : Nat)) := fun W h => (h.cell 3).trans (wvs_get (by omega))
  have G4 : ∀ W : World, Blk W c (wvs m) T' → W.cell? ⟨c, 4, none⟩ = some (.int .u32 (m.getD 4 0 : Nat)) := fun W h => (h.cell 4).trans (wvs_get (by omega))
  have G5 : ∀ W : World, Blk W c (wvs m) T' → W.cell? ⟨c, 5, none⟩ = some (.int .u32 (m.getD 5 0 : Nat)) := fun W h => (h.cell 5).trans (wvs_get (by omega))
  have G6 : ∀ W : World, Blk W c (wvs m) T' → W.cell? ⟨c, 6, none⟩ = some (.int .u32 (m.getD 6 0 : Nat)) := fun W h => (h.cell 6).trans (wvs_get (by omega))
  have G7 : ∀ W : World, Blk W c (wvs m) T' → W.cell? ⟨c, 7, none⟩ = some (.int .u32 (m.getD 7 0 : Nat)) := fun W h => (h.cell 7).trans (wvs_get (by omega))
  have G8 : ∀ W : World, Blk W c (wvs m) T' → W.cell? ⟨c, 8, none⟩ = some (.int .u32 (m.getD 8 0 : Nat)) := fun W h => (h.cell 8).trans (wvs_get (by omega))
  have G9 : ∀ W : World, Blk W c (wvs m) T' → W.cell? ⟨c, 9, none⟩ = some (.int .u32 (m.getD 9 0 : Nat)) := fun W h => (h.cell 9).trans (wvs_get (by omega))
  have G10 : ∀ W : World, Blk W c (wvs m) T' → W.cell? ⟨c, 10, none⟩ = some (.int .u32 (m.getD 10 0 : Nat)) := fun W h => (h.cell 10).trans (wvs_get (by omega))
  have G11 : ∀ W : World, Blk W c (wvs m) T' → W.cell? ⟨c, 11, none⟩ = some (.int .u32 (m.getD 11 0 : Nat)) := fun W h => (h.cell 11).trans (wvs_get (by omega))
  have G12 : ∀ W : World, Blk W c (wvs m) T' → W.cell? ⟨c, 12, none⟩ = some (.int .u32 (m.getD 12 0 : Nat)) := fun W h => (h.cell 12).trans (wvs_get (by omega))
  have G13 : ∀ W : World, Blk W c (wvs m) T' → W.cell? ⟨c, 13, none⟩ = some (.int .u32 (m.getD 13 0 : Nat)) := fun W h => (h.cell 13).trans (wvs_get (by omega))
  have G14 : ∀ W : World, Blk W c (wvs m) T' → W.cell? ⟨c, 14, none⟩ = some (.int .u32 (m.getD 14 0 : Nat)) := fun W h => (h.cell 14).trans (wvs_get (by omega))
  have G15 : ∀ W : World, Blk W c (wvs m) T' → W.cell? ⟨c, 15, none⟩ = some (.int .u32 (m.getD 15 0 : Nat)) := fun W h => (h.cell 15).trans (wvs_get (by omega))
  clear hm
  revert G0 G1 G2 G3 G4 G5 G6 G7 G8 G9 G10 G11 G12 G13 G14 G15
  have HQ := hidp (roundL_eq v m)
  revert HQ
  generalize m.getD 0 0 = m0
  generalize m.getD 1 0 = m1
  generalize m.getD 2 0 = m2
  generalize m.getD 3 0 = m3
  generalize m.getD 4 0 = m4
  generalize m.getD 5 0 = m5
  generalize m.getD 6 0 = m6
  generalize m.getD 7 0 = m7
  generalize m.getD 8 0 = m8
  generalize m.getD 9 0 = m9
  generalize m.getD 10 0 = m10
  generalize m.getD 11 0 = m11
  generalize m.getD 12 0 = m12
  generalize m.getD 13 0 = m13
  generalize m.getD 14 0 = m14
  generalize m.getD 15 0 = m15
  intro HQ G0 G1 G2 G3 G4 G5 G6 G7 G8 G9 G10 G11 G12 G13 G14 G15
  have G0 := hidp G0; have G1 := hidp G1; have G2 := hidp G2; have G3 := hidp G3; have G4 := hidp G4; have G5 := hidp G5; have G6 := hidp G6; have G7 := hidp G7; have G8 := hidp G8; have G9 := hidp G9; have G10 := hidp G10; have G11 := hidp G11; have G12 := hidp G12; have G13 := hidp G13; have G14 := hidp G14; have G15 := hidp G15
  go_enter Tryz.func262, Tryz.ntmps262
  go_wp2
  refine region_tail 20 (by kernel_rfl) (by kernel_rfl) ?_
  intro wd hwd
  have ma : wd.cell? ⟨c, 0, none⟩ = some (.int .u32 (m0 : Nat)) := hwd.out.symm ▸ G0.out _ H.out.2.1.drew
  have mb : wd.cell? ⟨c, 1, none⟩ = some (.int .u32 (m1 : Nat)) := hwd.out.symm ▸ G1.out _ H.out.2.1.drew
  have H' : Hid (Blk wd b (wvs v) T ∧ Blk wd c (wvs m) T' ∧ But b w wd ∧ Words 16 v) := hwd.out.symm ▸ hidp ⟨H.out.1.drew, H.out.2.1.drew, H.out.2.2.1.drew, H.out.2.2.2⟩
  clear H hwd
  simp only [List.take_succ_cons, List.take_zero, List.drop_succ_cons, List.drop_zero]
  repeat still_step
  try refine wpStill_nil ?_
  clear ma mb
  go_wp2_with fail
  refine (mix_any b 0 4 8 12 T v m0 m1 wd H'.out.2.2.2 (by decide) (by decide) (by decide) (by decide) (by decide) (by decide) (by decide) (by decide) (by decide) (by decide) H'.out.1).mono ?_
  rintro e w0 ⟨rfl, hN⟩
  have hN := hidp hN
  obtain ⟨v0, hv0⟩ : ∃ r, r = mixL v 0 4 8 12 m0 m1 := ⟨_, rfl⟩
  have H : Hid (Blk w0 b (wvs v0) T ∧ Blk w0 c (wvs m) T' ∧ But b w w0 ∧ Words 16 v0) := hv0 ▸ hidp ⟨hN.out.new, hN.out.but.blk H'.out.2.1 HN.out, H'.out.2.2.1.trans hN.out.but, mixL_words H'.out.2.2.2 _ _ _ _ _ _⟩
  have hv0 := hidp hv0
  clear H' hN
  go_wp2_with fail
  refine region_tail 20 (by kernel_rfl) (by kernel_rfl) ?_
  intro wd hwd
  have ma : wd.cell? ⟨c, 2, none⟩ = some (.int .u32 (m2 : Nat)) := hwd.out.symm ▸ G2.out _ H.out.2.1.drew
  have mb : wd.cell? ⟨c, 3, none⟩ = some (.int .u32 (m3 : Nat)) := hwd.out.symm ▸ G3.out _ H.out.2.1.drew
  have H' : Hid (Blk wd b (wvs v0) T ∧ Blk wd c (wvs m) T' ∧ But b w wd ∧ Words 16 v0) := hwd.out.symm ▸ hidp ⟨H.out.1.drew, H.out.2.1.drew, H.out.2.2.1.drew, H.out.2.2.2⟩
  clear H hwd
  simp only [List.take_succ_cons, List.take_zero, List.drop_succ_cons, List.drop_zero]
  repeat still_step
  try refine wpStill_nil ?_
  clear ma mb
  go_wp2_with fail
  refine (mix_any b 1 5 9 13 T v0 m2 m3 wd H'.out.2.2.2 (by decide) (by decide) (by decide) (by decide) (by decide) (by decide) (by decide) (by decide) (by decide) (by decide) H'.out.1).mono ?_
  rintro e w1 ⟨rfl, hN⟩
  have hN := hidp hN
  obtain ⟨v1, hv1⟩ : ∃ r, r = mixL v0 1 5 9 13 m2 m3 := ⟨_, rfl⟩
  have H : Hid (Blk w1 b (wvs v1) T ∧ Blk w1 c (wvs m) T' ∧ But b w w1 ∧ Words 16 v1) := hv1 ▸ hidp ⟨hN.out.new, hN.out.but.blk H'.out.2.1 HN.out, H'.out.2.2.1.trans hN.out.but, mixL_words H'.out.2.2.2 _ _ _ _ _ _⟩
  have hv1 := hidp hv1
  clear H' hN
  go_wp2_with fail
  refine region_tail 20 (by kernel_rfl) (by kernel_rfl) ?_
  intro wd hwd
  have ma : wd.cell? ⟨c, 4, none⟩ = some (.int .u32 (m4 : Nat)) := hwd.out.symm ▸ G4.out _ H.out.2.1.drew
  have mb : wd.cell? ⟨c, 5, none⟩ = some (.int .u32 (m5 : Nat)) := hwd.out.symm ▸ G5.out _ H.out.2.1.drew
  have H' : Hid (Blk wd b (wvs v1) T ∧ Blk wd c (wvs m) T' ∧ But b w wd ∧ Words 16 v1) := hwd.out.symm ▸ hidp ⟨H.out.1.drew, H.out.2.1.drew, H.out.2.2.1.drew, H.out.2.2.2⟩
  clear H hwd
  simp only [List.take_succ_cons, List.take_zero, List.drop_succ_cons, List.drop_zero]
  repeat still_step
  try refine wpStill_nil ?_
  clear ma mb
  go_wp2_with fail
  refine (mix_any b 2 6 10 14 T v1 m4 m5 wd H'.out.2.2.2 (by decide) (by decide) (by decide) (by decide) (by decide) (by decide) (by decide) (by decide) (by decide) (by decide) H'.out.1).mono ?_
  rintro e w2 ⟨rfl, hN⟩
  have hN := hidp hN
  obtain ⟨v2, hv2⟩ : ∃ r, r = mixL v1 2 6 10 14 m4 m5 := ⟨_, rfl⟩
  have H : Hid (Blk w2 b (wvs v2) T ∧ Blk w2 c (wvs m) T' ∧ But b w w2 ∧ Words 16 v2) := hv2 ▸ hidp ⟨hN.out.new, hN.out.but.blk H'.out.2.1 HN.out, H'.out.2.2.1.trans hN.out.but, mixL_words H'.out.2.2.2 _ _ _ _ _ _⟩
  have hv2 := hidp hv2
  clear H' hN
  go_wp2_with fail
  refine region_tail 20 (by kernel_rfl) (by kernel_rfl) ?_
  intro wd hwd
  have ma : wd.cell? ⟨c, 6, none⟩ = some (.int .u32 (m6 : Nat)) := hwd.out.symm ▸ G6.out _ H.out.2.1.drew
  have mb : wd.cell? ⟨c, 7, none⟩ = some (.int .u32 (m7 : Nat)) := hwd.out.symm ▸ G7.out _ H.out.2.1.drew
  have H' : Hid (Blk wd b (wvs v2) T ∧ Blk wd c (wvs m) T' ∧ But b w wd ∧ Words 16 v2) := hwd.out.symm ▸ hidp ⟨H.out.1.drew, H.out.2.1.drew, H.out.2.2.1.drew, H.out.2.2.2⟩
  clear H hwd
  simp only [List.take_succ_cons, List.take_zero, List.drop_succ_cons, List.drop_zero]
  repeat still_step
  try refine wpStill_nil ?_
  clear ma mb
  go_wp2_with fail
  refine (mix_any b 3 7 11 15 T v2 m6 m7 wd H'.out.2.2.2 (by decide) (by decide) (by decide) (by decide) (by decide) (by decide) (by decide) (by decide) (by decide) (by decide) H'.out.1).mono ?_
  rintro e w3 ⟨rfl, hN⟩
  have hN := hidp hN
  obtain ⟨v3, hv3⟩ : ∃ r, r = mixL v2 3 7 11 15 m6 m7 := ⟨_, rfl⟩
  have H : Hid (Blk w3 b (wvs v3) T ∧ Blk w3 c (wvs m) T' ∧ But b w w3 ∧ Words 16 v3) := hv3 ▸ hidp ⟨hN.out.new, hN.out.but.blk H'.out.2.1 HN.out, H'.out.2.2.1.trans hN.out.but, mixL_words H'.out.2.2.2 _ _ _ _ _ _⟩
  have hv3 := hidp hv3
  clear H' hN
  go_wp2_with fail
  refine region_tail 20 (by kernel_rfl) (by kernel_rfl) ?_
  intro wd hwd
  have ma : wd.cell? ⟨c, 8, none⟩ = some (.int .u32 (m8 : Nat)) := hwd.out.symm ▸ G8.out _ H.out.2.1.drew
  have mb : wd.cell? ⟨c, 9, none⟩ = some (.int .u32 (m9 : Nat)) := hwd.out.symm ▸ G9.out _ H.out.2.1.drew
  have H' : Hid (Blk wd b (wvs v3) T ∧ Blk wd c (wvs m) T' ∧ But b w wd ∧ Words 16 v3) := hwd.out.symm ▸ hidp ⟨H.out.1.drew, H.out.2.1.drew, H.out.2.2.1.drew, H.out.2.2.2⟩
  clear H hwd
  simp only [List.take_succ_cons, List.take_zero, List.drop_succ_cons, List.drop_zero]
  repeat still_step
  try refine wpStill_nil ?_
  clear ma mb
  go_wp2_with fail
  refine (mix_any b 0 5 10 15 T v3 m8 m9 wd H'.out.2.2.2 (by decide) (by decide) (by decide) (by decide) (by decide) (by decide) (by decide) (by decide) (by decide) (by decide) H'.out.1).mono ?_
  rintro e w4 ⟨rfl, hN⟩
  have hN := hidp hN
  obtain ⟨v4, hv4⟩ : ∃ r, r = mixL v3 0 5 10 15 m8 m9 := ⟨_, rfl⟩
  have H : Hid (Blk w4 b (wvs v4) T ∧ Blk w4 c (wvs m) T' ∧ But b w w4 ∧ Words 16 v4) := hv4 ▸ hidp ⟨hN.out.new, hN.out.but.blk H'.out.2.1 HN.out, H'.out.2.2.1.trans hN.out.but, mixL_words H'.out.2.2.2 _ _ _ _ _ _⟩
  have hv4 := hidp hv4
  clear H' hN
  go_wp2_with fail
  refine region_tail 20 (by kernel_rfl) (by kernel_rfl) ?_
  intro wd hwd
  have ma : wd.cell? ⟨c, 10, none⟩ = some (.int .u32 (m10 : Nat)) := hwd.out.symm ▸ G10.out _ H.out.2.1.drew
  have mb : wd.cell? ⟨c, 11, none⟩ = some (.int .u32 (m11 : Nat)) := hwd.out.symm ▸ G11.out _ H.out.2.1.drew
  have H' : Hid (Blk wd b (wvs v4) T ∧ Blk wd c (wvs m) T' ∧ But b w wd ∧ Words 16 v4) := hwd.out.symm ▸ hidp ⟨H.out.1.drew, H.out.2.1.drew, H.out.2.2.1.drew, H.out.2.2.2⟩
  clear H hwd
  simp only [List.take_succ_cons, List.take_zero, List.drop_succ_cons, List.drop_zero]
  repeat still_step
  try refine wpStill_nil ?_
  clear ma mb
  go_wp2_with fail
  refine (mix_any b 1 6 11 12 T v4 m10 m11 wd H'.out.2.2.2 (by decide) (by decide) (by decide) (by decide) (by decide) (by decide) (by decide) (by decide) (by decide) (by decide) H'.out.1).mono ?_
  rintro e w5 ⟨rfl, hN⟩
  have hN := hidp hN
  obtain ⟨v5, hv5⟩ : ∃ r, r = mixL v4 1 6 11 12 m10 m11 := ⟨_, rfl⟩
  have H : Hid (Blk w5 b (wvs v5) T ∧ Blk w5 c (wvs m) T' ∧ But b w w5 ∧ Words 16 v5) := hv5 ▸ hidp ⟨hN.out.new, hN.out.but.blk H'.out.2.1 HN.out, H'.out.2.2.1.trans hN.out.but, mixL_words H'.out.2.2.2 _ _ _ _ _ _⟩
  have hv5 := hidp hv5
  clear H' hN
  go_wp2_with fail
  refine region_tail 20 (by kernel_rfl) (by kernel_rfl) ?_
  intro wd hwd
  have ma : wd.cell? ⟨c, 12, none⟩ = some (.int .u32 (m12 : Nat)) := hwd.out.symm ▸ G12.out _ H.out.2.1.drew
  have mb : wd.cell? ⟨c, 13, none⟩ = some (.int .u32 (m13 : Nat)) := hwd.out.symm ▸ G13.out _ H.out.2.1.drew
  have H' : Hid (Blk wd b (wvs v5) T ∧ Blk wd c (wvs m) T' ∧ But b w wd ∧ Words 16 v5) := hwd.out.symm ▸ hidp ⟨H.out.1.drew, H.out.2.1.drew, H.out.2.2.1.drew, H.out.2.2.2⟩
  clear H hwd
  simp only [List.take_succ_cons, List.take_zero, List.drop_succ_cons, List.drop_zero]
  repeat still_step
  try refine wpStill_nil ?_
  clear ma mb
  go_wp2_with fail
  refine (mix_any b 2 7 8 13 T v5 m12 m13 wd H'.out.2.2.2 (by decide) (by decide) (by decide) (by decide) (by decide) (by decide) (by decide) (by decide) (by decide) (by decide) H'.out.1).mono ?_
  rintro e w6 ⟨rfl, hN⟩
  have hN := hidp hN
  obtain ⟨v6, hv6⟩ : ∃ r, r = mixL v5 2 7 8 13 m12 m13 := ⟨_, rfl⟩
  have H : Hid (Blk w6 b (wvs v6) T ∧ Blk w6 c (wvs m) T' ∧ But b w w6 ∧ Words 16 v6) := hv6 ▸ hidp ⟨hN.out.new, hN.out.but.blk H'.out.2.1 HN.out, H'.out.2.2.1.trans hN.out.but, mixL_words H'.out.2.2.2 _ _ _ _ _ _⟩
  have hv6 := hidp hv6
  clear H' hN
  go_wp2_with fail
  refine region_tail 20 (by kernel_rfl) (by kernel_rfl) ?_
  intro wd hwd
  have ma : wd.cell? ⟨c, 14, none⟩ = some (.int .u32 (m14 : Nat)) := hwd.out.symm ▸ G14.out _ H.out.2.1.drew
  have mb : wd.cell? ⟨c, 15, none⟩ = some (.int .u32 (m15 : Nat)) := hwd.out.symm ▸ G15.out _ H.out.2.1.drew
  have H' : Hid (Blk wd b (wvs v6) T ∧ Blk wd c (wvs m) T' ∧ But b w wd ∧ Words 16 v6) := hwd.out.symm ▸ hidp ⟨H.out.1.drew, H.out.2.1.drew, H.out.2.2.1.drew, H.out.2.2.2⟩
  clear H hwd
  simp only [List.take_succ_cons, List.take_zero, List.drop_succ_cons, List.drop_zero]
  repeat still_step
  try refine wpStill_nil ?_
  clear ma mb
  go_wp2_with fail
  refine (mix_any b 3 4 9 14 T v6 m14 m15 wd H'.out.2.2.2 (by decide) (by decide) (by decide) (by decide) (by decide) (by decide) (by decide) (by decide) (by decide) (by decide) H'.out.1).mono ?_
  rintro e w7 ⟨rfl, hN⟩
  have hN := hidp hN
  obtain ⟨v7, hv7⟩ : ∃ r, r = mixL v6 3 4 9 14 m14 m15 := ⟨_, rfl⟩
  have H : Hid (Blk w7 b (wvs v7) T ∧ Blk w7 c (wvs m) T' ∧ But b w w7 ∧ Words 16 v7) := hv7 ▸ hidp ⟨hN.out.new, hN.out.but.blk H'.out.2.1 HN.out, H'.out.2.2.1.trans hN.out.but, mixL_words H'.out.2.2.2 _ _ _ _ _ _⟩
  have hv7 := hidp hv7
  clear H' hN
  go_wp2_with fail
  go_end0
  exact ⟨rfl, HB.out, HQ.out _ _ _ _ _ _ _ _ hv0.out hv1.out hv2.out hv3.out hv4.out hv5.out hv6.out hv7.out ▸ H.out.1, H.out.2.2.1⟩
end Go.Proofs.YtcmkmnidnapabaaGreat

/-! Hd: Contracts: the words of a block. -/
namespace Go.Proofs.YtcmkmnidnapabaaGreat
open Go.RowKit

theorem or_wordL {a b : Nat} (ha : a < 4294967296) (hb : b < 4294967296) : bits .or .u32 (a : Int) (b : Int) = ((a ||| b : Nat) : Int) := or_word ha hb
theorem or_step {a b k c : Nat} (hb : b < 2 ^ k) (hc : a * 2 ^ k = c) : b ||| c = c + b := by
  subst hc; rw [Nat.or_comm, or_add hb]
theorem or_bytes {x0 x1 x2 x3 : Nat} (h0 : x0 < 256) (h1 : x1 < 256) (h2 : x2 < 256) (h3 : x3 < 256) :
    bits .or .u32 (bits .or .u32 (bits .or .u32 (x0 : Int) ((x1 : Int) * 256 % 4294967296)) ((x2 : Int) * 65536 % 4294967296)) ((x3 : Int) * 16777216 % 4294967296) = ((x0 + 256 * x1 + 65536 * x2 + 16777216 * x3 : Nat) : Int) := by
  have e1 : ((x1 : Int) * 256 % 4294967296) = ((x1 * 256 : Nat) : Int) := by omega
  have e2 : ((x2 : Int) * 65536 % 4294967296) = ((x2 * 65536 : Nat) : Int) := by omega
  have e3 : ((x3 : Int) * 16777216 % 4294967296) = ((x3 * 16777216 : Nat) : Int) := by omega
  have s1 : x0 ||| x1 * 256 = x1 * 256 + x0 := or_step (a := x1) (k := 8) h0 rfl
  have s2 : (x1 * 256 + x0) ||| x2 * 65536 = x2 * 65536 + (x1 * 256 + x0) := or_step (a := x2) (k := 16) (by show _ < 65536; omega) rfl
  have s3 : (x2 * 65536 + (x1 * 256 + x0)) ||| x3 * 16777216 = x3 * 16777216 + (x2 * 65536 + (x1 * 256 + x0)) := or_step (a := x3) (k := 24) (by show _ < 16777216; omega) rfl
  have t1 := or_wordL (a := x0) (b := x1 * 256) (by omega) (by omega)
  have t2 := or_wordL (a := x1 * 256 + x0) (b := x2 * 65536) (by omega) (by omega)
  have t3 := or_wordL (a := x2 * 65536 + (x1 * 256 + x0)) (b := x3 * 16777216) (by omega) (by omega)
  rw [s1] at t1; rw [s2] at t2; rw [s3] at t3
  rw [e1, e2, e3, t1, t2, t3]
  omega

theorem word_any (b o c : Nat) (x0 x1 x2 x3 : Nat) (w : World) (h0 : w.cell? ⟨b, o, none⟩ = some (.int .u8 (x0 : Nat))) (h1 : w.cell? ⟨b, o + 1, none⟩ = some (.int .u8 (x1 : Nat))) (h2 : w.cell? ⟨b, o + 2, none⟩ = some (.int .u8 (x2 : Nat))) (h3 : w.cell? ⟨b, o + 3, none⟩ = some (.int .u8 (x3 : Nat)))
    (l0 : x0 < 256) (l1 : x1 < 256) (l2 : x2 < 256) (l3 : x3 < 256) :
    Calls Tryz.prog 285 #[.slice (some ⟨b, o, none⟩) 4 c] w fun e w' => e = .returned (.int .u32 (x0 + 256 * x1 + 65536 * x2 + 16777216 * x3 : Nat)) ∧ ∃ n, w' = w.drewN n := by
  have hr := hidp (or_bytes l0 l1 l2 l3)
  have s0 : (x0 : Int) % 4294967296 = x0 := by omega
  have s1 : (x1 : Int) % 4294967296 = x1 := by omega
  have s2 : (x2 : Int) % 4294967296 = x2 := by omega
  have s3 : (x3 : Int) % 4294967296 = x3 := by omega
  clear l0 l1 l2 l3
  go_enter Tryz.func285, Tryz.ntmps285
  go_wp2
  go_quiet (fail)
  go_wp2
  go_ret
  exact ⟨ret_int hr.out, _, rfl⟩

/-- The words of the first i fours of a block. -/
def partW (bl : List Nat) (i : Nat) : List Nat := (List.range 16).map fun j => if j < i then wordL bl j else 0
theorem partW_len (bl : List Nat) (i : Nat) : (partW bl i).length = 16 := by unfold partW; simp
theorem partW_zero (bl : List Nat) : partW bl 0 = List.replicate 16 0 := by unfold partW; rfl
theorem partW_all (bl : List Nat) : partW bl 16 = wordsL bl := by
  unfold partW wordsL
  apply List.map_congr_left
  intro j hj
  rw [if_pos (by simpa using hj)]
theorem partW_set (bl : List Nat) {i : Nat} (hi : i < 16) : (partW bl i).set i (wordL bl i) = partW bl (i + 1) := by
  apply List.ext_getElem?
  intro n
  unfold partW
  rw [List.getElem?_set]
  by_cases h : i = n
  · subst h; simp [hi]
  · simp only [h, if_false, List.getElem?_map]
    by_cases hn : n < 16
    · simp only [List.getElem?_range, hn, Option.map_some]
      by_cases h2 : n < i
      · rw [if_pos h2, if_pos (by omega)]
      · rw [if_neg h2, if_neg (by omega)]
    · rw [List.getElem?_eq_none (by simp; omega)]; rfl

theorem wvs_one (v : List Nat) : (wvs v).toArray.all (·.oneCell') = true := by
  rw [Array.all_eq_true_iff_forall_mem]
  intro x hx
  simp only [wvs, List.mem_toArray, List.mem_map] at hx
  obtain ⟨n, _, rfl⟩ := hx; rfl
theorem wvs_len (v : List Nat) : (wvs v).length = v.length := by unfold wvs; simp
theorem wordsL_len (b : List Nat) : (wordsL b).length = 16 := by unfold wordsL; simp

set_option maxHeartbeats 2000000 in
theorem wordsOf_any (g o : Nat) (bl : List Nat) (w : World) (hg : g < w.heap.size) (hb : Bytes 64 bl) (hw : BytesAt w g o bl) :
    Calls Tryz.prog 260 #[.pointer (some ⟨g, o, none⟩)] w fun e w' => e = .returned (.agg (wvs (wordsL bl)).toArray) ∧ Below w.heap.size w w' := by
  have HG := hidp hg
  have HB := hidp hb
  have HW := hidp hw
  clear hg hb hw
  go_enter Tryz.func260, Tryz.ntmps260
  go_wp2
  go_loopw [5] (fun x wr => ∃ i : Nat, i ≤ 16 ∧ x = .int .i64 i ∧ Hid (Blk wr (w.heap.size + 1) (wvs (partW bl i)) 261 ∧ Blk wr w.heap.size (wvs (List.replicate 16 0)) 261 ∧ Below w.heap.size w wr)) (fun x _ => 16 - (intOf x).toNat)
  case atStart =>
    refine ⟨0, by omega, rfl, ?_, ?_, by (repeat' (first | (with_reducible exact Below.refl _ _) | (with_reducible refine Below.alloc ?_ ?_ _) | (with_reducible refine Below.drew ?_) | (with_reducible refine Below.drewN ?_ _) | (with_reducible refine Below.setCell ?_ ?_ _) | go_size))⟩
    · rw [partW_zero]; exact Blk.new' _ (wvs (List.replicate 16 0)) _ _ (by simp)
    · exact (Blk.new w (wvs (List.replicate 16 0)) _).alloc _
  case round =>
    obtain ⟨i, hi, rfl, hr⟩ := hrel
    by_cases h : i < 16
    · have hsl := run_slice_arr (P := Tryz.prog) (t := 204) (e := 5) (n := 64) Tryz.underlying204 (by kernel_rfl) g o (l := 4 * i) (h := 4 * i + 4) (by omega) (by omega) (by omega)
      rw [show 4 * i + 4 - 4 * i = 4 by omega] at hsl
      have q : ∀ k, k < 64 → wr.cell? ⟨g, o + k, none⟩ = some (.int .u8 (bl.getD k 0 : Nat)) := fun k hk => (hr.out.2.2.cell (p := ⟨g, o + k, none⟩) HG.out).trans (HW.out k (HB.out.1.symm ▸ hk))
      have c0 := q (4 * i) (by omega)
      have c1 := q (4 * i + 1) (by omega)
      have c2 := q (4 * i + 2) (by omega)
      have c3 := q (4 * i + 3) (by omega)
      have HC := hidp (word_any g (o + 4 * i) (64 - 4 * i) _ _ _ _ wr c0 c1 c2 c3 (HB.out.get _) (HB.out.get _) (HB.out.get _) (HB.out.get _))
      clear q c0 c1 c2 c3
      have hlt : (i : Int) < 16 := by omega
      have hcell := (hr.out.1.cell i).trans (wvs_get (by rw [partW_len]; exact h))
      have hfree := hr.out.1.free i
      have hI := hidp h
      clear h
      simp only [Int.natCast_mul, Int.natCast_add, Int.cast_ofNat_Int] at hsl
      go_wp2_with (go_at_call 285; refine HC.out.mono ?_; rintro e w1 ⟨rfl, n, rfl⟩)
      refine ⟨⟨i + 1, by omega, by go_num, ?_, ?_, ?_⟩, by simp [intOf]; omega⟩
      · rw [← partW_set bl hI.out]
        exact wvs_set _ _ _ ▸ hr.out.1.set i _
      · exact (hr.out.2.1.drewN n).other _ _ (by simp)
      · exact (hr.out.2.2.drewN n).setCell (by simp) _
    · obtain rfl : i = 16 := by omega
      have b1 := hidp hr.out.1
      have b0 := hidp hr.out.2.1
      go_wp2_with (first | refine wpList_load_blk rfl 261 _ rfl _ _ _ rfl b1.out _ Tryz.underlying261 rfl (by rw [wvs_len, partW_len]; kernel_rfl) ?_ | (refine wpList_store_blk rfl 261 _ _ rfl _ _ _ _ rfl rfl b0.out (by rw [wvs_len, partW_len]; kernel_rfl) (by rw [wvs_len, wvs_len, partW_len]; rfl) (wvs_one _) ?_; intro w2 hw2))
      have b2 : Blk w2 w.heap.size (wvs (wordsL bl)) 261 := by rw [hw2.out, ← partW_all]; exact b0.out.row
      refine bodyPost_ret (v := .agg (wvs (wordsL bl)).toArray) ?_ rfl ⟨rfl, ?_⟩
      · exact results_cell_row Tryz.results260 _ _ w.heap.size 261 _ (0, 0) _ rfl b2 Tryz.underlying261 rfl (by rw [List.size_toArray, wvs_len, wordsL_len]; kernel_rfl)
      · rw [hw2.out]; exact below_setRow hr.out.2.2 (Nat.le_refl _) _
end Go.Proofs.YtcmkmnidnapabaaGreat

/-! He: Contracts: what a state counts; what rounds begin with. -/
namespace Go.Proofs.YtcmkmnidnapabaaGreat
open Go.RowKit

/-- The cells of a state. -/
def stL (sf : Value) (n : Nat) (h bl : List Nat) : List Value := sf :: .int .i64 (n : Nat) :: (wvs h ++ bvs bl)
theorem stL_1 (sf : Value) (n : Nat) (h bl : List Nat) : (stL sf n h bl)[1]? = some (.int .i64 (n : Nat)) := rfl
theorem stL_len (sf : Value) (n : Nat) (h bl : List Nat) : (stL sf n h bl).length = 2 + h.length + bl.length := by unfold stL; simp [wvs_len, bvs_len]; omega
theorem stL_h {sf : Value} {n : Nat} {h bl : List Nat} {i : Nat} (hi : i < h.length) : (stL sf n h bl)[2 + i]? = some (.int .u32 (h.getD i 0 : Nat)) := by
  rw [show 2 + i = i + 1 + 1 by omega]
  unfold stL
  rw [List.getElem?_cons_succ, List.getElem?_cons_succ, List.getElem?_append_left (by rw [wvs_len]; exact hi)]
  exact wvs_get hi
theorem stL_b {sf : Value} {n : Nat} {h bl : List Nat} (h8 : h.length = 8) {i : Nat} (hi : i < bl.length) : (stL sf n h bl)[10 + i]? = some (.int .u8 (bl.getD i 0 : Nat)) := by
  rw [show 10 + i = (8 + i) + 1 + 1 by omega]
  unfold stL
  rw [List.getElem?_cons_succ, List.getElem?_cons_succ, List.getElem?_append_right (by rw [wvs_len]; omega), wvs_len, h8, show 8 + i - 8 = i by omega]
  exact bvs_get hi
theorem stL_seth {sf : Value} {n : Nat} {h bl : List Nat} {i : Nat} (hi : i < h.length) (x : Nat) : (stL sf n h bl).set (2 + i) (.int .u32 (x : Nat)) = stL sf n (h.set i x) bl := by
  rw [show 2 + i = i + 1 + 1 by omega]
  unfold stL
  rw [List.set_cons_succ, List.set_cons_succ, List.set_append_left _ _ (by rw [wvs_len]; exact hi), wvs_set]

/-- A state lies in block g. -/
structure St (w : World) (g : Nat) (sf : Value) (n : Nat) (h bl : List Nat) : Prop where
  blk : Blk w g (stL sf n h bl) 206
  words : Words 8 h
  bytes : Bytes 64 bl
theorem St.lt {w : World} {g : Nat} {sf : Value} {n : Nat} {h bl : List Nat} (hs : St w g sf n h bl) : g < w.heap.size := hs.blk.lt
theorem St.c0 {w : World} {g : Nat} {sf : Value} {n : Nat} {h bl : List Nat} (hs : St w g sf n h bl) : w.cell? ⟨g, 0, none⟩ = some sf := (hs.blk.cell 0).trans rfl
theorem St.c1 {w : World} {g : Nat} {sf : Value} {n : Nat} {h bl : List Nat} (hs : St w g sf n h bl) : w.cell? ⟨g, 1, none⟩ = some (.int .i64 (n : Nat)) := (hs.blk.cell 1).trans rfl
theorem St.ch {w : World} {g : Nat} {sf : Value} {n : Nat} {h bl : List Nat} (hs : St w g sf n h bl) {i : Nat} (hi : i < 8) : w.cell? ⟨g, 2 + i, none⟩ = some (.int .u32 (h.getD i 0 : Nat)) := (hs.blk.cell _).trans (stL_h (hs.words.1.symm ▸ hi))
theorem St.cb {w : World} {g : Nat} {sf : Value} {n : Nat} {h bl : List Nat} (hs : St w g sf n h bl) : BytesAt w g 10 bl := fun i hi => (hs.blk.cell (10 + i)).trans (stL_b hs.words.1 hi)
theorem St.below {w w' : World} {g : Nat} {sf : Value} {n : Nat} {h bl : List Nat} (hs : St w g sf n h bl) (hB : Below w.heap.size w w') : St w' g sf n h bl := ⟨hs.blk.below hB hs.lt, hs.words, hs.bytes⟩
theorem St.drew {w : World} {g : Nat} {sf : Value} {n : Nat} {h bl : List Nat} (hs : St w g sf n h bl) : St w.drew g sf n h bl := ⟨hs.blk.drew, hs.words, hs.bytes⟩
theorem St.drewN {w : World} {g : Nat} {sf : Value} {n : Nat} {h bl : List Nat} (hs : St w g sf n h bl) (k : Nat) : St (w.drewN k) g sf n h bl := ⟨hs.blk.drewN k, hs.words, hs.bytes⟩
theorem St.alloc {w : World} {g : Nat} {sf : Value} {n : Nat} {h bl : List Nat} (hs : St w g sf n h bl) (o : Obj) : St (w.alloc o) g sf n h bl := ⟨hs.blk.alloc o, hs.words, hs.bytes⟩
theorem St.seth {w : World} {g : Nat} {sf : Value} {n : Nat} {h bl : List Nat} (hs : St w g sf n h bl) {i : Nat} (hi : i < 8) {x : Nat} (hx : x < W32) : St (w.setCell ⟨g, 2 + i, none⟩ (.int .u32 (x : Nat))) g sf n (h.set i x) bl :=
  ⟨stL_seth (hs.words.1.symm ▸ hi) x ▸ hs.blk.set _ _, hs.words.set i hx, hs.bytes⟩

/-! The counter. -/
def filledN (n : Nat) : Nat := if n = 0 then 0 else (n - 1) % 64 + 1
theorem filled_any (g n : Nat) (w : World) (hn : n ≤ 9223372036854775807) (hc : w.cell? ⟨g, 1, none⟩ = some (.int .i64 (n : Nat))) :
    Calls Tryz.prog 210 #[.pointer (some ⟨g, 1, none⟩)] w fun e w' => e = .returned (.int .i64 (filledN n : Nat)) ∧ w' = w := by
  by_cases h0 : n = 0
  · subst h0
    go_enter Tryz.func210, Tryz.ntmps210
    go_wp2
    go_ret
    exact ⟨rfl, rfl⟩
  · have hz : ((n : Int) == 0) = false := by rw [beq_eq_false_iff_ne]; omega
    have hN := hidp h0
    have h1 := hidp hn
    clear h0 hn
    go_enter Tryz.func210, Tryz.ntmps210
    go_wp2
    go_ret
    refine ⟨ret_int ?_, rfl⟩
    have h2 := hN.out
    have h3 := h1.out
    unfold filledN
    rw [if_neg h2, w64 ((n : Int) - 1) (by omega), Int.tmod_eq_emod_of_nonneg (by omega), w64 _ (by omega)]
    omega
theorem count_any (g n k : Nat) (w : World) (hn : n + k ≤ 9223372036854775807) (hc : w.cell? ⟨g, 1, none⟩ = some (.int .i64 (n : Nat))) (hf : w.frozen? ⟨g, 1, none⟩ = false) :
    Calls Tryz.prog 212 #[.pointer (some ⟨g, 1, none⟩), .int .i64 (k : Nat)] w fun e w' => e = .returned (.tuple #[]) ∧ w' = w.setCell ⟨g, 1, none⟩ (.int .i64 (n + k : Nat)) := by
  have hw : wrap64 ((n : Int) + k) = ((n + k : Nat) : Int) := by rw [w64 _ (by omega)]; omega
  go_enter Tryz.func212, Tryz.ntmps212
  go_wp2
  go_end0
  exact ⟨rfl, rfl⟩
theorem halves_any (g n : Nat) (w : World) (hn : n ≤ 9223372036854775807) (hc : w.cell? ⟨g, 1, none⟩ = some (.int .i64 (n : Nat))) :
    Calls Tryz.prog 284 #[.pointer (some ⟨g, 1, none⟩)] w fun e w' => e = .returned (.tuple #[.int .u32 (n % 4294967296 : Nat), .int .u32 (n / 4294967296 % 4294967296 : Nat)]) ∧ w' = w := by
  have hl : ((n % 4294967296 : Nat) : Int) = (n : Int) % 4294967296 := by omega
  have hh : ((n / 4294967296 % 4294967296 : Nat) : Int) = (n : Int) / 4294967296 := by omega
  rw [hl, hh]
  clear hl hh
  go_enter Tryz.func284, Tryz.ntmps284
  go_wp2
  exact bodyPost_ret (v := .tuple #[.int .u32 ((n : Int) % 4294967296), .int .u32 ((n : Int) / 4294967296)]) (by simp [results, Tryz.results284, go_sem]) rfl ⟨rfl, rfl⟩
theorem initial_any (w : World) :
    Calls Tryz.prog 209 #[] w fun e w' => e = .returned (.agg (wvs initL).toArray) ∧ Below w.heap.size w w' := by
  go_enter Tryz.func209, Tryz.ntmps209
  go_wp2
  refine bodyPost_ret (v := .agg (wvs initL).toArray) ?_ rfl ⟨rfl, by (repeat' (first | (with_reducible exact Below.refl _ _) | (with_reducible refine Below.alloc ?_ ?_ _) | (with_reducible refine Below.drew ?_) | (with_reducible refine Below.drewN ?_ _) | (with_reducible refine Below.setCell ?_ ?_ _) | go_size))⟩
  exact results_cell_row Tryz.results209 _ _ w.heap.size 203 _ (0, 0) _ rfl (Blk.new w (wvs initL) _) Tryz.underlying203 rfl (by kernel_rfl)

/-! Digits. -/
def hexV (c : Nat) : Nat := if 48 ≤ c ∧ c ≤ 57 then c - 48 else if 97 ≤ c ∧ c ≤ 102 then c - 87 else 16
theorem value_all (c : Nat) (w : World) :
    Calls Tryz.prog 261 #[.int .i32 (c : Nat)] w fun e w' => e = .returned (.tuple #[.int .u8 ((if hexV c < 16 then hexV c else 0 : Nat)), .bool (decide (hexV c < 16))]) ∧ w' = w := by
  by_cases h1 : 48 ≤ c ∧ c ≤ 57
  · have e : hexV c = c - 48 := by unfold hexV; rw [if_pos h1]
    have hlt : c - 48 < 16 := by omega
    rw [e, if_pos hlt, decide_eq_true hlt, show ((c - 48 : Nat) : Int) = (c : Int) - 48 by omega]
    have a1 : (48 : Int) ≤ c := by omega
    have a2 : (c : Int) ≤ 57 := by omega
    clear e hlt h1
    go_enter Tryz.func261, Tryz.ntmps261
    go_wp2
    exact bodyPost_ret (v := .tuple #[.int .u8 ((c : Int) - 48), .bool true]) (by simp [results, Tryz.results261, go_sem]) rfl ⟨rfl, rfl⟩
  · by_cases h2 : 97 ≤ c ∧ c ≤ 102
    · have e : hexV c = c - 87 := by unfold hexV; rw [if_neg h1, if_pos h2]
      have hlt : c - 87 < 16 := by omega
      rw [e, if_pos hlt, decide_eq_true hlt, show ((c - 87 : Nat) : Int) = (c : Int) - 97 + 10 by omega]
      have a1 : (97 : Int) ≤ c := by omega
      have a2 : (c : Int) ≤ 102 := by omega
      clear e hlt h1 h2
      go_enter Tryz.func261, Tryz.ntmps261
      go_wp2
      exact bodyPost_ret (v := .tuple #[.int .u8 ((c : Int) - 97 + 10), .bool true]) (by simp [results, Tryz.results261, go_sem]) rfl ⟨rfl, rfl⟩
    · have e : hexV c = 16 := by unfold hexV; rw [if_neg h1, if_neg h2]
      rw [e, if_neg (by decide), decide_eq_false (by decide)]
      clear e
      rcases (show c < 48 ∨ (57 < c ∧ c < 97) ∨ 102 < c by omega) with h | ⟨h, h'⟩ | h
      all_goals clear h1 h2
      all_goals go_enter Tryz.func261, Tryz.ntmps261
      all_goals go_wp2
      all_goals exact bodyPost_ret (v := .tuple #[.int .u8 0, .bool false]) (by simp [results, Tryz.results261, go_sem]) rfl ⟨rfl, rfl⟩
theorem value_any (c : Nat) (w : World) (_hc : c < 1114112) :
    Calls Tryz.prog 261 #[.int .i32 (c : Nat)] w fun e w' => e = .returned (.tuple #[.int .u8 ((if hexV c < 16 then hexV c else 0 : Nat)), .bool (decide (hexV c < 16))]) ∧ w' = w := value_all c w
end Go.Proofs.YtcmkmnidnapabaaGreat
