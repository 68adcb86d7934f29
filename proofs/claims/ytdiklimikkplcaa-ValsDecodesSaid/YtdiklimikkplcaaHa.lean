/-
  Plain: hashes of bytes over lists of natural numbers: BLAKE2s, 32 bytes, no key.
-/
namespace Go.Proofs.Ytdiklimikkplcaa

def addW (x y : Nat) : Nat := (x + y) % 4294967296
def xorW (x y : Nat) : Nat := x ^^^ y
/-- The lowest n bits moved to the top. -/
def rotW (x n : Nat) : Nat := x / 2 ^ n + x % 2 ^ n * 2 ^ (32 - n)

/-- The four words behind mixing. -/
def gA1 (a b x : Nat) : Nat := addW (addW a b) x
def gD1 (a b d x : Nat) : Nat := rotW (xorW d (gA1 a b x)) 16
def gC1 (a b c d x : Nat) : Nat := addW c (gD1 a b d x)
def gB1 (a b c d x : Nat) : Nat := rotW (xorW b (gC1 a b c d x)) 12
def gA2 (a b c d x y : Nat) : Nat := addW (addW (gA1 a b x) (gB1 a b c d x)) y
def gD2 (a b c d x y : Nat) : Nat := rotW (xorW (gD1 a b d x) (gA2 a b c d x y)) 8
def gC2 (a b c d x y : Nat) : Nat := addW (gC1 a b c d x) (gD2 a b c d x y)
def gB2 (a b c d x y : Nat) : Nat := rotW (xorW (gB1 a b c d x) (gC2 a b c d x y)) 7

/-- Mixing at four places of a list of words. -/
def mixL (v : List Nat) (i j k l x y : Nat) : List Nat :=
  let a := v.getD i 0; let b := v.getD j 0; let c := v.getD k 0; let d := v.getD l 0
  (((v.set i (gA2 a b c d x y)).set j (gB2 a b c d x y)).set k (gC2 a b c d x y)).set l (gD2 a b c d x y)

/-- A round: m are the words in the row's order. -/
def roundL (v m : List Nat) : List Nat :=
  let v := mixL v 0 4 8 12 (m.getD 0 0) (m.getD 1 0)
  let v := mixL v 1 5 9 13 (m.getD 2 0) (m.getD 3 0)
  let v := mixL v 2 6 10 14 (m.getD 4 0) (m.getD 5 0)
  let v := mixL v 3 7 11 15 (m.getD 6 0) (m.getD 7 0)
  let v := mixL v 0 5 10 15 (m.getD 8 0) (m.getD 9 0)
  let v := mixL v 1 6 11 12 (m.getD 10 0) (m.getD 11 0)
  let v := mixL v 2 7 8 13 (m.getD 12 0) (m.getD 13 0)
  mixL v 3 4 9 14 (m.getD 14 0) (m.getD 15 0)

/-- The table, row by row. -/
def tabL : List Nat :=
  [0, 1, 2, 3, 4, 5, 6, 7, 8, 9, 10, 11, 12, 13, 14, 15,
   14, 10, 4, 8, 9, 15, 13, 6, 1, 12, 0, 2, 11, 7, 5, 3,
   11, 8, 12, 0, 5, 2, 15, 13, 10, 14, 3, 6, 7, 1, 9, 4,
   7, 9, 3, 1, 13, 12, 11, 14, 2, 6, 5, 10, 4, 0, 15, 8,
   9, 0, 5, 7, 2, 4, 10, 15, 14, 1, 11, 12, 6, 8, 3, 13,
   2, 12, 6, 10, 0, 11, 8, 3, 4, 13, 7, 5, 15, 14, 1, 9,
   12, 5, 1, 15, 14, 13, 4, 10, 0, 7, 6, 3, 9, 2, 8, 11,
   13, 11, 7, 14, 12, 1, 3, 9, 5, 0, 15, 4, 8, 6, 2, 10,
   6, 15, 14, 9, 11, 3, 0, 8, 12, 2, 13, 7, 1, 4, 10, 5,
   10, 2, 8, 4, 7, 6, 1, 5, 15, 11, 9, 14, 3, 12, 13, 0]
/-- Row r. -/
def rowL (r : Nat) : List Nat := (tabL.drop (16 * r)).take 16
/-- The words of a block in the order of row r. -/
def pickL (m : List Nat) (r : Nat) : List Nat := (rowL r).map fun i => m.getD i 0
/-- r rounds. -/
def roundsL (v m : List Nat) : Nat → List Nat
  | 0 => v
  | r + 1 => roundL (roundsL v m r) (pickL m r)

def initL : List Nat := [0x6a09e667, 0xbb67ae85, 0x3c6ef372, 0xa54ff53a, 0x510e527f, 0x9b05688c, 0x1f83d9ab, 0x5be0cd19]
/-- The words that the rounds begin with; t bytes so far; the mark of the last block. -/
def beginL (h : List Nat) (t mark : Nat) : List Nat :=
  h ++ [0x6a09e667, 0xbb67ae85, 0x3c6ef372, 0xa54ff53a, xorW 0x510e527f (t % 4294967296), xorW 0x9b05688c (t / 4294967296 % 4294967296), xorW 0x1f83d9ab mark, 0x5be0cd19]
/-- A block of 16 words put into the eight. -/
def blockL (h m : List Nat) (t mark : Nat) : List Nat :=
  let v := roundsL (beginL h t mark) m 10
  (List.range 8).map fun i => xorW (xorW (h.getD i 0) (v.getD i 0)) (v.getD (i + 8) 0)
/-- The word of four bytes, the lowest one first. -/
def wordL (b : List Nat) (i : Nat) : Nat := b.getD (4 * i) 0 + 256 * b.getD (4 * i + 1) 0 + 65536 * b.getD (4 * i + 2) 0 + 16777216 * b.getD (4 * i + 3) 0
/-- The words of a block of bytes; what isn't there is 0. -/
def wordsL (b : List Nat) : List Nat := (List.range 16).map (wordL b)
def startL : List Nat := [0x6b08e647, 0xbb67ae85, 0x3c6ef372, 0xa54ff53a, 0x510e527f, 0x9b05688c, 0x1f83d9ab, 0x5be0cd19]
/-- The eight words behind k whole blocks of b. -/
def fullL (b : List Nat) : Nat → List Nat
  | 0 => startL
  | k + 1 => blockL (fullL b k) (wordsL ((b.drop (64 * k)).take 64)) (64 * (k + 1)) 0
/-- How many whole blocks lie ahead of the last one. -/
def aheadL (n : Nat) : Nat := (n - 1) / 64
def lastL (b : List Nat) : List Nat :=
  blockL (fullL b (aheadL b.length)) (wordsL (b.drop (64 * aheadL b.length))) b.length 0xffffffff
/-- The bytes of words, the lowest one first. -/
def bytesL (h : List Nat) : List Nat := (List.range 32).map fun i => h.getD (i / 4) 0 / 256 ^ (i % 4) % 256
def hashL (b : List Nat) : List Nat := bytesL (lastL b)

theorem hash_none : hashL [] = [0x69, 0x21, 0x7a, 0x30, 0x79, 0x90, 0x80, 0x94, 0xe1, 0x11, 0x21, 0xd0, 0x42, 0x35, 0x4a, 0x7c, 0x1f, 0x55, 0xb6, 0x48, 0x2c, 0xa1, 0xa5, 0x1e, 0x1b, 0x25, 0x0d, 0xfd, 0x1e, 0xd0, 0xee, 0xf9] := by decide +kernel
theorem hash_abc : hashL [97, 98, 99] = [0x50, 0x8c, 0x5e, 0x8c, 0x32, 0x7c, 0x14, 0xe2, 0xe1, 0xa7, 0x2b, 0xa3, 0x4e, 0xeb, 0x45, 0x2f, 0x37, 0x45, 0x8b, 0x20, 0x9e, 0xd6, 0x3a, 0x29, 0x4d, 0x99, 0x9b, 0x4c, 0x86, 0x67, 0x59, 0x82] := by decide +kernel

/-! Words are below 2^32; lists keep their length. -/
def W32 : Nat := 4294967296
theorem addW_lt (x y : Nat) : addW x y < W32 := Nat.mod_lt _ (by decide)
theorem xorW_lt {x y : Nat} (hx : x < W32) (hy : y < W32) : xorW x y < W32 := Nat.xor_lt_two_pow (n := 32) hx hy
theorem rotW_lt {x : Nat} (hx : x < W32) {n : Nat} (hn : n ≤ 32) : rotW x n < W32 := by
  unfold rotW W32 at *
  have h1 : (2 : Nat) ^ n * 2 ^ (32 - n) = 4294967296 := by rw [← Nat.pow_add, show n + (32 - n) = 32 by omega]
  have hp : 0 < (2 : Nat) ^ n := Nat.pow_pos (by decide)
  have hq : 0 < (2 : Nat) ^ (32 - n) := Nat.pow_pos (by decide)
  have h2 : x / 2 ^ n < 2 ^ (32 - n) := by rw [Nat.div_lt_iff_lt_mul hp, Nat.mul_comm, h1]; exact hx
  have h3 : x % 2 ^ n < 2 ^ n := Nat.mod_lt _ hp
  have h4 : (x % 2 ^ n + 1) * 2 ^ (32 - n) ≤ 2 ^ n * 2 ^ (32 - n) := Nat.mul_le_mul_right _ h3
  rw [h1, Nat.add_mul] at h4
  omega
theorem gA1_lt (a b x : Nat) : gA1 a b x < W32 := addW_lt _ _
theorem gD1_lt {d : Nat} (a b x : Nat) (hd : d < W32) : gD1 a b d x < W32 := rotW_lt (xorW_lt hd (gA1_lt a b x)) (by decide)
theorem gC1_lt (a b c d x : Nat) : gC1 a b c d x < W32 := addW_lt _ _
theorem gB1_lt {b : Nat} (a c d x : Nat) (hb : b < W32) : gB1 a b c d x < W32 := rotW_lt (xorW_lt hb (gC1_lt a b c d x)) (by decide)
theorem gA2_lt (a b c d x y : Nat) : gA2 a b c d x y < W32 := addW_lt _ _
theorem gD2_lt {d : Nat} (a b c x y : Nat) (hd : d < W32) : gD2 a b c d x y < W32 := rotW_lt (xorW_lt (gD1_lt a b x hd) (gA2_lt a b c d x y)) (by decide)
theorem gC2_lt (a b c d x y : Nat) : gC2 a b c d x y < W32 := addW_lt _ _
theorem gB2_lt {b : Nat} (a c d x y : Nat) (hb : b < W32) : gB2 a b c d x y < W32 := rotW_lt (xorW_lt (gB1_lt a c d x hb) (gC2_lt a b c d x y)) (by decide)

/-- All are words. -/
def Words (n : Nat) (v : List Nat) : Prop := v.length = n ∧ ∀ x ∈ v, x < W32
theorem Words.get {n : Nat} {v : List Nat} (h : Words n v) (i : Nat) : v.getD i 0 < W32 := by
  rw [List.getD_eq_getElem?_getD]
  cases hi : v[i]? with
  | none => show 0 < W32; decide
  | some x => exact h.2 x (List.mem_of_getElem? hi)
theorem Words.set {n : Nat} {v : List Nat} (h : Words n v) (i : Nat) {x : Nat} (hx : x < W32) : Words n (v.set i x) := by
  refine ⟨by rw [List.length_set]; exact h.1, fun y hy => ?_⟩
  rcases List.mem_or_eq_of_mem_set hy with hy | rfl
  · exact h.2 y hy
  · exact hx
theorem mixL_words {n : Nat} {v : List Nat} (h : Words n v) (i j k l x y : Nat) : Words n (mixL v i j k l x y) := by
  unfold mixL
  exact (((h.set i (gA2_lt _ _ _ _ _ _)).set j (gB2_lt _ _ _ _ _ (h.get j))).set k (gC2_lt _ _ _ _ _ _)).set l (gD2_lt _ _ _ _ _ (h.get l))
theorem roundL_words {n : Nat} {v : List Nat} (h : Words n v) (m : List Nat) : Words n (roundL v m) := by
  unfold roundL
  exact mixL_words (mixL_words (mixL_words (mixL_words (mixL_words (mixL_words (mixL_words (mixL_words h _ _ _ _ _ _) _ _ _ _ _ _) _ _ _ _ _ _) _ _ _ _ _ _) _ _ _ _ _ _) _ _ _ _ _ _) _ _ _ _ _ _) _ _ _ _ _ _
theorem roundsL_words {n : Nat} {v : List Nat} (h : Words n v) (m : List Nat) : ∀ r, Words n (roundsL v m r)
  | 0 => h
  | r + 1 => roundL_words (roundsL_words h m r) _
end Go.Proofs.Ytdiklimikkplcaa
