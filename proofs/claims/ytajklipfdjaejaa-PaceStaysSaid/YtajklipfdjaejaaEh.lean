/-
  Plain laws: the digits of base 16.
-/
import Derived.Laws.Bits64b
import Derived.Lib.SlBytesRow
import Derived.Lib.OwnBridge
namespace Go.Proofs.Ytajklipfdjaejaa
open Go.Lib Go.Sort

def hexC (d : Nat) : Nat := if d < 10 then 48 + d else 87 + d
def nib (n k : Nat) : Nat := n / 2 ^ (4 * (15 - k)) % 16
def hexL (n k : Nat) : List Nat := (List.range k).map fun i => hexC (nib n i)
def hexT (n : Nat) : ByteArray := ⟨((hexL n 16).map UInt8.ofNat).toArray⟩
theorem nib_lt (n k : Nat) : nib n k < 16 := Nat.mod_lt _ (by decide)
theorem hexL_succ (n k : Nat) : hexL n (k + 1) = hexL n k ++ [hexC (nib n k)] := by
  unfold hexL; rw [List.range_succ, List.map_append]; rfl
theorem hexL_len (n k : Nat) : (hexL n k).length = k := by unfold hexL; simp
theorem hexC_lt {d : Nat} (h : d < 16) : hexC d < 256 := by unfold hexC; split <;> omega
theorem hexL_lt (n k : Nat) : ∀ c ∈ hexL n k, c < 256 := by
  intro c hc
  obtain ⟨i, _, rfl⟩ := List.mem_map.1 hc
  exact hexC_lt (nib_lt _ _)
theorem nib_and (n k : Nat) (h : n < 18446744073709551616) : bits .and .u64 ((n : Int) / 2 ^ (4 * (15 - k))) 15 = ((nib n k : Nat) : Int) := by
  have h1 : n / 2 ^ (4 * (15 - k)) < 18446744073709551616 := Nat.lt_of_le_of_lt (Nat.div_le_self _ _) h
  have h2 := bits_and_u64_nat (n / 2 ^ (4 * (15 - k))) 15 h1 (by decide)
  have h3 : n / 2 ^ (4 * (15 - k)) &&& 15 = nib n k := Nat.and_two_pow_sub_one_eq_mod _ 4
  rw [h3] at h2
  rw [← h2, Int.natCast_ediv, Int.natCast_pow]; rfl
theorem hexT_size (n : Nat) : (hexT n).size = 16 := by
  show ((hexL n 16).map UInt8.ofNat).toArray.size = 16
  simp [hexL_len]
theorem hexT_row {w : World} {base g cap : Nat} {e : TypeId} {n : Nat} (h : w.ownsRow base e 1 (.slice (some ⟨g, 0, none⟩) 16 cap) 16 ((hexL n 16).map fun c : Nat => Value.int .u8 (c : Int))) : Bytes w g 0 (hexT n) := by
  obtain ⟨g', cap', he, _, _, _, _, hl, hH⟩ := holds_of_ownsRow (enc := fun c : Nat => Value.int .u8 (c : Int)) h (by simp)
  injection he with he _ _
  injection he with he
  injection he with he
  subst he
  intro i hi
  rw [hexT_size] at hi
  have hi2 : i < (hexL n 16).length := by rw [hexL_len]; exact hi
  have h1 := (hH i (by simpa using hi2)).1
  rw [h1]
  congr 1
  have h3 : (hexL n 16).toArray[i]! = (hexL n 16)[i] := by simp [getElem!_pos, hi2]
  rw [h3]
  have h4 : (hexT n)[i]'(by rw [hexT_size]; exact hi) = UInt8.ofNat ((hexL n 16)[i]) := by
    show (((hexL n 16).map UInt8.ofNat).toArray)[i]'(by simpa using hi2) = _
    simp
  rw [h4]
  have h5 : (hexL n 16)[i] < 256 := by
    exact hexL_lt n 16 _ (List.getElem_mem hi2)
  rw [UInt8.toNat_ofNat_of_lt' h5]
theorem hexT_one : hexT 4607182418800017408 = ⟨#[51, 102, 102, 48, 48, 48, 48, 48, 48, 48, 48, 48, 48, 48, 48, 48]⟩ := by decide +kernel
end Go.Proofs.Ytajklipfdjaejaa
