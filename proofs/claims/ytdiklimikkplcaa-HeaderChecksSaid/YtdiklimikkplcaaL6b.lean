/-
  Header: a header's cells; what Check tells.
-/
import Derived.Test.YtdiklimikkplcaaL6a
import Derived.LoopN
namespace Go.Proofs.Ytdiklimikkplcaa
open Go.RowKit Go.Lib

/-- A header: its chain's name, height, time, and four hashes. -/
structure Hdr where
  s : ByteArray
  h : Int
  t : Int
  p : List Nat
  v : List Nat
  n : List Nat
  a : List Nat
def hC (x : Hdr) : List Value := .string x.s :: .int .i64 x.h :: .int .i64 x.t :: (bvs x.p ++ (bvs x.v ++ (bvs x.n ++ bvs x.a)))
structure HdrOk (x : Hdr) : Prop where
  h : -9223372036854775808 ≤ x.h ∧ x.h ≤ 9223372036854775807
  t : -9223372036854775808 ≤ x.t ∧ x.t ≤ 9223372036854775807
  p : Bytes 32 x.p
  v : Bytes 32 x.v
  n : Bytes 32 x.n
  a : Bytes 32 x.a
theorem hC_len {x : Hdr} (hx : HdrOk x) : (hC x).length = 131 := by
  unfold hC
  simp [bvs_len, hx.p.1, hx.v.1, hx.n.1, hx.a.1]
theorem hC_0 (x : Hdr) : (hC x)[0]? = some (.string x.s) := rfl
theorem hC_1 (x : Hdr) : (hC x)[1]? = some (.int .i64 x.h) := rfl
theorem hC_2 (x : Hdr) : (hC x)[2]? = some (.int .i64 x.t) := rfl
theorem hC_one (x : Hdr) : (hC x).toArray.all (·.oneCell') = true := by
  rw [List.all_toArray, List.all_eq_true]
  intro y hy
  unfold hC at hy
  simp only [List.mem_cons, List.mem_append] at hy
  rcases hy with rfl | rfl | rfl | h | h | h | h
  · rfl
  · rfl
  · rfl
  all_goals exact bvs_oneL _ y h
def chk1 (x : Hdr) : Nat := if nmS x.s then 0 else 5
def inR (n a b : Int) : Nat := if n < a ∨ b < n then 3 else 0
def chkH (x : Hdr) : Nat := if chk1 x ≠ 0 then chk1 x else if inR x.h 1 1073741824 ≠ 0 then inR x.h 1 1073741824 else inR x.t 0 1099511627776

theorem within_any (n a b : Int) (w : World) :
    Calls Try.prog 163 #[.int .i64 n, .int .i64 a, .int .i64 b] w fun e w' => e = .returned (.int .i64 (inR n a b : Nat)) ∧ w' = w := by
  unfold inR
  by_cases h1 : n < a
  · rw [if_pos (.inl h1)]
    go_enter Try.func163, Try.ntmps163
    go_wp2
    go_ret
    exact ⟨rfl, rfl⟩
  · by_cases h2 : b < n
    · rw [if_pos (.inr h2)]
      go_enter Try.func163, Try.ntmps163
      go_wp2
      go_ret
      exact ⟨rfl, rfl⟩
    · rw [if_neg (by omega)]
      go_enter Try.func163, Try.ntmps163
      go_wp2
      go_ret
      exact ⟨rfl, rfl⟩
set_option maxRecDepth 100000 in
theorem checkHeight_any (x : Hdr) (w : World) :
    Calls Try.prog 106 #[.agg (hC x).toArray] w fun e w' => e = .returned (.int .i64 (inR x.h 1 1073741824 : Nat)) ∧ Below w.heap.size w w' := by
  have c1 := (Blk.new w (hC x) 68).cell 1
  rw [hC_1] at c1
  have hB := hidp ((Below.refl w.heap.size w).alloc (Nat.le_refl _) (.cells (hC x).toArray 68))
  go_enter Try.func106, Try.ntmps106
  go_wp2_with fail
  refine (within_any _ _ _ _).mono ?_
  rintro e w1 ⟨rfl, rfl⟩
  go_wp2
  go_ret
  exact ⟨rfl, hB.out⟩
set_option maxRecDepth 100000 in
theorem checkTime_any (x : Hdr) (w : World) :
    Calls Try.prog 107 #[.agg (hC x).toArray] w fun e w' => e = .returned (.int .i64 (inR x.t 0 1099511627776 : Nat)) ∧ Below w.heap.size w w' := by
  have c2 := (Blk.new w (hC x) 68).cell 2
  rw [hC_2] at c2
  have hB := hidp ((Below.refl w.heap.size w).alloc (Nat.le_refl _) (.cells (hC x).toArray 68))
  go_enter Try.func107, Try.ntmps107
  go_wp2_with fail
  refine (within_any _ _ _ _).mono ?_
  rintro e w1 ⟨rfl, rfl⟩
  go_wp2
  go_ret
  exact ⟨rfl, hB.out⟩
set_option maxRecDepth 100000 in
theorem checkChain_any (x : Hdr) (w : World) :
    Calls Try.prog 105 #[.agg (hC x).toArray] w fun e w' => e = .returned (.int .i64 (chk1 x : Nat)) ∧ Below w.heap.size w w' := by
  have c0 := (Blk.new w (hC x) 68).cell 0
  rw [hC_0] at c0
  have hB := hidp ((Below.refl w.heap.size w).alloc (Nat.le_refl _) (.cells (hC x).toArray 68))
  have HN := hidp (fun W => name_any x.s W)
  unfold chk1
  generalize nmS x.s = r at HN ⊢
  go_enter Try.func105, Try.ntmps105
  go_wp2_with fail
  refine (HN.out _).mono ?_
  rintro e w1 ⟨rfl, h1⟩
  have hB1 := hidp (hB.out.trans (h1.mono hB.out.size))
  clear h1 HN
  cases r
  · go_wp2
    go_ret
    exact ⟨rfl, hB1.out⟩
  · go_wp2
    go_ret
    exact ⟨rfl, hB1.out⟩
def fnsC : List Value := [.func (.func 105) #[] #[], .func (.func 106) #[] #[], .func (.func 107) #[] #[]]
set_option maxRecDepth 100000 in
set_option maxHeartbeats 1000000 in
theorem hcheck_any (x : Hdr) (hx : HdrOk x) (w : World) :
    Calls Try.prog 45 #[.agg (hC x).toArray] w fun e w' => e = .returned (.int .i64 (chkH x : Nat)) ∧ Below w.heap.size w w' := by
  have H1 := hidp (fun W => checkChain_any x W)
  have H2 := hidp (fun W => checkHeight_any x W)
  have H3 := hidp (fun W => checkTime_any x W)
  have hl := hidp (hC_len hx)
  unfold chkH
  generalize chk1 x = r1 at H1 ⊢
  generalize inR x.h 1 1073741824 = r2 at H2 ⊢
  generalize inR x.t 0 1099511627776 = r3 at H3 ⊢
  have hA := hidp (fun o : Obj => (Blk.new w (hC x) 68).alloc o)
  have hF := hidp (fun T : TypeId => Blk.new (w.alloc (.cells (hC x).toArray 68)) fnsC T)
  have hBB := hidp (fun o : Obj => ((Below.refl w.heap.size w).alloc (Nat.le_refl _) (.cells (hC x).toArray 68)).alloc (by simp) o)
  go_enter Try.func45, Try.ntmps45
  go_wp2_with fail
  refine wp_loop_rounds 4 ?_
  rw [rounds_succ]
  go_wp2_with (with_reducible refine (?_ : wpList _ _ _ _ _ _); refine wpList_load_blk rfl 68 _ rfl w.heap.size (hC x) 68 rfl (hA.out _) _ Try.underlying68 rfl (by rw [hl.out]; kernel_rfl) ?_)
  refine (H1.out _).mono ?_
  rintro e w1 ⟨rfl, hb⟩
  have K1 := hidp (hb.blk' (hA.out _))
  have F1 := hidp (show Blk w1 (w.heap.size + 1) fnsC 72 from by simpa using hb.blk' (hF.out 72))
  have B1 := hidp ((hBB.out _).trans (hb.mono (hBB.out _).size))
  clear hb
  by_cases h1 : r1 = 0
  case neg =>
    have ht : (((r1 : Nat) : Int) != 0) = true := by rw [bne_iff_ne]; omega
    go_wp2
    go_ret
    exact ⟨by simp, B1.out⟩
  subst h1
  have g1 := F1.out.cell 1
  rw [show fnsC[1]? = some _ from rfl] at g1
  go_wp2_with fail
  rw [rounds_succ]
  go_wp2_with (with_reducible refine (?_ : wpList _ _ _ _ _ _); refine wpList_load_blk rfl 68 _ rfl w.heap.size (hC x) 68 rfl K1.out _ Try.underlying68 rfl (by rw [hl.out]; kernel_rfl) ?_)
  refine (H2.out _).mono ?_
  rintro e w2 ⟨rfl, hb⟩
  have K2 := hidp (hb.blk' K1.out)
  have F2 := hidp (hb.blk' F1.out)
  have B2 := hidp (B1.out.trans (hb.mono B1.out.size))
  clear hb
  by_cases h2 : r2 = 0
  case neg =>
    have ht : (((r2 : Nat) : Int) != 0) = true := by rw [bne_iff_ne]; omega
    go_wp2
    go_ret
    exact ⟨by simp, B2.out⟩
  subst h2
  have g2 := F2.out.cell 2
  rw [show fnsC[2]? = some _ from rfl] at g2
  go_wp2_with fail
  rw [rounds_succ]
  go_wp2_with (with_reducible refine (?_ : wpList _ _ _ _ _ _); refine wpList_load_blk rfl 68 _ rfl w.heap.size (hC x) 68 rfl K2.out _ Try.underlying68 rfl (by rw [hl.out]; kernel_rfl) ?_)
  refine (H3.out _).mono ?_
  rintro e w3 ⟨rfl, hb⟩
  have K3 := hidp (hb.blk' K2.out)
  have F3 := hidp (hb.blk' F2.out)
  have B3 := hidp (B2.out.trans (hb.mono B2.out.size))
  clear hb
  by_cases h3 : r3 = 0
  case neg =>
    have ht : (((r3 : Nat) : Int) != 0) = true := by rw [bne_iff_ne]; omega
    go_wp2
    go_ret
    exact ⟨by simp, B3.out⟩
  subst h3
  go_wp2_with fail
  rw [rounds_succ]
  go_wp2
  go_ret
  exact ⟨by simp, B3.out⟩
end Go.Proofs.Ytdiklimikkplcaa
