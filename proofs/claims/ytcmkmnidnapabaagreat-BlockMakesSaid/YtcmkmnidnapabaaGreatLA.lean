/-
  Texts L6a, L6b, one behind the other.
-/
import Derived.Test.YtcmkmnidnapabaaGreatQe
import Derived.Laws.RangeAny
import Derived.LoopN

/-! L6a: Header: which text is a name; what Check tells. -/
namespace Go.Proofs.YtcmkmnidnapabaaGreat
open Go.RowKit Go.Lib

/-- A byte that a name may have. -/
def nmb (x : Nat) : Bool := decide (97 ≤ x ∧ x ≤ 122 ∨ 48 ≤ x ∧ x ≤ 57 ∨ x = 45)
/-- A text that is a name. -/
def nmA (s : ByteArray) : Bool := (strL s).all nmb
def nmS (s : ByteArray) : Bool := decide (1 ≤ s.size) && (decide (s.size ≤ 32) && nmA s)

set_option maxRecDepth 100000 in
theorem inName_any (x : Nat) (w : World) :
    Calls Tryz.prog 301 #[.int .i32 x] w fun e w' => e = .returned (.bool (nmb x)) ∧ w' = w := by
  have key : ∀ r : Bool, r = nmb x → (Calls Tryz.prog 301 #[.int .i32 x] w fun e w' => e = .returned (.bool r) ∧ w' = w) → Calls Tryz.prog 301 #[.int .i32 x] w fun e w' => e = .returned (.bool (nmb x)) ∧ w' = w := fun r h q => h ▸ q
  by_cases h1 : (97 : Int) ≤ (x : Int) <;> by_cases h2 : (x : Int) ≤ 122 <;> by_cases h3 : (48 : Int) ≤ (x : Int) <;> by_cases h4 : (x : Int) ≤ 57 <;> cases h5 : ((x : Int) == 45) <;> first
    | (exfalso; omega)
    | (exfalso; rw [beq_iff_eq] at h5; omega)
    | (refine key true (by unfold nmb; symm; apply decide_eq_true; first | omega | (rw [beq_iff_eq] at h5; omega)) ?_
       clear key
       go_enter Tryz.func301, Tryz.ntmps301
       go_wp2
       go_ret
       exact ⟨rfl, rfl⟩)
    | (refine key false (by unfold nmb; symm; apply decide_eq_false; rw [beq_eq_false_iff_ne] at h5; omega) ?_
       clear key
       go_enter Tryz.func301, Tryz.ntmps301
       go_wp2
       go_ret
       exact ⟨rfl, rfl⟩)
theorem decode_bnd (s : ByteArray) (pos : Nat) (h : pos < s.size) : (nmb (Utf8.decode s pos).1 = true → Utf8.decode s pos = ((s[pos]'h).toNat, 1)) ∧ nmb (s[pos]'h).toNat = nmb (Utf8.decode s pos).1 := by
  by_cases ha : (s[pos]'h).toNat < 128
  · rw [decode_ascii s pos h ha]; exact ⟨fun _ => rfl, rfl⟩
  · have q := decode_high s pos h (by omega)
    have e1 : nmb (Utf8.decode s pos).1 = false := by unfold nmb; apply decide_eq_false; omega
    have e2 : nmb (s[pos]'h).toNat = false := by unfold nmb; apply decide_eq_false; omega
    rw [e1, e2]
    exact ⟨fun h => by simp at h, rfl⟩
theorem strL_drop (s : ByteArray) (pos : Nat) (h : pos < s.size) : (strL s).drop pos = (s[pos]'h).toNat :: (strL s).drop (pos + 1) := by
  have hl : pos < (strL s).length := by rw [strL_len]; exact h
  rw [List.drop_eq_getElem_cons hl]
  congr 1
  show (s.data.toList.map (·.toNat))[pos]'(by rw [List.length_map]; exact h) = _
  rw [List.getElem_map]
  rfl
set_option maxRecDepth 100000 in
theorem only_any (s : ByteArray) (w : World) :
    Calls Tryz.prog 300 #[.string s, .func (.func 301) #[] #[]] w fun e w' => e = .returned (.bool (nmA s)) ∧ Below w.heap.size w w' := by
  go_enter Tryz.func300, Tryz.ntmps300
  go_wp2
  go_loopw [] (fun w' => ∃ pos : Nat, w' = w.iter s pos ∧ pos ≤ s.size ∧ nmA s = ((strL s).drop pos).all nmb) (fun w' => s.size - w'.iterPos w.heap.size)
  case atStart => exact ⟨0, rfl, Nat.zero_le _, rfl⟩
  case round =>
    obtain ⟨pos, rfl, hle, hc⟩ := hrel
    have hB := hidp (fun p => (Below.refl w.heap.size w).alloc (Nat.le_refl _) (.stringIter s p))
    by_cases hp : pos < s.size
    · have hnx : ∀ ty, (Instr.next (.pointer (some ⟨w.heap.size, 0, none⟩)) true ty).run Tryz.prog (w.iter s pos) = _ := fun ty => run_next_any w s pos ty hp
      obtain ⟨k1, k2⟩ := decode_bnd s pos hp
      have hd := strL_drop s pos hp
      obtain ⟨r, hr⟩ : ∃ r, r = (Utf8.decode s pos).1 := ⟨_, rfl⟩
      obtain ⟨n, hn⟩ : ∃ n, n = (Utf8.decode s pos).2 := ⟨_, rfl⟩
      rw [← hr] at k1 k2
      simp only [← hr, ← hn] at hnx
      have k1' := hidp k1
      have k2' := hidp k2
      have hd' := hidp hd
      have hc' := hidp hc
      have hrr := hidp hr
      have hnn := hidp hn
      clear k1 k2 hd hc hr hn
      go_wp2_with fail
      refine (inName_any r _).mono ?_
      rintro e w1 ⟨rfl, rfl⟩
      cases hb : nmb r
      · go_wp2
        go_ret
        refine ⟨ret_bool ?_, hB.out _⟩
        rw [hc'.out, hd'.out, List.all_cons, k2'.out, hb, Bool.false_and]
      · have e1 := k1'.out hb
        go_wp2
        go_roundw
        case rel =>
          have e2 : n = 1 := by rw [hnn.out, e1]
          refine ⟨pos + n, rfl, by omega, ?_⟩
          rw [hc'.out, hd'.out, List.all_cons, k2'.out, hb, Bool.true_and, e2]
        case measure =>
          have e2 : n = 1 := by rw [hnn.out, e1]
          simp
          omega
    · have hnx : ∀ ty, (Instr.next (.pointer (some ⟨w.heap.size, 0, none⟩)) true ty).run Tryz.prog (w.iter s pos) = _ := fun ty => run_next_end w s pos ty hp
      have e3 : (strL s).drop pos = [] := List.drop_eq_nil_of_le (by rw [strL_len]; omega)
      rw [e3] at hc
      have hc' := hidp hc
      clear hc e3
      go_wp2
      go_ret
      exact ⟨ret_bool hc'.out.symm, hB.out _⟩
set_option maxRecDepth 100000 in
theorem name_any (s : ByteArray) (w : World) :
    Calls Tryz.prog 276 #[.string s] w fun e w' => e = .returned (.bool (nmS s)) ∧ Below w.heap.size w w' := by
  obtain ⟨a, ha⟩ : ∃ a, a = nmA s := ⟨_, rfl⟩
  have HO := only_any s w
  rw [← ha] at HO
  have HO := hidp HO
  by_cases h1 : (1 : Int) ≤ (s.size : Int)
  · by_cases h2 : (s.size : Int) ≤ 32
    · have e : nmS s = a := by unfold nmS; rw [decide_eq_true (by omega), decide_eq_true (by omega), ← ha]; rfl
      rw [e]
      clear ha e
      go_enter Tryz.func276, Tryz.ntmps276
      go_wp2_with (go_at_call 300; refine HO.out.mono ?_; rintro e w1 ⟨rfl, hB⟩; have hBB := hidp hB; clear hB)
      go_ret
      exact ⟨rfl, hBB.out⟩
    · have e : nmS s = false := by unfold nmS; rw [decide_eq_true (by omega), decide_eq_false (by omega)]; rfl
      rw [e]
      clear ha e HO
      go_enter Tryz.func276, Tryz.ntmps276
      go_wp2
      go_ret
      exact ⟨rfl, Below.refl _ _⟩
  · have e : nmS s = false := by unfold nmS; rw [decide_eq_false (by omega)]; rfl
    rw [e]
    clear ha e HO
    go_enter Tryz.func276, Tryz.ntmps276
    go_wp2
    go_ret
    exact ⟨rfl, Below.refl _ _⟩
end Go.Proofs.YtcmkmnidnapabaaGreat

/-! L6b: Header: a header's cells; what Check tells. -/
namespace Go.Proofs.YtcmkmnidnapabaaGreat
open Go.RowKit Go.Lib

/-- A header: its chain's name, height, time, and four hashes. -/
structure Hdr where
  s : ByteArray
  h : Int
  t : Int
  p : List Nat
  v : List Nat
  n : List Nat
  a : List Nat
def hC (x : Hdr) : List Value := .string x.s :: .int .i64 x.h :: .int .i64 x.t :: (bvs x.p ++ (bvs x.v ++ (bvs x.n ++ bvs x.a)))
structure HdrOk (x : Hdr) : Prop where
  h : -9223372036854775808 ≤ x.h ∧ x.h ≤ 9223372036854775807
  t : -9223372036854775808 ≤ x.t ∧ x.t ≤ 9223372036854775807
  p : Bytes 32 x.p
  v : Bytes 32 x.v
  n : Bytes 32 x.n
  a : Bytes 32 x.a
theorem hC_len {x : Hdr} (hx : HdrOk x) : (hC x).length = 131 := by
  unfold hC
  simp [bvs_len, hx.p.1, hx.v.1, hx.n.1, hx.a.1]
theorem hC_0 (x : Hdr) : (hC x)[0]? = some (.string x.s) := rfl
theorem hC_1 (x : Hdr) : (hC x)[1]? = some (.int .i64 x.h) := rfl
theorem hC_2 (x : Hdr) : (hC x)[2]? = some (.int .i64 x.t) := rfl
theorem hC_one (x : Hdr) : (hC x).toArray.all (·.oneCell') = true := by
  rw [List.all_toArray, List.all_eq_true]
  intro y hy
  unfold hC at hy
  simp only [List.mem_cons, List.mem_append] at hy
  rcases hy with rfl | rfl | rfl | h | h | h | h
  · rfl
  · rfl
  · rfl
  all_goals exact bvs_oneL _ y h
def chk1 (x : Hdr) : Nat := if nmS x.s then 0 else 5
def inR (n a b : Int) : Nat := if n < a ∨ b < n then 3 else 0
def chkH (x : Hdr) : Nat := if chk1 x ≠ 0 then chk1 x else if inR x.h 1 1073741824 ≠ 0 then inR x.h 1 1073741824 else inR x.t 0 1099511627776

theorem within_any (n a b : Int) (w : World) :
    Calls Tryz.prog 277 #[.int .i64 n, .int .i64 a, .int .i64 b] w fun e w' => e = .returned (.int .i64 (inR n a b : Nat)) ∧ w' = w := by
  unfold inR
  by_cases h1 : n < a
  · rw [if_pos (.inl h1)]
    go_enter Tryz.func277, Tryz.ntmps277
    go_wp2
    go_ret
    exact ⟨rfl, rfl⟩
  · by_cases h2 : b < n
    · rw [if_pos (.inr h2)]
      go_enter Tryz.func277, Tryz.ntmps277
      go_wp2
      go_ret
      exact ⟨rfl, rfl⟩
    · rw [if_neg (by omega)]
      go_enter Tryz.func277, Tryz.ntmps277
      go_wp2
      go_ret
      exact ⟨rfl, rfl⟩
set_option maxRecDepth 100000 in
theorem checkHeight_any (x : Hdr) (w : World) :
    Calls Tryz.prog 238 #[.agg (hC x).toArray] w fun e w' => e = .returned (.int .i64 (inR x.h 1 1073741824 : Nat)) ∧ Below w.heap.size w w' := by
  have c1 := (Blk.new w (hC x) 79).cell 1
  rw [hC_1] at c1
  have hB := hidp ((Below.refl w.heap.size w).alloc (Nat.le_refl _) (.cells (hC x).toArray 79))
  go_enter Tryz.func238, Tryz.ntmps238
  go_wp2_with fail
  refine (within_any _ _ _ _).mono ?_
  rintro e w1 ⟨rfl, rfl⟩
  go_wp2
  go_ret
  exact ⟨rfl, hB.out⟩
set_option maxRecDepth 100000 in
theorem checkTime_any (x : Hdr) (w : World) :
    Calls Tryz.prog 239 #[.agg (hC x).toArray] w fun e w' => e = .returned (.int .i64 (inR x.t 0 1099511627776 : Nat)) ∧ Below w.heap.size w w' := by
  have c2 := (Blk.new w (hC x) 79).cell 2
  rw [hC_2] at c2
  have hB := hidp ((Below.refl w.heap.size w).alloc (Nat.le_refl _) (.cells (hC x).toArray 79))
  go_enter Tryz.func239, Tryz.ntmps239
  go_wp2_with fail
  refine (within_any _ _ _ _).mono ?_
  rintro e w1 ⟨rfl, rfl⟩
  go_wp2
  go_ret
  exact ⟨rfl, hB.out⟩
set_option maxRecDepth 100000 in
theorem checkChain_any (x : Hdr) (w : World) :
    Calls Tryz.prog 237 #[.agg (hC x).toArray] w fun e w' => e = .returned (.int .i64 (chk1 x : Nat)) ∧ Below w.heap.size w w' := by
  have c0 := (Blk.new w (hC x) 79).cell 0
  rw [hC_0] at c0
  have hB := hidp ((Below.refl w.heap.size w).alloc (Nat.le_refl _) (.cells (hC x).toArray 79))
  have HN := hidp (fun W => name_any x.s W)
  unfold chk1
  generalize nmS x.s = r at HN ⊢
  go_enter Tryz.func237, Tryz.ntmps237
  go_wp2_with fail
  refine (HN.out _).mono ?_
  rintro e w1 ⟨rfl, h1⟩
  have hB1 := hidp (hB.out.trans (h1.mono hB.out.size))
  clear h1 HN
  cases r
  · go_wp2
    go_ret
    exact ⟨rfl, hB1.out⟩
  · go_wp2
    go_ret
    exact ⟨rfl, hB1.out⟩
def fnsC : List Value := [.func (.func 237) #[] #[], .func (.func 238) #[] #[], .func (.func 239) #[] #[]]
set_option maxRecDepth 100000 in
set_option maxHeartbeats 1000000 in
theorem hcheck_any (x : Hdr) (hx : HdrOk x) (w : World) :
    Calls Tryz.prog 178 #[.agg (hC x).toArray] w fun e w' => e = .returned (.int .i64 (chkH x : Nat)) ∧ Below w.heap.size w w' := by
  have H1 := hidp (fun W => checkChain_any x W)
  have H2 := hidp (fun W => checkHeight_any x W)
  have H3 := hidp (fun W => checkTime_any x W)
  have hl := hidp (hC_len hx)
  unfold chkH
  generalize chk1 x = r1 at H1 ⊢
  generalize inR x.h 1 1073741824 = r2 at H2 ⊢
  generalize inR x.t 0 1099511627776 = r3 at H3 ⊢
  have hA := hidp (fun o : Obj => (Blk.new w (hC x) 79).alloc o)
  have hF := hidp (fun T : TypeId => Blk.new (w.alloc (.cells (hC x).toArray 79)) fnsC T)
  have hBB := hidp (fun o : Obj => ((Below.refl w.heap.size w).alloc (Nat.le_refl _) (.cells (hC x).toArray 79)).alloc (by simp) o)
  go_enter Tryz.func178, Tryz.ntmps178
  go_wp2_with fail
  refine wp_loop_rounds 4 ?_
  rw [rounds_succ]
  go_wp2_with (with_reducible refine (?_ : wpList _ _ _ _ _ _); refine wpList_load_blk rfl 79 _ rfl w.heap.size (hC x) 79 rfl (hA.out _) _ Tryz.underlying79 rfl (by rw [hl.out]; kernel_rfl) ?_)
  refine (H1.out _).mono ?_
  rintro e w1 ⟨rfl, hb⟩
  have K1 := hidp (hb.blk' (hA.out _))
  have F1 := hidp (show Blk w1 (w.heap.size + 1) fnsC 233 from by simpa using hb.blk' (hF.out 233))
  have B1 := hidp ((hBB.out _).trans (hb.mono (hBB.out _).size))
  clear hb
  by_cases h1 : r1 = 0
  case neg =>
    have ht : (((r1 : Nat) : Int) != 0) = true := by rw [bne_iff_ne]; omega
    go_wp2
    go_ret
    exact ⟨by simp, B1.out⟩
  subst h1
  have g1 := F1.out.cell 1
  rw [show fnsC[1]? = some _ from rfl] at g1
  go_wp2_with fail
  rw [rounds_succ]
  go_wp2_with (with_reducible refine (?_ : wpList _ _ _ _ _ _); refine wpList_load_blk rfl 79 _ rfl w.heap.size (hC x) 79 rfl K1.out _ Tryz.underlying79 rfl (by rw [hl.out]; kernel_rfl) ?_)
  refine (H2.out _).mono ?_
  rintro e w2 ⟨rfl, hb⟩
  have K2 := hidp (hb.blk' K1.out)
  have F2 := hidp (hb.blk' F1.out)
  have B2 := hidp (B1.out.trans (hb.mono B1.out.size))
  clear hb
  by_cases h2 : r2 = 0
  case neg =>
    have ht : (((r2 : Nat) : Int) != 0) = true := by rw [bne_iff_ne]; omega
    go_wp2
    go_ret
    exact ⟨by simp, B2.out⟩
  subst h2
  have g2 := F2.out.cell 2
  rw [show fnsC[2]? = some _ from rfl] at g2
  go_wp2_with fail
  rw [rounds_succ]
  go_wp2_with (with_reducible refine (?_ : wpList _ _ _ _ _ _); refine wpList_load_blk rfl 79 _ rfl w.heap.size (hC x) 79 rfl K2.out _ Tryz.underlying79 rfl (by rw [hl.out]; kernel_rfl) ?_)
  refine (H3.out _).mono ?_
  rintro e w3 ⟨rfl, hb⟩
  have K3 := hidp (hb.blk' K2.out)
  have F3 := hidp (hb.blk' F2.out)
  have B3 := hidp (B2.out.trans (hb.mono B2.out.size))
  clear hb
  by_cases h3 : r3 = 0
  case neg =>
    have ht : (((r3 : Nat) : Int) != 0) = true := by rw [bne_iff_ne]; omega
    go_wp2
    go_ret
    exact ⟨by simp, B3.out⟩
  subst h3
  go_wp2_with fail
  rw [rounds_succ]
  go_wp2
  go_ret
  exact ⟨by simp, B3.out⟩
end Go.Proofs.YtcmkmnidnapabaaGreat
