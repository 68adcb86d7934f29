/-
  Commit: its bytes.
-/
import Derived.Test.YtcmkmnidnapabaaGreatTB
import Derived.Test.YtcmkmnidnapabaaGreatUb
namespace Go.Proofs.YtcmkmnidnapabaaGreat
open Go.RowKit Go.Lib
set_option linter.unusedSimpArgs false

/-- One vote's bytes, and a commit's. -/
def tB (v : Vt) : List Nat := nB v.a.toNat ++ wordB v.s
def encC (h : Int) (p : List Nat) (l : List Vt) : List Nat := nB h.toNat ++ p ++ nB l.length ++ l.flatMap tB
theorem tB_len (v : Vt) : (tB v).length ≤ 17 := by
  unfold tB
  rw [List.length_append, nB_len, wordB_len]
  have := dg_le v.a.toNat
  omega
theorem flatB_len : ∀ l : List Vt, (l.flatMap tB).length ≤ 17 * l.length
  | [] => by simp
  | v :: l => by
    have := flatB_len l
    have := tB_len v
    simp only [List.flatMap_cons, List.length_append, List.length_cons]
    omega
/-- A writer under way, beside the commit that it writes. -/
structure CEnc (w wr : World) (g : Nat) (cs : List Value) (v : Value) (X : List Nat) : Prop where
  wri : Wr wr g 1048576 v X 0
  kc : Blk wr w.heap.size cs 82
  bel : Below w.heap.size w wr
  hA : w.heap.size < g
theorem CEnc.put {w wr wa w1 : World} {g : Nat} {cs : List Value} {v v1 : Value} {X Y : List Nat} (H : CEnc w wr g cs v X) (ha : Below wr.heap.size wr wa) (h1 : Wr w1 g 1048576 v1 Y 0) (hf : Wfr g v wa w1 v1) : CEnc w w1 g cs v1 Y := by
  have b1 := hf.toBelow (H.wri.below ha)
  exact ⟨h1, (ha.blk' H.kc).below b1 H.hA, (H.bel.trans (ha.mono H.bel.size)).trans (b1.mono (Nat.le_of_lt H.hA)), H.hA⟩
set_option maxRecDepth 100000 in
set_option maxHeartbeats 2000000 in
theorem cencode_bad (h : Int) (p : List Nat) (hp : p.length = 32) (a : Option Addr) (b o cap : Nat) (l : List Vt) (w : World) (hT : Ts w a b o cap l) (hc : chkC h l ≠ 0) :
    Calls Tryz.prog 115 #[.agg (cC h p (.slice a l.length cap)).toArray] w fun e w' => e = .returned (.tuple #[.slice none 0 0, .int .i64 (chkC h l : Nat)]) ∧ Below w.heap.size w w' := by
  have HC := hidp (fun W (hW : Below w.heap.size w W) => ccheck_any h p hp a b o cap l W (hT.below hW))
  have ht : (((chkC h l : Nat) : Int) != 0) = true := by rw [bne_iff_ne]; omega
  have hl := hidp (cC_len (h := h) (sl := .slice a l.length cap) hp)
  have hA := hidp (Blk.new w (cC h p (.slice a l.length cap)) 82)
  have hBB := hidp ((Below.refl w.heap.size w).alloc (Nat.le_refl _) (.cells (cC h p (.slice a l.length cap)).toArray 82))
  clear hc hT hp
  generalize chkC h l = n at *
  go_enter Tryz.func115, Tryz.ntmps115
  go_wp2_with (with_reducible refine (?_ : wpList _ _ _ _ _ _); refine wpList_load_blk rfl 82 _ rfl w.heap.size (cC h p (.slice a l.length cap)) 82 rfl hA.out _ Tryz.underlying82 rfl (by rw [hl.out]; kernel_rfl) ?_)
  refine (HC.out _ hBB.out).mono ?_
  rintro e w1 ⟨rfl, hb⟩
  have hB := hidp (hBB.out.trans (hb.mono hBB.out.size))
  clear hb HC hBB hA
  go_wp2_with fail
  exact bodyPost_ret (v := .tuple #[.slice none 0 0, .int .i64 (n : Nat)]) (by simp [results, Tryz.results115, go_sem]) rfl ⟨rfl, hB.out⟩
structure CEncI (w wr : World) (g : Nat) (cs : List Value) (i : Nat) (l : List Vt) (v : Value) (Z X : List Nat) : Prop where
  e : CEnc w wr g cs v X
  hX : X = Z ++ (l.take i).flatMap tB
theorem CEncI.fit {w wr : World} {g : Nat} {cs : List Value} {i : Nat} {l : List Vt} {v : Value} {Z X : List Nat} (H : CEncI w wr g cs i l v Z X) (hl : l.length ≤ 64) (hZ : Z.length ≤ 60) : X.length ≤ 1200 := by
  have h1 := flatB_len (l.take i)
  have h3 : (l.take i).length ≤ l.length := by rw [List.length_take]; omega
  rw [H.hX, List.length_append]
  omega
theorem CEncI.next {w wr wa w1 w2 : World} {g : Nat} {cs : List Value} {i : Nat} {l : List Vt} {v v1 v2 : Value} {Z X : List Nat} {u : Vt} (H : CEncI w wr g cs i l v Z X) (hu : l[i]? = some u) (ha : Below wr.heap.size wr wa)
    (h1 : Wr w1 g 1048576 v1 (X ++ nB u.a.toNat) 0 ∧ Wfr g v wa w1 v1) (h2 : Wr w2 g 1048576 v2 (X ++ nB u.a.toNat ++ wordB u.s) 0 ∧ Wfr g v1 w1 w2 v2) : CEncI w w2 g cs (i + 1) l v2 Z (X ++ nB u.a.toNat ++ wordB u.s) := by
  refine ⟨(H.e.put ha h1.1 h1.2).put (Below.refl _ _) h2.1 h2.2, ?_⟩
  obtain ⟨hlt, rfl⟩ := List.getElem?_eq_some_iff.1 hu
  have e : l.take (i + 1) = l.take i ++ [l[i]] := List.take_succ_eq_append_getElem hlt
  rw [e, H.hX, List.flatMap_append]
  simp [tB, List.append_assoc]
end Go.Proofs.YtcmkmnidnapabaaGreat
