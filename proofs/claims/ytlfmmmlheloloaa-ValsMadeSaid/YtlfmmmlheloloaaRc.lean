/-
  The reference of layer 5: Find, by definition; the kit's CopyVals, OverVals.
-/
import Derived.Test.YtlfmmmlheloloaaRb
namespace Go.Proofs.Ytlfmmmlheloloaa
open Go.RowKit Go.Lib Go.Maps

structure RfI (w wr : World) (i : Nat) (l : List Vd) (k : Nat) : Prop where
  key : Blk wr w.heap.size [.int .u8 (kd k 3 : Nat), .int .u8 (kd k 2 : Nat), .int .u8 (kd k 1 : Nat), .int .u8 (kd k 0 : Nat)] 36
  bel : Below w.heap.size w wr
  lo : ∀ j u, j < i → l[j]? = some u → u.k ≠ k
set_option maxRecDepth 100000 in
set_option maxHeartbeats 4000000 in
theorem reffind_any (a : Option Addr) (b o cap : Nat) (l : List Vd) (k : Nat) (w : World) (h : Vs w a b o cap l) (hl : l.length ≤ 1000000) (hk : k < 4294967296) :
    Calls Try.prog 132 #[.slice a l.length cap, .agg #[.int .u8 (kd k 3 : Nat), .int .u8 (kd k 2 : Nat), .int .u8 (kd k 1 : Nat), .int .u8 (kd k 0 : Nat)]] w fun e w' => e = .returned (.tuple #[.int .i64 (((fnd l k).getD 0 : Nat) : Int), .bool (fnd l k).isSome]) ∧ Below w.heap.size w w' := by
  have H := hidp h
  have HL := hidp (And.intro hl hk)
  have H0 : Hid (RfI w (w.alloc (.cells #[.int .u8 (kd k 3 : Nat), .int .u8 (kd k 2 : Nat), .int .u8 (kd k 1 : Nat), .int .u8 (kd k 0 : Nat)] 36)) 0 l k) := hidp ⟨Blk.new w [.int .u8 (kd k 3 : Nat), .int .u8 (kd k 2 : Nat), .int .u8 (kd k 1 : Nat), .int .u8 (kd k 0 : Nat)] _, (Below.refl _ w).alloc (Nat.le_refl _) _, fun j u h => by omega⟩
  clear h hl hk
  go_enter Try.func132, Try.ntmps132
  go_wp2_with fail
  go_loopw [6] (fun x wr => ∃ i : Nat, i ≤ l.length ∧ x = .int .i64 ((i : Nat) : Int) ∧ Hid (RfI w wr i l k)) (fun x _ => l.length - (Go.RowKit.intOf x).toNat)
  case atStart => exact ⟨0, by omega, rfl, H0⟩
  case round =>
    obtain ⟨i, hi, rfl, hr⟩ := hrel
    clear H0
    by_cases hlt : i < l.length
    · obtain ⟨v, hv, hok, rfl, hbl, c0, c1, c2, c3, c4⟩ := (H.out.below hr.out.bel).at hlt
      have HV := hidp (And.intro hv hlt)
      have hadd := w64_nat (n := i) (by have := HL.out; omega)
      have he := run_eq_key v.k k hok.k HL.out.2
      have hg := guard_key
      have k0 := hr.out.key.cell 0
      have k1 := hr.out.key.cell 1
      have k2 := hr.out.key.cell 2
      have k3 := hr.out.key.cell 3
      simp only [List.getElem?_cons_zero, List.getElem?_cons_succ] at k0 k1 k2 k3
      clear hv hok
      by_cases hc : v.k = k
      · have hd : decide (v.k = k) = true := decide_eq_true hc
        have hf := hidp (fnd_hit HV.out.1 hc hr.out.lo)
        clear hc
        go_wp2_with fail
        go_quiet (fail)
        have hb := hidp (hr.out.bel.drewN nq)
        clear hr c0 c1 c2 c3 c4 k0 k1 k2 k3 he
        go_wp2_with fail
        exact bodyPost_ret (v := .tuple #[.int .i64 (i : Nat), .bool true]) (by simp [results, Try.results132, go_sem]) rfl ⟨by rw [hf.out]; rfl, hb.out⟩
      · have hd : decide (v.k = k) = false := decide_eq_false hc
        have hlo := hidp (fun (j : Nat) (u : Vd) (hj : j < i + 1) (hu : l[j]? = some u) => (show u.k ≠ k from by
          rcases Nat.lt_or_ge j i with h1 | h1
          · exact hr.out.lo j u h1 hu
          · obtain rfl : j = i := by omega
            rw [HV.out.1] at hu; cases hu; exact hc))
        clear hc
        go_wp2_with fail
        go_quiet (fail)
        have H1 : Hid (RfI w (wr.drewN nq) (i + 1) l k) := hidp ⟨hr.out.key, hr.out.bel.drewN nq, hlo.out⟩
        clear hr c0 c1 c2 c3 c4 k0 k1 k2 k3 he
        go_wp2_with fail
        rw [hadd]
        exact ⟨⟨i + 1, by have := HV.out.2; omega, rfl, H1⟩, by have h1 := HV.out.2; show l.length - ((i + 1 : Nat) : Int).toNat < l.length - ((i : Nat) : Int).toNat; omega⟩
    · have hm := hidp (fnd_miss (l := l) (k := k) (fun j u hj hu => hr.out.lo j u (by omega) hu))
      have hb := hidp hr.out.bel
      obtain rfl : i = l.length := by omega
      clear hr hlt
      go_wp2_with fail
      exact bodyPost_ret (v := .tuple #[.int .i64 0, .bool false]) (by simp [results, Try.results132, go_sem]) rfl ⟨by rw [hm.out]; rfl, hb.out⟩
end Go.Proofs.Ytlfmmmlheloloaa
