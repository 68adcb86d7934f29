/-
  Texts Ve, Vf, Vg, one behind the other.
-/
import Derived.Test.YtcmkmnidnapabaaGreatUa
import Derived.Test.YtcmkmnidnapabaaGreatQg
import Derived.Test.YtcmkmnidnapabaaGreatQf
import Derived.Test.YtcmkmnidnapabaaGreatQi
import Derived.OwnWalk
import Derived.Deep.RegionHeld3
import Derived.Deep.AppendLies

/-! Ve: The bytes of a set. -/
namespace Go.Proofs.YtcmkmnidnapabaaGreat
open Go.RowKit Go.Lib

theorem newWriter_mx (w : World) : Calls Tryz.prog 76 #[.int .i64 1048576] w fun e w' => e = .returned (.tuple #[.pointer (some ⟨w.heap.size, 0, none⟩), .int .i64 0]) ∧ Wr w' w.heap.size 1048576 (.slice none 0 0) [] 0 ∧ Below w.heap.size w w' := by
  have q := newWriter_any 1048576 w (by omega)
  rw [show ((1048576 : Nat) : Int) = 1048576 from rfl] at q
  exact q
/-- A number is written. -/
theorem wNum_n {w : World} {g lim : Nat} {v : Value} {L : List Nat} (H : Wr w g lim v L 0) (n : Nat) (hn : n < 9223372036854775808) (hs : L.length + 9 ≤ lim) :
    Calls Tryz.prog 77 #[.pointer (some ⟨g, 0, none⟩), .int .i64 (n : Nat)] w (PutP w g lim v (L ++ nB n)) := by
  have q := wNum_ok H n (dg n) hn (dg_digs (by omega)) (by have := dg_le n; omega)
  rw [nB_num (by omega)] at q
  exact q
/-- One validator's bytes, and a list's. -/
def vB (v : Vd) : List Nat := kb v.k ++ nB v.p.toNat
def encB (l : List Vd) : List Nat := nB l.length ++ l.flatMap vB
theorem vB_len (v : Vd) : (vB v).length ≤ 13 := by
  unfold vB
  rw [List.length_append, nB_len]
  have := dg_le v.p.toNat
  have : (kb v.k).length = 4 := rfl
  omega
theorem flat_len : ∀ l : List Vd, (l.flatMap vB).length ≤ 13 * l.length
  | [] => by simp
  | v :: l => by
    have := flat_len l
    have := vB_len v
    simp only [List.flatMap_cons, List.length_append, List.length_cons]
    omega
theorem nextE_zero {q : Option Nat} {u : Vd} {least : Int} (h : nextE q u least = 0) : least ≤ u.p ∧ u.p ≤ 4611686018427387904 ∧ ∀ x, q = some x → x < u.k := by
  have key : (if u.p < least ∨ 4611686018427387904 < u.p then 3 else 0) = 0 → least ≤ u.p ∧ u.p ≤ 4611686018427387904 := by
    intro e
    by_cases h2 : u.p < least ∨ 4611686018427387904 < u.p
    · rw [if_pos h2] at e; omega
    · omega
  cases q with
  | none =>
    have q := key h
    exact ⟨q.1, q.2, fun x hx => by cases hx⟩
  | some k =>
    by_cases hk : u.k ≤ k
    · have e : nextE (some k) u least = 9 := by unfold nextE; simp [hk]
      omega
    · have e : nextE (some k) u least = if u.p < least ∨ 4611686018427387904 < u.p then 3 else 0 := by unfold nextE; simp [hk]
      have q := key (e ▸ h)
      exact ⟨q.1, q.2, fun x hx => by cases hx; omega⟩
theorem chkFrom_ok {least : Int} : ∀ {l : List Vd} {q : Option Nat}, chkFrom least q l = 0 → ∀ v ∈ l, least ≤ v.p ∧ v.p ≤ 4611686018427387904
  | [], _, _, v, hv => by simp at hv
  | u :: l, q, h, v, hv => by
    simp only [chkFrom] at h
    by_cases h0 : nextE q u least = 0
    · rw [if_pos h0] at h
      rcases List.mem_cons.1 hv with rfl | hv
      · exact ⟨(nextE_zero h0).1, (nextE_zero h0).2.1⟩
      · exact chkFrom_ok h v hv
    · rw [if_neg h0] at h; exact absurd h h0
theorem chk_ok {l : List Vd} (h : chk l = 0) : 0 < l.length ∧ l.length ≤ 64 ∧ chkFrom 1 none l = 0 ∧ ∀ v ∈ l, 1 ≤ v.p ∧ v.p ≤ 4611686018427387904 := by
  unfold chk at h
  split at h
  · cases h
  · split at h
    · cases h
    · exact ⟨by omega, by omega, h, chkFrom_ok h⟩
structure EncI (w wr : World) (g i : Nat) (l : List Vd) (v : Value) (X : List Nat) : Prop where
  wri : Wr wr g 1048576 v X 0
  bel : Below w.heap.size w wr
  hg : w.heap.size ≤ g
  hX : X = nB l.length ++ (l.take i).flatMap vB
theorem EncI.fit {w wr : World} {g i : Nat} {l : List Vd} {v : Value} {X : List Nat} (H : EncI w wr g i l v X) (hl : l.length ≤ 64) : X.length ≤ 1000 := by
  have h1 := flat_len (l.take i)
  have h2 := dg_le l.length
  have h3 : (l.take i).length ≤ l.length := by rw [List.length_take]; omega
  rw [H.hX, List.length_append, nB_len]
  omega
theorem EncI.next {w wr w1 w2 : World} {g i : Nat} {l : List Vd} {v v1 v2 : Value} {X : List Nat} {u : Vd} (H : EncI w wr g i l v X) (hu : l[i]? = some u) {wa : World} (ha : Below wr.heap.size wr wa)
    (h1 : Wr w1 g 1048576 v1 (X ++ kb u.k) 0 ∧ Wfr g v wa w1 v1) (h2 : Wr w2 g 1048576 v2 (X ++ kb u.k ++ nB u.p.toNat) 0 ∧ Wfr g v1 w1 w2 v2) : EncI w w2 g (i + 1) l v2 (X ++ kb u.k ++ nB u.p.toNat) := by
  have b1 := h1.2.toBelow (H.wri.below ha)
  have b2 := h2.2.toBelow h1.1
  refine ⟨h2.1, ((H.bel.trans (ha.mono H.bel.size)).trans (b1.mono H.hg)).trans (b2.mono H.hg), H.hg, ?_⟩
  obtain ⟨hlt, rfl⟩ := List.getElem?_eq_some_iff.1 hu
  have e : l.take (i + 1) = l.take i ++ [l[i]] := List.take_succ_eq_append_getElem hlt
  rw [e, H.hX, List.flatMap_append]
  simp [vB, List.append_assoc]

theorem Wfr.box {g : Nat} {v v1 : Value} {wr w1 : World} {lim e : Nat} {L : List Nat} {cs : Array Value} {T : TypeId} (h : Wfr g v (wr.alloc (.cells cs T)) w1 v1) (H : Wr wr g lim v L e) : Blk w1 wr.heap.size cs.toList T :=
  (h.block wr.heap.size (by simp) (by have := H.blk.lt; omega) (fun hc => by have := (H.ownGe hc).2; omega)).trans (Blk.new wr cs.toList T)
set_option maxRecDepth 100000 in
set_option maxHeartbeats 1000000 in
theorem encode_bad (a : Option Addr) (b o cap : Nat) (l : List Vd) (w : World) (h : Vs w a b o cap l) (hc : chk l ≠ 0) :
    Calls Tryz.prog 20 #[.slice a l.length cap] w fun e w' => e = .returned (.tuple #[.slice none 0 0, .int .i64 (chk l : Nat)]) ∧ Below w.heap.size w w' := by
  have HC := hidp (check_any a b o cap l w h)
  have ht : (((chk l : Nat) : Int) != 0) = true := by rw [bne_iff_ne]; omega
  clear h hc
  generalize chk l = n at *
  go_enter Tryz.func20, Tryz.ntmps20
  go_wp2_with fail
  refine HC.out.mono ?_
  rintro e w1 ⟨rfl, hb⟩
  have hB := hidp hb
  clear hb HC
  go_wp2_with fail
  exact bodyPost_ret (v := .tuple #[.slice none 0 0, .int .i64 (n : Nat)]) (by simp [results, Tryz.results20, go_sem]) rfl ⟨rfl, hB.out⟩
set_option maxRecDepth 100000 in
set_option maxHeartbeats 1000000 in
theorem encode_ok (a : Option Addr) (b o cap : Nat) (l : List Vd) (w : World) (h : Vs w a b o cap l) (hc : chk l = 0) :
    Calls Tryz.prog 20 #[.slice a l.length cap] w (DoneP w (encB l)) := by
  have HC := hidp (check_any a b o cap l w h)
  rw [hc] at HC
  have H := hidp h
  have HK := hidp (chk_ok hc)
  clear h hc
  go_enter Tryz.func20, Tryz.ntmps20
  go_wp2_with fail
  refine HC.out.mono ?_
  rintro e w1 ⟨rfl, hb⟩
  have hB := hidp hb
  clear hb HC
  go_wp2_with fail
  refine (newWriter_mx w1).mono ?_
  rintro e w2 ⟨rfl, hw, hb⟩
  have hW := hidp hw
  have hB2 := hidp (hB.out.trans (hb.mono hB.out.size))
  have hG := hidp hB.out.size
  clear hw hb hB
  go_wp2_with fail
  refine (wNum_n hW.out l.length (by have := HK.out.2.1; omega) (by simp)).mono ?_
  rintro e w3 ⟨rfl, v, hw3, hf⟩
  have H0 : Hid (EncI w w3 w1.heap.size 0 l v ([] ++ nB l.length)) := hidp ⟨hw3, hB2.out.trans ((hf.toBelow hW.out).mono hG.out), hG.out, by simp⟩
  clear hw3 hf hW hB2
  go_wp2_with fail
  go_loopw [27] (fun x wr => ∃ i : Nat, ∃ v X, i ≤ l.length ∧ x = .int .i64 i ∧ Hid (EncI w wr w1.heap.size i l v X)) (fun x _ => l.length - (Go.RowKit.intOf x).toNat)
  case atStart => exact ⟨0, v, _, by omega, rfl, H0⟩
  case round =>
    obtain ⟨i, v, X, hi, rfl, hr⟩ := hrel
    clear H0
    by_cases hlt : i < l.length
    · obtain ⟨u, hu, hok, rfl, hbl, c0, c1, c2, c3, c4⟩ := (H.out.below hr.out.bel).at hlt
      have HV := hidp hu
      have HL := hidp hlt
      have HF := hidp (hr.out.fit HK.out.2.1)
      have hp0 := HK.out.2.2.2 u (List.mem_of_getElem? hu)
      obtain ⟨n, hn⟩ : ∃ n : Nat, u.p = (n : Int) := ⟨u.p.toNat, by omega⟩
      have HN := hidp (show n < 9223372036854775808 ∧ u.p.toNat = n by omega)
      rw [hn] at c4
      have hadd := w64_nat (n := i) (by have := HK.out.2.1; omega)
      have hA := hidp (fun o : Obj => (Below.refl wr.heap.size wr).alloc (Nat.le_refl _) o)
      clear hu hok hp0 hn
      go_wp2_with fail
      refine (wKey_ok (hr.out.wri.below (hA.out _)) (kb u.k) (kb_bytes _) (by have := HF.out; omega)).mono ?_
      rintro e w4 ⟨rfl, v4, hw4⟩
      have d4 : w4.cell? ⟨wr.heap.size, 4, none⟩ = some (.int .i64 (n : Nat)) := (hw4.2.box hr.out.wri).cell 4
      have H4 := hidp hw4
      clear hw4
      go_wp2_with fail
      refine (wNum_n H4.out.1 n HN.out.1 (by have := HF.out; rw [List.length_append, (kb_bytes u.k).1]; omega)).mono ?_
      rintro e w5 ⟨rfl, v5, hw5⟩
      have H5 := hidp (hr.out.next HV.out (hA.out _) H4.out (by rw [HN.out.2]; exact hw5))
      clear hw5 hr H4 d4
      go_wp2_with fail
      rw [hadd]
      exact ⟨⟨i + 1, _, _, by have := HL.out; omega, rfl, H5⟩, by have h1 := HL.out; show l.length - ((i + 1 : Nat) : Int).toNat < l.length - ((i : Nat) : Int).toNat; omega⟩
    · obtain rfl : i = l.length := by omega
      have hX := hidp (show X = encB l by rw [hr.out.hX, List.take_length]; rfl)
      clear hlt
      go_wp2_with fail
      refine (wDone_ok hr.out.wri).mono ?_
      rintro e w4 ⟨⟨p, pb, pc, rfl, h1, h2, h3⟩, h4⟩
      have HP := hidp (And.intro h1 (And.intro h2 h3))
      have HB := hidp (hr.out.bel.trans (h4.mono hr.out.bel.size))
      have HS := hidp hr.out.bel.size
      clear h1 h2 h3 h4 hr
      go_wp2_with fail
      refine bodyPost_ret (v := .tuple #[.slice p X.length pc, .int .i64 0]) (by simp [results, Tryz.results20, go_sem]) rfl ⟨⟨p, pb, pc, ?_, Nat.le_trans HS.out HP.out.1, HP.out.2.1, ?_⟩, HB.out⟩
      · rw [hX.out]
      · rw [← hX.out]; exact HP.out.2.2
end Go.Proofs.YtcmkmnidnapabaaGreat

/-! Vf: Plain: which set bytes are; a reader's key as a number; a row of validators of one's own. -/
namespace Go.Proofs.YtcmkmnidnapabaaGreat
open Go.RowKit Go.Lib Go.Maps

/-- One validator is read, and the state behind it. -/
def decV (s : RS) : Vd := ⟨kOf (rdV (pRaw 4) (List.replicate 4 0) s), ((rdV pNum 0 (rdN (pRaw 4) s) : Nat) : Int)⟩
def decN (s : RS) : RS := rdN pNum (rdN (pRaw 4) s)
def decF : Nat → RS → List Vd × RS
  | 0, s => ([], s)
  | i + 1, s => ((decF i s).1 ++ [decV (decF i s).2], decN (decF i s).2)
theorem decF_len : ∀ i s, (decF i s).1.length = i
  | 0, _ => rfl
  | i + 1, s => by simp [decF, decF_len i]
def rs0 (L : List Nat) : RS := ⟨0, L, 0, 0⟩
/-- What Decode tells: a set, or a fault. -/
def decO (L : List Nat) : List Vd × Nat × Nat :=
  let s := rs0 L
  let n := rdV pNum 0 s
  if 64 < n then ([], 4, 0) else
  let r := decF n (rdN pNum s)
  if (endS r.2).1 ≠ 0 then ([], endS r.2) else
  if chk r.1 ≠ 0 then ([], chk r.1, 0) else (r.1, 0, 0)
theorem pNum_lt {R : List Nat} {v n : Nat} (h : pNum R = .ok v n) : v < 9223372036854775808 := by
  cases R with
  | nil => cases h
  | cons k R =>
    rw [pNum_cons] at h
    split at h
    · cases h
    · split at h
      · cases h
      · split at h
        · cases h
        · rename_i hb
          cases h
          unfold badN at hb
          omega
theorem rdNum_lt (s : RS) : rdV pNum 0 s < 9223372036854775808 := by
  unfold rdV
  split
  · decide
  · split
    · rename_i h; exact pNum_lt h
    · decide
theorem rdKey_bytes {s : RS} (h : ∀ x ∈ s.R, x < 256) : Bytes 4 (rdV (pRaw 4) (List.replicate 4 0) s) := by
  have z : Bytes 4 (List.replicate 4 0) := ⟨rfl, fun x hx => by rw [List.eq_of_mem_replicate hx]; decide⟩
  unfold rdV
  split
  · exact z
  · split
    · rename_i hp
      obtain ⟨rfl, _, hl⟩ := pRaw_ok hp
      exact ⟨by rw [List.length_take]; omega, fun x hx => h x (List.mem_of_mem_take hx)⟩
    · exact z
theorem rdN_byte {α : Type} {pr : List Nat → PR α} {s : RS} (h : ∀ x ∈ s.R, x < 256) : ∀ x ∈ (rdN pr s).R, x < 256 := by
  unfold rdN
  split
  · exact h
  · split
    · intro x hx; exact h x (List.mem_of_mem_drop hx)
    · intro x hx; simp at hx
theorem decV_ok {s : RS} (h : ∀ x ∈ s.R, x < 256) : VdOk (decV s) :=
  ⟨(kb_kOf (rdKey_bytes h)).2, by have := rdNum_lt (rdN (pRaw 4) s); show -9223372036854775808 ≤ ((rdV pNum 0 (rdN (pRaw 4) s) : Nat) : Int) ∧ ((rdV pNum 0 (rdN (pRaw 4) s) : Nat) : Int) ≤ 9223372036854775807; omega⟩
theorem decF_ok {s : RS} (h : ∀ x ∈ s.R, x < 256) : ∀ i, (∀ x ∈ (decF i s).2.R, x < 256) ∧ ∀ v ∈ (decF i s).1, VdOk v
  | 0 => ⟨h, fun v hv => by simp [decF] at hv⟩
  | i + 1 => by
    have ih := decF_ok h i
    refine ⟨rdN_byte (rdN_byte ih.1), fun v hv => ?_⟩
    simp only [decF, List.mem_append, List.mem_cons, List.not_mem_nil, or_false] at hv
    rcases hv with hv | rfl
    · exact ih.2 v hv
    · exact decV_ok ih.1
/-- A reader's key. -/
theorem sKeyN {w : World} {g b : Nat} {s : RS} (H : RdS w g b s) :
    Calls Tryz.prog 140 #[.pointer (some ⟨g, 0, none⟩)] w fun e w' => e = .returned (.agg #[.int .u8 (kd (decV s).k 3 : Nat), .int .u8 (kd (decV s).k 2 : Nat), .int .u8 (kd (decV s).k 1 : Nat), .int .u8 (kd (decV s).k 0 : Nat)]) ∧ RdS w' g b (rdN (pRaw 4) s) ∧ Bex g w w' := by
  refine (sKey H).mono ?_
  rintro e w' ⟨rfl, h1, h2⟩
  refine ⟨?_, h1, h2⟩
  have q := (kb_kOf (rdKey_bytes H.byte)).1
  show _ = Ending.returned (.agg (bvs (kb (kOf (rdV (pRaw 4) (List.replicate 4 0) s)))).toArray)
  rw [q]

/-- Validators in a row of one's own. -/
def OwnV (w : World) (base : Nat) (v : Value) (l : List Vd) : Prop := w.ownsRow base 111 5 v l.length (l.flatMap vL)
theorem vL_len (v : Vd) : (vL v).length = 5 := rfl
theorem flat5 : ∀ l : List Vd, (l.flatMap vL).length = l.length * 5
  | [] => rfl
  | v :: l => by rw [List.flatMap_cons, List.length_append, flat5 l, vL_len, List.length_cons]; omega
theorem flat_at : ∀ (l : List Vd) (i : Nat) (v : Vd), l[i]? = some v → ∀ j c, (vL v)[j]? = some c → (l.flatMap vL)[i * 5 + j]? = some c
  | [], _, _, h, _, _, _ => by simp at h
  | u :: l, 0, v, h, j, c, hc => by
    simp only [List.getElem?_cons_zero, Option.some.injEq] at h
    subst h
    have hj : j < 5 := by rw [← vL_len u]; exact (List.getElem?_eq_some_iff.1 hc).1
    rw [List.flatMap_cons, List.getElem?_append_left (by rw [vL_len]; omega), Nat.zero_mul, Nat.zero_add]
    exact hc
  | u :: l, i + 1, v, h, j, c, hc => by
    rw [List.flatMap_cons, List.getElem?_append_right (by rw [vL_len]; omega), vL_len, show (i + 1) * 5 + j - 5 = i * 5 + j by omega]
    exact flat_at l i v (by simpa using h) j c hc
theorem OwnV.vs {w : World} {base : Nat} {v : Value} {l : List Vd} (h : OwnV w base v l) (hok : ∀ u ∈ l, VdOk u) : ∃ p b cap, v = .slice p l.length cap ∧ base ≤ b ∧ Vs w p b 0 cap l := by
  rcases h.2 with ⟨h1, h2⟩ | ⟨g, cap, cur, h1, h2, h3, h4, h5, h6, h7⟩
  · have hl : l = [] := List.eq_nil_of_length_eq_zero h2
    subst hl
    exact ⟨none, base, 0, h1, Nat.le_refl _, by simp, by simp, fun h => absurd h (by omega), fun i v hi => by simp at hi⟩
  · refine ⟨some ⟨g, 0, none⟩, g, cap, h1, h2, hok, h4, fun _ => ⟨rfl, (Array.getElem?_eq_some_iff.1 h3).1⟩, fun i u hi j c hc => ?_⟩
    have h8 := flat_at l i u hi j c hc
    rw [← h7] at h8
    simp only [World.cell?, h3]
    rw [Nat.zero_add]
    rw [List.getElem?_take] at h8
    split at h8
    · simpa using h8
    · cases h8
theorem OwnV.nil (w : World) (base : Nat) : OwnV w base (.slice none 0 0) [] := ⟨rfl, .inl ⟨rfl, rfl⟩⟩
theorem OwnV.below {w w' : World} {base : Nat} {v : Value} {l : List Vd} (h : OwnV w base v l) (hB : Below w.heap.size w w') : OwnV w' base v l := by
  refine ⟨h.1, ?_⟩
  rcases h.2 with h2 | ⟨g, cap, cur, h1, h2, h3, r⟩
  · exact .inl h2
  · exact .inr ⟨g, cap, cur, h1, h2, (hB.block g (Array.getElem?_eq_some_iff.1 h3).1).trans h3, r⟩
theorem OwnV.bex {w w' : World} {base g : Nat} {v : Value} {l : List Vd} (h : OwnV w base v l) (hB : Bex g w w') (hg : g < base) : OwnV w' base v l := by
  refine ⟨h.1, ?_⟩
  rcases h.2 with h2 | ⟨k, cap, cur, h1, h2, h3, r⟩
  · exact .inl h2
  · exact .inr ⟨k, cap, cur, h1, h2, (hB.block k (Array.getElem?_eq_some_iff.1 h3).1 (by omega)).trans h3, r⟩
theorem info_val : (Tryz.prog.info? 111).map (fun i => (i.zero, i.size, i.bytes)) = some (some (.agg #[.int .u8 0, .int .u8 0, .int .u8 0, .int .u8 0, .int .i64 0]), 5, 16) := by kernel_rfl
end Go.Proofs.YtcmkmnidnapabaaGreat

/-! Vg: Decode: which set bytes are, or where and why none. -/
namespace Go.Proofs.YtcmkmnidnapabaaGreat
open Go.RowKit Go.Lib Go.Maps

/-- What stands from round to round. -/
structure DecI (w wr : World) (B g b n i : Nat) (s : RS) (v : Value) : Prop where
  rd : RdS wr g b (decF i s).2
  res : Blk wr w.heap.size [.int .i64 0, .int .i64 0] 52
  hr : w.heap.size < g
  own : OwnV wr B v (decF i s).1
  bel : Below w.heap.size w wr
  hg : w.heap.size ≤ g
  gB : g < B
  bB : b < B
  wB : B ≤ wr.heap.size
  wwB : w.heap.size ≤ B
theorem Below.ofOwn {B : Nat} {w w' : World} {v : Value} {n : Nat} {xs : List Value} {e : TypeId} {k : Nat} (hv : w.ownsRow B e k v n xs) (hg : w.grownBy w' v.ownBlock) (hB : B ≤ w.heap.size) : Below B w w' :=
  (Below.refl B w).grown hg hB (fun j hj => by
    rcases hv.2 with ⟨h1, _⟩ | ⟨g, cap, cur, h1, h2, _⟩
    · rw [h1] at hj; cases hj
    · rw [h1] at hj
      simp only [Value.ownBlock, Option.some.injEq] at hj
      omega)
theorem RdS.lower {B : Nat} {w w' : World} {g b : Nat} {s : RS} (H : RdS w g b s) (hB : Below B w w') (hg : g < B) (hb : b < B) : RdS w' g b s :=
  ⟨H.rd.lower hB hg hb, Nat.lt_of_lt_of_le H.lt hB.size, H.z⟩
/-- A key lies in a block. -/
def KS (x k : Nat) (W : World) : Prop := W.cell? ⟨x, 0, none⟩ = some (.int .u8 (kd k 3 : Nat)) ∧ W.cell? ⟨x, 1, none⟩ = some (.int .u8 (kd k 2 : Nat)) ∧ W.cell? ⟨x, 2, none⟩ = some (.int .u8 (kd k 1 : Nat)) ∧ W.cell? ⟨x, 3, none⟩ = some (.int .u8 (kd k 0 : Nat))
theorem KS.of {W : World} {x k : Nat} (h : Blk W x [.int .u8 (kd k 3 : Nat), .int .u8 (kd k 2 : Nat), .int .u8 (kd k 1 : Nat), .int .u8 (kd k 0 : Nat)] 24) : KS x k W := ⟨h.cell 0, h.cell 1, h.cell 2, h.cell 3⟩
theorem KS.drew {W : World} {x k : Nat} (h : Hid (KS x k W)) : Hid (KS x k W.drew) := hidp h.out
theorem KS.blk {W W' : World} {x k : Nat} (h : KS x k W) (hb : W'.heap[x]? = W.heap[x]?) : KS x k W' :=
  ⟨(World.cell?_of_block (w := W) (a := ⟨x, 0, none⟩) hb).trans h.1, (World.cell?_of_block (w := W) (a := ⟨x, 1, none⟩) hb).trans h.2.1, (World.cell?_of_block (w := W) (a := ⟨x, 2, none⟩) hb).trans h.2.2.1, (World.cell?_of_block (w := W) (a := ⟨x, 3, none⟩) hb).trans h.2.2.2⟩
theorem KS.alloc {W : World} {x k : Nat} (h : Hid (KS x k W)) (o : Obj) : Hid (KS x k (W.alloc o)) := hidp (h.out.blk (Below.heap_alloc W o x (cell_lt h.out.1)))
theorem KS.grown {W W' : World} {x k : Nat} {row : Option Nat} (h : Hid (KS x k W)) (hg : W.grownBy W' row) (hne : row ≠ some x) : Hid (KS x k W') :=
  hidp (h.out.blk (hg.block x (cell_lt h.out.1) (fun e => hne e.symm)))
theorem OwnV.lt {w : World} {B k : Nat} {v : Value} {l : List Vd} (h : OwnV w B v l) (hk : v.ownBlock = some k) : B ≤ k ∧ k < w.heap.size := by
  rcases h.2 with ⟨h1, _⟩ | ⟨g, cap, cur, h1, h2, h3, _⟩
  · rw [h1] at hk; cases hk
  · rw [h1] at hk
    simp only [Value.ownBlock, Option.some.injEq] at hk
    subst hk
    exact ⟨h2, (Array.getElem?_eq_some_iff.1 h3).1⟩
/-- A fault lies in a block. -/
def FS (r x y : Nat) (W : World) : Prop := W.cell? ⟨r, 0, none⟩ = some (.int .i64 (x : Nat)) ∧ W.cell? ⟨r, 1, none⟩ = some (.int .i64 (y : Nat))
theorem FS.of {W : World} {r x y : Nat} (h : Blk W r [.int .i64 (x : Nat), .int .i64 (y : Nat)] 52) : FS r x y W := ⟨h.cell 0, h.cell 1⟩
theorem FS.drew {W : World} {r x y : Nat} (h : Hid (FS r x y W)) : Hid (FS r x y W.drew) := hidp h.out
theorem FS.set {W : World} {r x y : Nat} (h : Hid (FS r x y W)) (a : Addr) (v : Value) (hne : r ≠ a.block) : Hid (FS r x y (W.setCell a v)) :=
  hidp ⟨(World.cell?_of_block (w := W) (a := ⟨r, 0, none⟩) (Below.heap_setCell W a v r hne)).trans h.out.1, (World.cell?_of_block (w := W) (a := ⟨r, 1, none⟩) (Below.heap_setCell W a v r hne)).trans h.out.2⟩
theorem RdS.drew {w : World} {g b : Nat} {s : RS} (H : RdS w g b s) : RdS w.drew g b s := H.below (Below.refl _ w).drew
theorem new_cells (w : World) (cs : List Value) (T : TypeId) : ∀ j u, cs[j]? = some u → (w.alloc (.cells cs.toArray T)).cell? ((⟨w.heap.size, 0, none⟩ : Addr).add j) = some u := by
  intro j u h
  rw [Addr.add_mid, Nat.zero_add]
  exact ((Blk.new w cs T).cell j).trans h
theorem vL_one (v : Vd) : ∀ u ∈ vL v, u.oneCell' = true := by
  intro u hu
  simp only [vL, List.mem_cons, List.not_mem_nil, or_false] at hu
  rcases hu with rfl | rfl | rfl | rfl | rfl <;> rfl
theorem OwnV.snoc {w : World} {B : Nat} {v : Value} {l : List Vd} {u : Vd} (h : w.ownsRow B 111 5 v (l.length + 1) (l.flatMap vL ++ vL u)) : OwnV w B v (l ++ [u]) := by
  unfold OwnV
  rw [List.length_append, List.flatMap_append, List.flatMap_cons, List.flatMap_nil, List.append_nil]
  exact h
theorem DecI.next {w wr w4 w5 w6 w7 : World} {B g b n i : Nat} {s : RS} {v v' : Value} {o : Obj} (H : DecI w wr B g b n i s v)
    (h4 : RdS w4 g b (rdN (pRaw 4) (decF i s).2) ∧ Bex g wr w4) (h45 : Below w4.heap.size w4 w5) (h6 : RdS w6 g b (decN (decF i s).2) ∧ Bex g w5 w6)
    (ho : w7.ownsRow B 111 5 v' ((decF i s).1.length + 1) ((decF i s).1.flatMap vL ++ vL (decV (decF i s).2))) (hg : Below B (w6.alloc o) w7) : DecI w w7 B g b n (i + 1) s v' := by
  have z4 := h4.2.size
  have z5 := h45.size
  have z6 := h6.2.size
  have b67 : Below B w6 w7 := ((Below.refl B w6).alloc (by have := H.wB; omega) o).trans hg
  have hx : Bex g wr w6 := (h4.2.trans (Bex.of_below h45)).trans h6.2
  refine ⟨h6.1.lower b67 H.gB H.bB, (hx.blk H.res (by have := H.hr; omega)).below b67 (by have := H.hr; have := H.gB; omega), H.hr, OwnV.snoc ho, (H.bel.trans (hx.below H.hg H.bel.size)).trans (b67.mono H.wwB), H.hg, H.gB, H.bB, ?_, H.wwB⟩
  have := b67.size
  have := H.wB
  omega
theorem DecI.own6 {w wr w4 w5 w6 : World} {B g b n i : Nat} {s : RS} {v : Value} (H : DecI w wr B g b n i s v) (h4 : Bex g wr w4) (h45 : Below w4.heap.size w4 w5) (h6 : Bex g w5 w6) (o : Obj) :
    (w6.alloc o).ownsRow B 111 5 v (decF i s).1.length ((decF i s).1.flatMap vL) ∧ B ≤ (w6.alloc o).heap.size := by
  have z4 := h4.size
  have z5 := h45.size
  have z6 := h6.size
  refine ⟨(((H.own.bex h4 H.gB).below h45).bex h6 H.gB).below ((Below.refl _ w6).alloc (Nat.le_refl _) o), ?_⟩
  have := H.wB
  simp
  omega
theorem decO_long {L : List Nat} (h : 64 < rdV pNum 0 (rs0 L)) : decO L = ([], 4, 0) := by unfold decO; simp only [h, if_true]
theorem decO_end {L : List Nat} (h : ¬ 64 < rdV pNum 0 (rs0 L)) (h2 : (endS (decF (rdV pNum 0 (rs0 L)) (rdN pNum (rs0 L))).2).1 ≠ 0) : decO L = ([], endS (decF (rdV pNum 0 (rs0 L)) (rdN pNum (rs0 L))).2) := by
  unfold decO
  simp only [h, if_false]
  rw [if_pos h2]
theorem decO_chk {L : List Nat} (h : ¬ 64 < rdV pNum 0 (rs0 L)) (h2 : (endS (decF (rdV pNum 0 (rs0 L)) (rdN pNum (rs0 L))).2).1 = 0) (h3 : chk (decF (rdV pNum 0 (rs0 L)) (rdN pNum (rs0 L))).1 ≠ 0) : decO L = ([], chk (decF (rdV pNum 0 (rs0 L)) (rdN pNum (rs0 L))).1, 0) := by
  unfold decO
  simp only [h, if_false]
  rw [if_neg (by rw [h2]; simp), if_pos h3]
theorem decO_ok {L : List Nat} (h : ¬ 64 < rdV pNum 0 (rs0 L)) (h2 : (endS (decF (rdV pNum 0 (rs0 L)) (rdN pNum (rs0 L))).2).1 = 0) (h3 : chk (decF (rdV pNum 0 (rs0 L)) (rdN pNum (rs0 L))).1 = 0) : decO L = ((decF (rdV pNum 0 (rs0 L)) (rdN pNum (rs0 L))).1, 0, 0) := by
  unfold decO
  simp only [h, if_false]
  rw [if_neg (by rw [h2]; simp), if_neg (by rw [h3]; simp)]
/-- The result's block. -/
theorem resF {W : World} {r x y : Nat} (h : Blk W r [.int .i64 (x : Nat), .int .i64 (y : Nat)] 52) : W.cell? ⟨r, 0, none⟩ = some (.int .i64 (x : Nat)) ∧ W.cell? ⟨r, 1, none⟩ = some (.int .i64 (y : Nat)) ∧ W.frozen? ⟨r, 0, none⟩ = false ∧ W.frozen? ⟨r, 1, none⟩ = false :=
  ⟨h.cell 0, h.cell 1, h.free 0, h.free 1⟩
end Go.Proofs.YtcmkmnidnapabaaGreat
