/-
  Texts R4w, R4x, R4y, L6s, L6t, one behind the other.
-/
import Derived.Test.YtcmkmnidnapabaaGreatUj
import Derived.Test.YtcmkmnidnapabaaGreatL6n
import Derived.Test.YtcmkmnidnapabaaGreatI1
import Derived.Test.YtcmkmnidnapabaaGreatLB
import Derived.Test.YtcmkmnidnapabaaGreatOV
import Derived.Test.YtcmkmnidnapabaaGreatRX


/-! L6s: The reference of layer 6: Put, Encode, Hash. -/
namespace Go.Proofs.YtcmkmnidnapabaaGreat
set_option linter.unusedSimpArgs false
open Go.RowKit Go.Lib

structure PE (w wr : World) (g : Nat) (x : Hdr) (X : List Nat) : Prop where
  q : WQ wr g 1048576 X
  kh : Blk wr w.heap.size (hC x) 79
  x : Bex g w wr
theorem PE.put {w wr w1 : World} {g : Nat} {x : Hdr} {X Y : List Nat} (H : PE w wr g x X) (hg : g < w.heap.size) (h1 : WQ w1 g 1048576 Y) (h2 : Bex g wr w1) : PE w w1 g x Y := ⟨h1, h2.blk H.kh (by omega), H.x.trans h2⟩
theorem PE.rp {w wr : World} {g : Nat} {x : Hdr} {X : List Nat} (H : PE w wr g x X) : wr.rangeAt w.heap.size 3 (bvs x.p) := fun j v hj => (H.kh.cell _).trans (hC_p j v hj)
theorem PE.rv {w wr : World} {g : Nat} {x : Hdr} {X : List Nat} (H : PE w wr g x X) (hx : HdrOk x) : wr.rangeAt w.heap.size 35 (bvs x.v) := fun j v hj => (H.kh.cell _).trans (hC_v hx j v hj)
theorem PE.rn {w wr : World} {g : Nat} {x : Hdr} {X : List Nat} (H : PE w wr g x X) (hx : HdrOk x) : wr.rangeAt w.heap.size 67 (bvs x.n) := fun j v hj => (H.kh.cell _).trans (hC_n hx j v hj)
theorem PE.ra {w wr : World} {g : Nat} {x : Hdr} {X : List Nat} (H : PE w wr g x X) (hx : HdrOk x) : wr.rangeAt w.heap.size 99 (bvs x.a) := fun j v hj => (H.kh.cell _).trans (hC_a hx j v hj)
theorem ctB_len (X : List Nat) : (ctB X).length = dg X.length + 1 + X.length := by unfold ctB; rw [List.length_append, nB_len]
set_option maxRecDepth 100000 in
set_option maxHeartbeats 4000000 in
theorem rHPut_any {w : World} {g : Nat} (x : Hdr) (hG : HGood x) (H : WQ w g 1048576 []) :
    Calls Tryz.prog 184 #[.pointer (some ⟨g, 0, none⟩), .agg (hC x).toArray] w fun e w' => e = .returned (.tuple #[]) ∧ WQ w' g 1048576 (encH x) ∧ Bex g w w' := by
  have HQ := hidp (chkH_ok hG.c)
  have HS := hidp (nmS_size HQ.out.1)
  have HX := hidp hG.ok
  have hgl := hidp H.glt
  obtain ⟨n, hn⟩ : ∃ n : Nat, x.h = n := ⟨x.h.toNat, by have := HQ.out; omega⟩
  obtain ⟨t, ht⟩ : ∃ t : Nat, x.t = t := ⟨x.t.toNat, by have := HQ.out; omega⟩
  have HN := hidp (show (n ≤ 1073741824 ∧ t ≤ 1099511627776) ∧ x.h.toNat = n ∧ x.t.toNat = t by have := HQ.out; omega)
  have hnn := hidp hn
  have htt := hidp ht
  have hA := (Below.refl w.heap.size w).alloc (Nat.le_refl _) (.cells (hC x).toArray 79)
  have E0 : Hid (PE w (w.alloc (.cells (hC x).toArray 79)) g x []) := hidp ⟨H.below hA, Blk.new w (hC x) _, Bex.of_below hA⟩
  obtain ⟨Z, hZ⟩ : ∃ Z, Z = encH x := ⟨_, rfl⟩
  rw [← hZ]
  replace hZ := hidp hZ
  clear H hG hA hn ht
  have c0 := E0.out.kh.cell 0
  rw [hC_0] at c0
  go_enter Tryz.func184, Tryz.ntmps184
  go_wp2_with fail
  refine (rWText_any E0.out.q x.s (by rw [ctB_len, strL_len]; have := HS.out; have := dg_le x.s.size; simp; omega) (by decide)).mono ?_
  rintro e w1 ⟨rfl, h1, h2⟩
  have E1 := hidp (E0.out.put hgl.out h1 h2)
  clear h1 h2 E0 c0
  have S1 := hidp (show ([] ++ ctB (strL x.s) : List Nat).length ≤ 41 by rw [List.nil_append, ctB_len, strL_len]; have := HS.out; have := dg_le x.s.size; omega)
  obtain ⟨X1, hX1⟩ : ∃ X, X = ([] ++ ctB (strL x.s) : List Nat) := ⟨_, rfl⟩
  rw [← hX1] at E1 S1
  replace hX1 := hidp hX1
  have c1 := E1.out.kh.cell 1
  rw [hC_1, hnn.out] at c1
  go_wp2_with fail
  refine (rWNum_any E1.out.q n (by have := HN.out; omega) (by rw [nB_len]; have := S1.out; have := dg_le n; omega) (by decide)).mono ?_
  rintro e w2 ⟨rfl, h1, h2⟩
  have E2 := hidp (E1.out.put hgl.out h1 h2)
  clear h1 h2 E1 c1
  have S2 := hidp (show (X1 ++ nB n).length ≤ 50 by rw [List.length_append, nB_len]; have := S1.out; have := dg_le n; omega)
  obtain ⟨X2, hX2⟩ : ∃ X, X = X1 ++ nB n := ⟨_, rfl⟩
  rw [← hX2] at E2 S2
  replace hX2 := hidp hX2
  have c2 := E2.out.kh.cell 2
  rw [hC_2, htt.out] at c2
  go_wp2_with fail
  refine (rWNum_any E2.out.q t (by have := HN.out; omega) (by rw [nB_len]; have := S2.out; have := dg_le t; omega) (by decide)).mono ?_
  rintro e w3 ⟨rfl, h1, h2⟩
  have E3 := hidp (E2.out.put hgl.out h1 h2)
  clear h1 h2 E2 c2
  have S3 := hidp (show (X2 ++ nB t).length ≤ 59 by rw [List.length_append, nB_len]; have := S2.out; have := dg_le t; omega)
  obtain ⟨X3, hX3⟩ : ∃ X, X = X2 ++ nB t := ⟨_, rfl⟩
  rw [← hX3] at E3 S3
  replace hX3 := hidp hX3
  go_wp2_with (refine wpList_load_mid rfl 39 _ rfl w.heap.size 3 rfl _ _ (E3.out.rp) Tryz.underlying39 rfl (by rw [bvs_len, HX.out.p.1]; kernel_rfl) ?_)
  refine (rWHash_any E3.out.q x.p HX.out.p (by have := S3.out; omega) (by decide)).mono ?_
  rintro e w4 ⟨rfl, h1, h2⟩
  have E4 := hidp (E3.out.put hgl.out h1 h2)
  clear h1 h2 E3
  have S4 := hidp (show (X3 ++ x.p).length ≤ 91 by rw [List.length_append, HX.out.p.1]; have := S3.out; omega)
  obtain ⟨X4, hX4⟩ : ∃ X, X = X3 ++ x.p := ⟨_, rfl⟩
  rw [← hX4] at E4 S4
  replace hX4 := hidp hX4
  go_wp2_with (refine wpList_load_mid rfl 39 _ rfl w.heap.size 35 rfl _ _ (E4.out.rv HX.out) Tryz.underlying39 rfl (by rw [bvs_len, HX.out.v.1]; kernel_rfl) ?_)
  refine (rWHash_any E4.out.q x.v HX.out.v (by have := S4.out; omega) (by decide)).mono ?_
  rintro e w5 ⟨rfl, h1, h2⟩
  have E5 := hidp (E4.out.put hgl.out h1 h2)
  clear h1 h2 E4
  have S5 := hidp (show (X4 ++ x.v).length ≤ 123 by rw [List.length_append, HX.out.v.1]; have := S4.out; omega)
  obtain ⟨X5, hX5⟩ : ∃ X, X = X4 ++ x.v := ⟨_, rfl⟩
  rw [← hX5] at E5 S5
  replace hX5 := hidp hX5
  go_wp2_with (refine wpList_load_mid rfl 39 _ rfl w.heap.size 67 rfl _ _ (E5.out.rn HX.out) Tryz.underlying39 rfl (by rw [bvs_len, HX.out.n.1]; kernel_rfl) ?_)
  refine (rWHash_any E5.out.q x.n HX.out.n (by have := S5.out; omega) (by decide)).mono ?_
  rintro e w6 ⟨rfl, h1, h2⟩
  have E6 := hidp (E5.out.put hgl.out h1 h2)
  clear h1 h2 E5
  have S6 := hidp (show (X5 ++ x.n).length ≤ 155 by rw [List.length_append, HX.out.n.1]; have := S5.out; omega)
  obtain ⟨X6, hX6⟩ : ∃ X, X = X5 ++ x.n := ⟨_, rfl⟩
  rw [← hX6] at E6 S6
  replace hX6 := hidp hX6
  go_wp2_with (refine wpList_load_mid rfl 39 _ rfl w.heap.size 99 rfl _ _ (E6.out.ra HX.out) Tryz.underlying39 rfl (by rw [bvs_len, HX.out.a.1]; kernel_rfl) ?_)
  refine (rWHash_any E6.out.q x.a HX.out.a (by have := S6.out; omega) (by decide)).mono ?_
  rintro e w7 ⟨rfl, h1, h2⟩
  have E7 := hidp (E6.out.put hgl.out h1 h2)
  clear h1 h2 E6
  have S7 := hidp (show (X6 ++ x.a).length ≤ 187 by rw [List.length_append, HX.out.a.1]; have := S6.out; omega)
  obtain ⟨X7, hX7⟩ : ∃ X, X = X6 ++ x.a := ⟨_, rfl⟩
  rw [← hX7] at E7 S7
  replace hX7 := hidp hX7
  have hE : X7 = Z := by
    rw [hX7.out, hX6.out, hX5.out, hX4.out, hX3.out, hX2.out, hX1.out, hZ.out]
    unfold encH ctB
    rw [HN.out.2.1, HN.out.2.2, strL_len]
  go_wp2_with fail
  refine bodyPost_end (results_none rfl _ _ _) rfl ?_
  refine ⟨rfl, ?_, E7.out.x⟩
  rw [← hE]
  exact E7.out.q
/-- What Encode tells of any header. -/
def encO (x : Hdr) : List Nat := if chkH x = 0 then encH x else []
def EncP (w : World) (x : Hdr) (e : Ending) (w' : World) : Prop := (∃ p b c, e = .returned (.tuple #[.slice p (encO x).length c, .int .i64 (chkH x : Nat)]) ∧ w.heap.size ≤ b ∧ (p = none → c = 0) ∧ Bs w' p b 0 (encO x) c) ∧ Below w.heap.size w w'
set_option maxRecDepth 100000 in
set_option maxHeartbeats 4000000 in
theorem rEncode_ok (x : Hdr) (hG : HGood x) (w : World) : Calls Tryz.prog 118 #[.agg (hC x).toArray] w (DoneP w (encH x)) := by
  have HC := hidp (fun W => rCheck_any x W (by have := nmS_size (chkH_ok hG.c).1; omega))
  rw [hG.c] at HC
  have HG := hidp hG
  have hLE := hidp (encH_le hG)
  have hl := hidp (hC_len hG.ok)
  have hA := hidp (Blk.new w (hC x) 79)
  have hBB := hidp ((Below.refl w.heap.size w).alloc (Nat.le_refl _) (.cells (hC x).toArray 79))
  clear hG
  go_enter Tryz.func118, Tryz.ntmps118
  go_wp2_with (with_reducible refine (?_ : wpList _ _ _ _ _ _); refine wpList_load_blk rfl 79 _ rfl w.heap.size (hC x) 79 rfl hA.out _ Tryz.underlying79 rfl (by rw [hl.out]; kernel_rfl) ?_)
  refine (HC.out _).mono ?_
  rintro e w1 ⟨rfl, hb⟩
  have hB := hidp (hBB.out.trans (hb.mono hBB.out.size))
  have hK := hidp (hb.blk' hA.out)
  clear hb HC hBB hA
  go_wp2_with fail
  refine (rNewW_any w1 1048576 (by decide)).mono ?_
  rintro e w2 ⟨g, rfl, hg, hq, hb⟩
  have hB2 := hidp (hB.out.trans (hb.mono hB.out.size))
  have hK2 := hidp (hb.blk' hK.out)
  have hQ := hidp hq
  have hgg := hidp (show w.heap.size ≤ g from Nat.le_trans hB.out.size hg)
  clear hb hB hK hq hg
  go_wp2_with (with_reducible refine (?_ : wpList _ _ _ _ _ _); refine wpList_load_blk rfl 79 _ rfl w.heap.size (hC x) 79 rfl hK2.out _ Tryz.underlying79 rfl (by rw [hl.out]; kernel_rfl) ?_)
  refine (rHPut_any x HG.out hQ.out).mono ?_
  rintro e w3 ⟨rfl, hq, hx⟩
  have hQ3 := hidp hq
  have hB3 := hidp (hB2.out.trans (hx.below hgg.out hB2.out.size))
  clear hq hx hB2 hK2 hQ
  go_wp2_with fail
  refine (rDone_any hQ3.out (by have := hLE.out; omega)).mono ?_
  rintro e w4 ⟨⟨p, pb, pc, rfl, h1, h2, h3⟩, h4⟩
  have HP := hidp (And.intro (Nat.le_trans hB3.out.size h1) (And.intro h2 h3))
  have hB4 := hidp (hB3.out.trans (h4.mono hB3.out.size))
  clear h1 h2 h3 h4 hB3 hQ3
  go_wp2_with fail
  exact bodyPost_ret (v := .tuple #[.slice p (encH x).length pc, .int .i64 0]) (by simp [results, Tryz.results118, go_sem]) rfl ⟨⟨p, pb, pc, rfl, HP.out⟩, hB4.out⟩
set_option maxRecDepth 100000 in
set_option maxHeartbeats 4000000 in
theorem rEncode_bad (x : Hdr) (hx : HdrOk x) (hs : x.s.size ≤ 9223372036854775806) (hc : chkH x ≠ 0) (w : World) : Calls Tryz.prog 118 #[.agg (hC x).toArray] w fun e w' => e = .returned (.tuple #[.slice none 0 0, .int .i64 (chkH x : Nat)]) ∧ Below w.heap.size w w' := by
  have HC := hidp (fun W => rCheck_any x W hs)
  have ht : (((chkH x : Nat) : Int) != 0) = true := by rw [bne_iff_ne]; omega
  have hl := hidp (hC_len hx)
  have hA := hidp (Blk.new w (hC x) 79)
  have hBB := hidp ((Below.refl w.heap.size w).alloc (Nat.le_refl _) (.cells (hC x).toArray 79))
  clear hc hx
  generalize chkH x = n at *
  go_enter Tryz.func118, Tryz.ntmps118
  go_wp2_with (with_reducible refine (?_ : wpList _ _ _ _ _ _); refine wpList_load_blk rfl 79 _ rfl w.heap.size (hC x) 79 rfl hA.out _ Tryz.underlying79 rfl (by rw [hl.out]; kernel_rfl) ?_)
  refine (HC.out _).mono ?_
  rintro e w1 ⟨rfl, hb⟩
  have hB := hidp (hBB.out.trans (hb.mono hBB.out.size))
  clear hb HC hBB hA
  go_wp2_with fail
  exact bodyPost_ret (v := .tuple #[.slice none 0 0, .int .i64 (n : Nat)]) (by simp [results, Tryz.results118, go_sem]) rfl ⟨rfl, hB.out⟩
set_option maxRecDepth 100000 in
set_option maxHeartbeats 2000000 in
theorem rHash_bad (x : Hdr) (hx : HdrOk x) (hs : x.s.size ≤ 9223372036854775806) (w : World) (hc : chkH x ≠ 0) :
    Calls Tryz.prog 113 #[.agg (hC x).toArray] w fun e w' => e = .returned (.tuple #[.agg (bvs z32).toArray, .int .i64 (chkH x : Nat)]) ∧ Below w.heap.size w w' := by
  have hz : ∀ w, (zeroValue 39).run Tryz.prog w = .ok (.agg (bvs z32).toArray) w := (zero_of_info (P := Tryz.prog) zero_hash).1
  have hl := hidp (hC_len hx)
  have HE := hidp (fun W => rEncode_bad x hx hs hc W)
  have hbn : (((chkH x : Nat) : Int) != 0) = true := by rw [bne_iff_ne]; omega
  have hA := hidp ((Blk.new w (hC x) 79).alloc (.cells (bvs z32).toArray 39))
  have hR := hidp (Blk.new' (w.alloc (.cells (hC x).toArray 79)) (bvs z32) 39 (w.heap.size + 1) (by simp))
  have hBB := hidp (((Below.refl w.heap.size w).alloc (Nat.le_refl _) (.cells (hC x).toArray 79)).alloc (by simp) (.cells (bvs z32).toArray 39))
  clear hc hx
  generalize chkH x = n at *
  go_enter Tryz.func113, Tryz.ntmps113
  go_wp2_with (with_reducible refine (?_ : wpList _ _ _ _ _ _); refine wpList_load_blk rfl 79 _ rfl w.heap.size (hC x) 79 rfl hA.out _ Tryz.underlying79 rfl (by rw [hl.out]; kernel_rfl) ?_)
  refine (HE.out _).mono ?_
  rintro e w1 ⟨rfl, hb⟩
  have hR1 := hidp (hb.blk' hR.out)
  have hB := hidp (hBB.out.trans (hb.mono hBB.out.size))
  clear hb HE hBB hA hR
  go_wp2_with first
    | (with_reducible refine (?_ : wpList _ _ _ _ _ _); refine wpList_buildG (by kernel_rfl) 39 _ rfl (bvs z32).toArray (by kernel_rfl) ?_)
    | (with_reducible refine (?_ : wpList _ _ _ _ _ _); refine wpList_store_blk rfl 39 _ _ rfl (w.heap.size + 1) (bvs z32) (bvs z32) 39 rfl rfl hR1.out (by kernel_rfl) rfl (bvs_one _) ?_; intro w6 hw6)
  have b2 : Blk w6 (w.heap.size + 1) (bvs z32) 39 := by rw [hw6.out]; exact hR1.out.row
  have hB6 : Below w.heap.size w w6 := by rw [hw6.out]; exact hB.out.trans (((But.refl (w.heap.size + 1) w1).setRow (bvs z32).toArray).below (by omega))
  refine bodyPost_ret (v := .tuple #[.agg (bvs z32).toArray, .int .i64 (n : Nat)]) ?_ rfl ⟨rfl, hB6⟩
  exact results_row2 Tryz.results113 _ _ (w.heap.size + 1) 39 _ _ rfl b2 Tryz.underlying39 rfl (by kernel_rfl)
set_option maxRecDepth 100000 in
set_option maxHeartbeats 2000000 in
theorem rHash_ok (x : Hdr) (hG : HGood x) (w : World) :
    Calls Tryz.prog 113 #[.agg (hC x).toArray] w fun e w' => e = .returned (.tuple #[.agg (bvs (hashH x)).toArray, .int .i64 0]) ∧ Below w.heap.size w w' := by
  have hz : ∀ w, (zeroValue 39).run Tryz.prog w = .ok (.agg (bvs z32).toArray) w := (zero_of_info (P := Tryz.prog) zero_hash).1
  have hl := hidp (hC_len hG.ok)
  have HE := hidp (fun W => rEncode_ok x hG W)
  have hA := hidp ((Blk.new w (hC x) 79).alloc (.cells (bvs z32).toArray 39))
  have hR := hidp (Blk.new' (w.alloc (.cells (hC x).toArray 79)) (bvs z32) 39 (w.heap.size + 1) (by simp))
  have hBB := hidp (((Below.refl w.heap.size w).alloc (Nat.le_refl _) (.cells (hC x).toArray 79)).alloc (by simp) (.cells (bvs z32).toArray 39))
  have hLE := hidp (encH_le hG)
  have hBY := hidp (encH_byte hG.ok)
  have hHH := hidp (show hashH x = hashL (72 :: encH x) from rfl)
  have hHl := hidp (hashH_len x)
  clear hG
  generalize hashH x = Z at *
  generalize encH x = L at *
  go_enter Tryz.func113, Tryz.ntmps113
  go_wp2_with (with_reducible refine (?_ : wpList _ _ _ _ _ _); refine wpList_load_blk rfl 79 _ rfl w.heap.size (hC x) 79 rfl hA.out _ Tryz.underlying79 rfl (by rw [hl.out]; kernel_rfl) ?_)
  refine (HE.out _).mono ?_
  rintro e w1 ⟨⟨p, b, cap, rfl, _, hpn, hs⟩, hb⟩
  have hR1 := hidp (hb.blk' hR.out)
  have hB := hidp (hBB.out.trans (hb.mono hBB.out.size))
  have HS := hidp (ByS.of_bs (hs.below ((Below.refl w1.heap.size w1).alloc (Nat.le_refl _) (.cells (bvs [72]).toArray 5))) hpn)
  have HO := hidp (own_lit w1 [72] (by decide))
  clear hb HE hBB hA hR hs hpn
  have hn1 := hidp (show 1 + L.length ≤ 4000000 by have := hLE.out; omega)
  have hZ0 := hidp (show w1.heap.size ≤ (w1.alloc (.cells (bvs [72]).toArray 5)).heap.size by simp)
  go_wp2_with (at_builtin; refine wpList_append_byS rfl _ _ rfl w1.heap.size 1 (bvs [72]) _ rfl HO.out p cap L rfl HS.out hn1.out hZ0.out ?_; intro v' w2 hown' hgrow; have hO := hidp hown'; have hG := hidp hgrow; clear hown' hgrow)
  have hT := hidp (((Below.refl w1.heap.size w1).alloc (Nat.le_refl _) _).grown hG.out hZ0.out (fun j hj => (HO.out.lt j hj).1))
  have hO2 : w2.ownsRow w1.heap.size 5 1 v' (72 :: L).length (bvs (72 :: L)) := by
    have q := hO.out
    rw [show 1 + L.length = (72 :: L).length by rw [List.length_cons]; omega] at q
    exact q
  obtain ⟨p2, b2, c2, rfl, _, _, hs⟩ := Bs.of_own hO2 (fun z hz => by
    rcases List.mem_cons.1 hz with rfl | h1
    · decide
    · exact hBY.out z h1)
  have HS2 := hidp hs
  have hR2 := hidp (hT.out.blk' hR1.out)
  have hB2 := hidp (hB.out.trans (hT.out.mono hB.out.size))
  clear hs hO hO2 HO hG hT hR1 hB HS
  refine (refSum_any (ByS.of_bs HS2.out HS2.out.none_cap) (by rw [List.length_cons]; have := hLE.out; omega)).mono ?_
  rintro e w3 ⟨rfl, hb⟩
  have hR3 := hidp (hb.blk' hR2.out)
  have hB3 := hidp (hB2.out.trans (hb.mono hB2.out.size))
  clear hb hR2 hB2 HS2
  rw [← hHH.out]
  go_wp2_with (with_reducible refine (?_ : wpList _ _ _ _ _ _); refine wpList_store_blk rfl 39 _ _ rfl (w.heap.size + 1) (bvs Z) (bvs z32) 39 rfl rfl hR3.out (by rw [bvs_len, hHl.out]; kernel_rfl) (by simp [bvs_len, hHl.out, z32]) (bvs_one _) ?_; intro w6 hw6)
  have b2 : Blk w6 (w.heap.size + 1) (bvs Z) 39 := by rw [hw6.out]; exact hR3.out.row
  have hB6 : Below w.heap.size w w6 := by rw [hw6.out]; exact hB3.out.trans (((But.refl (w.heap.size + 1) w3).setRow (bvs Z).toArray).below (by omega))
  refine bodyPost_ret (v := .tuple #[.agg (bvs Z).toArray, .int .i64 0]) ?_ rfl ⟨rfl, hB6⟩
  exact results_row2 Tryz.results113 _ _ (w.heap.size + 1) 39 _ _ rfl b2 Tryz.underlying39 rfl (by rw [bvs_len, hHl.out]; kernel_rfl)
end Go.Proofs.YtcmkmnidnapabaaGreat

/-! L6t: Header: the walk of HeaderChecks. -/
namespace Go.Proofs.YtcmkmnidnapabaaGreat
set_option linter.unusedSimpArgs false
open Go.RowKit Go.Lib

attribute [local go_sem] idx4_0 idx4_1 idx4_2 idx4_3
set_option maxRecDepth 100000 in
set_option maxHeartbeats 2000000 in
theorem hencode_own (x : Hdr) (hx : HdrOk x) (w : World) (hc : chkH x = 0) :
    Calls Tryz.prog 114 #[.agg (hC x).toArray] w (DoneO w (encH x)) := by
  have HC := hidp (hcheck_any x hx)
  rw [hc] at HC
  have HQ := hidp (chkH_ok hc)
  have HS := hidp (nmS_size HQ.out.1)
  have hl := hidp (hC_len hx)
  have HX := hidp hx
  obtain ⟨n, hn⟩ : ∃ n : Nat, x.h = n := ⟨x.h.toNat, by have := HQ.out; omega⟩
  obtain ⟨t, ht⟩ : ∃ t : Nat, x.t = t := ⟨x.t.toNat, by have := HQ.out; omega⟩
  have HN := hidp (show (n ≤ 1073741824 ∧ t ≤ 1099511627776) ∧ x.h.toNat = n ∧ x.t.toNat = t by have := HQ.out; omega)
  have hnn := hidp hn
  have htt := hidp ht
  have hA := hidp (Blk.new w (hC x) 79)
  have hBB := hidp ((Below.refl w.heap.size w).alloc (Nat.le_refl _) (.cells (hC x).toArray 79))
  obtain ⟨Z, hZ⟩ : ∃ Z, Z = encH x := ⟨_, rfl⟩
  rw [← hZ]
  replace hZ := hidp hZ
  clear hc hx hn ht
  go_enter Tryz.func114, Tryz.ntmps114
  go_wp2_with (with_reducible refine (?_ : wpList _ _ _ _ _ _); refine wpList_load_blk rfl 79 _ rfl w.heap.size (hC x) 79 rfl hA.out _ Tryz.underlying79 rfl (by rw [hl.out]; kernel_rfl) ?_)
  refine (HC.out _).mono ?_
  rintro e w1 ⟨rfl, hb⟩
  have hB := hidp (hBB.out.trans (hb.mono hBB.out.size))
  have hK := hidp (hb.blk' hA.out)
  clear hb HC hBB hA
  go_wp2_with fail
  refine (newWriter_mx w1).mono ?_
  rintro e w2 ⟨rfl, hw, hb⟩
  have E0 : Hid (HEnc w w2 w1.heap.size x (.slice none 0 0) []) := hidp ⟨hw, hb.blk' hK.out, hB.out.trans (hb.mono hB.out.size), hK.out.lt⟩
  clear hw hb hB hK
  have c0 := E0.out.kh.cell 0
  rw [hC_0] at c0
  go_wp2_with fail
  refine (wText_n E0.out.wri x.s (by have := HS.out; omega) (by have := HS.out; simp; omega)).mono ?_
  rintro e w3 ⟨rfl, v3, hw, hf⟩
  have E1 := hidp (E0.out.put hw hf)
  clear hw hf E0 c0
  have S1 := hidp (show ([] ++ (nB x.s.size ++ strL x.s) : List Nat).length ≤ 41 by rw [List.nil_append, List.length_append, nB_len, strL_len]; have := HS.out; have := dg_le x.s.size; omega)
  obtain ⟨X1, hX1⟩ : ∃ X, X = ([] ++ (nB x.s.size ++ strL x.s) : List Nat) := ⟨_, rfl⟩
  rw [← hX1] at E1 S1
  replace hX1 := hidp hX1
  have c1 := E1.out.kh.cell 1
  rw [hC_1, hnn.out] at c1
  go_wp2_with fail
  refine (wNum_n E1.out.wri n (by have := HN.out; omega) (by have := S1.out; omega)).mono ?_
  rintro e w4 ⟨rfl, v4, hw, hf⟩
  have E2 := hidp (E1.out.put hw hf)
  clear hw hf E1 c1
  have S2 := hidp (show (X1 ++ nB n).length ≤ 50 by rw [List.length_append, nB_len]; have := S1.out; have := dg_le n; omega)
  obtain ⟨X2, hX2⟩ : ∃ X, X = X1 ++ nB n := ⟨_, rfl⟩
  rw [← hX2] at E2 S2
  replace hX2 := hidp hX2
  have c2 := E2.out.kh.cell 2
  rw [hC_2, htt.out] at c2
  go_wp2_with fail
  refine (wNum_n E2.out.wri t (by have := HN.out; omega) (by have := S2.out; omega)).mono ?_
  rintro e w5 ⟨rfl, v5, hw, hf⟩
  have E3 := hidp (E2.out.put hw hf)
  clear hw hf E2 c2
  have S3 := hidp (show (X2 ++ nB t).length ≤ 59 by rw [List.length_append, nB_len]; have := S2.out; have := dg_le t; omega)
  obtain ⟨X3, hX3⟩ : ∃ X, X = X2 ++ nB t := ⟨_, rfl⟩
  rw [← hX3] at E3 S3
  replace hX3 := hidp hX3
  go_wp2_with fail
  refine (hashes_any w.heap.size _).mono ?_
  rintro e w6 ⟨rfl, hb⟩
  replace E3 := hidp (E3.out.below hb)
  clear hb
  go_wp2_with fail
  refine wp_loop_rounds 5 ?_
  rw [rounds_succ]
  go_wp2_with (refine wpList_load_mid rfl 39 _ rfl w.heap.size 3 rfl _ _ (E3.out.rp) Tryz.underlying39 rfl (by rw [bvs_len, HX.out.p.1]; kernel_rfl) ?_)
  refine (wHash_ok E3.out.wri x.p HX.out.p (by have := S3.out; omega)).mono ?_
  rintro e w7 ⟨rfl, v7, hw, hf⟩
  have E4 := hidp (E3.out.put hw hf)
  clear hw hf E3
  have S4 := hidp (show (X3 ++ x.p).length ≤ 91 by rw [List.length_append, HX.out.p.1]; have := S3.out; omega)
  obtain ⟨X4, hX4⟩ : ∃ X, X = X3 ++ x.p := ⟨_, rfl⟩
  rw [← hX4] at E4 S4
  replace hX4 := hidp hX4
  go_wp2_with fail
  rw [rounds_succ]
  go_wp2_with (refine wpList_load_mid rfl 39 _ rfl w.heap.size 35 rfl _ _ (E4.out.rv HX.out) Tryz.underlying39 rfl (by rw [bvs_len, HX.out.v.1]; kernel_rfl) ?_)
  refine (wHash_ok E4.out.wri x.v HX.out.v (by have := S4.out; omega)).mono ?_
  rintro e w8 ⟨rfl, v8, hw, hf⟩
  have E5 := hidp (E4.out.put hw hf)
  clear hw hf E4
  have S5 := hidp (show (X4 ++ x.v).length ≤ 123 by rw [List.length_append, HX.out.v.1]; have := S4.out; omega)
  obtain ⟨X5, hX5⟩ : ∃ X, X = X4 ++ x.v := ⟨_, rfl⟩
  rw [← hX5] at E5 S5
  replace hX5 := hidp hX5
  go_wp2_with fail
  rw [rounds_succ]
  go_wp2_with (refine wpList_load_mid rfl 39 _ rfl w.heap.size 67 rfl _ _ (E5.out.rn HX.out) Tryz.underlying39 rfl (by rw [bvs_len, HX.out.n.1]; kernel_rfl) ?_)
  refine (wHash_ok E5.out.wri x.n HX.out.n (by have := S5.out; omega)).mono ?_
  rintro e w9 ⟨rfl, v9, hw, hf⟩
  have E6 := hidp (E5.out.put hw hf)
  clear hw hf E5
  have S6 := hidp (show (X5 ++ x.n).length ≤ 155 by rw [List.length_append, HX.out.n.1]; have := S5.out; omega)
  obtain ⟨X6, hX6⟩ : ∃ X, X = X5 ++ x.n := ⟨_, rfl⟩
  rw [← hX6] at E6 S6
  replace hX6 := hidp hX6
  go_wp2_with fail
  rw [rounds_succ]
  go_wp2_with (refine wpList_load_mid rfl 39 _ rfl w.heap.size 99 rfl _ _ (E6.out.ra HX.out) Tryz.underlying39 rfl (by rw [bvs_len, HX.out.a.1]; kernel_rfl) ?_)
  refine (wHash_ok E6.out.wri x.a HX.out.a (by have := S6.out; omega)).mono ?_
  rintro e w10 ⟨rfl, v10, hw, hf⟩
  have E7 := hidp (E6.out.put hw hf)
  clear hw hf E6
  have S7 := hidp (show (X6 ++ x.a).length ≤ 187 by rw [List.length_append, HX.out.a.1]; have := S6.out; omega)
  obtain ⟨X7, hX7⟩ : ∃ X, X = X6 ++ x.a := ⟨_, rfl⟩
  rw [← hX7] at E7 S7
  replace hX7 := hidp hX7
  go_wp2_with fail
  rw [rounds_succ]
  go_wp2_with fail
  refine (wDone_own E7.out.wri).mono ?_
  rintro e w11 ⟨⟨p, pb, pc, rfl, h1, h2, h3, h3o⟩, h4⟩
  have HP := hidp (And.intro h1 (And.intro h2 (And.intro h3 h3o)))
  have HB := hidp (E7.out.bel.trans (h4.mono E7.out.bel.size))
  have HZ := hidp E7.out.bel.size
  have hZ7 := hidp (show X7 = Z by rw [hX7.out, hX6.out, hX5.out, hX4.out, hX3.out, hX2.out, hX1.out, hZ.out, ← HN.out.2.1, ← HN.out.2.2]; rfl)
  clear h1 h2 h3 h3o h4 E7
  go_wp2_with fail
  refine bodyPost_ret (v := .tuple #[.slice p X7.length pc, .int .i64 0]) (by simp [results, Tryz.results114, go_sem]) rfl ⟨⟨p, pb, pc, ?_, Nat.le_trans HZ.out HP.out.1, HP.out.2.1, ?_, ?_⟩, HB.out⟩
  · rw [hZ7.out]
  · rw [← hZ7.out]; exact HP.out.2.2.1
  · rw [← hZ7.out]; exact HP.out.2.2.2.lower HZ.out
theorem rHashO (x : Hdr) (hx : HdrOk x) (hs : x.s.size ≤ 9223372036854775806) (w : World) :
    Calls Tryz.prog 113 #[.agg (hC x).toArray] w fun e w' => e = .returned (.tuple #[.agg (bvs (hashO x)).toArray, .int .i64 (chkH x : Nat)]) ∧ Below w.heap.size w w' := by
  unfold hashO
  by_cases hc : chkH x = 0
  · rw [if_pos hc, hc]; exact rHash_ok x ⟨hx, hc⟩ w
  · rw [if_neg hc]; exact rHash_bad x hx hs w hc
end Go.Proofs.YtcmkmnidnapabaaGreat
