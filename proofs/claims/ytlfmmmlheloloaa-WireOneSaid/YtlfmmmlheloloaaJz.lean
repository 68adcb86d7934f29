/-
  Contracts: a reader's Hash and Key.
-/
import Derived.Test.YtlfmmmlheloloaaJx
import Derived.Test.YtlfmmmlheloloaaJt
import Derived.Laws.Cover3
namespace Go.Proofs.Ytlfmmmlheloloaa
open Go.RowKit Go.Lib Go.Maps

theorem Bex.ofRow {w w' : World} {k : Nat} {cs : Array Value} (h : w' = w.setRow k cs) : Bex k w w' := by
  rw [h]; exact ⟨rfl, rfl, rfl, by simp [World.setRow], fun i _ hi => setRow_other _ _ _ _ hi⟩
theorem Cu.bex' {w w' : World} {k c t : Nat} {p : Option Addr} {b o cap : Nat} {R : List Nat} (H : Cu w c t p b o cap R) (hB : Bex k w w') (hc : c ≠ k) (hb : 0 < cap → k ≠ b) : Cu w' c t p b o cap R := ⟨hB.blk H.blk hc, H.bs.bex hB hb, H.ne, H.lim⟩
theorem CuX.bex' {w w' : World} {k c t b cap : Nat} {R : List Nat} (H : CuX w c t b R cap) (hB : Bex k w w') (hc : c ≠ k) (hb : k ≠ b) : CuX w' c t b R cap := by
  obtain ⟨p, o, cap', h1, h2⟩ := H
  exact ⟨p, o, cap', h1, h2.bex' hB hc (fun _ => hb)⟩
theorem Bex.newRow {c : Nat} {w w2 w6 : World} (h : Bex c w w2) (h6 : Bex w.heap.size w2 w6) : Bex c w w6 :=
  ⟨h6.os.trans h.os, h6.tape.trans h.tape, h6.output.trans h.output, Nat.le_trans h.size h6.size, fun k hk hne => (h6.block k (Nat.lt_of_lt_of_le hk h.size) (by omega)).trans (h.block k hk hne)⟩
theorem Blk.sc2 {w : World} {k g : Nat} {cs : List Value} {T : TypeId} (h : Blk w k cs T) (hne : k ≠ g) (i j : Nat) (v u : Value) : Blk ((w.setCell ⟨g, i, none⟩ v).setCell ⟨g, j, none⟩ u) k cs T :=
  (((Bex.refl g w).setCell i v).setCell j u).blk h hne
theorem add_at {t n : Nat} (h : t + n ≤ 1000000000) : wrap64 ((t : Int) + (n : Int)) = ((t + n : Nat) : Int) ∧ IntKind.i64.wrap ((t : Int) + (n : Int)) = ((t + n : Nat) : Int) :=
  ⟨by rw [w64 _ (by omega)]; omega, by rw [IntKind.wrap_i64]; omega⟩
/-- As many bytes as there are, or none. -/
def pRaw (m : Nat) (R : List Nat) : PR (List Nat) := if R.length < m then .er 6 else .ok (R.take m) m
theorem pRaw_ok {m n : Nat} {R T : List Nat} (h : pRaw m R = .ok T n) : T = R.take m ∧ n = m ∧ m ≤ R.length := by
  unfold pRaw at h
  by_cases hl : R.length < m
  · rw [if_pos hl] at h; cases h
  · rw [if_neg hl] at h; cases h; exact ⟨rfl, rfl, by omega⟩
theorem pRaw_er {m x : Nat} {R : List Nat} (h : pRaw m R = .er x) : x = 6 ∧ R.length < m := by
  unfold pRaw at h
  by_cases hl : R.length < m
  · rw [if_pos hl] at h; cases h; exact ⟨rfl, hl⟩
  · rw [if_neg hl] at h; cases h
/-- What an array's read begins with: the reader's box, two of zeros, the cursor. -/
def elWA (w : World) (g t : Nat) (p : Option Addr) (n cap : Nat) (Z Y : Array Value) (T : TypeId) : World := (((w.alloc (.cells #[.pointer (some ⟨g, 0, none⟩)] 48)).alloc (.cells Z T)).alloc (.cells Y T)).alloc (.cells #[.int .i64 (t : Nat), .slice p n cap] 62)
structure ElZ (w we : World) (g t : Nat) (p : Option Addr) (b o cap : Nat) (R : List Nat) (Z Y : Array Value) (T : TypeId) : Prop where
  cu : Cu we (w.heap.size + 1 + 1 + 1) t p b o cap R
  bel : Below w.heap.size w we
  box : Blk we w.heap.size [.pointer (some ⟨g, 0, none⟩)] 48
  z1 : Blk we (w.heap.size + 1) Z.toList T
  z2 : Blk we (w.heap.size + 1 + 1) Y.toList T
  rd : Rd we g t p b o cap R 0 0
  size : we.heap.size = w.heap.size + 4
theorem elWA_cu {w : World} {g t : Nat} {p : Option Addr} {b o cap : Nat} {R : List Nat} (H : Rd w g t p b o cap R 0 0) (Z Y : Array Value) (T : TypeId) : ElZ w (elWA w g t p R.length cap Z Y T) g t p b o cap R Z Y T := by
  have hB : Below w.heap.size w (elWA w g t p R.length cap Z Y T) := ((((Below.refl _ w).alloc (Nat.le_refl _) _).alloc (by simp) _).alloc (by simp; omega) _).alloc (by simp; omega) _
  refine ⟨⟨Blk.new' _ _ _ _ (by simp), H.bs.below hB, fun h0 => by have := (H.bs.ptr h0).2; omega, H.lim⟩, hB, (((Blk.new w _ _).alloc _).alloc _).alloc _, ((Blk.new' _ Z.toList _ _ (by simp)).alloc _).alloc _, (Blk.new' _ Y.toList _ _ (by simp)).alloc _, H.below hB, by unfold elWA; simp⟩
structure ElA (w w1 : World) (g t b n : Nat) (R : List Nat) (p' : Option Addr) (o' cap' : Nat) (Z Y : Array Value) (T : TypeId) : Prop where
  rd : ∃ p o cap, Rd w1 g t p b o cap R 0 0 ∧ (0 < cap → b < w.heap.size)
  cu : Cu w1 (w.heap.size + 1 + 1 + 1) (t + n) p' b o' cap' (R.drop n)
  box : Blk w1 w.heap.size [.pointer (some ⟨g, 0, none⟩)] 48
  z1 : Blk w1 (w.heap.size + 1) Z.toList T
  z2 : Blk w1 (w.heap.size + 1 + 1) Y.toList T
  bex : Bex g w w1
  ne : 0 < cap' → g ≠ b
  nb : 0 < cap' → b < w.heap.size
  hg : g < w.heap.size
theorem ElA.of {w w1 : World} {g t : Nat} {p : Option Addr} {b o cap : Nat} {R : List Nat} {n : Nat} {Z Y : Array Value} {T : TypeId} (H : Rd w g t p b o cap R 0 0) (hx : CuX w1 (w.heap.size + 1 + 1 + 1) (t + n) b (R.drop n) cap) (hb : Bex (w.heap.size + 1 + 1 + 1) (elWA w g t p R.length cap Z Y T) w1) : ∃ p' o' cap', ElA w w1 g t b n R p' o' cap' Z Y T := by
  have h := elWA_cu H Z Y T
  obtain ⟨p', o', cap', hcc, hc⟩ := hx
  have hg := H.blk.lt
  have hs := h.size
  refine ⟨p', o', cap', ⟨p, o, cap, h.rd.bex hb (by omega) (fun h0 => by have := (H.bs.ptr h0).2; omega), fun h0 => (H.bs.ptr h0).2⟩, hc, hb.blk h.box (by omega), hb.blk h.z1 (by omega), hb.blk h.z2 (by omega), ?_, fun h0 => H.ne (by omega), fun h0 => (H.bs.ptr (by omega)).2, hg⟩
  exact ⟨hb.os.trans h.bel.os, hb.tape.trans h.bel.tape, hb.output.trans h.bel.output, Nat.le_trans h.bel.size hb.size, fun k hk _ => (hb.block k (by omega) (by omega)).trans (h.bel.block k hk)⟩
theorem ElE_of {w w1 : World} {g t : Nat} {p : Option Addr} {b o cap : Nat} {R : List Nat} {Z Y : Array Value} {T : TypeId} (H : Rd w g t p b o cap R 0 0) (hb : Bex (w.heap.size + 1 + 1 + 1) (elWA w g t p R.length cap Z Y T) w1) : Rd w1 g t p b o cap R 0 0 ∧ Blk w1 w.heap.size [.pointer (some ⟨g, 0, none⟩)] 48 ∧ Blk w1 (w.heap.size + 1) Z.toList T ∧ Bex g w w1 ∧ g < w.heap.size := by
  have h := elWA_cu H Z Y T
  have hg := H.blk.lt
  have hs := h.size
  refine ⟨h.rd.bex hb (by omega) (fun h0 => by have := (H.bs.ptr h0).2; omega), hb.blk h.box (by omega), hb.blk h.z1 (by omega), ?_, hg⟩
  exact ⟨hb.os.trans h.bel.os, hb.tape.trans h.bel.tape, hb.output.trans h.bel.output, Nat.le_trans h.bel.size hb.size, fun k hk _ => (hb.block k (by omega) (by omega)).trans (h.bel.block k hk)⟩
theorem RdX.bexA {k : Nat} {w w' : World} {g t b : Nat} {R : List Nat} {e f : Nat} (H : RdX w g t b R e f) (hb : Bex k w w') (hg : g ≠ k) (hk : k ≠ b) : RdX w' g t b R e f := by
  obtain ⟨p, o, cap, h⟩ := H
  exact ⟨p, o, cap, h.bex hb hg (fun _ => hk)⟩
theorem Bex.newRowAt {c k : Nat} {w w2 w6 : World} (h : Bex c w w2) (h6 : Bex k w2 w6) (hk : w.heap.size ≤ k) : Bex c w w6 :=
  ⟨h6.os.trans h.os, h6.tape.trans h.tape, h6.output.trans h.output, Nat.le_trans h.size h6.size, fun i hi hne => (h6.block i (Nat.lt_of_lt_of_le hi h.size) (by omega)).trans (h.block i hi hne)⟩
/-- The bytes lie in their box. -/
structure ElC (w w2 : World) (g t b n : Nat) (R : List Nat) (p' : Option Addr) (o' cap' : Nat) (Z : Array Value) (V : List Value) (T : TypeId) : Prop where
  rd : ∃ p o cap, Rd w2 g t p b o cap R 0 0
  cu : Cu w2 (w.heap.size + 1 + 1 + 1) (t + n) p' b o' cap' (R.drop n)
  box : Blk w2 w.heap.size [.pointer (some ⟨g, 0, none⟩)] 48
  z1 : Blk w2 (w.heap.size + 1) Z.toList T
  z2 : Blk w2 (w.heap.size + 1 + 1) V T
  bex : Bex g w w2
theorem ElA.next {w w1 w2 : World} {g t b n : Nat} {R : List Nat} {p' : Option Addr} {o' cap' : Nat} {Z Y : Array Value} {V : List Value} {T : TypeId} (H : ElA w w1 g t b n R p' o' cap' Z Y T) (hw : w2 = w1.setRow (w.heap.size + 1 + 1) V.toArray) : ElC w w2 g t b n R p' o' cap' Z V T := by
  have hx := Bex.ofRow hw
  have hg := H.hg
  obtain ⟨p, o, cap, hr, hb⟩ := H.rd
  refine ⟨⟨p, o, cap, hr.bex hx (by omega) (fun h0 => by have := hb h0; omega)⟩, H.cu.bex' hx (by omega) (fun h0 => by have := H.nb h0; omega), hx.blk H.box (by omega), hx.blk H.z1 (by omega), by rw [hw]; exact H.z2.row, ?_⟩
  exact ⟨hx.os.trans H.bex.os, hx.tape.trans H.bex.tape, hx.output.trans H.bex.output, Nat.le_trans H.bex.size hx.size, fun k hk hne => (hx.block k (Nat.lt_of_lt_of_le hk H.bex.size) (by omega)).trans (H.bex.block k hk hne)⟩

set_option maxRecDepth 20000 in
theorem hashOf_any (b o cap : Nat) (L : List Nat) (w : World) (h : Bs w (some ⟨b, o, none⟩) b o L cap) (hl : L.length = 32) :
    Calls Try.prog 108 #[.slice (some ⟨b, o, none⟩) 32 cap] w fun e w' => e = .returned (.agg (bvs L).toArray) ∧ Below w.heap.size w w' := by
  have HB : Hid (Below w.heap.size w (w.alloc (.cells (bvs (List.replicate 32 0)).toArray 34))) := hidp ((Below.refl _ w).alloc (Nat.le_refl _) _)
  have HZ := hidp (Blk.new w (bvs (List.replicate 32 0)) 34)
  have ha := fun w' : World => run_arrayAt (P := Try.prog) (w := w') 34 5 32 (some ⟨b, o, none⟩) 32 cap Try.underlying34 (Nat.le_refl _)
  have hr : Hid ((w.alloc (.cells (bvs (List.replicate 32 0)).toArray 34)).rangeAt b o (bvs L)) := hidp (fun j v hj => by
    have hj2 := (List.getElem?_eq_some_iff.1 hj).1
    rw [bvs_len] at hj2
    have q := (h.below HB.out).here j hj2
    rw [bvs_get hj2] at hj
    cases hj
    exact q)
  have hi : (Try.prog.info? 34).map (·.size) = some (bvs L).length := by rw [bvs_len, hl]; kernel_rfl
  have hi2 : (Try.prog.info? 34).map (·.size) = some (bvs L).toArray.size := hi.trans (by rw [List.size_toArray])
  have hz : (bvs (List.replicate 32 0)).length = (bvs L).length := by rw [bvs_len, bvs_len, hl]; rfl
  have hi := hidp hi
  have hi2 := hidp hi2
  have hz := hidp hz
  clear h hl
  go_enter Try.func108, Try.ntmps108
  go_wp2_with (first | refine wpList_load_mid rfl 34 _ rfl b o rfl (bvs L) _ hr.out Try.underlying34 rfl hi.out ?_ | (refine wpList_store_blk rfl 34 _ _ rfl w.heap.size (bvs L) (bvs (List.replicate 32 0)) 34 rfl rfl HZ.out hi.out hz.out (bvs_one _) ?_; intro w6 hw6))
  have b2 : Blk w6 w.heap.size (bvs L) 34 := by rw [hw6.out]; exact HZ.out.row
  refine bodyPost_ret (v := .agg (bvs L).toArray) ?_ rfl ⟨rfl, ?_⟩
  · exact results_cell_row Try.results108 _ _ w.heap.size 34 _ (0, 0) _ rfl b2 Try.underlying34 rfl hi2.out
  · rw [hw6.out]; exact below_setRow HB.out (Nat.le_refl _) _

set_option maxRecDepth 20000 in
theorem takeHash_short (c t : Nat) (p : Option Addr) (b o cap : Nat) (R : List Nat) (n : Nat) (w : World) (H : Cu w c t p b o cap R) (hn : R.length < n) :
    Calls Try.prog 107 #[.pointer (some ⟨c, 0, none⟩), .int .i64 (n : Nat), .func (.func 108) #[] #[]] w fun e w' => e = .panicked (brk 6) ∧ Below w.heap.size w w' := by
  have HB : Hid (Below w.heap.size w (w.alloc (.cells (bvs (List.replicate 32 0)).toArray 34))) := hidp ((Below.refl _ w).alloc (Nat.le_refl _) _)
  have HZ := hidp (Blk.new w (bvs (List.replicate 32 0)) 34)
  have hc := fun o : Obj => (H.below' ((Below.refl _ w).alloc (Nat.le_refl _) o)).c1
  have hgt : decide (R.length < n) = true := decide_eq_true hn
  clear H hn
  go_enter Try.func107, Try.ntmps107
  go_wp2
  exact ⟨rfl, rfl, HB.out⟩
theorem takeHash_of {c t : Nat} {p : Option Addr} {b o cap : Nat} {R : List Nat} {n : Nat} {w : World} (H : Cu w c t p b o cap R) (h32 : n = 32) (hn : n ≤ R.length) (Z : Array Value) :
    Calls Try.prog 108 #[.slice p n cap] (((w.alloc (.cells Z 34)).setCell ⟨c, 1, none⟩ (.slice (partA p cap n) (R.length - n) (cap - n))).setCell ⟨c, 0, none⟩ (.int .i64 (t + n : Nat))) fun e w2 => e = .returned (.agg (bvs (R.take n)).toArray) ∧ (CuX w2 c (t + n) b (R.drop n) cap ∧ Bex c w w2 ∧ Blk w2 w.heap.size Z.toList 34 ∧ c < w.heap.size ∧ b < w.heap.size) := by
  have hB : Below w.heap.size w (w.alloc (.cells Z 34)) := (Below.refl _ w).alloc (Nat.le_refl _) _
  have hZ : Blk (w.alloc (.cells Z 34)) w.heap.size Z.toList 34 := Blk.new w Z.toList 34
  have H1 := H.below' hB
  have hc := H.blk.lt
  obtain ⟨hp0, hb0⟩ := H.bs.ptr (by have := H.bs.le; omega)
  have hl : (R.take n).length = 32 := by rw [List.length_take]; omega
  have hp := H1.pass hn
  have hq := hp.2.1
  rw [hp0] at hp hq ⊢
  subst h32
  refine (hashOf_any b o cap _ _ hq hl).mono ?_
  rintro e w2 ⟨rfl, hb2⟩
  have hz := hp.2.2.blk hZ (by omega)
  exact ⟨rfl, ⟨_, _, _, Nat.sub_le _ _, hp.1.below' hb2⟩, ((Bex.of_below hB).trans hp.2.2).trans (Bex.of_below hb2), hz.below hb2 hz.lt, hc, hb0⟩
set_option maxRecDepth 20000 in
set_option maxHeartbeats 1000000 in
theorem takeHash_ok (c t : Nat) (p : Option Addr) (b o cap : Nat) (R : List Nat) (n : Nat) (w : World) (H : Cu w c t p b o cap R) (h32 : n = 32) (hn : n ≤ R.length) :
    Calls Try.prog 107 #[.pointer (some ⟨c, 0, none⟩), .int .i64 (n : Nat), .func (.func 108) #[] #[]] w fun e w' => e = .returned (.agg (bvs (R.take n)).toArray) ∧ CuX w' c (t + n) b (R.drop n) cap ∧ Bex c w w' := by
  have hl : (R.take n).length = 32 := by rw [List.length_take]; omega
  have hi : (Try.prog.info? 34).map (·.size) = some (bvs (R.take n)).length := by rw [bvs_len, hl]; kernel_rfl
  have hi2 : (Try.prog.info? 34).map (·.size) = some (bvs (R.take n)).toArray.size := hi.trans (by rw [List.size_toArray])
  have hz : (bvs (List.replicate 32 0)).length = (bvs (R.take n)).length := by rw [bvs_len, bvs_len, hl]; rfl
  have hi := hidp hi
  have hi2 := hidp hi2
  have hz := hidp hz
  have HF := hidp (fun Z => takeHash_of H h32 hn Z)
  have HQ := fun o : Obj => H.below' ((Below.refl _ w).alloc (Nat.le_refl _) o)
  have hc := fun o : Obj => (HQ o).c1
  have hc0 := fun o : Obj => (HQ o).c0
  have hf0 := fun o : Obj => (HQ o).blk.free 0
  have hf1 := fun o : Obj => (HQ o).blk.free 1
  have hgt : decide (R.length < n) = false := decide_eq_false (by omega)
  have hs1 := fun w => run_part_h p R.length cap n (by have := H.bs.le; omega) w
  have hs2 := fun w => run_part_l p R.length cap n hn w
  obtain ⟨hadd, hadd2⟩ := add_at (t := t) (n := n) (by have := H.lim; omega)
  obtain ⟨tn, htn⟩ : ∃ tn, tn = t + n := ⟨_, rfl⟩
  rw [← htn] at hadd hadd2
  replace HF := HF.out
  rw [← htn] at HF ⊢
  obtain ⟨pa, hpa⟩ : ∃ pa, pa = partA p cap n := ⟨_, rfl⟩
  rw [← hpa] at hs2 HF
  obtain ⟨l2, hl2⟩ : ∃ l2, l2 = R.length - n := ⟨_, rfl⟩
  rw [← hl2] at hs2 HF
  obtain ⟨c2, hc2⟩ : ∃ c2, c2 = cap - n := ⟨_, rfl⟩
  rw [← hc2] at hs2 HF
  replace HF := hidp HF
  clear HQ H htn hpa hl2 hc2 hn hl h32
  go_enter Try.func107, Try.ntmps107
  go_wp2_with fail
  refine (HF.out _).mono ?_
  rintro e w2 ⟨rfl, hx2⟩
  replace hx2 := hidp hx2
  clear HF
  go_wp2_with (refine wpList_store_blk rfl 34 _ _ rfl w.heap.size (bvs (R.take n)) _ 34 rfl rfl hx2.out.2.2.1 hi.out hz.out (bvs_one _) ?_; intro w6 hw6)
  have b2 : Blk w6 w.heap.size (bvs (R.take n)) 34 := by rw [hw6.out]; exact hx2.out.2.2.1.row
  have hx6 := Bex.ofRow hw6.out
  obtain ⟨q1, q2, _, q4, q5⟩ := hx2.out
  refine bodyPost_ret (v := .agg (bvs (R.take n)).toArray) ?_ rfl ⟨rfl, q1.bex' hx6 (by omega) (by omega), q2.newRow hx6⟩
  exact results_cell_row Try.results107 _ _ w.heap.size 34 _ (0, 0) _ rfl b2 Try.underlying34 rfl hi2.out

set_option maxRecDepth 20000 in
theorem readHash_ok (c t : Nat) (p : Option Addr) (b o cap : Nat) (R X : List Nat) (n : Nat) (w : World) (H : Cu w c t p b o cap R) (hp : pRaw 32 R = .ok X n) :
    Calls Try.prog 106 #[.pointer (some ⟨c, 0, none⟩)] w fun e w' => e = .returned (.agg (bvs X).toArray) ∧ CuX w' c (t + n) b (R.drop n) cap ∧ Bex c w w' := by
  obtain ⟨rfl, rfl, hn⟩ := pRaw_ok hp
  have hl : (R.take 32).length = 32 := by rw [List.length_take]; omega
  have hi : (Try.prog.info? 34).map (·.size) = some (bvs (R.take 32)).length := by rw [bvs_len, hl]; kernel_rfl
  have hi2 : (Try.prog.info? 34).map (·.size) = some (bvs (R.take 32)).toArray.size := hi.trans (by rw [List.size_toArray])
  have hz : (bvs (List.replicate 32 0)).length = (bvs (R.take 32)).length := by rw [bvs_len, bvs_len, hl]; rfl
  have hi := hidp hi
  have hi2 := hidp hi2
  have hz := hidp hz
  have HF := hidp (fun o2 : Obj => takeHash_ok c t p b o cap R 32 (w.alloc o2) (H.below' ((Below.refl _ w).alloc (Nat.le_refl _) o2)) rfl hn)
  have HL := hidp (And.intro H.blk.lt (H.bs.ptr (by have := H.bs.le; omega)).2)
  clear H hl hn hp
  go_enter Try.func106, Try.ntmps106
  go_wp2_with fail
  refine (HF.out _).mono ?_
  rintro e w2 ⟨rfl, h1, h2⟩
  have hz2 := hidp (h2.blk (Blk.new w (Array.toList _) 34) (by have := HL.out.1; omega))
  have hx2 := hidp (And.intro h1 (((Bex.refl c w).alloc _).bex h2))
  clear HF h1 h2
  go_wp2_with (refine wpList_store_blk rfl 34 _ _ rfl w.heap.size (bvs (R.take 32)) _ 34 rfl rfl hz2.out hi.out hz.out (bvs_one _) ?_; intro w6 hw6)
  have b2 : Blk w6 w.heap.size (bvs (R.take 32)) 34 := by rw [hw6.out]; exact hz2.out.row
  have hx6 := Bex.ofRow hw6.out
  have q := HL.out
  refine bodyPost_ret (v := .agg (bvs (R.take 32)).toArray) ?_ rfl ⟨rfl, hx2.out.1.bex' hx6 (by omega) (by omega), hx2.out.2.newRow hx6⟩
  exact results_cell_row Try.results106 _ _ w.heap.size 34 _ (0, 0) _ rfl b2 Try.underlying34 rfl hi2.out
set_option maxRecDepth 20000 in
theorem readHash_er (c t : Nat) (p : Option Addr) (b o cap : Nat) (R : List Nat) (x : Nat) (w : World) (H : Cu w c t p b o cap R) (hp : pRaw 32 R = .er x) :
    Calls Try.prog 106 #[.pointer (some ⟨c, 0, none⟩)] w fun e w' => e = .panicked (brk x) ∧ Bex c w w' := by
  obtain ⟨rfl, hn⟩ := pRaw_er hp
  have HF := hidp (fun o2 : Obj => takeHash_short c t p b o cap R 32 (w.alloc o2) (H.below' ((Below.refl _ w).alloc (Nat.le_refl _) o2)) hn)
  clear H hn hp
  go_enter Try.func106, Try.ntmps106
  go_wp2_with fail
  refine (HF.out _).mono ?_
  rintro e w2 ⟨rfl, h1⟩
  exact ⟨rfl, rfl, ((Bex.refl c w).alloc _).bex (Bex.of_below h1)⟩

set_option maxRecDepth 20000 in
set_option maxHeartbeats 2000000 in
theorem elemHash_ok (g t : Nat) (p : Option Addr) (b o cap : Nat) (R X : List Nat) (n : Nat) (w : World) (H : Rd w g t p b o cap R 0 0) (hl : X.length = 32)
    (hread : ∀ w1 c, Below w.heap.size w w1 → w.heap.size ≤ c → Cu w1 c t p b o cap R → Calls Try.prog 106 #[.pointer (some ⟨c, 0, none⟩)] w1 fun e w' => e = .returned (.agg (bvs X).toArray) ∧ CuX w' c (t + n) b (R.drop n) cap ∧ Bex c w1 w') :
    Calls Try.prog 105 #[.pointer (some ⟨g, 0, none⟩), .func (.func 106) #[] #[]] w fun e w' => e = .returned (.agg (bvs X).toArray) ∧ RdX w' g (t + n) b (R.drop n) 0 0 ∧ Bex g w w' := by
  have hi : (Try.prog.info? 34).map (·.size) = some (bvs X).length := by rw [bvs_len, hl]; kernel_rfl
  have hi2 : (Try.prog.info? 34).map (·.size) = some (bvs X).toArray.size := hi.trans (by rw [List.size_toArray])
  have hz : (bvs (List.replicate 32 0)).length = (bvs X).length := by rw [bvs_len, bvs_len, hl]; rfl
  have hi := hidp hi
  have hi2 := hidp hi2
  have hz := hidp hz
  clear hl
  have hmf : ∀ (fn : Fn) (first cap : Array Value) (w : World), (Instr.makeFunc fn first cap).run Try.prog w = .ok (.func fn first cap) w := fun _ _ _ _ => rfl
  have HQ := fun o1 o2 o3 : Obj => H.below ((((Below.refl _ w).alloc (Nat.le_refl _) o1).alloc (by simp) o2).alloc (by simp; omega) o3)
  have h1 := fun o1 o2 o3 : Obj => (HQ o1 o2 o3).c1
  have h2 := fun o1 o2 o3 : Obj => (HQ o1 o2 o3).c2
  have h3 := fun o1 o2 o3 : Obj => (HQ o1 o2 o3).c3
  have HV := hidp (fun (w' : World) (hB : Below w.heap.size w w') => valid_yes (H.below hB))
  have HH := hidp H
  have hlt := H.blk.lt
  have hread := hidp hread
  clear H HQ
  go_enter_defers Try.func105, Try.ntmps105
  go_wp2_with (go_at_call 94; refine (HV.out _ (by (repeat' (first | (with_reducible exact Below.refl _ _) | (with_reducible refine Below.alloc ?_ ?_ _) | (with_reducible refine Below.drew ?_) | (with_reducible refine Below.drewN ?_ _) | (with_reducible refine Below.setCell ?_ ?_ _) | go_size)))).mono ?_; rintro e wx ⟨rfl, rfl⟩)
  refine (hread.out _ _ (elWA_cu HH.out _ _ _).bel (by omega) (elWA_cu HH.out _ _ _).cu).mono ?_
  rintro e w1 ⟨rfl, hx, hbx⟩
  obtain ⟨p', o', cap', hE⟩ := ElA.of HH.out hx hbx
  have HE := hidp hE
  clear hE hx hbx HV HH hread h1 h2 h3
  go_wp2_with (first | (refine wpList_store_blk rfl 34 _ _ rfl (w.heap.size + 1 + 1) (bvs X) _ 34 rfl rfl HE.out.z2 hi.out hz.out (bvs_one _) ?_; intro w2 hw2; replace HE := hidp (And.intro HE.out (HE.out.next hw2.out)); have d0 := HE.out.2.cu.c0; have d1 := HE.out.2.cu.c1; have hbox := HE.out.2.box.cell 0; obtain ⟨pq, oq, capq, hrd⟩ := HE.out.2.rd; have g1 := hrd.c1; have g2 := hrd.c2; have f1 := hrd.blk.free 1; have f2 := hrd.blk.free 2; replace hrd := hidp hrd) | refine wpList_load_blk rfl 34 _ rfl (w.heap.size + 1 + 1) (bvs X) 34 rfl (HE.out.2.z2.sc2 (by have := HE.out.1.hg; omega) _ _ _ _) _ Try.underlying34 rfl hi.out ?_ | (refine wpList_store_blk rfl 34 _ _ rfl (w.heap.size + 1) (bvs X) _ 34 rfl rfl (HE.out.2.z1.sc2 (by have := HE.out.1.hg; omega) _ _ _ _) hi.out hz.out (bvs_one _) ?_; intro w3 hw3))
  have e1 : (t : Int) + (n : Int) = ((t + n : Nat) : Int) := by omega
  have e2 : R.length - n = (R.drop n).length := by rw [List.length_drop]
  have hw := hw3.out
  rw [e1, e2] at hw
  have hq := HE.out.1.hg
  have hput := hrd.out.put HE.out.2.cu.bs HE.out.1.ne HE.out.2.cu.lim
  have hbe : Bex g w2 ((w2.setCell ⟨g, 1, none⟩ (.int .i64 (t + n : Nat))).setCell ⟨g, 2, none⟩ (.slice p' (R.drop n).length cap')) := ((Bex.refl g w2).setCell _ _).setCell _ _
  have hx3 := Bex.ofRow hw
  have hR3 := hput.bex hx3 (by omega) (fun h0 => by have := HE.out.1.nb h0; omega)
  have b3 : Blk w3 (w.heap.size + 1) (bvs X) 34 := by rw [hw]; exact (HE.out.2.z1.sc2 (by omega) _ _ _ _).row
  have hbox3 := hx3.blk (HE.out.2.box.sc2 (by omega) 1 2 (.int .i64 (t + n : Nat)) (.slice p' (R.drop n).length cap')) (by omega)
  have hB3 := (HE.out.2.bex.bex hbe).newRowAt hx3 (by omega)
  refine leaves_cons (f := 156) (args := #[.pointer (some ⟨w.heap.size, 0, none⟩)]) (by simp) (by simp [go_sem]) ?_
  refine (endHash_none w.heap.size g _ (hbox3.cell 0)).mono ?_
  rintro e u' w'' ⟨rfl, rfl, rfl⟩
  exact ⟨_, results_cell_row Try.results105 _ _ (w.heap.size + 1) 34 _ (0, 0) _ rfl (by exact b3) Try.underlying34 rfl hi2.out, rfl, ⟨_, _, _, hR3.drew⟩, hB3.drew⟩
set_option maxRecDepth 20000 in
set_option maxHeartbeats 2000000 in
theorem elemHash_er (g t : Nat) (p : Option Addr) (b o cap : Nat) (R : List Nat) (x : Nat) (w : World) (H : Rd w g t p b o cap R 0 0)
    (hread : ∀ w1 c, Below w.heap.size w w1 → w.heap.size ≤ c → Cu w1 c t p b o cap R → Calls Try.prog 106 #[.pointer (some ⟨c, 0, none⟩)] w1 fun e w' => e = .panicked (brk x) ∧ Bex c w1 w') :
    Calls Try.prog 105 #[.pointer (some ⟨g, 0, none⟩), .func (.func 106) #[] #[]] w fun e w' => e = .returned (.agg (bvs (List.replicate 32 0)).toArray) ∧ RdX w' g t b [] x t ∧ Bex g w w' := by
  have hmf : ∀ (fn : Fn) (first cap : Array Value) (w : World), (Instr.makeFunc fn first cap).run Try.prog w = .ok (.func fn first cap) w := fun _ _ _ _ => rfl
  have HQ := fun o1 o2 o3 : Obj => H.below ((((Below.refl _ w).alloc (Nat.le_refl _) o1).alloc (by simp) o2).alloc (by simp; omega) o3)
  have h1 := fun o1 o2 o3 : Obj => (HQ o1 o2 o3).c1
  have h2 := fun o1 o2 o3 : Obj => (HQ o1 o2 o3).c2
  have h3 := fun o1 o2 o3 : Obj => (HQ o1 o2 o3).c3
  have HV := hidp (fun (w' : World) (hB : Below w.heap.size w w') => valid_yes (H.below hB))
  have HH := hidp H
  have hlt := H.blk.lt
  have hread := hidp hread
  clear H HQ
  go_enter_defers Try.func105, Try.ntmps105
  go_wp2_with (go_at_call 94; refine (HV.out _ (by (repeat' (first | (with_reducible exact Below.refl _ _) | (with_reducible refine Below.alloc ?_ ?_ _) | (with_reducible refine Below.drew ?_) | (with_reducible refine Below.drewN ?_ _) | (with_reducible refine Below.setCell ?_ ?_ _) | go_size)))).mono ?_; rintro e wx ⟨rfl, rfl⟩)
  refine (hread.out _ _ (elWA_cu HH.out _ _ _).bel (by omega) (elWA_cu HH.out _ _ _).cu).mono ?_
  rintro e w1 ⟨rfl, hbx⟩
  obtain ⟨hrd, hbox, hz1, hb2, hq⟩ := ElE_of HH.out hbx
  refine leaves_cons (f := 156) (args := #[.pointer (some ⟨w.heap.size, 0, none⟩)]) (by simp) (by simp [go_sem]) ?_
  refine (endHash_brk w.heap.size g t p b o cap R 0 0 x _ hrd (hbox.cell 0)).mono ?_
  rintro e u' w'' ⟨rfl, rfl, h5, h6⟩
  exact ⟨_, results_cell_row Try.results105 _ _ (w.heap.size + 1) 34 _ (0, 0) _ rfl (h6.blk hz1 (by omega)) Try.underlying34 rfl (by kernel_rfl), rfl, h5, hb2.bex h6⟩
set_option maxRecDepth 20000 in
theorem mHash_ok (g t : Nat) (p : Option Addr) (b o cap : Nat) (R X : List Nat) (n : Nat) (w : World) (H : Rd w g t p b o cap R 0 0) (hp : pRaw 32 R = .ok X n) :
    Calls Try.prog 36 #[.pointer (some ⟨g, 0, none⟩)] w fun e w' => e = .returned (.agg (bvs X).toArray) ∧ RdX w' g (t + n) b (R.drop n) 0 0 ∧ Bex g w w' := by
  have hl : X.length = 32 := by obtain ⟨rfl, _, hn⟩ := pRaw_ok hp; rw [List.length_take]; omega
  have hi : (Try.prog.info? 34).map (·.size) = some (bvs X).length := by rw [bvs_len, hl]; kernel_rfl
  have hi2 : (Try.prog.info? 34).map (·.size) = some (bvs X).toArray.size := hi.trans (by rw [List.size_toArray])
  have hz : (bvs (List.replicate 32 0)).length = (bvs X).length := by rw [bvs_len, bvs_len, hl]; rfl
  have hi := hidp hi
  have hi2 := hidp hi2
  have hz := hidp hz
  have HE := hidp (fun o2 : Obj => elemHash_ok g t p b o cap R X n (w.alloc o2) (H.below ((Below.refl _ w).alloc (Nat.le_refl _) o2)) hl (fun w1 c _ _ hc => readHash_ok c t p b o cap R X n w1 hc hp))
  have HL := hidp (And.intro H.blk.lt (H.bs.ptr (by have := H.bs.le; have := (pRaw_ok hp).2.2; omega)).2)
  clear H hp hl
  go_enter Try.func36, Try.ntmps36
  go_wp2_with fail
  refine (HE.out _).mono ?_
  rintro e w2 ⟨rfl, h1, h2⟩
  have hz2 := hidp (h2.blk (Blk.new w (Array.toList _) 34) (by have := HL.out.1; omega))
  have hx2 := hidp (And.intro h1 (((Bex.refl g w).alloc _).bex h2))
  clear HE h1 h2
  go_wp2_with (refine wpList_store_blk rfl 34 _ _ rfl w.heap.size (bvs X) _ 34 rfl rfl hz2.out hi.out hz.out (bvs_one _) ?_; intro w6 hw6)
  have b2 : Blk w6 w.heap.size (bvs X) 34 := by rw [hw6.out]; exact hz2.out.row
  have hx6 := Bex.ofRow hw6.out
  have q := HL.out
  refine bodyPost_ret (v := .agg (bvs X).toArray) ?_ rfl ⟨rfl, hx2.out.1.bexA hx6 (by omega) (by omega), hx2.out.2.newRow hx6⟩
  exact results_cell_row Try.results36 _ _ w.heap.size 34 _ (0, 0) _ rfl b2 Try.underlying34 rfl hi2.out
set_option maxRecDepth 20000 in
theorem mHash_er (g t : Nat) (p : Option Addr) (b o cap : Nat) (R : List Nat) (x : Nat) (w : World) (H : Rd w g t p b o cap R 0 0) (hbw : b < w.heap.size) (hp : pRaw 32 R = .er x) :
    Calls Try.prog 36 #[.pointer (some ⟨g, 0, none⟩)] w fun e w' => e = .returned (.agg (bvs (List.replicate 32 0)).toArray) ∧ RdX w' g t b [] x t ∧ Bex g w w' := by
  have hi := hidp (show (Try.prog.info? 34).map (·.size) = some (bvs (List.replicate 32 0)).length by kernel_rfl)
  have HE := hidp (fun o2 : Obj => elemHash_er g t p b o cap R x (w.alloc o2) (H.below ((Below.refl _ w).alloc (Nat.le_refl _) o2)) (fun w1 c _ _ hc => readHash_er c t p b o cap R x w1 hc hp))
  have HL := hidp (And.intro H.blk.lt hbw)
  clear H hp hbw
  go_enter Try.func36, Try.ntmps36
  go_wp2_with fail
  refine (HE.out _).mono ?_
  rintro e w2 ⟨rfl, h1, h2⟩
  have hz2 := hidp (h2.blk (Blk.new w (Array.toList _) 34) (by have := HL.out.1; omega))
  have hx2 := hidp (And.intro h1 (((Bex.refl g w).alloc _).bex h2))
  clear HE h1 h2
  go_wp2_with (refine wpList_store_blk rfl 34 _ _ rfl w.heap.size (bvs (List.replicate 32 0)) _ 34 rfl rfl hz2.out hi.out rfl (bvs_one _) ?_; intro w6 hw6)
  have b2 : Blk w6 w.heap.size (bvs (List.replicate 32 0)) 34 := by rw [hw6.out]; exact hz2.out.row
  have hx6 := Bex.ofRow hw6.out
  have q := HL.out
  refine bodyPost_ret (v := .agg (bvs (List.replicate 32 0)).toArray) ?_ rfl ⟨rfl, hx2.out.1.bexA hx6 (by omega) (by omega), hx2.out.2.newRow hx6⟩
  exact results_cell_row Try.results36 _ _ w.heap.size 34 _ (0, 0) _ rfl b2 Try.underlying34 rfl (by kernel_rfl)

set_option maxRecDepth 20000 in
theorem keyOf_any (b o cap : Nat) (L : List Nat) (w : World) (h : Bs w (some ⟨b, o, none⟩) b o L cap) (hl : L.length = 4) :
    Calls Try.prog 112 #[.slice (some ⟨b, o, none⟩) 4 cap] w fun e w' => e = .returned (.agg (bvs L).toArray) ∧ Below w.heap.size w w' := by
  have HB : Hid (Below w.heap.size w (w.alloc (.cells (bvs (List.replicate 4 0)).toArray 36))) := hidp ((Below.refl _ w).alloc (Nat.le_refl _) _)
  have HZ := hidp (Blk.new w (bvs (List.replicate 4 0)) 36)
  have ha := fun w' : World => run_arrayAt (P := Try.prog) (w := w') 36 5 4 (some ⟨b, o, none⟩) 4 cap Try.underlying36 (Nat.le_refl _)
  have hr : Hid ((w.alloc (.cells (bvs (List.replicate 4 0)).toArray 36)).rangeAt b o (bvs L)) := hidp (fun j v hj => by
    have hj2 := (List.getElem?_eq_some_iff.1 hj).1
    rw [bvs_len] at hj2
    have q := (h.below HB.out).here j hj2
    rw [bvs_get hj2] at hj
    cases hj
    exact q)
  have hi : (Try.prog.info? 36).map (·.size) = some (bvs L).length := by rw [bvs_len, hl]; kernel_rfl
  have hi2 : (Try.prog.info? 36).map (·.size) = some (bvs L).toArray.size := hi.trans (by rw [List.size_toArray])
  have hz : (bvs (List.replicate 4 0)).length = (bvs L).length := by rw [bvs_len, bvs_len, hl]; rfl
  have hi := hidp hi
  have hi2 := hidp hi2
  have hz := hidp hz
  clear h hl
  go_enter Try.func112, Try.ntmps112
  go_wp2_with (first | refine wpList_load_mid rfl 36 _ rfl b o rfl (bvs L) _ hr.out Try.underlying36 rfl hi.out ?_ | (refine wpList_store_blk rfl 36 _ _ rfl w.heap.size (bvs L) (bvs (List.replicate 4 0)) 36 rfl rfl HZ.out hi.out hz.out (bvs_one _) ?_; intro w6 hw6))
  have b2 : Blk w6 w.heap.size (bvs L) 36 := by rw [hw6.out]; exact HZ.out.row
  refine bodyPost_ret (v := .agg (bvs L).toArray) ?_ rfl ⟨rfl, ?_⟩
  · exact results_cell_row Try.results112 _ _ w.heap.size 36 _ (0, 0) _ rfl b2 Try.underlying36 rfl hi2.out
  · rw [hw6.out]; exact below_setRow HB.out (Nat.le_refl _) _

set_option maxRecDepth 20000 in
theorem takeKey_short (c t : Nat) (p : Option Addr) (b o cap : Nat) (R : List Nat) (n : Nat) (w : World) (H : Cu w c t p b o cap R) (hn : R.length < n) :
    Calls Try.prog 111 #[.pointer (some ⟨c, 0, none⟩), .int .i64 (n : Nat), .func (.func 112) #[] #[]] w fun e w' => e = .panicked (brk 6) ∧ Below w.heap.size w w' := by
  have HB : Hid (Below w.heap.size w (w.alloc (.cells (bvs (List.replicate 4 0)).toArray 36))) := hidp ((Below.refl _ w).alloc (Nat.le_refl _) _)
  have HZ := hidp (Blk.new w (bvs (List.replicate 4 0)) 36)
  have hc := fun o : Obj => (H.below' ((Below.refl _ w).alloc (Nat.le_refl _) o)).c1
  have hgt : decide (R.length < n) = true := decide_eq_true hn
  clear H hn
  go_enter Try.func111, Try.ntmps111
  go_wp2
  exact ⟨rfl, rfl, HB.out⟩
theorem takeKey_of {c t : Nat} {p : Option Addr} {b o cap : Nat} {R : List Nat} {n : Nat} {w : World} (H : Cu w c t p b o cap R) (h32 : n = 4) (hn : n ≤ R.length) (Z : Array Value) :
    Calls Try.prog 112 #[.slice p n cap] (((w.alloc (.cells Z 36)).setCell ⟨c, 1, none⟩ (.slice (partA p cap n) (R.length - n) (cap - n))).setCell ⟨c, 0, none⟩ (.int .i64 (t + n : Nat))) fun e w2 => e = .returned (.agg (bvs (R.take n)).toArray) ∧ (CuX w2 c (t + n) b (R.drop n) cap ∧ Bex c w w2 ∧ Blk w2 w.heap.size Z.toList 36 ∧ c < w.heap.size ∧ b < w.heap.size) := by
  have hB : Below w.heap.size w (w.alloc (.cells Z 36)) := (Below.refl _ w).alloc (Nat.le_refl _) _
  have hZ : Blk (w.alloc (.cells Z 36)) w.heap.size Z.toList 36 := Blk.new w Z.toList 36
  have H1 := H.below' hB
  have hc := H.blk.lt
  obtain ⟨hp0, hb0⟩ := H.bs.ptr (by have := H.bs.le; omega)
  have hl : (R.take n).length = 4 := by rw [List.length_take]; omega
  have hp := H1.pass hn
  have hq := hp.2.1
  rw [hp0] at hp hq ⊢
  subst h32
  refine (keyOf_any b o cap _ _ hq hl).mono ?_
  rintro e w2 ⟨rfl, hb2⟩
  have hz := hp.2.2.blk hZ (by omega)
  exact ⟨rfl, ⟨_, _, _, Nat.sub_le _ _, hp.1.below' hb2⟩, ((Bex.of_below hB).trans hp.2.2).trans (Bex.of_below hb2), hz.below hb2 hz.lt, hc, hb0⟩
set_option maxRecDepth 20000 in
set_option maxHeartbeats 1000000 in
theorem takeKey_ok (c t : Nat) (p : Option Addr) (b o cap : Nat) (R : List Nat) (n : Nat) (w : World) (H : Cu w c t p b o cap R) (h32 : n = 4) (hn : n ≤ R.length) :
    Calls Try.prog 111 #[.pointer (some ⟨c, 0, none⟩), .int .i64 (n : Nat), .func (.func 112) #[] #[]] w fun e w' => e = .returned (.agg (bvs (R.take n)).toArray) ∧ CuX w' c (t + n) b (R.drop n) cap ∧ Bex c w w' := by
  have hl : (R.take n).length = 4 := by rw [List.length_take]; omega
  have hi : (Try.prog.info? 36).map (·.size) = some (bvs (R.take n)).length := by rw [bvs_len, hl]; kernel_rfl
  have hi2 : (Try.prog.info? 36).map (·.size) = some (bvs (R.take n)).toArray.size := hi.trans (by rw [List.size_toArray])
  have hz : (bvs (List.replicate 4 0)).length = (bvs (R.take n)).length := by rw [bvs_len, bvs_len, hl]; rfl
  have hi := hidp hi
  have hi2 := hidp hi2
  have hz := hidp hz
  have HF := hidp (fun Z => takeKey_of H h32 hn Z)
  have HQ := fun o : Obj => H.below' ((Below.refl _ w).alloc (Nat.le_refl _) o)
  have hc := fun o : Obj => (HQ o).c1
  have hc0 := fun o : Obj => (HQ o).c0
  have hf0 := fun o : Obj => (HQ o).blk.free 0
  have hf1 := fun o : Obj => (HQ o).blk.free 1
  have hgt : decide (R.length < n) = false := decide_eq_false (by omega)
  have hs1 := fun w => run_part_h p R.length cap n (by have := H.bs.le; omega) w
  have hs2 := fun w => run_part_l p R.length cap n hn w
  obtain ⟨hadd, hadd2⟩ := add_at (t := t) (n := n) (by have := H.lim; omega)
  obtain ⟨tn, htn⟩ : ∃ tn, tn = t + n := ⟨_, rfl⟩
  rw [← htn] at hadd hadd2
  replace HF := HF.out
  rw [← htn] at HF ⊢
  obtain ⟨pa, hpa⟩ : ∃ pa, pa = partA p cap n := ⟨_, rfl⟩
  rw [← hpa] at hs2 HF
  obtain ⟨l2, hl2⟩ : ∃ l2, l2 = R.length - n := ⟨_, rfl⟩
  rw [← hl2] at hs2 HF
  obtain ⟨c2, hc2⟩ : ∃ c2, c2 = cap - n := ⟨_, rfl⟩
  rw [← hc2] at hs2 HF
  replace HF := hidp HF
  clear HQ H htn hpa hl2 hc2 hn hl h32
  go_enter Try.func111, Try.ntmps111
  go_wp2_with fail
  refine (HF.out _).mono ?_
  rintro e w2 ⟨rfl, hx2⟩
  replace hx2 := hidp hx2
  clear HF
  go_wp2_with (refine wpList_store_blk rfl 36 _ _ rfl w.heap.size (bvs (R.take n)) _ 36 rfl rfl hx2.out.2.2.1 hi.out hz.out (bvs_one _) ?_; intro w6 hw6)
  have b2 : Blk w6 w.heap.size (bvs (R.take n)) 36 := by rw [hw6.out]; exact hx2.out.2.2.1.row
  have hx6 := Bex.ofRow hw6.out
  obtain ⟨q1, q2, _, q4, q5⟩ := hx2.out
  refine bodyPost_ret (v := .agg (bvs (R.take n)).toArray) ?_ rfl ⟨rfl, q1.bex' hx6 (by omega) (by omega), q2.newRow hx6⟩
  exact results_cell_row Try.results111 _ _ w.heap.size 36 _ (0, 0) _ rfl b2 Try.underlying36 rfl hi2.out

set_option maxRecDepth 20000 in
theorem readKey_ok (c t : Nat) (p : Option Addr) (b o cap : Nat) (R X : List Nat) (n : Nat) (w : World) (H : Cu w c t p b o cap R) (hp : pRaw 4 R = .ok X n) :
    Calls Try.prog 110 #[.pointer (some ⟨c, 0, none⟩)] w fun e w' => e = .returned (.agg (bvs X).toArray) ∧ CuX w' c (t + n) b (R.drop n) cap ∧ Bex c w w' := by
  obtain ⟨rfl, rfl, hn⟩ := pRaw_ok hp
  have hl : (R.take 4).length = 4 := by rw [List.length_take]; omega
  have hi : (Try.prog.info? 36).map (·.size) = some (bvs (R.take 4)).length := by rw [bvs_len, hl]; kernel_rfl
  have hi2 : (Try.prog.info? 36).map (·.size) = some (bvs (R.take 4)).toArray.size := hi.trans (by rw [List.size_toArray])
  have hz : (bvs (List.replicate 4 0)).length = (bvs (R.take 4)).length := by rw [bvs_len, bvs_len, hl]; rfl
  have hi := hidp hi
  have hi2 := hidp hi2
  have hz := hidp hz
  have HF := hidp (fun o2 : Obj => takeKey_ok c t p b o cap R 4 (w.alloc o2) (H.below' ((Below.refl _ w).alloc (Nat.le_refl _) o2)) rfl hn)
  have HL := hidp (And.intro H.blk.lt (H.bs.ptr (by have := H.bs.le; omega)).2)
  clear H hl hn hp
  go_enter Try.func110, Try.ntmps110
  go_wp2_with fail
  refine (HF.out _).mono ?_
  rintro e w2 ⟨rfl, h1, h2⟩
  have hz2 := hidp (h2.blk (Blk.new w (Array.toList _) 36) (by have := HL.out.1; omega))
  have hx2 := hidp (And.intro h1 (((Bex.refl c w).alloc _).bex h2))
  clear HF h1 h2
  go_wp2_with (refine wpList_store_blk rfl 36 _ _ rfl w.heap.size (bvs (R.take 4)) _ 36 rfl rfl hz2.out hi.out hz.out (bvs_one _) ?_; intro w6 hw6)
  have b2 : Blk w6 w.heap.size (bvs (R.take 4)) 36 := by rw [hw6.out]; exact hz2.out.row
  have hx6 := Bex.ofRow hw6.out
  have q := HL.out
  refine bodyPost_ret (v := .agg (bvs (R.take 4)).toArray) ?_ rfl ⟨rfl, hx2.out.1.bex' hx6 (by omega) (by omega), hx2.out.2.newRow hx6⟩
  exact results_cell_row Try.results110 _ _ w.heap.size 36 _ (0, 0) _ rfl b2 Try.underlying36 rfl hi2.out
set_option maxRecDepth 20000 in
theorem readKey_er (c t : Nat) (p : Option Addr) (b o cap : Nat) (R : List Nat) (x : Nat) (w : World) (H : Cu w c t p b o cap R) (hp : pRaw 4 R = .er x) :
    Calls Try.prog 110 #[.pointer (some ⟨c, 0, none⟩)] w fun e w' => e = .panicked (brk x) ∧ Bex c w w' := by
  obtain ⟨rfl, hn⟩ := pRaw_er hp
  have HF := hidp (fun o2 : Obj => takeKey_short c t p b o cap R 4 (w.alloc o2) (H.below' ((Below.refl _ w).alloc (Nat.le_refl _) o2)) hn)
  clear H hn hp
  go_enter Try.func110, Try.ntmps110
  go_wp2_with fail
  refine (HF.out _).mono ?_
  rintro e w2 ⟨rfl, h1⟩
  exact ⟨rfl, rfl, ((Bex.refl c w).alloc _).bex (Bex.of_below h1)⟩

set_option maxRecDepth 20000 in
set_option maxHeartbeats 2000000 in
theorem elemKey_ok (g t : Nat) (p : Option Addr) (b o cap : Nat) (R X : List Nat) (n : Nat) (w : World) (H : Rd w g t p b o cap R 0 0) (hl : X.length = 4)
    (hread : ∀ w1 c, Below w.heap.size w w1 → w.heap.size ≤ c → Cu w1 c t p b o cap R → Calls Try.prog 110 #[.pointer (some ⟨c, 0, none⟩)] w1 fun e w' => e = .returned (.agg (bvs X).toArray) ∧ CuX w' c (t + n) b (R.drop n) cap ∧ Bex c w1 w') :
    Calls Try.prog 109 #[.pointer (some ⟨g, 0, none⟩), .func (.func 110) #[] #[]] w fun e w' => e = .returned (.agg (bvs X).toArray) ∧ RdX w' g (t + n) b (R.drop n) 0 0 ∧ Bex g w w' := by
  have hi : (Try.prog.info? 36).map (·.size) = some (bvs X).length := by rw [bvs_len, hl]; kernel_rfl
  have hi2 : (Try.prog.info? 36).map (·.size) = some (bvs X).toArray.size := hi.trans (by rw [List.size_toArray])
  have hz : (bvs (List.replicate 4 0)).length = (bvs X).length := by rw [bvs_len, bvs_len, hl]; rfl
  have hi := hidp hi
  have hi2 := hidp hi2
  have hz := hidp hz
  clear hl
  have hmf : ∀ (fn : Fn) (first cap : Array Value) (w : World), (Instr.makeFunc fn first cap).run Try.prog w = .ok (.func fn first cap) w := fun _ _ _ _ => rfl
  have HQ := fun o1 o2 o3 : Obj => H.below ((((Below.refl _ w).alloc (Nat.le_refl _) o1).alloc (by simp) o2).alloc (by simp; omega) o3)
  have h1 := fun o1 o2 o3 : Obj => (HQ o1 o2 o3).c1
  have h2 := fun o1 o2 o3 : Obj => (HQ o1 o2 o3).c2
  have h3 := fun o1 o2 o3 : Obj => (HQ o1 o2 o3).c3
  have HV := hidp (fun (w' : World) (hB : Below w.heap.size w w') => valid_yes (H.below hB))
  have HH := hidp H
  have hlt := H.blk.lt
  have hread := hidp hread
  clear H HQ
  go_enter_defers Try.func109, Try.ntmps109
  go_wp2_with (go_at_call 94; refine (HV.out _ (by (repeat' (first | (with_reducible exact Below.refl _ _) | (with_reducible refine Below.alloc ?_ ?_ _) | (with_reducible refine Below.drew ?_) | (with_reducible refine Below.drewN ?_ _) | (with_reducible refine Below.setCell ?_ ?_ _) | go_size)))).mono ?_; rintro e wx ⟨rfl, rfl⟩)
  refine (hread.out _ _ (elWA_cu HH.out _ _ _).bel (by omega) (elWA_cu HH.out _ _ _).cu).mono ?_
  rintro e w1 ⟨rfl, hx, hbx⟩
  obtain ⟨p', o', cap', hE⟩ := ElA.of HH.out hx hbx
  have HE := hidp hE
  clear hE hx hbx HV HH hread h1 h2 h3
  go_wp2_with (first | (refine wpList_store_blk rfl 36 _ _ rfl (w.heap.size + 1 + 1) (bvs X) _ 36 rfl rfl HE.out.z2 hi.out hz.out (bvs_one _) ?_; intro w2 hw2; replace HE := hidp (And.intro HE.out (HE.out.next hw2.out)); have d0 := HE.out.2.cu.c0; have d1 := HE.out.2.cu.c1; have hbox := HE.out.2.box.cell 0; obtain ⟨pq, oq, capq, hrd⟩ := HE.out.2.rd; have g1 := hrd.c1; have g2 := hrd.c2; have f1 := hrd.blk.free 1; have f2 := hrd.blk.free 2; replace hrd := hidp hrd) | refine wpList_load_blk rfl 36 _ rfl (w.heap.size + 1 + 1) (bvs X) 36 rfl (HE.out.2.z2.sc2 (by have := HE.out.1.hg; omega) _ _ _ _) _ Try.underlying36 rfl hi.out ?_ | (refine wpList_store_blk rfl 36 _ _ rfl (w.heap.size + 1) (bvs X) _ 36 rfl rfl (HE.out.2.z1.sc2 (by have := HE.out.1.hg; omega) _ _ _ _) hi.out hz.out (bvs_one _) ?_; intro w3 hw3))
  have e1 : (t : Int) + (n : Int) = ((t + n : Nat) : Int) := by omega
  have e2 : R.length - n = (R.drop n).length := by rw [List.length_drop]
  have hw := hw3.out
  rw [e1, e2] at hw
  have hq := HE.out.1.hg
  have hput := hrd.out.put HE.out.2.cu.bs HE.out.1.ne HE.out.2.cu.lim
  have hbe : Bex g w2 ((w2.setCell ⟨g, 1, none⟩ (.int .i64 (t + n : Nat))).setCell ⟨g, 2, none⟩ (.slice p' (R.drop n).length cap')) := ((Bex.refl g w2).setCell _ _).setCell _ _
  have hx3 := Bex.ofRow hw
  have hR3 := hput.bex hx3 (by omega) (fun h0 => by have := HE.out.1.nb h0; omega)
  have b3 : Blk w3 (w.heap.size + 1) (bvs X) 36 := by rw [hw]; exact (HE.out.2.z1.sc2 (by omega) _ _ _ _).row
  have hbox3 := hx3.blk (HE.out.2.box.sc2 (by omega) 1 2 (.int .i64 (t + n : Nat)) (.slice p' (R.drop n).length cap')) (by omega)
  have hB3 := (HE.out.2.bex.bex hbe).newRowAt hx3 (by omega)
  refine leaves_cons (f := 157) (args := #[.pointer (some ⟨w.heap.size, 0, none⟩)]) (by simp) (by simp [go_sem]) ?_
  refine (endKey_none w.heap.size g _ (hbox3.cell 0)).mono ?_
  rintro e u' w'' ⟨rfl, rfl, rfl⟩
  exact ⟨_, results_cell_row Try.results109 _ _ (w.heap.size + 1) 36 _ (0, 0) _ rfl (by exact b3) Try.underlying36 rfl hi2.out, rfl, ⟨_, _, _, hR3.drew⟩, hB3.drew⟩
set_option maxRecDepth 20000 in
set_option maxHeartbeats 2000000 in
theorem elemKey_er (g t : Nat) (p : Option Addr) (b o cap : Nat) (R : List Nat) (x : Nat) (w : World) (H : Rd w g t p b o cap R 0 0)
    (hread : ∀ w1 c, Below w.heap.size w w1 → w.heap.size ≤ c → Cu w1 c t p b o cap R → Calls Try.prog 110 #[.pointer (some ⟨c, 0, none⟩)] w1 fun e w' => e = .panicked (brk x) ∧ Bex c w1 w') :
    Calls Try.prog 109 #[.pointer (some ⟨g, 0, none⟩), .func (.func 110) #[] #[]] w fun e w' => e = .returned (.agg (bvs (List.replicate 4 0)).toArray) ∧ RdX w' g t b [] x t ∧ Bex g w w' := by
  have hmf : ∀ (fn : Fn) (first cap : Array Value) (w : World), (Instr.makeFunc fn first cap).run Try.prog w = .ok (.func fn first cap) w := fun _ _ _ _ => rfl
  have HQ := fun o1 o2 o3 : Obj => H.below ((((Below.refl _ w).alloc (Nat.le_refl _) o1).alloc (by simp) o2).alloc (by simp; omega) o3)
  have h1 := fun o1 o2 o3 : Obj => (HQ o1 o2 o3).c1
  have h2 := fun o1 o2 o3 : Obj => (HQ o1 o2 o3).c2
  have h3 := fun o1 o2 o3 : Obj => (HQ o1 o2 o3).c3
  have HV := hidp (fun (w' : World) (hB : Below w.heap.size w w') => valid_yes (H.below hB))
  have HH := hidp H
  have hlt := H.blk.lt
  have hread := hidp hread
  clear H HQ
  go_enter_defers Try.func109, Try.ntmps109
  go_wp2_with (go_at_call 94; refine (HV.out _ (by (repeat' (first | (with_reducible exact Below.refl _ _) | (with_reducible refine Below.alloc ?_ ?_ _) | (with_reducible refine Below.drew ?_) | (with_reducible refine Below.drewN ?_ _) | (with_reducible refine Below.setCell ?_ ?_ _) | go_size)))).mono ?_; rintro e wx ⟨rfl, rfl⟩)
  refine (hread.out _ _ (elWA_cu HH.out _ _ _).bel (by omega) (elWA_cu HH.out _ _ _).cu).mono ?_
  rintro e w1 ⟨rfl, hbx⟩
  obtain ⟨hrd, hbox, hz1, hb2, hq⟩ := ElE_of HH.out hbx
  refine leaves_cons (f := 157) (args := #[.pointer (some ⟨w.heap.size, 0, none⟩)]) (by simp) (by simp [go_sem]) ?_
  refine (endKey_brk w.heap.size g t p b o cap R 0 0 x _ hrd (hbox.cell 0)).mono ?_
  rintro e u' w'' ⟨rfl, rfl, h5, h6⟩
  exact ⟨_, results_cell_row Try.results109 _ _ (w.heap.size + 1) 36 _ (0, 0) _ rfl (h6.blk hz1 (by omega)) Try.underlying36 rfl (by kernel_rfl), rfl, h5, hb2.bex h6⟩
set_option maxRecDepth 20000 in
theorem mKey_ok (g t : Nat) (p : Option Addr) (b o cap : Nat) (R X : List Nat) (n : Nat) (w : World) (H : Rd w g t p b o cap R 0 0) (hp : pRaw 4 R = .ok X n) :
    Calls Try.prog 37 #[.pointer (some ⟨g, 0, none⟩)] w fun e w' => e = .returned (.agg (bvs X).toArray) ∧ RdX w' g (t + n) b (R.drop n) 0 0 ∧ Bex g w w' := by
  have hl : X.length = 4 := by obtain ⟨rfl, _, hn⟩ := pRaw_ok hp; rw [List.length_take]; omega
  have hi : (Try.prog.info? 36).map (·.size) = some (bvs X).length := by rw [bvs_len, hl]; kernel_rfl
  have hi2 : (Try.prog.info? 36).map (·.size) = some (bvs X).toArray.size := hi.trans (by rw [List.size_toArray])
  have hz : (bvs (List.replicate 4 0)).length = (bvs X).length := by rw [bvs_len, bvs_len, hl]; rfl
  have hi := hidp hi
  have hi2 := hidp hi2
  have hz := hidp hz
  have HE := hidp (fun o2 : Obj => elemKey_ok g t p b o cap R X n (w.alloc o2) (H.below ((Below.refl _ w).alloc (Nat.le_refl _) o2)) hl (fun w1 c _ _ hc => readKey_ok c t p b o cap R X n w1 hc hp))
  have HL := hidp (And.intro H.blk.lt (H.bs.ptr (by have := H.bs.le; have := (pRaw_ok hp).2.2; omega)).2)
  clear H hp hl
  go_enter Try.func37, Try.ntmps37
  go_wp2_with fail
  refine (HE.out _).mono ?_
  rintro e w2 ⟨rfl, h1, h2⟩
  have hz2 := hidp (h2.blk (Blk.new w (Array.toList _) 36) (by have := HL.out.1; omega))
  have hx2 := hidp (And.intro h1 (((Bex.refl g w).alloc _).bex h2))
  clear HE h1 h2
  go_wp2_with (refine wpList_store_blk rfl 36 _ _ rfl w.heap.size (bvs X) _ 36 rfl rfl hz2.out hi.out hz.out (bvs_one _) ?_; intro w6 hw6)
  have b2 : Blk w6 w.heap.size (bvs X) 36 := by rw [hw6.out]; exact hz2.out.row
  have hx6 := Bex.ofRow hw6.out
  have q := HL.out
  refine bodyPost_ret (v := .agg (bvs X).toArray) ?_ rfl ⟨rfl, hx2.out.1.bexA hx6 (by omega) (by omega), hx2.out.2.newRow hx6⟩
  exact results_cell_row Try.results37 _ _ w.heap.size 36 _ (0, 0) _ rfl b2 Try.underlying36 rfl hi2.out
set_option maxRecDepth 20000 in
theorem mKey_er (g t : Nat) (p : Option Addr) (b o cap : Nat) (R : List Nat) (x : Nat) (w : World) (H : Rd w g t p b o cap R 0 0) (hbw : b < w.heap.size) (hp : pRaw 4 R = .er x) :
    Calls Try.prog 37 #[.pointer (some ⟨g, 0, none⟩)] w fun e w' => e = .returned (.agg (bvs (List.replicate 4 0)).toArray) ∧ RdX w' g t b [] x t ∧ Bex g w w' := by
  have hi := hidp (show (Try.prog.info? 36).map (·.size) = some (bvs (List.replicate 4 0)).length by kernel_rfl)
  have HE := hidp (fun o2 : Obj => elemKey_er g t p b o cap R x (w.alloc o2) (H.below ((Below.refl _ w).alloc (Nat.le_refl _) o2)) (fun w1 c _ _ hc => readKey_er c t p b o cap R x w1 hc hp))
  have HL := hidp (And.intro H.blk.lt hbw)
  clear H hp hbw
  go_enter Try.func37, Try.ntmps37
  go_wp2_with fail
  refine (HE.out _).mono ?_
  rintro e w2 ⟨rfl, h1, h2⟩
  have hz2 := hidp (h2.blk (Blk.new w (Array.toList _) 36) (by have := HL.out.1; omega))
  have hx2 := hidp (And.intro h1 (((Bex.refl g w).alloc _).bex h2))
  clear HE h1 h2
  go_wp2_with (refine wpList_store_blk rfl 36 _ _ rfl w.heap.size (bvs (List.replicate 4 0)) _ 36 rfl rfl hz2.out hi.out rfl (bvs_one _) ?_; intro w6 hw6)
  have b2 : Blk w6 w.heap.size (bvs (List.replicate 4 0)) 36 := by rw [hw6.out]; exact hz2.out.row
  have hx6 := Bex.ofRow hw6.out
  have q := HL.out
  refine bodyPost_ret (v := .agg (bvs (List.replicate 4 0)).toArray) ?_ rfl ⟨rfl, hx2.out.1.bexA hx6 (by omega) (by omega), hx2.out.2.newRow hx6⟩
  exact results_cell_row Try.results37 _ _ w.heap.size 36 _ (0, 0) _ rfl b2 Try.underlying36 rfl (by kernel_rfl)

end Go.Proofs.Ytlfmmmlheloloaa
