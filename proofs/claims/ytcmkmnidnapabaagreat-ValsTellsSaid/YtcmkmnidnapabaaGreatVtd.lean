/-
  ValsTells: a key among a law's arguments; the walk.
-/
import Derived.Test.YtcmkmnidnapabaaGreatVtr
import Derived.Test.YtcmkmnidnapabaaGreatVtc
import Derived.Test.YtcmkmnidnapabaaGreatCV
import Derived.Test.YtcmkmnidnapabaaGreatOV
import Derived.Test.YtcmkmnidnapabaaGreatUE
import Derived.Test.YtcmkmnidnapabaaGreatRA
import Derived.Test.YtcmkmnidnapabaaGreatLB
import Derived.Test.YtcmkmnidnapabaaGreatJU
namespace Go.Proofs.YtcmkmnidnapabaaGreat
set_option linter.unusedSimpArgs false
set_option linter.unusedVariables false
open Go.RowKit Go.Lib Go.WideShapes Go.Joins


theorem fields_wide : (Tryz.prog.fieldsOf 29).toList.map (fun f => (f.type, f.offset, f.name == "_")) = [(27, 0, false), (27, 1, false)] := by kernel_rfl
theorem struct_wide : Tryz.prog.underlying 29 = some (.struct (Tryz.prog.fieldsOf 29)) := by kernel_rfl
theorem partT_w0 (a b : Value) (w : World) : (part 27 #[a, b] 0).run Tryz.prog w = .ok a w := by kernel_rfl
theorem partT_w1 (a b : Value) (w : World) : (part 27 #[a, b] 1).run Tryz.prog w = .ok b w := by kernel_rfl
set_option maxRecDepth 20000 in
theorem run_eqIn_wideT (d : Nat) (x y : Int) (w : World) : (Op.equalIn (d + 3) 29 (.agg #[.int .u64 x, .int .u64 y]) (.agg #[.int .u64 x, .int .u64 y])).run Tryz.prog w = .ok true w := by
  rw [show d + 3 = (d + 2) + 1 from rfl, run_equalIn_agg w (d + 2) 29 _ _ struct_wide (by kernel_rfl)]
  have hf := fields_wide
  obtain ⟨f0, r, h0, h1, h2⟩ := List.map_eq_cons_iff.1 hf
  obtain ⟨f1, r', h3, h4, h5⟩ := List.map_eq_cons_iff.1 h2
  obtain rfl := List.map_eq_nil_iff.1 h5
  rw [h0, h3]
  simp only [Prod.mk.injEq, beq_eq_false_iff_ne] at h1 h4
  obtain ⟨t0, o0, n0⟩ := h1
  obtain ⟨t1, o1, n1⟩ := h4
  simp only [Op.eqFields, n0, n1, t0, t1, o0, o1, ne_eq, not_false_eq_true, if_true, Sem.run_bind, partT_w0, partT_w1, Result.andThen_ok, run_equalIn_int w (d + 1) 27 .u64 .u64 _ _ Tryz.underlying27, beq_self_eq_true, Bool.not_true, Bool.false_eq_true, if_false]
  rfl
theorem eqWT (x y : Int) (w : World) : (binOp .eql 29 (.agg #[.int .u64 x, .int .u64 y]) (.agg #[.int .u64 x, .int .u64 y])).run Tryz.prog w = .ok (.bool true) w := by
  rw [run_eql_struct, run_eqIn_wideT 9997 x y]; rfl
section
variable {H : Type} {enc : TypeId × Value → H}
set_option maxRecDepth 100000 in
theorem open_key {W : World} {r : Reach} {b0 base : Nat} {spare : Nat → Bool} {held : Bool} {v : Value} {d : DataW H} {p : List MemPlace} (hv : Value.okWide Tryz.prog W r b0 24 v) (h : DataW.Trod enc Tryz.prog W base spare held 24 v d p) :
    ∃ k : Nat, k < 4294967296 ∧ v = .agg #[.int .u8 (kd k 3 : Nat), .int .u8 (kd k 2 : Nat), .int .u8 (kd k 1 : Nat), .int .u8 (kd k 0 : Nat)] := by
  have hC : Tryz.prog.cellsOf 24 = 4 := by kernel_rfl
  simp only [Value.okWide, Tryz.underlying24] at hv
  obtain ⟨cs, rfl, h2, _⟩ := hv
  obtain ⟨fuel, hf⟩ := h
  obtain ⟨ks, hk, e0⟩ := arr_of_trod Tryz.underlying24 hC hf
  have q := kb_kOf hk
  refine ⟨kOf ks, q.2, ?_⟩
  have e2 : cs = (bvs ks).toArray := by
    have e3 : cs.toList.toArray = (bvs ks).toArray := congrArg List.toArray e0
    rwa [Array.toArray_toList] at e3
  rw [e2]
  exact congrArg (fun z : List Nat => Value.agg (bvs z).toArray) q.1.symm
end
theorem OwnV.but {w w' : World} {B g : Nat} {v : Value} {l : List Vd} (h : OwnV w B v l) (hb : But g w w') (hne : ∀ k, v.ownBlock = some k → k ≠ g) : OwnV w' B v l := by
  refine ⟨h.1, ?_⟩
  rcases h.2 with h2 | ⟨k, cap, cur, h1, h2, h3, r⟩
  · exact .inl h2
  · exact .inr ⟨k, cap, cur, h1, h2, (hb.block k (hne k (by rw [h1]; rfl))).trans h3, r⟩
theorem OwnV.neB {w : World} {B g : Nat} {v : Value} {l : List Vd} {cs : List Value} (h : OwnV w B v l) (hb : Blk w g cs 5) : ∀ k, v.ownBlock = some k → k ≠ g := by
  intro k hk e
  subst e
  rcases h.2 with ⟨h1, _⟩ | ⟨k2, cap, cur, h1, _, h3, _⟩
  · rw [h1] at hk; cases hk
  · rw [h1] at hk
    cases hk
    unfold Blk at hb
    rw [hb] at h3
    cases h3
/-- Told numbers of 128 bits are laid into their variable. -/
theorem lay_wide {w1 w2 : World} {x : Nat} (h : w2 = w1.alloc (.cells #[.int .u64 (hiw x), .int .u64 (low x)] 29)) : Below w1.heap.size w1 w2 ∧ Blk w2 w1.heap.size [.int .u64 (hiw x), .int .u64 (low x)] 29 := by
  subst h
  exact ⟨(Below.refl w1.heap.size w1).alloc (Nat.le_refl _) _, Blk.new w1 [.int .u64 (hiw x), .int .u64 (low x)] _⟩
theorem lay_hashB {w1 w2 : World} {X : List Nat} (h : w2 = (w1.alloc (.cells (bvs z32).toArray 39)).setRow w1.heap.size (bvs X).toArray) : Below w1.heap.size w1 w2 := (lay_hash h).1
theorem wides4 {W : World} {b1 b2 t : Nat} (h1 : Blk W b1 [.int .u64 (hiw t), .int .u64 (low t)] 29) (h2 : Blk W b2 [.int .u64 (hiw t), .int .u64 (low t)] 29) :
    W.cell? ⟨b1, 0, none⟩ = some (.int .u64 (hiw t)) ∧ W.cell? ⟨b1, 1, none⟩ = some (.int .u64 (low t)) ∧ W.cell? ⟨b2, 0, none⟩ = some (.int .u64 (hiw t)) ∧ W.cell? ⟨b2, 1, none⟩ = some (.int .u64 (low t)) := ⟨h1.cell 0, h1.cell 1, h2.cell 0, h2.cell 1⟩
set_option maxRecDepth 100000 in
theorem vtl_long (a : Option Addr) (b o cap : Nat) (l : List Vd) (k : Nat) (w : World) (hL : 80 < l.length) : Calls Tryz.prog 3 #[.slice a l.length cap, .agg #[.int .u8 (kd k 3 : Nat), .int .u8 (kd k 2 : Nat), .int .u8 (kd k 1 : Nat), .int .u8 (kd k 0 : Nat)]] w fun e w' => e = .returned (.bool true) ∧ Below w.heap.size w w' := by
  have hA := hidp (fun o : Obj => (Below.refl w.heap.size w).alloc (Nat.le_refl _) o)
  have hd : decide ((80 : Int) < ((l.length : Nat) : Int)) = true := decide_eq_true (by omega)
  clear hL
  go_enter Tryz.func3, Tryz.ntmps3
  go_wp2_with fail
  refine (vawake_any _).mono ?_
  rintro e w1 ⟨rfl, hb⟩
  have hB := hidp ((hA.out _).trans (hb.mono (hA.out _).size))
  clear hb
  go_wp2
  go_ret
  exact ⟨rfl, hB.out⟩
set_option maxRecDepth 100000 in
set_option maxHeartbeats 16000000 in
theorem vtl_in (a : Option Addr) (b o cap : Nat) (l : List Vd) (k : Nat) (w : World) (h : Vs w a b o cap l) (hk : k < 4294967296) (hL : l.length ≤ 80) : Calls Tryz.prog 3 #[.slice a l.length cap, .agg #[.int .u8 (kd k 3 : Nat), .int .u8 (kd k 2 : Nat), .int .u8 (kd k 1 : Nat), .int .u8 (kd k 0 : Nat)]] w fun e w' => e = .returned (.bool true) ∧ Below w.heap.size w w' := by
  have hz : ∀ w, (zeroValue 39).run Tryz.prog w = .ok (.agg (bvs z32).toArray) w := (zero_of_info (P := Tryz.prog) zero_hash).1
  have hd : decide ((80 : Int) < ((l.length : Nat) : Int)) = false := decide_eq_false (by omega)
  have H := hidp h
  have HKK := hidp hk
  have HL := hidp hL
  have hOK := hidp h.ok
  have hV : Hid (Below w.heap.size w w) := hidp (Below.refl _ _)
  have KB : Hid (Kp w [(w.heap.size, [.int .u8 (kd k 3 : Nat), .int .u8 (kd k 2 : Nat), .int .u8 (kd k 1 : Nat), .int .u8 (kd k 0 : Nat)], 24)] (w.alloc (.cells #[.int .u8 (kd k 3 : Nat), .int .u8 (kd k 2 : Nat), .int .u8 (kd k 1 : Nat), .int .u8 (kd k 0 : Nat)] 24))) := hidp (Kp.cons (Kp.nil ((Below.refl w.heap.size w).alloc (Nat.le_refl _) _)) (Blk.new w [.int .u8 (kd k 3 : Nat), .int .u8 (kd k 2 : Nat), .int .u8 (kd k 1 : Nat), .int .u8 (kd k 0 : Nat)] _))
  have HX := hidp (hashV_len l)
  have HXc := hidp (fun W (hW : Below w.heap.size w W) => rvhashO a b o cap l W (h.below hW))
  have HEc := hidp (fun W (hW : Below w.heap.size w W) => rvencodeO a b o cap l W (h.below hW))
  have HTc := hidp (fun W (hW : Below w.heap.size w W) => rtotalO a b o cap l W (h.below hW))
  have HCc := hidp (fun W (hW : Below w.heap.size w W) => refcheck_any a b o cap l W (h.below hW))
  have HFc := hidp (fun W (hW : Below w.heap.size w W) => reffind_any a b o cap l k W (h.below hW) (by omega) hk)
  have HCV := hidp (fun W (hW : Below w.heap.size w W) => copyVals_any a b o cap l W (h.below hW) (by omega))
  have HX2 := hidp (fun W p b c (hW : Vs W p b 0 c l) => vhashO p b 0 c l W hW)
  have HE2 := hidp (fun W p b c (hW : Vs W p b 0 c l) => vencodeO p b 0 c l W hW)
  have HT2 := hidp (fun W p b c (hW : Vs W p b 0 c l) => totalO p b 0 c l W hW)
  have HC2 := hidp (fun W p b c (hW : Vs W p b 0 c l) => check_any p b 0 c l W hW)
  have HF2 := hidp (fun W p b c (hW : Vs W p b 0 c l) => find_any p b 0 c l k W hW (by omega) hk)
  have hLe := hidp (encV'_le l)
  clear h hk hL
  generalize hashV l = X at *
  generalize encV' l = E at *
  generalize totV l = t at *
  generalize chk l = n at *
  generalize ((fnd l k).getD 0) = fa at *
  generalize (fnd l k).isSome = fi at *
  have eXX := run_eql_hash X X HX.out HX.out
  rw [decide_eq_true rfl] at eXX
  have hgd := guard_hash
  have eW := eqWT (hiw t) (low t)
  have hnn : ((n : Int) == (n : Int)) = true := beq_self_eq_true _
  have hff : ((fa : Int) == (fa : Int)) = true := beq_self_eq_true _
  have hii : (fi == fi) = true := beq_self_eq_true _
  go_enter Tryz.func3, Tryz.ntmps3
  go_wp2_with fail
  refine (HCV.out _ KB.out.1).mono ?_
  rintro e u1 ⟨v, rfl, hv, hB⟩
  have hS := hidp (show w.heap.size ≤ (w.alloc (.cells #[.int .u8 (kd k 3 : Nat), .int .u8 (kd k 2 : Nat), .int .u8 (kd k 1 : Nat), .int .u8 (kd k 0 : Nat)] 24)).heap.size by simp)
  replace KB := hidp (KB.out.step hB)
  have hO0 := hidp hv
  obtain ⟨p, pb, pc, rfl, hpb, hvs⟩ := hv.vs hOK.out
  have OV := hidp hvs
  clear hB hv hvs hpb
  have OO := hidp (hO0.out)
  clear hO0
  go_wp2_with fail
  refine (HT2.out _ _ _ _ OV.out).mono ?_
  rintro e u2 ⟨rfl, hB⟩
  have hT := hidp (show Below u1.heap.size u1 u2 from hB)
  replace KB := hidp (KB.out.step hT.out)
  replace OV := hidp (OV.out.below hT.out)
  replace OO := hidp (OO.out.below hT.out)
  clear hB hT HT2
  go_wp2_with fail
  obtain ⟨x1, hx1⟩ : ∃ W, W = u2.alloc (.cells #[.int .u64 (hiw t), .int .u64 (low t)] 29) := ⟨_, rfl⟩
  have L1 := hidp (lay_wide hx1)
  rw [← hx1]
  clear hx1
  replace KB := hidp (KB.out.step L1.out.1)
  replace OV := hidp (OV.out.below L1.out.1)
  replace OO := hidp (OO.out.below L1.out.1)
  have B1 := hidp L1.out.2
  clear L1
  refine (HTc.out _ KB.out.1).mono ?_
  rintro e u3 ⟨rfl, hB⟩
  have hT := hidp (show Below x1.heap.size x1 u3 from hB)
  replace KB := hidp (KB.out.step hT.out)
  replace OV := hidp (OV.out.below hT.out)
  replace OO := hidp (OO.out.below hT.out)
  replace B1 := hidp (hT.out.blk' B1.out)
  clear hB hT HTc
  have k0 : ∀ o, (u3.alloc o).cell? ⟨w.heap.size, 0, none⟩ = some (.int .u8 (kd k 3 : Nat)) := fun o => ((KB.out.alloc o).at 0 rfl).cell 0
  have k1 : ∀ o, (u3.alloc o).cell? ⟨w.heap.size, 1, none⟩ = some (.int .u8 (kd k 2 : Nat)) := fun o => ((KB.out.alloc o).at 0 rfl).cell 1
  have k2 : ∀ o, (u3.alloc o).cell? ⟨w.heap.size, 2, none⟩ = some (.int .u8 (kd k 1 : Nat)) := fun o => ((KB.out.alloc o).at 0 rfl).cell 2
  have k3 : ∀ o, (u3.alloc o).cell? ⟨w.heap.size, 3, none⟩ = some (.int .u8 (kd k 0 : Nat)) := fun o => ((KB.out.alloc o).at 0 rfl).cell 3
  have kz := (KB.out.at 0 rfl).lt
  have kk0 : u3.cell? ⟨w.heap.size, 0, none⟩ = some (.int .u8 (kd k 3 : Nat)) := (KB.out.at 0 rfl).cell 0
  have kk1 : u3.cell? ⟨w.heap.size, 1, none⟩ = some (.int .u8 (kd k 2 : Nat)) := (KB.out.at 0 rfl).cell 1
  have kk2 : u3.cell? ⟨w.heap.size, 2, none⟩ = some (.int .u8 (kd k 1 : Nat)) := (KB.out.at 0 rfl).cell 2
  have kk3 : u3.cell? ⟨w.heap.size, 3, none⟩ = some (.int .u8 (kd k 0 : Nat)) := (KB.out.at 0 rfl).cell 3
  go_wp2_with fail
  obtain ⟨x2, hx2⟩ : ∃ W, W = u3.alloc (.cells #[.int .u64 (hiw t), .int .u64 (low t)] 29) := ⟨_, rfl⟩
  have L1 := hidp (lay_wide hx2)
  rw [← hx2]
  clear hx2
  replace KB := hidp (KB.out.step L1.out.1)
  replace OV := hidp (OV.out.below L1.out.1)
  replace OO := hidp (OO.out.below L1.out.1)
  replace B1 := hidp (L1.out.1.blk' B1.out)
  have B2 := hidp L1.out.2
  clear L1
  clear k0 k1 k2 k3 kk0 kk1 kk2 kk3 kz
  refine (HF2.out _ _ _ _ OV.out).mono ?_
  rintro e u4 ⟨rfl, hB⟩
  have hT := hidp (show Below x2.heap.size x2 u4 from hB)
  replace KB := hidp (KB.out.step hT.out)
  replace OV := hidp (OV.out.below hT.out)
  replace OO := hidp (OO.out.below hT.out)
  replace B1 := hidp (hT.out.blk' B1.out)
  replace B2 := hidp (hT.out.blk' B2.out)
  clear hB hT HF2
  have k0 := (KB.out.at 0 rfl).cell 0
  have k1 := (KB.out.at 0 rfl).cell 1
  have k2 := (KB.out.at 0 rfl).cell 2
  have k3 := (KB.out.at 0 rfl).cell 3
  simp only [List.getElem?_cons_zero, List.getElem?_cons_succ] at k0 k1 k2 k3
  go_wp2_with fail
  refine (HFc.out _ KB.out.1).mono ?_
  rintro e u5 ⟨rfl, hB⟩
  have hT := hidp (show Below u4.heap.size u4 u5 from hB)
  replace KB := hidp (KB.out.step hT.out)
  replace OV := hidp (OV.out.below hT.out)
  replace OO := hidp (OO.out.below hT.out)
  replace B1 := hidp (hT.out.blk' B1.out)
  replace B2 := hidp (hT.out.blk' B2.out)
  clear hB hT HFc k0 k1 k2 k3
  have hS5 := hidp KB.out.1.size
  go_wp2_with fail
  refine (HE2.out _ _ _ _ OV.out).mono ?_
  rintro e u6 ⟨⟨q, qb, qc, rfl, hs, ho⟩, hB⟩
  have hT := hidp (show Below u5.heap.size u5 u6 from hB)
  replace KB := hidp (KB.out.step hT.out)
  replace OV := hidp (OV.out.below hT.out)
  replace OO := hidp (OO.out.below hT.out)
  replace B1 := hidp (hT.out.blk' B1.out)
  replace B2 := hidp (hT.out.blk' B2.out)
  have Q := hidp (hs)
  have OB := hidp (ho.lower hS5.out)
  clear hB hT hs ho HE2
  go_wp2_with fail
  refine (HEc.out _ KB.out.1).mono ?_
  rintro e u7 ⟨⟨r, rb, rc, rfl, hs⟩, hB⟩
  have hT := hidp (show Below u6.heap.size u6 u7 from hB)
  replace KB := hidp (KB.out.step hT.out)
  replace OV := hidp (OV.out.below hT.out)
  replace OO := hidp (OO.out.below hT.out)
  replace B1 := hidp (hT.out.blk' B1.out)
  replace B2 := hidp (hT.out.blk' B2.out)
  replace Q := hidp (Q.out.below hT.out)
  replace OB := hidp (OB.out.below hT.out)
  have RR := hidp (hs)
  clear hB hT hs HEc
  go_wp2_with fail
  refine (HX2.out _ _ _ _ OV.out).mono ?_
  rintro e u8 ⟨rfl, hB⟩
  have hT := hidp (show Below u7.heap.size u7 u8 from hB)
  replace KB := hidp (KB.out.step hT.out)
  replace OV := hidp (OV.out.below hT.out)
  replace OO := hidp (OO.out.below hT.out)
  replace B1 := hidp (hT.out.blk' B1.out)
  replace B2 := hidp (hT.out.blk' B2.out)
  replace Q := hidp (Q.out.below hT.out)
  replace OB := hidp (OB.out.below hT.out)
  replace RR := hidp (RR.out.below hT.out)
  clear hB hT HX2
  go_wp2_with (with_reducible refine (?_ : wpList _ _ _ _ _ _); refine wpList_store_blk rfl 39 _ _ rfl u8.heap.size (bvs X) (bvs z32) 39 rfl rfl (Blk.new u8 (bvs z32) _) (by rw [bvs_len, HX.out]; kernel_rfl) (by simp [bvs_len, HX.out, z32]) (bvs_one _) ?_; intro t1 ht1; have L1 := hidp (lay_hash ht1.out); clear ht1)
  have BX := hidp L1.out.2
  replace KB := hidp (KB.out.step L1.out.1)
  replace OV := hidp (OV.out.below L1.out.1)
  replace OO := hidp (OO.out.below L1.out.1)
  replace B1 := hidp (L1.out.1.blk' B1.out)
  replace B2 := hidp (L1.out.1.blk' B2.out)
  replace Q := hidp (Q.out.below L1.out.1)
  replace OB := hidp (OB.out.below L1.out.1)
  replace RR := hidp (RR.out.below L1.out.1)
  clear L1
  refine (HXc.out _ KB.out.1).mono ?_
  rintro e u9 ⟨rfl, hB⟩
  have hT := hidp (show Below t1.heap.size t1 u9 from hB)
  replace KB := hidp (KB.out.step hT.out)
  replace OV := hidp (OV.out.below hT.out)
  replace OO := hidp (OO.out.below hT.out)
  replace B1 := hidp (hT.out.blk' B1.out)
  replace B2 := hidp (hT.out.blk' B2.out)
  replace Q := hidp (Q.out.below hT.out)
  replace OB := hidp (OB.out.below hT.out)
  replace RR := hidp (RR.out.below hT.out)
  replace BX := hidp (hT.out.blk' BX.out)
  clear hB hT HXc
  have hm := hidp (fun W (hW : Below u9.heap.size u9 W) => wides4 (hW.blk' B1.out) (hW.blk' B2.out))
  go_wp2_with (with_reducible refine (?_ : wpList _ _ _ _ _ _); refine wpList_store_blk rfl 39 _ _ rfl u9.heap.size (bvs X) (bvs z32) 39 rfl rfl (Blk.new u9 (bvs z32) _) (by rw [bvs_len, HX.out]; kernel_rfl) (by simp [bvs_len, HX.out, z32]) (bvs_one _) ?_; intro t2 ht2; have L1 := hidp (lay_hash ht2.out); have L2 := lay_hashB ht2.out; obtain ⟨m0, m1, m2, m3⟩ := hm.out t2 L2; clear ht2 L2)
  have BY := hidp L1.out.2
  clear m0 m1 m2 m3 hm
  replace KB := hidp (KB.out.step L1.out.1)
  replace OV := hidp (OV.out.below L1.out.1)
  replace OO := hidp (OO.out.below L1.out.1)
  replace B1 := hidp (L1.out.1.blk' B1.out)
  replace B2 := hidp (L1.out.1.blk' B2.out)
  replace Q := hidp (Q.out.below L1.out.1)
  replace OB := hidp (OB.out.below L1.out.1)
  replace RR := hidp (RR.out.below L1.out.1)
  replace BX := hidp (L1.out.1.blk' BX.out)
  clear L1
  refine (sameBytes_b Q.out RR.out true (decide_eq_true rfl)).mono ?_
  rintro e u10 ⟨rfl, hB⟩
  have hT := hidp (show Below t2.heap.size t2 u10 from hB)
  replace KB := hidp (KB.out.step hT.out)
  replace OV := hidp (OV.out.below hT.out)
  replace OO := hidp (OO.out.below hT.out)
  replace B1 := hidp (hT.out.blk' B1.out)
  replace B2 := hidp (hT.out.blk' B2.out)
  replace Q := hidp (Q.out.below hT.out)
  replace OB := hidp (OB.out.below hT.out)
  replace RR := hidp (RR.out.below hT.out)
  replace BX := hidp (hT.out.blk' BX.out)
  replace BY := hidp (hT.out.blk' BY.out)
  clear hB hT 
  go_wp2_with first
    | (with_reducible refine (?_ : wpList _ _ _ _ _ _); refine wpList_load_blkG (by kernel_rfl) 39 _ rfl u8.heap.size (bvs X) 39 rfl (BX.out) _ Tryz.underlying39 rfl (by rw [bvs_len, HX.out]; kernel_rfl) ?_)
    | (with_reducible refine (?_ : wpList _ _ _ _ _ _); refine wpList_load_blkG (by kernel_rfl) 39 _ rfl u9.heap.size (bvs X) 39 rfl (BY.out) _ Tryz.underlying39 rfl (by rw [bvs_len, HX.out]; kernel_rfl) ?_)
  refine (HC2.out _ _ _ _ OV.out).mono ?_
  rintro e u11 ⟨rfl, hB⟩
  have hT := hidp (show Below u10.heap.size u10 u11 from hB)
  replace KB := hidp (KB.out.step hT.out)
  replace OV := hidp (OV.out.below hT.out)
  replace OO := hidp (OO.out.below hT.out)
  replace B1 := hidp (hT.out.blk' B1.out)
  replace B2 := hidp (hT.out.blk' B2.out)
  replace Q := hidp (Q.out.below hT.out)
  replace OB := hidp (OB.out.below hT.out)
  replace RR := hidp (RR.out.below hT.out)
  replace BX := hidp (hT.out.blk' BX.out)
  replace BY := hidp (hT.out.blk' BY.out)
  clear hB hT 
  go_wp2_with fail
  refine (HCc.out _ KB.out.1).mono ?_
  rintro e u12 ⟨rfl, hB⟩
  have hT := hidp (show Below u11.heap.size u11 u12 from hB)
  replace KB := hidp (KB.out.step hT.out)
  replace OV := hidp (OV.out.below hT.out)
  replace OO := hidp (OO.out.below hT.out)
  replace B1 := hidp (hT.out.blk' B1.out)
  replace B2 := hidp (hT.out.blk' B2.out)
  replace Q := hidp (Q.out.below hT.out)
  replace OB := hidp (OB.out.below hT.out)
  replace RR := hidp (RR.out.below hT.out)
  replace BX := hidp (hT.out.blk' BX.out)
  replace BY := hidp (hT.out.blk' BY.out)
  clear hB hT 
  have hT := hidp KB.out
  clear KB BX BY B1 B2
  go_wp2_with fail
  refine (over_but w.heap.size E q qc _ OB.out (by have := hLe.out; omega)).mono ?_
  rintro e wO ⟨rfl, hov⟩
  have hX := hidp (show Below w.heap.size w wO ∧ OwnV wO (w.alloc (.cells #[.int .u8 (kd k 3 : Nat), .int .u8 (kd k 2 : Nat), .int .u8 (kd k 1 : Nat), .int .u8 (kd k 0 : Nat)] 24)).heap.size (.slice p l.length pc) l from by
    rcases hov with ⟨g, rest, _, hB, hk, hbt⟩ | rfl
    · exact ⟨hT.out.1.trans (hbt.below hB), OO.out.but hbt (OO.out.neB hk)⟩
    · exact ⟨hT.out.1, OO.out⟩)
  clear hov hT OB Q RR OO OV
  obtain ⟨p', pb', pc', e', _, hvs⟩ := hX.out.2.vs hOK.out
  cases e'
  have OV := hidp hvs
  clear hvs
  have HSV := hidp (sameVals_any p pb' 0 pc l a b o cap l wO OV.out (H.out.below hX.out.1) (by have := HL.out; omega))
  rw [decide_eq_true rfl] at HSV
  go_wp2_with fail
  refine HSV.out.mono ?_
  rintro e wP ⟨rfl, hN⟩
  have hB8 := hidp (hX.out.1.trans (hN.mono hX.out.1.size))
  clear hN hX OV HSV
  go_wp2_with fail
  refine (vawake_any _).mono ?_
  rintro e wR ⟨rfl, hN⟩
  have hB9 := hidp (hB8.out.trans (hN.mono hB8.out.size))
  clear hN hB8
  go_wp2
  go_ret
  exact ⟨rfl, hB9.out⟩

theorem vtl_any (a : Option Addr) (b o cap : Nat) (l : List Vd) (k : Nat) (w : World) (h : Vs w a b o cap l) (hk : k < 4294967296) : Calls Tryz.prog 3 #[.slice a l.length cap, .agg #[.int .u8 (kd k 3 : Nat), .int .u8 (kd k 2 : Nat), .int .u8 (kd k 1 : Nat), .int .u8 (kd k 0 : Nat)]] w fun e w' => e = .returned (.bool true) ∧ Below w.heap.size w w' := by
  by_cases hL : 80 < l.length
  · exact vtl_long a b o cap l k w hL
  · exact vtl_in a b o cap l k w h hk (by omega)
end Go.Proofs.YtcmkmnidnapabaaGreat
