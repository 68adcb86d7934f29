/-
  Texts L7i, L7j, L7k, one behind the other.
-/
import Derived.Test.YtcmkmnidnapabaaGreatTB
import Derived.Test.YtcmkmnidnapabaaGreatUb

/-! L7i: Commit: rows of keys; Who. -/
namespace Go.Proofs.YtcmkmnidnapabaaGreat
open Go.RowKit Go.Lib
set_option linter.unusedSimpArgs false

def kL (k : Nat) : List Value := [.int .u8 (kd k 3 : Nat), .int .u8 (kd k 2 : Nat), .int .u8 (kd k 1 : Nat), .int .u8 (kd k 0 : Nat)]
theorem kL_len (k : Nat) : (kL k).length = 4 := rfl
theorem flatK_at : ∀ (l : List Nat) (i : Nat) (v : Nat), l[i]? = some v → ∀ j c, (kL v)[j]? = some c → (l.flatMap kL)[i * 4 + j]? = some c
  | [], _, _, h, _, _, _ => by simp at h
  | u :: l, 0, v, h, j, c, hc => by
    simp only [List.getElem?_cons_zero, Option.some.injEq] at h
    subst h
    have hj : j < 4 := by rw [← kL_len u]; exact (List.getElem?_eq_some_iff.1 hc).1
    rw [List.flatMap_cons, List.getElem?_append_left (by rw [kL_len]; omega), Nat.zero_mul, Nat.zero_add]
    exact hc
  | u :: l, i + 1, v, h, j, c, hc => by
    rw [List.flatMap_cons, List.getElem?_append_right (by rw [kL_len]; omega), kL_len, show (i + 1) * 4 + j - 4 = i * 4 + j by omega]
    exact flatK_at l i v (by simpa using h) j c hc
theorem kL_one (k : Nat) : ∀ u ∈ kL k, u.oneCell' = true := by
  intro u hu
  simp only [kL, List.mem_cons, List.not_mem_nil, or_false] at hu
  rcases hu with rfl | rfl | rfl | rfl <;> rfl
/-- A slice of keys. -/
structure Ks (w : World) (a : Option Addr) (b o cap : Nat) (l : List Nat) : Prop where
  ok : ∀ k ∈ l, k < 4294967296
  le : l.length ≤ cap
  ptr : 0 < cap → a = some ⟨b, o, none⟩ ∧ b < w.heap.size
  cell : ∀ i v, l[i]? = some v → ∀ j c, (kL v)[j]? = some c → w.cell? ⟨b, o + i * 4 + j, none⟩ = some c
theorem Ks.below {w w' : World} {a : Option Addr} {b o cap : Nat} {l : List Nat} (h : Ks w a b o cap l) (hB : Below w.heap.size w w') : Ks w' a b o cap l :=
  ⟨h.ok, h.le, fun h0 => ⟨(h.ptr h0).1, Nat.lt_of_lt_of_le (h.ptr h0).2 hB.size⟩, fun i v hi j c hc => (hB.cell (cell_lt (h.cell i v hi j c hc))).trans (h.cell i v hi j c hc)⟩
theorem Ks.at {w : World} {a : Option Addr} {b o cap : Nat} {l : List Nat} (h : Ks w a b o cap l) {i : Nat} (hi : i < l.length) :
    ∃ v, l[i]? = some v ∧ v < 4294967296 ∧ a = some ⟨b, o, none⟩ ∧ b < w.heap.size ∧ (w.cell? ⟨b, o + i * 4, none⟩ = some (.int .u8 (kd v 3 : Nat)) ∧ w.cell? ⟨b, o + i * 4 + 1, none⟩ = some (.int .u8 (kd v 2 : Nat)) ∧ w.cell? ⟨b, o + i * 4 + 2, none⟩ = some (.int .u8 (kd v 1 : Nat)) ∧ w.cell? ⟨b, o + i * 4 + 3, none⟩ = some (.int .u8 (kd v 0 : Nat))) := by
  have hv := List.getElem?_eq_getElem hi
  have h0 : 0 < cap := by have := h.le; omega
  exact ⟨l[i], hv, h.ok _ (List.getElem_mem hi), (h.ptr h0).1, (h.ptr h0).2, h.cell i _ hv 0 _ rfl, h.cell i _ hv 1 _ rfl, h.cell i _ hv 2 _ rfl, h.cell i _ hv 3 _ rfl⟩
def OwnK (w : World) (base : Nat) (v : Value) (l : List Nat) : Prop := w.ownsRow base 24 4 v l.length (l.flatMap kL)
theorem OwnK.ks {w : World} {base : Nat} {v : Value} {l : List Nat} (h : OwnK w base v l) (hok : ∀ u ∈ l, u < 4294967296) : ∃ p b cap, v = .slice p l.length cap ∧ base ≤ b ∧ Ks w p b 0 cap l := by
  rcases h.2 with ⟨h1, h2⟩ | ⟨g, cap, cur, h1, h2, h3, h4, h5, h6, h7⟩
  · have hl : l = [] := List.eq_nil_of_length_eq_zero h2
    subst hl
    exact ⟨none, base, 0, h1, Nat.le_refl _, by simp, by simp, fun h => absurd h (by omega), fun i v hi => by simp at hi⟩
  · refine ⟨some ⟨g, 0, none⟩, g, cap, h1, h2, hok, h4, fun _ => ⟨rfl, (Array.getElem?_eq_some_iff.1 h3).1⟩, fun i u hi j c hc => ?_⟩
    have h8 := flatK_at l i u hi j c hc
    rw [← h7] at h8
    simp only [World.cell?, h3]
    rw [Nat.zero_add]
    rw [List.getElem?_take] at h8
    split at h8
    · simpa using h8
    · cases h8
theorem OwnK.nil (w : World) (base : Nat) : OwnK w base (.slice none 0 0) [] := ⟨rfl, .inl ⟨rfl, rfl⟩⟩
theorem OwnK.below {w w' : World} {base : Nat} {v : Value} {l : List Nat} (h : OwnK w base v l) (hB : Below w.heap.size w w') : OwnK w' base v l := by
  refine ⟨h.1, ?_⟩
  rcases h.2 with h2 | ⟨g, cap, cur, h1, h2, h3, r⟩
  · exact .inl h2
  · exact .inr ⟨g, cap, cur, h1, h2, (hB.block g (Array.getElem?_eq_some_iff.1 h3).1).trans h3, r⟩
theorem OwnK.snoc {w : World} {B : Nat} {v : Value} {l : List Nat} {u : Nat} (h : w.ownsRow B 24 4 v (l.length + 1) (l.flatMap kL ++ kL u)) : OwnK w B v (l ++ [u]) := by
  unfold OwnK
  rw [List.length_append, List.flatMap_append, List.flatMap_cons, List.flatMap_nil, List.append_nil]
  exact h
theorem OwnK.slice {w : World} {B : Nat} {v : Value} {l : List Nat} (h : OwnK w B v l) : ∃ p c, v = .slice p l.length c := by
  rcases h.2 with ⟨h1, h2⟩ | ⟨g, cap, cur, h1, _⟩
  · exact ⟨none, 0, by rw [h1, h2]⟩
  · exact ⟨_, cap, h1⟩
theorem OwnK.base {w : World} {B C : Nat} {v : Value} {l : List Nat} (h : OwnK w B v l) (hC : C ≤ B) : OwnK w C v l := by
  refine ⟨h.1, ?_⟩
  rcases h.2 with h2 | ⟨g, cap, cur, h1, h2, r⟩
  · exact .inl h2
  · exact .inr ⟨g, cap, cur, h1, Nat.le_trans hC h2, r⟩
theorem info_key : (Tryz.prog.info? 24).map (fun i => (i.zero, i.size, i.bytes)) = some (some (.agg #[.int .u8 0, .int .u8 0, .int .u8 0, .int .u8 0]), 4, 4) := by kernel_rfl

def keyAt (s : List Vd) (v : Vt) : Nat := ((s[v.a.toNat]?).map (·.k)).getD 0
/-- What Who tells. -/
def whoO (h : Int) (l : List Vt) (s : List Vd) : List Nat × Nat := if chkC h l ≠ 0 then ([], chkC h l) else if l.all (fun v => decide (v.a < (s.length : Int))) = true then (l.map (keyAt s), 0) else ([], 3)
structure WhI (w wr : World) (B i : Nat) (l : List Vt) (s : List Vd) (sv : Value) : Prop where
  own : OwnK wr B sv ((l.take i).map (keyAt s))
  bel : Below w.heap.size w wr
  hB : w.heap.size ≤ B
  wB : B ≤ wr.heap.size
  all : ∀ v ∈ l.take i, v.a < (s.length : Int)
theorem WhI.next {w wr w2 : World} {B i : Nat} {l : List Vt} {s : List Vd} {sv sv2 : Value} {v : Vt} {o1 o2 : Obj} (H : WhI w wr B i l s sv) (hv : l[i]? = some v) (ha : v.a < (s.length : Int))
    (ho : w2.ownsRow B 24 4 sv2 (((l.take i).map (keyAt s)).length + 1) (((l.take i).map (keyAt s)).flatMap kL ++ kL (keyAt s v))) (hg : ((wr.alloc o1).alloc o2).grownBy w2 sv.ownBlock) : WhI w w2 B (i + 1) l s sv2 := by
  obtain ⟨hlt, rfl⟩ := List.getElem?_eq_some_iff.1 hv
  have e : l.take (i + 1) = l.take i ++ [l[i]] := List.take_succ_eq_append_getElem hlt
  have hs := H.bel.size
  have b2 := (H.bel.alloc hs o1).alloc (by have := Below.size (Below.alloc H.bel hs o1); exact this) o2
  have hz := b2.size
  refine ⟨by rw [e, List.map_append]; exact OwnK.snoc ho, b2.grown hg hz (fun k hk => Nat.le_trans H.hB (World.ownsRow.lt H.own k hk).1), H.hB, Nat.le_trans H.wB (Nat.le_trans (by simp; omega) hg.size), fun v hv => ?_⟩
  rw [e] at hv
  rcases List.mem_append.1 hv with h | h
  · exact H.all v h
  · rw [List.mem_singleton] at h; rw [h]; exact ha
set_option maxRecDepth 100000 in
set_option maxHeartbeats 4000000 in
theorem cwho_any (h : Int) (p : List Nat) (hp : p.length = 32) (a : Option Addr) (b o cap : Nat) (l : List Vt) (a2 : Option Addr) (b2 o2 cap2 : Nat) (s : List Vd) (w : World) (hT : Ts w a b o cap l) (hS : Vs w a2 b2 o2 cap2 s) :
    Calls Tryz.prog 243 #[.agg (cC h p (.slice a l.length cap)).toArray, .slice a2 s.length cap2] w fun e w' => ∃ sv, e = .returned (.tuple #[sv, .int .i64 ((whoO h l s).2 : Nat)]) ∧ OwnK w' w.heap.size sv (whoO h l s).1 ∧ Below w.heap.size w w' := by
  obtain ⟨i0, hi0, hz0, hz1, hz2⟩ := info_parts info_key
  have hl := hidp (cC_len (h := h) (sl := .slice a l.length cap) hp)
  have HK := hidp (Blk.new w (cC h p (.slice a l.length cap)) 82)
  have HB := hidp ((Below.refl w.heap.size w).alloc (Nat.le_refl _) (.cells (cC h p (.slice a l.length cap)).toArray 82))
  have HC := hidp (ccheck_any h p hp a b o cap l _ (hT.below HB.out))
  have HT := hidp hT
  have HS := hidp hS
  have hpp := hidp hp
  obtain ⟨r, hr⟩ : ∃ r, r = whoO h l s := ⟨_, rfl⟩
  rw [← hr]
  replace hr := hidp hr
  clear hT hS hp
  go_enter Tryz.func243, Tryz.ntmps243
  go_wp2_with (with_reducible refine (?_ : wpList _ _ _ _ _ _); refine wpList_load_blk rfl 82 _ rfl w.heap.size (cC h p (.slice a l.length cap)) 82 rfl HK.out _ Tryz.underlying82 rfl (by rw [hl.out]; kernel_rfl) ?_)
  refine HC.out.mono ?_
  rintro e w1 ⟨rfl, hb⟩
  have H1 := hidp (And.intro (HB.out.trans (hb.mono HB.out.size)) (hb.blk' HK.out))
  clear hb HC HB HK
  by_cases hc : chkC h l = 0
  case neg =>
    have hR := hidp (show r = ([], chkC h l) by rw [hr.out]; unfold whoO; rw [if_pos hc])
    have hbn : (((chkC h l : Nat) : Int) != 0) = true := by rw [bne_iff_ne]; omega
    clear hc hr
    generalize chkC h l = n at *
    go_wp2_with fail
    exact bodyPost_ret (v := .tuple #[.slice none 0 0, .int .i64 (n : Nat)]) (by simp [results, Tryz.results243, go_sem]) rfl ⟨_, by rw [hR.out], by rw [hR.out]; exact OwnK.nil _ _, H1.out.1⟩
  have hOK := hidp (chkC_ok hc)
  have hOV := hidp (chkV_ok hOK.out.2.2)
  rw [hc]
  replace hc := hidp hc
  have c33 : w1.cell? ⟨w.heap.size, 33, none⟩ = some (.slice a l.length cap) := (H1.out.2.cell 33).trans (cC_33 hpp.out)
  go_wp2_with (refine wpList_make_own w1 rfl _ _ 70 rfl w1.heap.size 24 i0 _ 4 Tryz.underlying70 hi0 hz0 hz1 .i64 .i64 (l.length : Nat) l.length rfl rfl rfl (by rw [hz2]; have := hOK.out.2.1; omega) (by have := hOK.out.2.1; unfold maxLen; omega) (Nat.le_refl _) ?_; intro w3 ho3 hg3; have h3 := hidp (And.intro ho3 hg3); clear ho3 hg3; have d33 := ((Below.refl _ w1).grown h3.out.2 (Nat.le_refl _) (fun k h => by cases h)).cell (p := ⟨w.heap.size, 33, none⟩) (H1.out.2.lt); rw [c33] at d33)
  have H3 := hidp ((Below.refl _ w1).grown h3.out.2 (Nat.le_refl _) (fun k h => by cases h))
  have H0 : Hid (WhI w w3 w1.heap.size 0 l s (.slice (some ⟨w1.heap.size, 0, none⟩) 0 l.length)) := hidp ⟨h3.out.1, H1.out.1.trans (H3.out.mono H1.out.1.size), H1.out.1.size, H3.out.size, by simp⟩
  clear h3 c33
  go_wp2_with fail
  clear d33
  go_loopw [7, 22] (fun sv x wr => ∃ i : Nat, i ≤ l.length ∧ x = .int .i64 i ∧ Hid (WhI w wr w1.heap.size i l s sv)) (fun _ x _ => l.length - (Go.RowKit.intOf x).toNat)
  case atStart => exact ⟨0, by omega, rfl, H0⟩
  case round =>
    obtain ⟨i, hi, rfl, hx⟩ := hrel
    clear H0
    obtain ⟨p7, c7, hv7⟩ := hx.out.own.slice
    subst hv7
    by_cases hlt : i < l.length
    · obtain ⟨v, hv, hok, rfl, hbl, c0, c1⟩ := (HT.out.below hx.out.bel).at hlt
      have HV := hidp hv
      have hadd := w64_nat (n := i) (by have := hOK.out.2.1; omega)
      have hav := hOV.out.2.2 v (List.mem_of_getElem? hv)
      obtain ⟨m, hm⟩ : ∃ m : Nat, v.a = m := ⟨v.a.toNat, by omega⟩
      have hmm := hidp hm
      rw [hm] at c0
      clear hv hok hm
      by_cases ha : m < s.length
      · have ht : decide ((s.length : Int) ≤ (m : Int)) = false := decide_eq_false (by omega)
        obtain ⟨u, hu, huk, rfl, hbl2, k0, k1, k2, k3, k4⟩ := (HS.out.below hx.out.bel).at ha
        have hkey := hidp (show keyAt s v = u.k by unfold keyAt; rw [hmm.out, show ((m : Nat) : Int).toNat = m by omega, hu]; rfl)
        have hao := hidp (fun o1 o2 => ((show OwnK wr w1.heap.size _ _ from hx.out.own).below ((Below.refl _ wr).alloc (Nat.le_refl _) o1)).below ((Below.refl _ (wr.alloc o1)).alloc (Nat.le_refl _) o2))
        have hsz := hidp (show ((l.take i).map (keyAt s)).length ≤ 64 by rw [List.length_map, List.length_take]; have := hOK.out.2.1; omega)
        have hwB := hidp hx.out.wB
        clear hu huk
        go_wp2_with (at_builtin; refine wpList_append_own _ rfl _ _ 70 rfl w1.heap.size 24 i0 _ 4 4 Tryz.underlying70 hi0 hz0 hz1 hz2 rfl (by decide) _ ((l.take i).map (keyAt s)).length (((l.take i).map (keyAt s)).flatMap kL) rfl (hao.out _ _) ⟨wr.heap.size + 1, 0, none⟩ 1 1 (kL u.k) (by simp [Act.eval]) rfl (fun j c hj => by rw [Addr.add_mid, Nat.zero_add]; exact ((Blk.new' _ (kL u.k) 24 (wr.heap.size + 1) (by simp)).cell j).trans hj) (kL_one u.k) (by have := hsz.out; unfold maxLen; omega) (by have := hsz.out; omega) (by have := hwB.out; simp; omega) ?_; intro v' w4 hown' hgrow _; have H4 := hidp (hx.out.next HV.out (by rw [hmm.out]; omega) (by rw [hkey.out]; exact hown') hgrow); clear hown' hgrow)
        rw [hadd]
        exact ⟨⟨i + 1, by omega, rfl, H4⟩, by show l.length - ((i + 1 : Nat) : Int).toNat < l.length - ((i : Nat) : Int).toNat; omega⟩
      · have ht : decide ((s.length : Int) ≤ (m : Int)) = true := decide_eq_true (by omega)
        have hR := hidp (show r = ([], 3) by
          rw [hr.out]; unfold whoO
          rw [if_neg (by rw [hc.out]; simp), if_neg]
          intro hall
          rw [List.all_eq_true] at hall
          have := hall v (List.mem_of_getElem? HV.out)
          rw [decide_eq_true_eq, hmm.out] at this
          omega)
        have hb5 := hidp (hx.out.bel.alloc hx.out.bel.size (.cells #[.int .i64 (m : Nat), .int .u64 (v.s : Nat)] 169))
        clear hx hr
        go_wp2_with fail
        exact bodyPost_ret (v := .tuple #[.slice none 0 0, .int .i64 3]) (by simp [results, Tryz.results243, go_sem]) rfl ⟨_, by rw [hR.out]; rfl, by rw [hR.out]; exact OwnK.nil _ _, hb5.out⟩
    · obtain rfl : i = l.length := by omega
      have hR := hidp (show r = (l.map (keyAt s), 0) by
        rw [hr.out]; unfold whoO
        rw [if_neg (by rw [hc.out]; simp), if_pos]
        rw [List.all_eq_true]
        intro v hv
        have := hx.out.all v (by rw [List.take_length]; exact hv)
        exact decide_eq_true this)
      have hO := hidp (show OwnK wr w1.heap.size (.slice p7 ((l.take l.length).map (keyAt s)).length c7) (l.map (keyAt s)) by have q := hx.out.own; rw [List.take_length] at q ⊢; exact q)
      have hb5 := hidp (And.intro hx.out.bel hx.out.hB)
      clear hx hr hlt
      go_wp2_with fail
      exact bodyPost_ret (v := .tuple #[.slice p7 ((l.take l.length).map (keyAt s)).length c7, .int .i64 0]) (by simp [results, Tryz.results243, go_sem]) rfl ⟨_, by rw [hR.out]; rfl, by rw [hR.out]; exact hO.out.base hb5.out.2, hb5.out.1⟩
end Go.Proofs.YtcmkmnidnapabaaGreat

/-! L7j: Commit: votes, keys, commits side by side; what adds and joins of the laws tell. -/
namespace Go.Proofs.YtcmkmnidnapabaaGreat
open Go.RowKit Go.Lib
set_option linter.unusedSimpArgs false

theorem fields_vote : (Tryz.prog.fieldsOf 169).toList.map (fun f => (f.type, f.offset, f.name == "_")) = [(3, 0, false), (27, 1, false)] := by kernel_rfl
theorem struct_vote : Tryz.prog.underlying 169 = some (.struct (Tryz.prog.fieldsOf 169)) := by kernel_rfl
theorem part_va (a b : Value) (w : World) : (part 3 #[a, b] 0).run Tryz.prog w = .ok a w := by kernel_rfl
theorem part_vs (a b : Value) (w : World) : (part 27 #[a, b] 1).run Tryz.prog w = .ok b w := by kernel_rfl
set_option maxRecDepth 20000 in
theorem run_eqIn_vote (d : Nat) (u v : Vt) (w : World) : (Op.equalIn (d + 3) 169 (.agg #[.int .i64 u.a, .int .u64 (u.s : Nat)]) (.agg #[.int .i64 v.a, .int .u64 (v.s : Nat)])).run Tryz.prog w = .ok (decide (u = v)) w := by
  rw [show d + 3 = (d + 2) + 1 from rfl, run_equalIn_agg w (d + 2) 169 _ _ struct_vote (by kernel_rfl)]
  have hf := fields_vote
  obtain ⟨f0, r, h0, h1, h2⟩ := List.map_eq_cons_iff.1 hf
  obtain ⟨f1, r', h3, h4, h5⟩ := List.map_eq_cons_iff.1 h2
  obtain rfl := List.map_eq_nil_iff.1 h5
  rw [h0, h3]
  simp only [Prod.mk.injEq, beq_eq_false_iff_ne] at h1 h4
  obtain ⟨t0, o0, n0⟩ := h1
  obtain ⟨t1, o1, n1⟩ := h4
  have e : decide (u = v) = ((u.a == v.a) && ((u.s : Int) == (v.s : Int))) := by
    obtain ⟨a, b⟩ := u
    obtain ⟨c, d⟩ := v
    simp only [Vt.mk.injEq]
    by_cases h : a = c <;> by_cases h' : b = d <;> simp [h, h'] <;> omega
  rw [e]
  simp only [Op.eqFields, n0, n1, t0, t1, o0, o1, ne_eq, not_false_eq_true, if_true, Sem.run_bind, part_va, Result.andThen_ok, run_equalIn_int w (d + 1) 3 .i64 .i64 _ _ Tryz.underlying3]
  cases (u.a == v.a)
  · rfl
  · simp only [Bool.not_true, Bool.false_eq_true, if_false, Sem.run_bind, part_vs, Result.andThen_ok, run_equalIn_int w (d + 1) 27 .u64 .u64 _ _ Tryz.underlying27]
    cases ((u.s : Int) == (v.s : Int)) <;> rfl
set_option maxRecDepth 20000 in
theorem run_eq_vote (u v : Vt) (w : World) : (binOp .eql 169 (.agg #[.int .i64 u.a, .int .u64 (u.s : Nat)]) (.agg #[.int .i64 v.a, .int .u64 (v.s : Nat)])).run Tryz.prog w = .ok (.bool (decide (u = v))) w := by
  rw [run_eql_struct, run_eqIn_vote 9997 u v]; rfl
theorem guard_vote : Tryz.prog.eqGuardType Tryz.prog.depth 169 = false := by kernel_rfl
/-- Two lists side by side. -/
structure SqI {α : Type} (w wr : World) (i : Nat) (b : Bool) (l1 l2 : List α) : Prop where
  bel : Below w.heap.size w wr
  yes : b = true → l1.length = l2.length ∧ l1.take i = l2.take i
  no : b = false → l1 ≠ l2
theorem SqI.next {α : Type} [DecidableEq α] {w wr W : World} {i : Nat} {l1 l2 : List α} {u v : α} (H : SqI w wr i true l1 l2) (hu : l1[i]? = some u) (hv : l2[i]? = some v) (hB : Below wr.heap.size wr W) : SqI w W (i + 1) (decide (u = v)) l1 l2 := by
  obtain ⟨h1, h2⟩ := H.yes rfl
  obtain ⟨hlt, rfl⟩ := List.getElem?_eq_some_iff.1 hu
  obtain ⟨hlt2, rfl⟩ := List.getElem?_eq_some_iff.1 hv
  refine ⟨H.bel.trans (hB.mono H.bel.size), fun h => ⟨h1, ?_⟩, fun h e => ?_⟩
  · rw [List.take_succ_eq_append_getElem hlt, List.take_succ_eq_append_getElem hlt2, h2, of_decide_eq_true h]
  · subst e
    exact of_decide_eq_false h rfl
theorem SqI.last {α : Type} [DecidableEq α] {w wr : World} {i : Nat} {b : Bool} {l1 l2 : List α} (H : SqI w wr i b l1 l2) (h : b = false ∨ l1.length ≤ i) : b = decide (l1 = l2) := by
  cases b with
  | false => rw [decide_eq_false (H.no rfl)]
  | true =>
    obtain ⟨h1, h2⟩ := H.yes rfl
    have h3 : l1.length ≤ i := h.resolve_left (by simp)
    rw [List.take_of_length_le h3, List.take_of_length_le (by omega)] at h2
    rw [decide_eq_true h2]
set_option maxRecDepth 100000 in
set_option maxHeartbeats 2000000 in
theorem sameVotes_any (a1 : Option Addr) (b1 o1 cap1 : Nat) (l1 : List Vt) (a2 : Option Addr) (b2 o2 cap2 : Nat) (l2 : List Vt) (w : World) (h1 : Ts w a1 b1 o1 cap1 l1) (h2 : Ts w a2 b2 o2 cap2 l2) (hl : l1.length ≤ 1000000) :
    Calls Tryz.prog 194 #[.slice a1 l1.length cap1, .slice a2 l2.length cap2] w fun e w' => e = .returned (.bool (decide (l1 = l2))) ∧ Below w.heap.size w w' := by
  have H1 := hidp h1
  have H2 := hidp h2
  have HL := hidp hl
  have hgv := guard_vote
  have H0 : Hid (SqI w w 0 (((l1.length : Nat) : Int) == ((l2.length : Nat) : Int)) l1 l2) := hidp ⟨Below.refl _ _, fun h => ⟨by have := eq_of_beq h; omega, rfl⟩, fun h e => by subst e; simp at h⟩
  clear h1 h2 hl
  go_enter Tryz.func194, Tryz.ntmps194
  go_wp2_with fail
  go_loopw [5, 6] (fun x y wr => ∃ (i : Nat) (b : Bool), i ≤ l1.length ∧ x = .bool b ∧ y = .int .i64 ((i : Nat) : Int) ∧ Hid (SqI w wr i b l1 l2)) (fun _ y _ => l1.length - (Go.RowKit.intOf y).toNat)
  case atStart => exact ⟨0, _, by omega, rfl, rfl, H0⟩
  case round =>
    obtain ⟨i, b, hi, rfl, rfl, hr⟩ := hrel
    clear H0
    by_cases hlt : b = true ∧ i < l1.length
    · obtain ⟨rfl, hlt⟩ := hlt
      have hll := (hr.out.yes rfl).1
      obtain ⟨u, hu, huk, rfl, hbl1, c0, c1⟩ := (H1.out.below hr.out.bel).at hlt
      obtain ⟨v, hv, hvk, rfl, hbl2, d0, d1⟩ := (H2.out.below hr.out.bel).at (show i < l2.length by omega)
      have he := run_eq_vote u v
      have HU := hidp (And.intro hu hv)
      have HI := hidp (And.intro hlt HL.out)
      have hlt2 : i < l2.length := by omega
      clear hu hv huk hvk
      go_wp2_with fail
      go_quiet (fail)
      have H3 := hidp (hr.out.next HU.out.1 HU.out.2 ((Below.refl _ wr).drewN nq))
      clear hr c0 c1 d0 d1
      go_wp2_with fail
      have hi3 := HI.out
      rw [w64_nat (n := i) (by omega)]
      exact ⟨⟨i + 1, _, by omega, rfl, rfl, H3⟩, by show l1.length - ((i + 1 : Nat) : Int).toNat < l1.length - ((i : Nat) : Int).toNat; omega⟩
    · have hb := hidp (And.intro (hr.out.last (by cases b <;> simp_all)) hr.out.bel)
      clear hr
      cases b with
      | false =>
        go_wp2_with fail
        go_ret
        exact ⟨by rw [← hb.out.1]; rfl, hb.out.2⟩
      | true =>
        have hil : i = l1.length := by simp at hlt; omega
        subst hil
        clear hlt
        go_wp2_with fail
        go_ret
        exact ⟨by rw [← hb.out.1]; rfl, hb.out.2⟩
def sameC (h1 : Int) (p1 : List Nat) (l1 : List Vt) (h2 : Int) (p2 : List Nat) (l2 : List Vt) : Bool := decide (h1 = h2) && (decide (p1 = p2) && decide (l1 = l2))
set_option maxRecDepth 100000 in
set_option maxHeartbeats 4000000 in
theorem sameCommit_any (h1 : Int) (p1 : List Nat) (hp1 : p1.length = 32) (a1 : Option Addr) (b1 o1 c1 : Nat) (l1 : List Vt) (h2 : Int) (p2 : List Nat) (hp2 : p2.length = 32) (a2 : Option Addr) (b2 o2 c2 : Nat) (l2 : List Vt) (w : World) (hT1 : Ts w a1 b1 o1 c1 l1) (hT2 : Ts w a2 b2 o2 c2 l2) (hl : l1.length ≤ 1000000) :
    Calls Tryz.prog 125 #[.agg (cC h1 p1 (.slice a1 l1.length c1)).toArray, .agg (cC h2 p2 (.slice a2 l2.length c2)).toArray] w fun e w' => e = .returned (.bool (sameC h1 p1 l1 h2 p2 l2)) ∧ Below w.heap.size w w' := by
  have HB := hidp (((Below.refl w.heap.size w).alloc (Nat.le_refl _) (.cells (cC h1 p1 (.slice a1 l1.length c1)).toArray 82)).alloc (by simp) (.cells (cC h2 p2 (.slice a2 l2.length c2)).toArray 82))
  have K1 := (Blk.new w (cC h1 p1 (.slice a1 l1.length c1)) 82).alloc (.cells (cC h2 p2 (.slice a2 l2.length c2)).toArray 82)
  have K2 : Blk ((w.alloc (.cells (cC h1 p1 (.slice a1 l1.length c1)).toArray 82)).alloc (.cells (cC h2 p2 (.slice a2 l2.length c2)).toArray 82)) (w.heap.size + 1) (cC h2 p2 (.slice a2 l2.length c2)) 82 := Blk.new' _ _ _ _ (by simp)
  have d1 := K1.cell 0
  have d2 := K2.cell 0
  rw [cC_0] at d1 d2
  have d33 := (K1.cell 33).trans (cC_33 hp1)
  have e33 := (K2.cell 33).trans (cC_33 hp2)
  have HV := hidp (sameVotes_any a1 b1 o1 c1 l1 a2 b2 o2 c2 l2 _ (hT1.below HB.out) (hT2.below HB.out) hl)
  have nq := fun w => run_eql_hash p1 p2 hp1 hp2 w
  have gh := guard_hash
  have hpp := hidp (And.intro hp1 hp2)
  have HK1 := hidp K1
  have HK2 := hidp K2
  clear K1 K2 hT1 hT2 hl hp1 hp2
  obtain ⟨r, hr⟩ : ∃ r, r = sameC h1 p1 l1 h2 p2 l2 := ⟨_, rfl⟩
  rw [← hr]
  replace hr := hidp hr
  by_cases hh : h1 = h2
  case neg =>
    have hR := hidp (show r = false by rw [hr.out]; unfold sameC; rw [decide_eq_false hh]; rfl)
    have hbn : (h1 == h2) = false := by rw [beq_eq_false_iff_ne]; exact hh
    clear hh hr
    go_enter Tryz.func125, Tryz.ntmps125
    go_wp2_with fail
    go_ret
    exact ⟨by rw [hR.out]; rfl, HB.out⟩
  have hbn : (h1 == h2) = true := by simp [hh]
  replace hh := hidp hh
  by_cases hpq : p1 = p2
  case neg =>
    have hR := hidp (show r = false by rw [hr.out]; unfold sameC; rw [decide_eq_false hpq]; simp)
    have hpn : decide (p1 = p2) = false := decide_eq_false hpq
    clear hr hpq
    go_enter Tryz.func125, Tryz.ntmps125
    go_wp2_with first
      | (with_reducible refine (?_ : wpList _ _ _ _ _ _); refine wpList_load_midD 12 rfl (by kernel_rfl) 39 _ rfl w.heap.size 1 rfl (bvs p1) _ (rangeAt_p HK1.out) Tryz.underlying39 rfl (by rw [bvs_len, hpp.out.1]; kernel_rfl) ?_)
      | (with_reducible refine (?_ : wpList _ _ _ _ _ _); refine wpList_load_midD 14 rfl (by kernel_rfl) 39 _ rfl (w.heap.size + 1) 1 rfl (bvs p2) _ (rangeAt_p HK2.out) Tryz.underlying39 rfl (by rw [bvs_len, hpp.out.2]; kernel_rfl) ?_)
    go_ret
    exact ⟨by rw [hR.out]; rfl, HB.out⟩
  have hpn : decide (p1 = p2) = true := decide_eq_true hpq
  replace hpq := hidp hpq
  have hR := hidp (show r = decide (l1 = l2) by rw [hr.out]; unfold sameC; rw [decide_eq_true hh.out, decide_eq_true hpq.out]; simp)
  clear hr
  go_enter Tryz.func125, Tryz.ntmps125
  go_wp2_with first
    | (with_reducible refine (?_ : wpList _ _ _ _ _ _); refine wpList_load_midD 12 rfl (by kernel_rfl) 39 _ rfl w.heap.size 1 rfl (bvs p1) _ (rangeAt_p HK1.out) Tryz.underlying39 rfl (by rw [bvs_len, hpp.out.1]; kernel_rfl) ?_)
    | (with_reducible refine (?_ : wpList _ _ _ _ _ _); refine wpList_load_midD 14 rfl (by kernel_rfl) 39 _ rfl (w.heap.size + 1) 1 rfl (bvs p2) _ (rangeAt_p HK2.out) Tryz.underlying39 rfl (by rw [bvs_len, hpp.out.2]; kernel_rfl) ?_)
  refine HV.out.mono ?_
  rintro e w2 ⟨rfl, hb⟩
  have hB2 := hidp (HB.out.trans (hb.mono HB.out.size))
  clear hb
  go_wp2_with fail
  go_ret
  exact ⟨by rw [hR.out]; rfl, hB2.out⟩
end Go.Proofs.YtcmkmnidnapabaaGreat

/-! L7k: Commit: what adds and joins of the laws tell. -/
namespace Go.Proofs.YtcmkmnidnapabaaGreat
open Go.RowKit Go.Lib
set_option linter.unusedSimpArgs false

def sameR (r : CR) (h : Int) (p : List Nat) (l : List Vt) (err : Nat) : Bool := decide (r.e = err) && sameC r.h r.p r.l h p l
theorem OwnT.tsz {w : World} {base : Nat} {p : Option Addr} {n c : Nat} {l : List Vt} (h : OwnT w base (.slice p n c) l) (hok : ∀ u ∈ l, VtOk u) : ∃ b, base ≤ b ∧ Ts w p b 0 c l ∧ n = l.length ∧ (p = none → c = 0) := by
  obtain ⟨p', b, c', e, h1, h2, h3⟩ := h.ts hok
  cases e
  exact ⟨b, h1, h2, rfl, h3⟩
structure CRok (r : CR) : Prop where
  p : r.p.length = 32
  ok : ∀ u ∈ r.l, VtOk u
  len : r.l.length ≤ 1000
end Go.Proofs.YtcmkmnidnapabaaGreat
