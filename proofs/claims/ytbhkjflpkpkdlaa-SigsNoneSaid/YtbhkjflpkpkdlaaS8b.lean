/-
  Sigs: a table in memory; what New, valid, Has, Len and Add do.
-/
import Derived.Test.YtbhkjflpkpkdlaaS8a
namespace Go.Proofs.Ytbhkjflpkpkdlaa
open Go.RowKit Go.Lib Go.Maps
set_option linter.unusedSimpArgs false

set_option maxRecDepth 100000 in
theorem key_lit {x : Sg} (h : SgOk x) : ∃ l, keyOf Try.prog 158 (.agg (sC x).toArray) = some l := by
  have hc : Try.prog.cellsOf 158 = 37 := by kernel_rfl
  have hkt : Try.prog.keyType 158 = true := by kernel_rfl
  obtain ⟨d, hd⟩ : ∃ d, Try.prog.types.size + 1 = d + 3 := ⟨Try.prog.types.size - 2, by
    have : 2 ≤ Try.prog.types.size := of_decide_eq_true (by kernel_rfl)
    omega⟩
  have hl := sC_len h
  have hf : (Value.agg (sC x).toArray).formed Try.prog 158 = true := by
    unfold Value.formed
    simp only [Try.underlying158]
    rw [List.size_toArray, hl, hc]
    rfl
  obtain ⟨r1, h1⟩ := lits_arr (P := Try.prog) Try.underlying36 Try.underlying5 (by kernel_rfl) (by kernel_rfl) d h.k
  obtain ⟨r2, h2⟩ := lits_arr (P := Try.prog) Try.underlying34 Try.underlying5 (by kernel_rfl) (by kernel_rfl) d h.p
  have h3 := lits_u64 (P := Try.prog) Try.underlying37 (d + 1) x.s h.s
  have e1 : ((sC x).drop 0).take 4 = bvs x.k := by
    unfold sC
    rw [List.drop_zero, List.take_append_of_le_length (by rw [bvs_len, h.k.1]; omega), List.take_of_length_le (by rw [bvs_len, h.k.1]; omega)]
  have e2 : ((sC x).drop 4).take 32 = bvs x.p := by
    unfold sC
    rw [List.drop_append_of_le_length (by rw [bvs_len, h.k.1]; omega), List.drop_of_length_le (by rw [bvs_len, h.k.1]; omega), List.nil_append, List.take_append_of_le_length (by rw [bvs_len, h.p.1]; omega), List.take_of_length_le (by rw [bvs_len, h.p.1]; omega)]
  have e3 : ((sC x).drop 36).take 1 = [.int .u64 (x.s : Nat)] := by
    have : sC x = (bvs x.k ++ bvs x.p) ++ [.int .u64 (x.s : Nat)] := by unfold sC; rw [List.append_assoc]
    rw [this, List.drop_append_of_le_length (by simp [bvs_len, h.k.1, h.p.1]), List.drop_of_length_le (by simp [bvs_len, h.k.1, h.p.1])]
    rfl
  have c1 : Try.prog.cellsOf 36 = 4 := by kernel_rfl
  have c2 : Try.prog.cellsOf 34 = 32 := by kernel_rfl
  have c3 : Try.prog.cellsOf 37 = 1 := by kernel_rfl
  refine ⟨.string (keyBytes (r1 ++ (r2 ++ ([.int .u64 (x.s : Nat)] ++ [])))), ?_⟩
  unfold keyOf
  simp only [Try.underlying158]
  rw [hkt, hf]
  simp only [Bool.and_self, if_true, Value.cells]
  rw [hd]
  unfold Program.keyLits
  simp only [Try.underlying158]
  rw [if_pos ⟨by rw [hl, hc], by kernel_rfl⟩]
  simp only [List.mapM_cons, List.mapM_nil, c1, c2, c3]
  rw [e1, e2, e3, h1, h2, h3]
  rfl
noncomputable def kl (x : Sg) : Lit := (keyOf Try.prog 158 (.agg (sC x).toArray)).getD (.bool false)
set_option maxRecDepth 100000 in
theorem kl_of {x : Sg} (h : SgOk x) : keyOf Try.prog 158 (.agg (sC x).toArray) = some (kl x) := by
  obtain ⟨l, hl⟩ := key_lit h
  unfold kl
  rw [hl]
  rfl
set_option maxRecDepth 100000 in
theorem kl_key {x : Sg} (h : SgOk x) : WideAt.IsKeyLit (kl x) := sg_law.key (kl_of h)
set_option maxRecDepth 100000 in
theorem kl_inj {x y : Sg} (hx : SgOk x) (hy : SgOk y) (h : kl x = kl y) : x = y := by
  have e := sg_law.inj (kl_of hx) (h ▸ kl_of hy)
  refine sC_inj hx hy ?_
  have q := Value.agg.inj e
  exact congrArg Array.toList q
noncomputable abbrev TD (l : List Sg) : DataW Unit := setOf (.agg []) (l.map kl)
set_option maxRecDepth 100000 in
theorem TD_snoc (l : List Sg) (x : Sg) : (TD l).put (kl x) (.agg []) = TD (l ++ [x]) := by
  unfold TD
  rw [List.map_append, List.map_cons, List.map_nil, setOf_snoc]
set_option maxRecDepth 100000 in
theorem TD_keys {l : List Sg} (hl : ∀ y ∈ l, SgOk y) : ∀ z ∈ l.map kl, WideAt.IsKeyLit z := by
  intro z hz
  obtain ⟨y, hy, rfl⟩ := List.mem_map.1 hz
  exact kl_key (hl y hy)
set_option maxRecDepth 100000 in
theorem TD_has {l : List Sg} {x : Sg} (hl : ∀ y ∈ l, SgOk y) (hx : SgOk x) : Maps.has (TD l) (kl x) = l.contains x := by
  rw [has_setOf _ _ _ (TD_keys hl), Bool.eq_iff_iff, List.any_eq_true, List.contains_iff_mem]
  constructor
  · rintro ⟨z, hz, e⟩
    obtain ⟨y, hy, rfl⟩ := List.mem_map.1 hz
    have := kl_inj (hl y hy) hx (WideAt.sameKey_eq e)
    exact this ▸ hy
  · intro h
    exact ⟨kl x, List.mem_map.2 ⟨x, h, rfl⟩, WideAt.sameKey_self (kl_key hx)⟩
set_option maxRecDepth 100000 in
theorem TD_size : ∀ {l : List Sg}, (∀ y ∈ l, SgOk y) → l.Nodup → Maps.size (TD l) = l.length := by
  intro l hl hn
  have key : ∀ (r : List Sg) (acc : List Sg), (∀ y ∈ acc ++ r, SgOk y) → (acc ++ r).Nodup → ((r.map kl).foldl addKey (acc.map kl)).length = acc.length + r.length := by
    intro r
    induction r with
    | nil => intro acc _ _; simp
    | cons x r ih =>
      intro acc hk hd
      have hne : ((acc.map kl).any (fun y => y.sameKey (kl x))) = false := by
        rw [List.any_eq_false]
        intro z hz he
        obtain ⟨y, hy, rfl⟩ := List.mem_map.1 hz
        have e := kl_inj (hk y (by simp [hy])) (hk x (by simp)) (WideAt.sameKey_eq (by simpa using he))
        subst e
        have := (List.nodup_append.1 hd).2.2 y hy y (by simp)
        exact this rfl
      rw [List.map_cons, List.foldl_cons]
      unfold addKey
      rw [if_neg (by rw [hne]; simp)]
      have q := ih (acc ++ [x]) (by simpa using hk) (by simpa using hd)
      rw [List.map_append, List.map_cons, List.map_nil] at q
      unfold addKey at q
      rw [q]
      simp
      omega
  have q := key l [] (by simpa using hl) (by simpa using hn)
  rw [size_setOf _ _ (TD_keys hl)]
  simpa using q
end Go.Proofs.Ytbhkjflpkpkdlaa
