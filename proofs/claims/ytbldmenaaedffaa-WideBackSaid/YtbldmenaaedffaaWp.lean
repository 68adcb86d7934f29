/-
  Contracts: slices.AppendSeq and slices.Collect over bytes, against an iterator that writes one block of its own; digits; slices.Collect(digits(a)).
-/
import Derived.Test.YtbldmenaaedffaaWo
import Derived.Maps.AppendAt
namespace Go.Proofs.Ytbldmenaaedffaa
open Go.RowKit Go.Shelf Go.Maps
attribute [local go_sem] Oper.semAt_some

theorem info_byte : (Try.prog.info? 5).map (fun i => (i.zero, i.size, i.bytes)) = some (some (.int .u8 0), 1, 1) := by kernel_rfl

abbrev encB (x : Nat) : Value := .int .u8 x
/-- Behind pre a box holds what has been collected; nothing below block b has turned. -/
def Got (w : World) (b B : Nat) (pre : List Nat) (W : World) : Prop :=
  (∃ v, Boxed W B 68 v ∧ W.ownsRow w.heap.size 5 1 v pre.length (pre.map encB)) ∧ Below b w W

theorem ownsRow_below {w W : World} {base : Nat} {e : TypeId} {size : Nat} {v : Value} {n : Nat} {xs : List Value} (h : w.ownsRow base e size v n xs) (hB : Below w.heap.size w W) : W.ownsRow base e size v n xs := by
  obtain ⟨h1, h2⟩ := h
  refine ⟨h1, ?_⟩
  rcases h2 with h2 | ⟨g, cap, cur, hv, hg, hh, r⟩
  · exact .inl h2
  · exact .inr ⟨g, cap, cur, hv, hg, (hB.block g (Array.getElem?_eq_some_iff.1 hh).1).trans hh, r⟩

theorem got_firm (w : World) (b : Nat) (hb : b < w.heap.size) : Firm (fun c => c = b) (Got w b w.heap.size) := by
  refine ⟨?_, ?_⟩
  · rintro s W W' ⟨⟨v, h1, h2⟩, h3⟩ hB
    exact ⟨⟨v, (hB.block _ h1.lt).trans h1, ownsRow_below h2 hB⟩, h3.trans (hB.mono (Nat.le_trans (Nat.le_of_lt hb) h3.size))⟩
  · rintro s W c k v rfl ⟨⟨v', h1, h2⟩, h3⟩
    refine ⟨⟨v', ?_, ownsRow_setCell_below h2 hb v⟩, h3.setCell (p := ⟨c, k, none⟩) (Nat.le_refl _) v⟩
    exact (Below.heap_setCell W ⟨c, k, none⟩ v _ (by simp; omega)).trans h1

set_option maxHeartbeats 1000000 in
set_option maxRecDepth 100000 in
theorem AppendSeq_any (g : Nat) (eg : Enters Try.prog g) (lb : Array Value) (b : Nat) (S : List Nat → Prop) (w : World) (hb : b < w.heap.size)
    (hseq : Iter Try.prog g lb (fun x : Nat => #[.int .u8 x]) (fun c => c = b) (fun W W' => W'.heap[b]? = W.heap[b]?) S 64 w) :
    Calls Try.prog 58 #[.slice none 0 0, .func (.func g) #[] lb] w fun e W => ∃ v xs, e = .returned v ∧ S xs ∧ W.ownsRow w.heap.size 5 1 v xs.length (xs.map encB) ∧ Below b w W := by
  obtain ⟨i0, hi, hz0, hz1, hz2⟩ := info_parts info_byte
  refine (callsIn_wide (n := 9)).1 ?_
  refine callsIn_of_wp_marks Try.func58 rfl trivial ?_ rfl
  simp only [Try.ntmps58, List.size_toArray, List.length_cons, List.length_nil, Nat.reduceAdd, Nat.reduceSub, Array.replicate_succ, Array.replicate_zero, List.push_toArray, List.append_toArray, List.nil_append, List.cons_append]
  gi_wp2
  refine range_all rfl eg hseq ((Below.refl _ w).alloc (Nat.le_refl _) _) (fun _ => rfl) (fun h k => k.trans h) ?hKb (Got w b w.heap.size) (got_firm w b hb) ?hIp ?h0
    (fun x => { tmps := #[.slice none 0 0, .func (.func g) #[] lb, .pointer (some ⟨w.heap.size, 0, none⟩), undef, .slice none 0 0, .int .u8 x, .func (.func g) #[] lb, .int .u8 x, undef, undef, undef, undef, undef], defers := [] }) ?assign ?body ?done
  case hKb =>
    intro W l o hl
    exact World.putObj_heap_other (by simp at hl; omega)
  case hIp =>
    rintro s W l o o' hl ⟨⟨v, h1, h2⟩, h3⟩ ho hn
    refine ⟨⟨v, h1.kept (grownBy_putObj' W l o') ?_, ownsRow_putObj h2 o' ho hn⟩, ?_⟩
    · intro e; cases e
      rw [show W.heap[w.heap.size]? = _ from h1] at ho; cases ho; simp [Obj.isCells] at hn
    · exact h3.grown (grownBy_putObj' W l o') (Nat.le_trans (Nat.le_of_lt hb) h3.size) (fun k e => by cases e; simp at hl; omega)
  case h0 => exact ⟨⟨_, Boxed.new w _ _, World.ownsRow_nil _ _ _ _⟩, (Below.refl _ w).alloc (Nat.le_of_lt hb) _⟩
  case assign =>
    intro l x W K hK
    gi_wp2
    exact hK
  case body =>
    rintro l pre x W ⟨⟨v, hv, hrow⟩, hB⟩ hlen
    have hcv := hv.cell
    have hfv := hv.frozen
    have hs := hB.size
    gi_wp2_with (gi_at_builtin; refine wpListIn_append_own _ rfl _ _ 68 rfl w.heap.size 5 i0 (.int .u8 0) 1 1 Try.underlying68 hi hz0 hz1 hz2 rfl (by decide) _ _ _ rfl (hrow.alloc _) ⟨W.heap.size, 0, none⟩ 1 1 [encB x] rfl rfl (cell_one_new _ _ _) (by simp [Value.oneCell']) (by unfold maxLen; omega) (by omega) (by simp; omega) ?_; intro v' w1 hown' hgrow _; obtain ⟨g', cap', rfl⟩ := ownsRow_succ hown'; obtain ⟨hv1, hv2, hr2, hk2, hb2⟩ := hv.appended (by decide) hrow hs (Nat.le_refl _) hown' hgrow; have hc1 := hv1.cell; have hf1 := hv1.frozen)
    exact ⟨hb2.block b hb, ⟨_, hv2, by simpa using hr2⟩, hB.trans (hb2.mono (Nat.le_of_lt hb))⟩
  case done =>
    rintro D xs W hD hS ⟨⟨v, hv, hrow⟩, hB⟩ hK
    have hcv := hv.cell
    gi_wp2
    refine ⟨by simp, .inl ⟨_, _, rfl, run_takeDeferred hK, ?_⟩⟩
    exact ⟨_, results_tmp rfl _ _ _, v, xs, rfl, hS, ownsRow_putObj hrow _ hK rfl, hB.grown (grownBy_putObj' W D _) (Nat.le_trans (Nat.le_of_lt hb) hB.size) (fun k e => by cases e; simp at hD; omega)⟩
theorem Collect_any (g : Nat) (eg : Enters Try.prog g) (lb : Array Value) (b : Nat) (S : List Nat → Prop) (w : World) (hb : b < w.heap.size)
    (hseq : Iter Try.prog g lb (fun x : Nat => #[.int .u8 x]) (fun c => c = b) (fun W W' => W'.heap[b]? = W.heap[b]?) S 64 w) :
    Calls Try.prog 50 #[.func (.func g) #[] lb] w fun e W => ∃ v xs, e = .returned v ∧ Hid (S xs ∧ W.ownsRow w.heap.size 5 1 v xs.length (xs.map encB) ∧ Below b w W) := by
  have hA := AppendSeq_any g eg lb b S w hb hseq
  have HA := hidp hA; clear hA hseq
  go_enter Try.func50, Try.ntmps50
  go_wp2_with fail
  refine HA.out.mono ?_
  rintro e W ⟨v, xs, rfl, h⟩
  have H := hidp h; clear h
  go_wp2
  go_ret
  exact ⟨v, xs, rfl, H.out⟩
theorem digits_any (a : Nat) (w : World) :
    Calls Try.prog 51 #[wv a] w fun e w' => e = .returned (.func (.func 59) #[] #[.pointer (some ⟨w.heap.size, 0, none⟩)]) ∧ w.alloc (.cells #[.int .u64 (hiw a), .int .u64 (low a)] 24) = w' := by
  go_enter Try.func51, Try.ntmps51
  go_wp2
  go_ret
  exact ⟨rfl, rfl⟩
theorem digits_collected (a b : Nat) (w : World) (ha : a < W128) (hb : Blk w b [.int .u64 (hiw a), .int .u64 (low a)] 24) :
    Calls Try.prog 50 #[.func (.func 59) #[] #[.pointer (some ⟨b, 0, none⟩)]] w fun e W => ∃ v, e = .returned v ∧ Hid (W.ownsRow w.heap.size 5 1 v (revDig a).length ((revDig a).map encB) ∧ Below b w W) :=
  (Collect_any _ (enters_of Try.func59 (by kernel_rfl) rfl) _ b _ w hb.lt (digits1_iter b a w ha hb)).mono fun e W ⟨v, xs, he, hS, h⟩ => ⟨v, he, by subst hS; exact h⟩
end Go.Proofs.Ytbldmenaaedffaa
