/-
  Contracts: slices.AppendSeq and slices.Collect over a bound iterator value; impl's members.
-/
import Derived.Test.YtpcilpcinbamcaaDoorBoxes
namespace Go.Proofs.YtpcilpcinbamcaaDoor
set_option linter.unusedSimpArgs false
set_option linter.unusedVariables false
open Go.ChangeShapes Go.WideShapes Go.ChangeAt Go.RowKit Go.Shelf
attribute [local go_sem] Oper.semAt_some

set_option maxRecDepth 100000 in
set_option maxHeartbeats 2000000 in
theorem appendSeq_any (xs : List Nat) (gf : Nat) (b : Value) (hseq : Gives 2 gf b xs BruAt) (eg : ∀ args w, (callFunc gf args).run Tryd.prog w = .ok (.enter gf args) w) (hlen : xs.length ≤ 63) (w : World) (hL : BruAt w) :
    Calls Tryd.prog 36 #[.slice none 0 0, .func (.func gf) #[b] #[]] w fun e W' => (∃ v, e = .returned v ∧ OwnI W' w.heap.size v (natI xs)) ∧ Below w.heap.size w W' := by
  obtain ⟨i0, hi, hz0, hz1, hz2⟩ := info_parts infoIO
  refine (callsIn_wide (n := 3)).1 ?_
  refine callsIn_of_wp_marks Tryd.func36 rfl trivial ?_ rfl
  simp only [Tryd.ntmps36, List.size_toArray, List.length_cons, List.length_nil, Nat.reduceAdd, Nat.reduceSub, Array.replicate_succ, Array.replicate_zero, List.push_toArray, List.append_toArray, List.nil_append, List.cons_append]
  gi_wp2
  have bO := Boxed.new w 22 (.slice none 0 0)
  have hB0 : Below w.heap.size w (w.alloc (.cells #[.slice none 0 0] 22)) := (Below.refl _ w).alloc (Nat.le_refl _) _
  refine range_gives (gf := gf) (b := b) (xs := xs) (Kq := BruAt) (by omega) rfl eg hseq rfl
    (fun k W => (∃ v, Boxed W w.heap.size 22 v ∧ W.ownsRow w.heap.size 2 1 v (xs.take k).length (cellsI (natI (xs.take k))) ∧ True) ∧ Below w.heap.size w W)
    (OwnFrom.and (Own.from (holdsRow_own w.heap.size w.heap.size 22 2 1 (fun k : Nat => (xs.take k).length) (fun k : Nat => cellsI (natI (xs.take k))) (fun _ _ => True)) _) (ownFrom_below (Nat.le_refl _) (by simp)))
    (fun k W h => hL.to h.2) ⟨⟨_, bO, World.ownsRow_nil _ _ _ _, trivial⟩, hB0⟩
    (fun x => { tmps := #[.slice none 0 0, .func (.func gf) #[b] #[], .pointer (some ⟨w.heap.size, 0, none⟩), undef, .slice none 0 0, .int .i64 x, .func (.func gf) #[b] #[], .int .i64 x, undef, undef, undef, undef, undef], defers := [] }) ?assign ?body ?done
  case assign =>
    intro l x W K hK
    gi_wp2
    exact hK
  case body =>
    rintro l k x W ⟨⟨v, hv, hrow, _⟩, hB⟩ hx
    have hc := hv.cell
    have hkl : k < xs.length := by
      rcases Nat.lt_or_ge k xs.length with h | h
      · exact h
      · rw [List.getElem?_eq_none h] at hx; cases hx
    have hle : (xs.take k).length ≤ 63 := by rw [List.length_take]; omega
    have HT1 : Hid (xs.take (k + 1) = xs.take k ++ [x]) := by show _ = _; rw [List.take_add_one, hx]; rfl
    clear hx
    obtain ⟨ys, hys⟩ : ∃ ys, xs.take k = ys := ⟨_, rfl⟩
    rw [hys] at hrow hle HT1
    clear hys
    gi_wp2_with (gi_at_builtin; refine wpListIn_append_own _ rfl _ _ 22 rfl w.heap.size 2 i0 (.int .i64 0) 1 8 Tryd.underlying22 hi hz0 hz1 hz2 rfl (by decide) _ _ _ rfl (hrow.alloc _) ⟨W.heap.size, 0, none⟩ 1 1 [.int .i64 x] rfl rfl (cell_one_new _ _ _) (by simp [Value.oneCell']) (by unfold maxLen; omega) (by omega) (by have := hB.size; simp; omega) ?_; intro v' w1 hown' hgrow _; obtain ⟨g', cap', rfl⟩ := ownsRow_succ hown'; obtain ⟨hv1, hv2, hr2, hk2, hb2⟩ := hv.appended (by decide) hrow hB.size (Nat.le_refl _) hown' hgrow; have hc1 := hv1.cell; have hf1 := hv1.frozen)
    refine ⟨hk2.from _, ⟨_, hv2, ?_, trivial⟩, hB.trans hb2⟩
    rw [HT1.out, natI_snoc, cellsI_snoc]
    simpa using hr2
  case done =>
    rintro D W hD ⟨⟨v, hv, hrow, _⟩, hB⟩ hK
    have hc := hv.cell
    have hown : OwnI W w.heap.size v (natI xs) := by
      unfold OwnI
      rw [natI_len]
      simpa only [List.take_length] using hrow
    gi_wp2
    refine ⟨by simp, .inl ⟨_, _, rfl, run_takeDeferred hK, ?_⟩⟩
    exact ⟨_, results_tmp rfl _ _ _, ⟨v, rfl, ownsRow_putObj hown _ hK rfl⟩, hB.trans (belowK_b (w := w) (Nat.le_refl _) W D _ _ (by simp at hD; omega) hK rfl rfl)⟩

theorem collect_any (xs : List Nat) (gf : Nat) (b : Value) (hseq : Gives 2 gf b xs BruAt) (eg : ∀ args w, (callFunc gf args).run Tryd.prog w = .ok (.enter gf args) w) (hlen : xs.length ≤ 63) (w : World) (hL : BruAt w) :
    Calls Tryd.prog 34 #[.func (.func gf) #[b] #[]] w fun e W' => (∃ v, e = .returned v ∧ OwnI W' w.heap.size v (natI xs)) ∧ Below w.heap.size w W' := by
  go_enter Tryd.func34, Tryd.ntmps34
  go_wp2_with fail
  refine (appendSeq_any xs gf b hseq eg hlen _ hL).mono ?_
  rintro e w1 ⟨⟨v, rfl, ho⟩, hb⟩
  go_wp2
  go_ret
  exact ⟨⟨_, rfl, ho⟩, hb⟩
theorem members_any (p : Nat → Bool) (k : Nat) (hk : k ≤ 63) (w : World) (hL : BruAt w) :
    Calls Tryd.prog 28 #[.int .u64 (maskTo p k)] w fun e W' => (∃ v, e = .returned v ∧ OwnI W' w.heap.size v (natI (memL p 0 k))) ∧ Below w.heap.size w W' := by
  have hc := collect_any (memL p 0 k) 26 (.int .u64 (maskTo p k)) (each_gives _ p k hk) (enters_of Tryd.func26 (by kernel_rfl) rfl) (by have := memL_len p 0 k; omega) w hL
  generalize maskTo p k = M at *
  generalize memL p 0 k = xs at *
  go_enter Tryd.func28, Tryd.ntmps28
  go_wp2_with (go_at_call 34; refine hc.mono ?_; rintro e w1 ⟨⟨v, rfl, ho⟩, hb⟩)
  go_ret
  exact ⟨⟨_, rfl, ho⟩, hb⟩
end Go.Proofs.YtpcilpcinbamcaaDoor
