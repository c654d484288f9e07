/-
  Contract: those from which an arrow leads to one of some numbers.
-/
import Derived.Test.YtdoheipnfdbioaaDoorEachN
import Derived.Test.YtdoheipnfdbioaaDoorBitBlk
import Derived.Test.YtdoheipnfdbioaaDoorMaskB
import Derived.Test.YtdoheipnfdbioaaDoorPlanT
namespace Go.Proofs.YtdoheipnfdbioaaDoor
set_option linter.unusedSimpArgs false
set_option linter.unusedVariables false
open Go.ChangeShapes Go.WideShapes Go.ChangeAt Go.RowKit Go.Shelf

/-- A box, and a box of a set. -/
structure UCells (Z : Nat) (V : Value) (f : Nat → Int) (k : Nat) (W : World) : Prop where
  c0 : W.cell? ⟨Z, 0, none⟩ = some V
  c1 : W.cell? ⟨Z + 1, 0, none⟩ = some (.int .u64 (f k))
  f1 : W.frozen? ⟨Z + 1, 0, none⟩ = false
theorem UCells.own (Z : Nat) (V : Value) (f : Nat → Int) : Own (UCells Z V f) := fun _ _ _ _ hs hg hr =>
  ⟨cell_kept hs.c0 hg hr, cell_kept hs.c1 hg hr, (frozen_kept hs.c1 hg hr).trans hs.f1⟩
/-- What leads to one of the first k of some numbers. -/
def befB (F : Nat → Nat → Bool) (xs : List Nat) (j : Nat) : Bool := xs.any fun x => F x j
theorem befB_take {F : Nat → Nat → Bool} {xs : List Nat} {k x : Nat} (hx : xs[k]? = some x) (j : Nat) : befB F (xs.take (k + 1)) j = (befB F (xs.take k) j || F x j) := by
  unfold befB; rw [List.take_add_one, hx, List.any_append]; simp
attribute [local go_sem] Oper.semAt_some
set_option maxRecDepth 100000 in
set_option maxHeartbeats 2000000 in
theorem allBefore_any (g m n : Nat) (F : Nat → Nat → Bool) (p : Nat → Bool) (w : World) (hG : BitBlk w g m F) (hm : m ≤ 63) (hn : n ≤ 63) (hp : ∀ i, i < n → p i = true → i < m) (hF : ∀ i j, i < m → F i j = true → j < n) (hL : BruAt w) :
    Calls Tryd.prog 96 #[.slice (some ⟨g, 0, none⟩) m m, .int .u64 (maskTo p n)] w fun e w' => e = .returned (.int .u64 (maskTo (befB F (memL p 0 n)) n)) ∧ Below w.heap.size w w' := by
  refine (callsIn_wide (n := 3)).1 ?_
  refine callsIn_of_wp_marks Tryd.func96 rfl trivial ?_ rfl
  simp only [Tryd.ntmps96, List.size_toArray, List.length_cons, List.length_nil, Nat.reduceAdd, Nat.reduceSub, Array.replicate_succ, Array.replicate_zero, List.push_toArray, List.append_toArray, List.nil_append, List.cons_append]
  have hb0 : Below w.heap.size w ((w.alloc (.cells #[.slice (some ⟨g, 0, none⟩) m m] 58)).alloc (.cells #[.int .u64 0] 54)) := by (repeat (first | assumption | exact Below.refl _ _ | (refine bl_alloc ?_ _) | (refine Below.drew ?_) | (refine bl_drewN ?_ _) | (refine bl_set ?_ (by first | (simp; done) | omega | (simp; omega)) _) | (refine bl_trans ?_ (by assumption)) | (refine bl_step ?_ (by assumption) (by first | omega | exact Below.size (by assumption) | (simp; omega) | (simp; exact Below.size (by assumption))))))
  have hc0 : UCells w.heap.size (.slice (some ⟨g, 0, none⟩) m m) (fun k => (maskTo (befB F ((memL p 0 n).take k)) n : Int)) 0 ((w.alloc (.cells #[.slice (some ⟨g, 0, none⟩) m m] 58)).alloc (.cells #[.int .u64 0] 54)) := by
    refine ⟨by go_simp, ?_, by go_simp⟩
    have : maskTo (befB F ((memL p 0 n).take 0)) n = 0 := mask_zero (fun i _ => rfl)
    simp only [this]
    go_simp
  have hMn : maskTo p n < 18446744073709551616 := mask_64 p hn
  gi_wp2
  refine range_gives (gf := 81) (b := .int .u64 (maskTo p n)) (xs := memL p 0 n) (Kq := BruAt) (by omega) rfl (enters_of Tryd.func81 (by kernel_rfl) rfl) (each_gives _ p n hn) rfl
    (fun k W => UCells w.heap.size (.slice (some ⟨g, 0, none⟩) m m) (fun k => (maskTo (befB F ((memL p 0 n).take k)) n : Int)) k W ∧ Below w.heap.size w W)
    (OwnFrom.and (Own.from (UCells.own _ _ _) _) (ownFrom_below (Nat.le_refl _) hb0.size)) (fun k W h => hL.to h.2) ⟨hc0, hb0⟩
    (fun x => { tmps := #[.slice (some ⟨g, 0, none⟩) m m, .int .u64 (maskTo p n), .pointer (some ⟨w.heap.size, 0, none⟩), undef, .int .u64 0, .pointer (some ⟨w.heap.size + 1, 0, none⟩), .int .i64 x, .int .u64 (maskTo p n), .func (.func 81) #[.int .u64 (maskTo p n)] #[], .int .i64 x, undef, undef, undef, undef, undef, undef, undef], defers := [] }) ?assign ?body ?done
  case assign =>
    intro l x W K hK
    gi_wp2
    exact hK
  case body =>
    rintro l k x W ⟨⟨c0, c1, f1⟩, hb⟩ hx
    obtain ⟨hxn, hpx⟩ := memL_lt (List.mem_of_getElem? hx)
    have hxm : x < m := hp x hxn hpx
    obtain ⟨v, hv64, hcv, hvb⟩ := (hG.to hb).at_ hxm
    have zW : w.heap.size + 1 < W.heap.size := World.block_lt_of_cell? W _ c1
    have zW0 : w.heap.size < W.heap.size := by omega
    have hgl := hG.lt
    have hM1 : maskTo (befB F ((memL p 0 n).take k)) n < 18446744073709551616 := mask_64 _ hn
    have hor := mask_or_of (befB F ((memL p 0 n).take k)) (F x) hn hv64 (fun j => by
      rw [hvb]
      cases h : F x j
      · simp
      · rw [decide_eq_true (hF x j hxm h)]; rfl)
    rw [mask_congr (p := fun j => befB F ((memL p 0 n).take k) j || F x j) (q := befB F ((memL p 0 n).take (k + 1))) (fun j _ => (befB_take hx j).symm)] at hor
    have hN : maskTo (befB F ((memL p 0 n).take (k + 1))) n < 18446744073709551616 := mask_64 _ hn
    have HT : Hid ((fun k => (maskTo (befB F ((memL p 0 n).take k)) n : Int)) (k + 1) = (maskTo (befB F ((memL p 0 n).take (k + 1))) n : Int)) := rfl
    generalize maskTo (befB F ((memL p 0 n).take k)) n = M at *
    generalize maskTo (befB F ((memL p 0 n).take (k + 1))) n = M2 at *
    have hxI : (x : Int) < (m : Int) := by omega
    have hx0 : (0 : Int) ≤ (x : Int) := by omega
    gi_wp2
    refine wpIn_region_treeR (fun wx => wx.cell? ⟨w.heap.size, 0, none⟩ = some (.slice (some ⟨g, 0, none⟩) m m) ∧ wx.cell? ⟨g, x, none⟩ = some (.int .u64 v)) (Pl.takes [1, 2, 3, 4] (.alone 0 (Pl.takes [5] (.alone 6 .done)))) (by kernel_rfl) (by kernel_rfl) (by kernel_rfl) (by kernel_rfl) ⟨c0, hcv⟩ (fun hS0 => ?_)
    refine tplan_w (v := ?_) rfl (by rfl) ?_ ?_
    rotate_left
    · intro wx hSx
      try dsimp only at hSx
      go_simp
      try (with_reducible rfl)
    try simp only [Act.put, List.setIfInBounds_toArray, List.set_cons_zero, List.set_cons_succ]
    refine tplan_w (v := ?_) rfl (by rfl) ?_ ?_
    rotate_left
    · intro wx hSx
      try dsimp only at hSx
      go_simp
      try (with_reducible rfl)
    try simp only [Act.put, List.setIfInBounds_toArray, List.set_cons_zero, List.set_cons_succ]
    refine tplan_w (v := ?_) rfl (by rfl) ?_ ?_
    rotate_left
    · intro wx hSx
      try dsimp only at hSx
      go_simp
      try (with_reducible rfl)
    try simp only [Act.put, List.setIfInBounds_toArray, List.set_cons_zero, List.set_cons_succ]
    refine tplan_w (v := ?_) rfl (by rfl) ?_ ?_
    rotate_left
    · intro wx hSx
      try dsimp only at hSx
      go_simp
      try (with_reducible rfl)
    try simp only [Act.put, List.setIfInBounds_toArray, List.set_cons_zero, List.set_cons_succ]
    refine tplan_b rfl (fun K hK => ?_)
    go_simp
    refine hK _ _ ⟨hS0, ?_⟩
    clear hK K
    try simp only [Act.put, List.setIfInBounds_toArray, List.set_cons_zero, List.set_cons_succ]
    refine tplan_w (v := ?_) rfl (by rfl) ?_ ?_
    rotate_left
    · intro wx hSx
      try dsimp only at hSx
      go_simp
      try (with_reducible rfl)
    try simp only [Act.put, List.setIfInBounds_toArray, List.set_cons_zero, List.set_cons_succ]
    refine tplan_b rfl (fun K hK => ?_)
    go_simp
    have oth : ∀ (b o : Nat), b ≠ w.heap.size + 1 → ∀ u, (W.drew.setCell ⟨w.heap.size + 1, 0, none⟩ u).cell? ⟨b, o, none⟩ = W.cell? ⟨b, o, none⟩ := fun b o h u => World.cell?_of_block (a := ⟨b, o, none⟩) (Below.heap_setCell W.drew _ _ _ (by simpa using h))
    refine hK _ _ ⟨⟨(oth _ _ (by omega) _).trans c0, (oth _ _ (by omega) _).trans hcv⟩, ?_⟩
    clear hK K
    try simp only [Act.put, List.setIfInBounds_toArray, List.set_cons_zero, List.set_cons_succ]
    refine tplan_end ?_
    gi_wp2
    have hkf := (KeepsOthers.setCell W ⟨w.heap.size + 1, 0, none⟩ (.int .u64 M2)).from ((w.alloc (.cells #[.slice (some ⟨g, 0, none⟩) m m] 58)).alloc (.cells #[.int .u64 0] 54)).heap.size
    refine ⟨⟨hkf.size, hkf.same⟩, ⟨(oth _ _ (by omega) _).trans c0, ?_, ?_⟩, (hb.setCell (p := ⟨w.heap.size + 1, 0, none⟩) (by simp) _).drew⟩
    · rw [HT.out]
      exact World.cell?_setCell_same _ _ _ c1
    · show (W.setCell _ _).frozen? _ = false
      rw [World.frozen?_setCell]; exact f1
  case done =>
    rintro D W hD ⟨⟨c0, c1, f1⟩, hb⟩ hK
    simp only [List.take_length] at c1
    gi_wp2
    refine ⟨by simp, .inl ⟨_, _, rfl, run_takeDeferred hK, ?_⟩⟩
    exact ⟨_, results_tmp rfl _ _ _, rfl, hb.trans (belowK_b (w := w) (Nat.le_refl _) W D _ _ (by have := hb0.size; omega) hK rfl rfl)⟩
end Go.Proofs.YtdoheipnfdbioaaDoor
