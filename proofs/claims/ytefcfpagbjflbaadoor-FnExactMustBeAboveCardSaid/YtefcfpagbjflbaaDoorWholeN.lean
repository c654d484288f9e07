/-
  Contract: the nets that need a track, each as one piece, at its number.
-/
import Derived.Test.YtefcfpagbjflbaaDoorAbove
import Derived.Test.YtefcfpagbjflbaaDoorPlanT
namespace Go.Proofs.YtefcfpagbjflbaaDoor
set_option linter.unusedSimpArgs false
set_option linter.unusedVariables false
open Go.ChangeShapes Go.WideShapes Go.ChangeAt Go.RowKit Go.Shelf
attribute [local go_sem] Oper.semAt_some

theorem PcBlk.weak {w : World} {g m : Nat} {p q : Nat → Bool} {N L H : Nat → Nat} (h : PcBlk w g m p N L H) (e : ∀ i, q i = true → p i = true) : PcBlk w g m q N L H := by
  obtain ⟨cs, h0, h1, h2⟩ := h
  exact ⟨cs, h0, h1, fun i hi hq => h2 i hi (e i hq)⟩
theorem PcBlk.own (g m : Nat) (p : Nat → Nat → Bool) (N L H : Nat → Nat) : Own (fun k W => PcBlk W g m (p k) N L H) := fun k W W' row hs hg hr => by
  obtain ⟨cs, h0, h1⟩ := hs
  exact ⟨cs, (grownBy_keeps_cells hg hr h0 rfl).trans h0, h1⟩
theorem take_in {xs : List Nat} {k x : Nat} (hx : xs[k]? = some x) (i : Nat) : decide (i ∈ xs.take (k + 1)) = (decide (i ∈ xs.take k) || decide (i = x)) := by
  rw [List.take_add_one, hx, Bool.eq_iff_iff]
  simp [List.mem_append]
/-- What the loop over the nets holds. -/
def WCells (N : Nat) (V P : Value) (_ : Nat) (W : World) : Prop :=
  W.cell? ⟨N, 0, none⟩ = some V ∧ W.cell? ⟨N + 1 + 1, 0, none⟩ = some P
theorem WCells.own (N : Nat) (V P : Value) : Own (WCells N V P) := fun s A B row hs hg hr =>
  ⟨cell_kept hs.1 hg hr, cell_kept hs.2 hg hr⟩

theorem cell_other (W : World) (a p : Addr) (v : Value) (h : p.block ≠ a.block) : (W.setCell a v).cell? p = W.cell? p := World.cell?_of_block (Below.heap_setCell _ _ _ _ h)
theorem three_objs (w : World) (V D : Value) (O : Obj) (s u : TypeId) :
    (((w.alloc (.cells #[V] s)).alloc O).alloc (.cells #[D] u)).cell? ⟨w.heap.size, 0, none⟩ = some V ∧
    (((w.alloc (.cells #[V] s)).alloc O).alloc (.cells #[D] u)).heap[w.heap.size + 1]? = some O ∧
    (((w.alloc (.cells #[V] s)).alloc O).alloc (.cells #[D] u)).cell? ⟨w.heap.size + 1 + 1, 0, none⟩ = some D := by
  have a0 := new_cell w V s
  have a1 := World.alloc_heap_new (w.alloc (.cells #[V] s)) O
  have a2 := new_cell ((w.alloc (.cells #[V] s)).alloc O) D u
  have b1 : Below (w.alloc (.cells #[V] s)).heap.size (w.alloc (.cells #[V] s)) ((w.alloc (.cells #[V] s)).alloc O) := (Below.refl _ _).alloc (Nat.le_refl _) _
  have b2 : Below ((w.alloc (.cells #[V] s)).alloc O).heap.size ((w.alloc (.cells #[V] s)).alloc O) (((w.alloc (.cells #[V] s)).alloc O).alloc (.cells #[D] u)) := (Below.refl _ _).alloc (Nat.le_refl _) _
  have e0 := (b2.cell (p := ⟨w.heap.size, 0, none⟩) (by simp; omega)).trans ((b1.cell (p := ⟨w.heap.size, 0, none⟩) (by simp)).trans a0)
  have e1 := (b2.block (w.alloc (.cells #[V] s)).heap.size (by simp)).trans a1
  refine ⟨e0, ?_, ?_⟩
  · simpa only [World.size_alloc] using e1
  · simpa only [World.size_alloc] using a2

set_option maxRecDepth 100000 in
set_option maxHeartbeats 2000000 in
theorem wholeNets_any (g : Nat) (T B : List Int) (n : Nat) (w : World) (hG : ColBlk w g T B n n) (hn : n ≤ 24) (hL : BruAt w) :
    Calls Tryd.prog 97 #[.slice (some ⟨g, 0, none⟩) n n] w
      fun e w' => (∃ gp, e = .returned (.slice (some ⟨gp, 0, none⟩) 13 13) ∧ PcBlk w' gp 13 (fun j => decide (j ∈ netsL T B n)) netN (netL T B n) (netH T B n)) ∧ Below w.heap.size w w' := by
  refine (callsIn_wide (n := 3)).1 ?_
  refine callsIn_of_wp_marks Tryd.func97 rfl trivial ?_ rfl
  simp only [Tryd.ntmps97, List.size_toArray, List.length_cons, List.length_nil, Nat.reduceAdd, Nat.reduceSub, Array.replicate_succ, Array.replicate_zero, List.push_toArray, List.append_toArray, List.nil_append, List.cons_append]
  have hmk : ∀ W : World, (Instr.makeSlice 147 (.int .i64 13) (.int .i64 13)).run Tryd.prog W = .ok (.slice (some ⟨W.heap.size, 0, none⟩) 13 13) (W.alloc (.cells (blankP 13) 170)) := fun W => run_mkpcs 13 (by omega) W
  gi_wp2
  refine ⟨trivial, (callsIn_wide.2 (nets_any g T B n _ (hG.to ?hb0) hn)).mono ?_⟩
  case hb0 => (repeat (first | assumption | exact Below.refl _ _ | (refine bl_alloc ?_ _) | (refine Below.drew ?_) | (refine bl_drewN ?_ _) | (refine bl_set ?_ (by first | (simp; done) | omega | (simp; omega)) _) | (refine bl_trans ?_ (by assumption)) | (refine bl_step ?_ (by assumption) (by first | omega | exact Below.size (by assumption) | (simp; omega) | (simp; exact Below.size (by assumption))))))
  rintro e w1 ⟨rfl, hb1⟩
  have z1 : w.heap.size + 1 + 1 < w1.heap.size := by have := hb1.size; simp at this; omega
  obtain ⟨d0, d1, d2⟩ := three_objs w (.slice (some ⟨g, 0, none⟩) n n) (.slice (some ⟨w.heap.size + 1, 0, none⟩) 13 13) (.cells (blankP 13) 170) 101 147
  have hc1 : WCells w.heap.size (.slice (some ⟨g, 0, none⟩) n n) (.slice (some ⟨w.heap.size + 1, 0, none⟩) 13 13) 0 w1 := ⟨(hb1.cell (p := ⟨w.heap.size, 0, none⟩) (by simp; omega)).trans d0, (hb1.cell (p := ⟨w.heap.size + 1 + 1, 0, none⟩) (by simp)).trans d2⟩
  have b1 : Below w.heap.size w w1 := by (repeat (first | assumption | exact Below.refl _ _ | (refine bl_alloc ?_ _) | (refine Below.drew ?_) | (refine bl_drewN ?_ _) | (refine bl_set ?_ (by first | (simp; done) | omega | (simp; omega)) _) | (refine bl_trans ?_ (by assumption)) | (refine bl_step ?_ (by assumption) (by first | omega | exact Below.size (by assumption) | (simp; omega) | (simp; exact Below.size (by assumption))))))
  have p0 : PcBlk w1 (w.heap.size + 1) 13 (fun j => decide (j ∈ (netsL T B n).take 0)) netN (netL T B n) (netH T B n) := ⟨blankP 13, (hb1.block _ (by simp)).trans d1, by simp [blankP, size_madeCells], fun i hi h => by simp at h⟩
  clear hb1 d0 d1 d2
  gi_wp2
  refine range_gives (gf := 79) (b := .int .u64 (netsM T B n)) (xs := netsL T B n) (Kq := BruAt) (by omega) rfl (enters_of Tryd.func79 (by kernel_rfl) rfl) (each_gives _ (isNetB T B n) 13 (by omega)) rfl
    (fun k W => (WCells w.heap.size (.slice (some ⟨g, 0, none⟩) n n) (.slice (some ⟨w.heap.size + 1, 0, none⟩) 13 13) k W ∧ PcBlk W (w.heap.size + 1) 13 (fun j => decide (j ∈ (netsL T B n).take k)) netN (netL T B n) (netH T B n)) ∧ Below w.heap.size w W)
    (OwnFrom.and (OwnFrom.and (Own.from (WCells.own _ _ _) _) (Own.from (PcBlk.own _ _ (fun k j => decide (j ∈ (netsL T B n).take k)) _ _ _) _)) (ownFrom_below (Nat.le_refl _) b1.size)) (fun k W h => hL.to h.2) ⟨⟨hc1, p0⟩, b1⟩
    (fun x => { tmps := #[.slice (some ⟨g, 0, none⟩) n n, .pointer (some ⟨w.heap.size, 0, none⟩), .slice none 0 0, .pointer (some ⟨w.heap.size + 1 + 1, 0, none⟩), .int .i64 x, .slice (some ⟨w.heap.size + 1, 0, none⟩) 13 13, .slice (some ⟨g, 0, none⟩) n n, .int .u64 (netsM T B n), .func (.func 79) #[.int .u64 (netsM T B n)] #[], .int .i64 x, undef, undef, undef, undef, undef, undef, undef, undef, undef, undef], defers := [] }) ?assign ?body ?done
  case assign =>
    intro l x W K hK
    gi_wp2
    exact hK
  case body =>
    rintro l k x W ⟨⟨⟨c0, c2⟩, hP⟩, hb⟩ hx
    obtain ⟨hx13, hnet⟩ := memL_lt (List.mem_of_getElem? hx)
    obtain ⟨hx1, hlh, hhi, hlo, hhie⟩ := net_span hnet
    have zW : w.heap.size + 1 + 1 < W.heap.size := World.block_lt_of_cell? W _ c2
    have hpin := fun w1 (h : Below w.heap.size w w1) => pinsOf_any g T B n (x : Int) w1 (hG.to h) hn
    rcases mask_span (hasP T B (x : Int)) n (by omega) with ⟨_, hlo', _⟩ | ⟨lo, hi, hlh', hhi', hlo', hhie', hm, hz, hlen⟩
    · omega
    have elo : netL T B n x = lo := by omega
    have ehi : netH T B n x = hi := by omega
    have hM : maskTo (hasP T B (x : Int)) n < 18446744073709551616 := Nat.lt_of_lt_of_le (maskTo_lt _ _) (Nat.pow_le_pow_right (n := 2) (i := n) (j := 64) (by omega) (by omega))
    have hsp := fun w3 hT => span_any (maskTo (hasP T B (x : Int)) n) lo hi hM hm hz hlen (by omega) w3 hT
    generalize maskTo (hasP T B (x : Int)) n = M at *
    have hx13I : (x : Int) < 13 := by omega
    have hx0 : (0 : Int) ≤ x := by omega
    have hset : ∀ W' : World, Below W.heap.size W W' → PcBlk (((W'.setCell ⟨w.heap.size + 1, x * 3, none⟩ (.int .i64 (x : Nat))).setCell ⟨w.heap.size + 1, x * 3 + 1, none⟩ (.int .i64 (lo : Nat))).setCell ⟨w.heap.size + 1, x * 3 + 2, none⟩ (.int .i64 (hi : Nat))) (w.heap.size + 1) 13 (fun j => decide (j ∈ (netsL T B n).take (k + 1))) netN (netL T B n) (netH T B n) := by
      intro W' h
      have h1 := (hP.to h).set (i := x) (by omega)
      rw [elo, ehi] at h1
      exact h1.weak fun i hi => by rw [take_in hx] at hi; exact hi
    obtain ⟨v0, t0⟩ := hP.there (i := x * 3) (by omega)
    obtain ⟨v1, t1⟩ := hP.there (i := x * 3 + 1) (by omega)
    obtain ⟨v2, t2⟩ := hP.there (i := x * 3 + 2) (by omega)
    have f0 := hP.frozen (x * 3)
    have f1 := hP.frozen (x * 3 + 1)
    have f2 := hP.frozen (x * 3 + 2)
    clear hnet hlo hhie hlo' hhie' hz hlen hm hM hlh' hhi' hlh hhi
    have zW0 : w.heap.size < W.heap.size := by omega
    have zW1 : w.heap.size + 1 < W.heap.size := by omega
    have HSET := Lib.hid hset
    clear elo ehi hx hP hx1 hset hmk
    gi_wp2
    refine wpIn_region_treeR (fun wx => wx.cell? ⟨w.heap.size, 0, none⟩ = some (.slice (some ⟨g, 0, none⟩) n n) ∧ wx.cell? ⟨w.heap.size + 1 + 1, 0, none⟩ = some (.slice (some ⟨w.heap.size + 1, 0, none⟩) 13 13)) (Pl.takes [0, 1, 2, 3, 4] (.alone 5 (.alone 6 (Pl.takes [7, 8] (.alone 9 .done))))) (by kernel_rfl) (by kernel_rfl) (by kernel_rfl) (by kernel_rfl) ⟨c0, c2⟩ (fun hS0 => ?_)
    refine tplan_w (v := ?_) rfl (by rfl) ?_ ?_
    rotate_left
    · intro wx hSx
      try dsimp only at hSx
      go_simp
      try (with_reducible rfl)
    try simp only [Act.put, List.setIfInBounds_toArray, List.set_cons_zero, List.set_cons_succ]
    refine tplan_w (v := ?_) rfl (by rfl) ?_ ?_
    rotate_left
    · intro wx hSx
      try dsimp only at hSx
      go_simp
      try (with_reducible rfl)
    try simp only [Act.put, List.setIfInBounds_toArray, List.set_cons_zero, List.set_cons_succ]
    refine tplan_w (v := ?_) rfl (by rfl) ?_ ?_
    rotate_left
    · intro wx hSx
      try dsimp only at hSx
      go_simp
      try (with_reducible rfl)
    try simp only [Act.put, List.setIfInBounds_toArray, List.set_cons_zero, List.set_cons_succ]
    refine tplan_w (v := ?_) rfl (by rfl) ?_ ?_
    rotate_left
    · intro wx hSx
      try dsimp only at hSx
      go_simp
      try (with_reducible rfl)
    try simp only [Act.put, List.setIfInBounds_toArray, List.set_cons_zero, List.set_cons_succ]
    refine tplan_w (v := ?_) rfl (by rfl) ?_ ?_
    rotate_left
    · intro wx hSx
      try dsimp only at hSx
      go_simp
      try (with_reducible rfl)
    try simp only [Act.put, List.setIfInBounds_toArray, List.set_cons_zero, List.set_cons_succ]
    refine tplan_b rfl (fun K hK => ?_)
    go_simp
    refine (hpin _ (by (repeat (first | assumption | exact Below.refl _ _ | (refine bl_alloc ?_ _) | (refine Below.drew ?_) | (refine bl_drewN ?_ _) | (refine bl_set ?_ (by first | (simp; done) | omega | (simp; omega)) _) | (refine bl_trans ?_ (by assumption)) | (refine bl_step ?_ (by assumption) (by first | omega | exact Below.size (by assumption) | (simp; omega) | (simp; exact Below.size (by assumption)))))))).mono ?_
    rintro e w2 ⟨rfl, hb2⟩
    have hS1 := (⟨(hb2.cell (p := ⟨w.heap.size, 0, none⟩) zW0).trans hS0.1, (hb2.cell (p := ⟨w.heap.size + 1 + 1, 0, none⟩) zW).trans hS0.2⟩ : w2.cell? ⟨w.heap.size, 0, none⟩ = some (.slice (some ⟨g, 0, none⟩) n n) ∧ w2.cell? ⟨w.heap.size + 1 + 1, 0, none⟩ = some (.slice (some ⟨w.heap.size + 1, 0, none⟩) 13 13))
    refine hK _ _ ⟨hS1, ?_⟩
    clear hK K
    try simp only [Act.put, List.setIfInBounds_toArray, List.set_cons_zero, List.set_cons_succ]
    refine tplan_b rfl (fun K hK => ?_)
    go_simp
    refine (hsp _ (hL.to (by (repeat (first | assumption | exact Below.refl _ _ | (refine bl_alloc ?_ _) | (refine Below.drew ?_) | (refine bl_drewN ?_ _) | (refine bl_set ?_ (by first | (simp; done) | omega | (simp; omega)) _) | (refine bl_trans ?_ (by assumption)) | (refine bl_step ?_ (by assumption) (by first | omega | exact Below.size (by assumption) | (simp; omega) | (simp; exact Below.size (by assumption))))))))).mono ?_
    rintro e w3 ⟨rfl, hb3⟩
    have hbW : Below W.heap.size W w3 := bl_step (bl_step (Below.refl _ W).drew hb2 (Nat.le_refl _)) hb3 hb2.size
    have hbw := bl_step hb hbW hb.size
    have k0 := (hbW.cell (p := ⟨w.heap.size, 0, none⟩) zW0).trans c0
    have k2 := (hbW.cell (p := ⟨w.heap.size + 1 + 1, 0, none⟩) zW).trans c2
    refine hK _ _ ⟨⟨k0, k2⟩, ?_⟩
    clear hK K
    try simp only [Act.put, List.setIfInBounds_toArray, List.set_cons_zero, List.set_cons_succ]
    refine tplan_w (v := ?_) rfl (by rfl) ?_ ?_
    rotate_left
    · intro wx hSx
      try dsimp only at hSx
      go_simp
      try (with_reducible rfl)
    try simp only [Act.put, List.setIfInBounds_toArray, List.set_cons_zero, List.set_cons_succ]
    refine tplan_w (v := ?_) rfl (by rfl) ?_ ?_
    rotate_left
    · intro wx hSx
      try dsimp only at hSx
      go_simp
      try (with_reducible rfl)
    try simp only [Act.put, List.setIfInBounds_toArray, List.set_cons_zero, List.set_cons_succ]
    have u0 := (hbW.cell (p := ⟨w.heap.size + 1, x * 3, none⟩) zW1).trans t0
    have u1 := (hbW.cell (p := ⟨w.heap.size + 1, x * 3 + 1, none⟩) zW1).trans t1
    have u2 := (hbW.cell (p := ⟨w.heap.size + 1, x * 3 + 2, none⟩) zW1).trans t2
    have g0 := (hbW.frozen (p := ⟨w.heap.size + 1, x * 3, none⟩) zW1).trans f0
    have g1 := (hbW.frozen (p := ⟨w.heap.size + 1, x * 3 + 1, none⟩) zW1).trans f1
    have g2 := (hbW.frozen (p := ⟨w.heap.size + 1, x * 3 + 2, none⟩) zW1).trans f2
    refine tplan_b rfl (fun K hK => ?_)
    go_simp
    refine hK _ _ ⟨⟨(cell_other _ _ _ _ (by simp)).trans ((cell_other _ _ _ _ (by simp)).trans ((cell_other _ _ _ _ (by simp)).trans k0)), (cell_other _ _ _ _ (by simp)).trans ((cell_other _ _ _ _ (by simp)).trans ((cell_other _ _ _ _ (by simp)).trans k2))⟩, ?_⟩
    clear hK K
    try simp only [Act.put, List.setIfInBounds_toArray, List.set_cons_zero, List.set_cons_succ]
    refine tplan_end ?_
    refine ⟨(((keepsFrom_below hbW).trans ((KeepsOthers.setCell _ _ _).from _)).trans ((KeepsOthers.setCell _ _ _).from _)).trans ((KeepsOthers.setCell _ _ _).from _), ⟨⟨?_, ?_⟩, HSET.out _ hbW⟩, by (repeat (first | assumption | exact Below.refl _ _ | (refine bl_alloc ?_ _) | (refine Below.drew ?_) | (refine bl_drewN ?_ _) | (refine bl_set ?_ (by first | (simp; done) | omega | (simp; omega)) _) | (refine bl_trans ?_ (by assumption)) | (refine bl_step ?_ (by assumption) (by first | omega | exact Below.size (by assumption) | (simp; omega) | (simp; exact Below.size (by assumption))))))⟩
    · exact (cell_other _ _ _ _ (by simp)).trans ((cell_other _ _ _ _ (by simp)).trans ((cell_other _ _ _ _ (by simp)).trans k0))
    · exact (cell_other _ _ _ _ (by simp)).trans ((cell_other _ _ _ _ (by simp)).trans ((cell_other _ _ _ _ (by simp)).trans k2))
  case done =>
    rintro D W hD ⟨⟨⟨c0, c2⟩, hP⟩, hb⟩ hK
    simp only [List.take_length] at hP
    gi_wp2
    refine ⟨by simp, .inl ⟨_, _, rfl, run_takeDeferred hK, ?_⟩⟩
    have hbk := belowK_b (w := w) (Nat.le_refl _) W D _ (.deferred none) (by have := b1.size; omega) hK rfl rfl
    exact ⟨_, results_tmp rfl _ _ _, ⟨_, rfl, hP.keep (World.putObj_heap_other (by omega))⟩, hb.trans hbk⟩
end Go.Proofs.YtefcfpagbjflbaaDoor
