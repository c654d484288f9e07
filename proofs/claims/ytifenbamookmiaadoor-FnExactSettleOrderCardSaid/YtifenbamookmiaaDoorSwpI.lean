/-
  Contracts: two neighbours exchanged, and what that gains, as the program has them.
-/
import Derived.Test.YtifenbamookmiaaDoorSwpP
import Derived.Test.YtifenbamookmiaaDoorCplI
import Derived.Test.YtifenbamookmiaaDoorCloneIh
import Derived.Test.YtifenbamookmiaaDoorLayoK
namespace Go.Proofs.YtifenbamookmiaaDoor
set_option linter.unusedSimpArgs false
set_option linter.unusedVariables false
open Go.ChangeShapes Go.WideShapes Go.ChangeAt Go.RowKit Go.BigFrame

theorem cloneI_any (A : Option Addr) (L : List Int) (c : Nat) (w : World) (hp : IntsAt w w.heap.size A L) (h0 : 0 < L.length) (hl : L.length ≤ 1048576) :
    Calls Tryd.prog 39 #[.slice A L.length c] w (OwnB L w) := by
  obtain ⟨b, off, rfl, hb, hc⟩ := hp h0
  obtain ⟨i0, hi0, hiz, his, hib⟩ := info_parts infoIO
  have cC := AnyE.slices_Clone Tryd.cloneI i0 _ 1 8 hi0 hiz his hib rfl (by decide) Tryd.sizeOf2 b off L.length c (cellsI L) w (cellsI_len L) (by unfold maxLen; omega) (by omega) (news_int hc) (cellsI_one L)
  change Calls Tryd.prog 39 _ _ _ at cC
  refine cC.mono ?_
  rintro e w1 ⟨v, rfl, ho, _, hb1⟩
  have hO : OwnI w1 w.heap.size v L := ho
  obtain ⟨g, d, rfl, hg, hI, _⟩ := hO.iblk h0
  exact ⟨g, d, rfl, hg, hI, hO, hb1⟩
theorem shM_nil (n : Nat) : shM n [] = 0 := by
  unfold shM
  induction n with
  | zero => rfl
  | succ n ih => rw [maskTo_f (by rfl)]; exact ih
/-- A layout without shields, its order in a block of its own. -/
def SwpRes (A : Option Addr) (n c : Nat) (Q : List Int) (w : World) (e : Ending) (w' : World) : Prop :=
  ∃ g d, e = .returned (.agg #[.slice A n c, .slice (some ⟨g, 0, none⟩) n d, .int .u64 0]) ∧ w.heap.size ≤ g ∧ IBlk w' g Q n ∧ Below w.heap.size w w'
set_option maxRecDepth 100000 in
set_option maxHeartbeats 3200000 in
theorem swapped_any (A : Option Addr) (n c : Nat) (B : Mz) (AO : Option Addr) (L : List Int) (cO p : Nat) (w : World) (h : LoAt w A AO n B L) (hp : p + 1 < n) :
    Calls Tryd.prog 74 #[.agg #[.slice A n c, .slice AO n cO, .int .u64 0], .int .i64 (p : Int)] w (SwpRes A n c (swpL L p) w) := by
  have h9 := h.n9
  have hlen := h.ok.len
  have hx : Below w.heap.size w ((w.alloc (.cells #[.slice A n c, .slice AO n cO, .int .u64 0] 57)).alloc (.cells #[.slice none 0 0, .slice none 0 0, .int .u64 0] 57)) := by (repeat (first | assumption | exact Below.refl _ _ | (refine bl_alloc ?_ _) | (refine Below.drew ?_) | (refine bl_drewN ?_ _) | (refine bl_set ?_ (by first | (simp; done) | omega | (simp; omega)) _) | (refine bl_trans ?_ (by assumption)) | (refine bl_step ?_ (by assumption) (by first | omega | exact Below.size (by assumption) | (simp; omega) | (simp; exact Below.size (by assumption))))))
  have kB : Blk ((w.alloc (.cells #[.slice A n c, .slice AO n cO, .int .u64 0] 57)).alloc (.cells #[.slice none 0 0, .slice none 0 0, .int .u64 0] 57)) w.heap.size #[.slice A n c, .slice AO n cO, .int .u64 0] 57 := (Blk.new _ _ _).alloc _
  have kR : Blk ((w.alloc (.cells #[.slice A n c, .slice AO n cO, .int .u64 0] 57)).alloc (.cells #[.slice none 0 0, .slice none 0 0, .int .u64 0] 57)) (w.heap.size + 1) #[.slice none 0 0, .slice none 0 0, .int .u64 0] 57 := by
    have := Blk.new (w.alloc (.cells #[.slice A n c, .slice AO n cO, .int .u64 0] 57)) #[.slice none 0 0, .slice none 0 0, .int .u64 0] 57
    rwa [World.size_alloc] at this
  have CC := Lib.hid (by
    have := cloneI_any AO L cO ((w.alloc (.cells #[.slice A n c, .slice AO n cO, .int .u64 0] 57)).alloc (.cells #[.slice none 0 0, .slice none 0 0, .int .u64 0] 57)) (h.ord.to hx) (by omega) (by omega)
    rw [hlen] at this
    exact this)
  have s1 := kB.cell 1 (v := .slice AO n cO) rfl
  have hpI : (p : Int) + 1 < (n : Int) := by omega
  have hp0 : (0 : Int) ≤ (p : Int) := by omega
  have hp1 : (0 : Int) ≤ (p : Int) + 1 := by omega
  have hpL : (p : Int) < (n : Int) := by omega
  have h9I : (n : Int) ≤ 9 := by omega
  have et : ((p : Int) + 1).toNat = p + 1 := by omega
  have ew1 : IntKind.i64.wrap ((p : Int) + 1) = (p : Int) + 1 := IntWalk.i64_in _ (by omega)
  have HS : Hid ((L.set p (L.getD (p + 1) 0)).set (p + 1) (L.getD p 0) = swpL L p) := rfl
  obtain ⟨x, hxx⟩ : ∃ x, L.getD p 0 = x := ⟨_, rfl⟩
  obtain ⟨y, hyy⟩ : ∃ y, L.getD (p + 1) 0 = y := ⟨_, rfl⟩
  rw [hxx, hyy] at HS
  have HX := Lib.hid hxx
  have HY := Lib.hid hyy
  have HLn := Lib.hid hlen
  clear h hlen hxx hyy
  go_enter Tryd.func74, Tryd.ntmps74
  go_wp2_with fail
  generalize ((w.alloc (.cells #[.slice A n c, .slice AO n cO, .int .u64 0] 57)).alloc (.cells #[.slice none 0 0, .slice none 0 0, .int .u64 0] 57)) = w0 at *
  refine CC.out.mono ?_
  rintro e w1 ⟨g, d, he, hg, hI, _, hb1⟩
  rw [HLn.out] at he
  subst he
  have lB := kB.lt
  have lR := kR.lt
  replace kB := kB.to hb1
  replace kR := kR.to hb1
  have b1 := bl_step hx hb1 hx.size
  have s0 := hI.at_ (i := p) (by rw [HLn.out]; omega) (by rw [HLn.out]; omega)
  have s2 := hI.at_ (i := p + 1) (by rw [HLn.out]; omega) (by rw [HLn.out]; omega)
  rw [HX.out] at s0
  rw [HY.out] at s2
  have lg := hI.lt
  have hgw : w.heap.size ≤ g := by have := hx.size; omega
  have hgB : w.heap.size ≠ g := by omega
  have hgR : w.heap.size + 1 ≠ g := by omega
  clear s1 hb1 hx CC
  go_wp2
  have hI2 := hI.to ((Below.refl w1.heap.size w1).drew)
  replace kB := kB.to ((Below.refl w1.heap.size w1).drew)
  replace kR := kR.to ((Below.refl w1.heap.size w1).drew)
  have b2 : Below w.heap.size w w1.drew := b1.drew
  refine wp_region_tree (fun _ => True) (Pl.takes [0, 1, 2, 3, 4, 5, 6, 7, 8, 10, 11, 12] (.fork 9 (.alone 13 (Pl.takes [14] (.alone 15 (Pl.takes [16] (.alone 17 .done))))) 13 (.alone 9 (Pl.takes [14] (.alone 15 (Pl.takes [16] (.alone 17 .done))))))) (by kernel_rfl) (by kernel_rfl) (by kernel_rfl) (fun _ d _ _ _ h => by cases d <;> exact h) trivial (fun _ => ?_)
  refine tplan_w (v := ?_) rfl (by rfl) ?_ ?_
  rotate_left
  · intro wx hSx
    try dsimp only at hSx
    go_simp
    try (with_reducible rfl)
  try simp only [Act.put, List.setIfInBounds_toArray, List.set_cons_zero, List.set_cons_succ]
  refine tplan_w (v := ?_) rfl (by rfl) ?_ ?_
  rotate_left
  · intro wx hSx
    try dsimp only at hSx
    go_simp
    try (with_reducible rfl)
  try simp only [Act.put, List.setIfInBounds_toArray, List.set_cons_zero, List.set_cons_succ]
  refine tplan_w (v := ?_) rfl (by rfl) ?_ ?_
  rotate_left
  · intro wx hSx
    try dsimp only at hSx
    go_simp
    try (with_reducible rfl)
  try simp only [Act.put, List.setIfInBounds_toArray, List.set_cons_zero, List.set_cons_succ]
  refine tplan_w (v := ?_) rfl (by rfl) ?_ ?_
  rotate_left
  · intro wx hSx
    try dsimp only at hSx
    go_simp
    try (with_reducible rfl)
  try simp only [Act.put, List.setIfInBounds_toArray, List.set_cons_zero, List.set_cons_succ]
  refine tplan_w (v := ?_) rfl (by rfl) ?_ ?_
  rotate_left
  · intro wx hSx
    try dsimp only at hSx
    go_simp
    try (with_reducible rfl)
  try simp only [Act.put, List.setIfInBounds_toArray, List.set_cons_zero, List.set_cons_succ]
  refine tplan_w (v := ?_) rfl (by rfl) ?_ ?_
  rotate_left
  · intro wx hSx
    try dsimp only at hSx
    go_simp
    try (with_reducible rfl)
  try simp only [Act.put, List.setIfInBounds_toArray, List.set_cons_zero, List.set_cons_succ]
  refine tplan_w (v := ?_) rfl (by rfl) ?_ ?_
  rotate_left
  · intro wx hSx
    try dsimp only at hSx
    go_simp
    try (with_reducible rfl)
  try simp only [Act.put, List.setIfInBounds_toArray, List.set_cons_zero, List.set_cons_succ]
  refine tplan_w (v := ?_) rfl (by rfl) ?_ ?_
  rotate_left
  · intro wx hSx
    try dsimp only at hSx
    go_simp
    try (with_reducible rfl)
  try simp only [Act.put, List.setIfInBounds_toArray, List.set_cons_zero, List.set_cons_succ]
  refine tplan_w (v := ?_) rfl (by rfl) ?_ ?_
  rotate_left
  · intro wx hSx
    try dsimp only at hSx
    go_simp
    try (with_reducible rfl)
  try simp only [Act.put, List.setIfInBounds_toArray, List.set_cons_zero, List.set_cons_succ]
  refine tplan_w (v := ?_) rfl (by rfl) ?_ ?_
  rotate_left
  · intro wx hSx
    try dsimp only at hSx
    go_simp
    try (with_reducible rfl)
  try simp only [Act.put, List.setIfInBounds_toArray, List.set_cons_zero, List.set_cons_succ]
  refine tplan_w (v := ?_) rfl (by rfl) ?_ ?_
  rotate_left
  · intro wx hSx
    try dsimp only at hSx
    go_simp
    try (with_reducible rfl)
  try simp only [Act.put, List.setIfInBounds_toArray, List.set_cons_zero, List.set_cons_succ]
  refine tplan_w (v := ?_) rfl (by rfl) ?_ ?_
  rotate_left
  · intro wx hSx
    try dsimp only at hSx
    go_simp
    try (with_reducible rfl)
  try simp only [Act.put, List.setIfInBounds_toArray, List.set_cons_zero, List.set_cons_succ]
  replace s0 : w1.drew.cell? ⟨g, p, none⟩ = some (.int .i64 x) := s0
  replace s2 : w1.drew.cell? ⟨g, p + 1, none⟩ = some (.int .i64 y) := s2
  clear hI b1
  generalize w1.drew = w2 at *
  refine tplan_fork ?_ ?_
  · refine tplan_b rfl (fun K hK => ?_)
    go_simp
    refine hK _ _ ⟨trivial, ?_⟩
    clear hK K
    try simp only [Act.put, List.setIfInBounds_toArray, List.set_cons_zero, List.set_cons_succ]
    refine tplan_b rfl (fun K hK => ?_)
    go_simp
    refine hK _ _ ⟨trivial, ?_⟩
    clear hK K
    try simp only [Act.put, List.setIfInBounds_toArray, List.set_cons_zero, List.set_cons_succ]
    refine tplan_w (v := ?_) rfl (by rfl) ?_ ?_
    rotate_left
    · intro wx hSx
      try dsimp only at hSx
      go_simp
      try (with_reducible rfl)
    try simp only [Act.put, List.setIfInBounds_toArray, List.set_cons_zero, List.set_cons_succ]
    clear s0 s2
    have t0 := hI2.at_ (i := p) (by rw [HLn.out]; omega) (by rw [HLn.out]; omega)
    have f0 := hI2.frozen p
    refine tplan_b rfl (fun K hK => ?_)
    go_simp
    refine hK _ _ ⟨trivial, ?_⟩
    clear hK K
    try simp only [Act.put, List.setIfInBounds_toArray, List.set_cons_zero, List.set_cons_succ]
    have hI3 := hI2.put (k := p) (by rw [HLn.out]; omega) y
    have kB3 := kB.far (p := ⟨g, p, none⟩) (by simpa using hgB) (.int .i64 y)
    have kR3 := kR.far (p := ⟨g, p, none⟩) (by simpa using hgR) (.int .i64 y)
    have b3 := b2.setCell (p := ⟨g, p, none⟩) hgw (.int .i64 y)
    generalize w2.setCell ⟨g, p, none⟩ (.int .i64 y) = w3 at *
    have t1 := hI3.at_ (i := p + 1) (by simp [HLn.out]; omega) (by simp [HLn.out]; omega)
    have f1 := hI3.frozen (p + 1)
    clear t0 f0 hI2 lg
    refine tplan_w (v := ?_) rfl (by rfl) ?_ ?_
    rotate_left
    · intro wx hSx
      try dsimp only at hSx
      go_simp
      try (with_reducible rfl)
    try simp only [Act.put, List.setIfInBounds_toArray, List.set_cons_zero, List.set_cons_succ]
    refine tplan_b rfl (fun K hK => ?_)
    go_simp
    refine hK _ _ ⟨trivial, ?_⟩
    clear hK K
    try simp only [Act.put, List.setIfInBounds_toArray, List.set_cons_zero, List.set_cons_succ]
    refine tplan_endQ ?_
    have hI4 := hI3.put (k := p + 1) (by simp [HLn.out]; omega) x
    have hI5 : Hid (IBlk (w3.setCell ⟨g, p + 1, none⟩ (.int .i64 x)) g (swpL L p) n) := by
      have := hI4
      rw [HS.out] at this
      rw [swp_len, HLn.out] at this
      exact this
    have kB4 := kB3.far (p := ⟨g, p + 1, none⟩) (by simpa using hgB) (.int .i64 x)
    have kR4 := kR3.far (p := ⟨g, p + 1, none⟩) (by simpa using hgR) (.int .i64 x)
    have b4 := b3.setCell (p := ⟨g, p + 1, none⟩) hgw (.int .i64 x)
    clear hI3 hI4 t1 f1 kB kR kB3 kR3 b2 b3
    generalize w3.setCell ⟨g, p + 1, none⟩ (.int .i64 x) = w4 at *
    have c0 := kB4.cell 0 (v := .slice A n c) rfl
    go_wp2_with fail
    refine (inOrder_any _ _ _ _ _ _ _).mono ?_
    rintro e w5 ⟨rfl, hb5⟩
    have hI6 := hI5.out.to hb5
    replace kR := kR4.to hb5
    have b5 := bl_trans b4 hb5
    have r0 := kR.cell 0 (v := .slice none 0 0) rfl
    have r1 := kR.cell 1 (v := .slice none 0 0) rfl
    have r2 := kR.cell 2 (v := .int .u64 0) rfl
    have f0 := kR.frozen 0
    have f1 := kR.frozen 1
    have f2 := kR.frozen 2
    clear hb5 hI5 kB4 c0 kR4 b4
    go_wp2
    have kE := ((kR.set 0 (.slice A n c)).set 1 (.slice (some ⟨g, 0, none⟩) n d)).set 2 (.int .u64 0)
    have bE := ((b5.setCell (p := ⟨w.heap.size + 1, 0, none⟩) (by simp) (.slice A n c)).setCell (p := ⟨w.heap.size + 1, 1, none⟩) (by simp) (.slice (some ⟨g, 0, none⟩) n d)).setCell (p := ⟨w.heap.size + 1, 2, none⟩) (by simp) (.int .u64 0)
    have hIE : IBlk (((w5.setCell ⟨w.heap.size + 1, 0, none⟩ (.slice A n c)).setCell ⟨w.heap.size + 1, 1, none⟩ (.slice (some ⟨g, 0, none⟩) n d)).setCell ⟨w.heap.size + 1, 2, none⟩ (.int .u64 0)) g (swpL L p) n := hI6.keep (by
      rw [Below.heap_setCell _ _ _ g (by simp; omega), Below.heap_setCell _ _ _ g (by simp; omega), Below.heap_setCell _ _ _ g (by simp; omega)])
    generalize (((w5.setCell ⟨w.heap.size + 1, 0, none⟩ (.slice A n c)).setCell ⟨w.heap.size + 1, 1, none⟩ (.slice (some ⟨g, 0, none⟩) n d)).setCell ⟨w.heap.size + 1, 2, none⟩ (.int .u64 0)) = wE at *
    have e0 := kE.cell 0 (v := .slice A n c) (by simp)
    have e1 := kE.cell 1 (v := .slice (some ⟨g, 0, none⟩) n d) (by simp)
    have e2 := kE.cell 2 (v := .int .u64 0) (by simp)
    refine bodyPost_ret_by (v := .agg #[.slice A n c, .slice (some ⟨g, 0, none⟩) n d, .int .u64 0]) ?_ rfl ⟨g, d, rfl, hgw, hIE, bE⟩
    simp [results, Tryd.results74, go_sem, e0, e1, e2]
  · refine tplan_b rfl (fun K hK => ?_)
    go_simp
    refine hK _ _ ⟨trivial, ?_⟩
    clear hK K
    try simp only [Act.put, List.setIfInBounds_toArray, List.set_cons_zero, List.set_cons_succ]
    refine tplan_b rfl (fun K hK => ?_)
    go_simp
    refine hK _ _ ⟨trivial, ?_⟩
    clear hK K
    try simp only [Act.put, List.setIfInBounds_toArray, List.set_cons_zero, List.set_cons_succ]
    refine tplan_w (v := ?_) rfl (by rfl) ?_ ?_
    rotate_left
    · intro wx hSx
      try dsimp only at hSx
      go_simp
      try (with_reducible rfl)
    try simp only [Act.put, List.setIfInBounds_toArray, List.set_cons_zero, List.set_cons_succ]
    clear s0 s2
    have t0 := hI2.at_ (i := p) (by rw [HLn.out]; omega) (by rw [HLn.out]; omega)
    have f0 := hI2.frozen p
    refine tplan_b rfl (fun K hK => ?_)
    go_simp
    refine hK _ _ ⟨trivial, ?_⟩
    clear hK K
    try simp only [Act.put, List.setIfInBounds_toArray, List.set_cons_zero, List.set_cons_succ]
    have hI3 := hI2.put (k := p) (by rw [HLn.out]; omega) y
    have kB3 := kB.far (p := ⟨g, p, none⟩) (by simpa using hgB) (.int .i64 y)
    have kR3 := kR.far (p := ⟨g, p, none⟩) (by simpa using hgR) (.int .i64 y)
    have b3 := b2.setCell (p := ⟨g, p, none⟩) hgw (.int .i64 y)
    generalize w2.setCell ⟨g, p, none⟩ (.int .i64 y) = w3 at *
    have t1 := hI3.at_ (i := p + 1) (by simp [HLn.out]; omega) (by simp [HLn.out]; omega)
    have f1 := hI3.frozen (p + 1)
    clear t0 f0 hI2 lg
    refine tplan_w (v := ?_) rfl (by rfl) ?_ ?_
    rotate_left
    · intro wx hSx
      try dsimp only at hSx
      go_simp
      try (with_reducible rfl)
    try simp only [Act.put, List.setIfInBounds_toArray, List.set_cons_zero, List.set_cons_succ]
    refine tplan_b rfl (fun K hK => ?_)
    go_simp
    refine hK _ _ ⟨trivial, ?_⟩
    clear hK K
    try simp only [Act.put, List.setIfInBounds_toArray, List.set_cons_zero, List.set_cons_succ]
    refine tplan_endQ ?_
    have hI4 := hI3.put (k := p + 1) (by simp [HLn.out]; omega) x
    have hI5 : Hid (IBlk (w3.setCell ⟨g, p + 1, none⟩ (.int .i64 x)) g (swpL L p) n) := by
      have := hI4
      rw [HS.out] at this
      rw [swp_len, HLn.out] at this
      exact this
    have kB4 := kB3.far (p := ⟨g, p + 1, none⟩) (by simpa using hgB) (.int .i64 x)
    have kR4 := kR3.far (p := ⟨g, p + 1, none⟩) (by simpa using hgR) (.int .i64 x)
    have b4 := b3.setCell (p := ⟨g, p + 1, none⟩) hgw (.int .i64 x)
    clear hI3 hI4 t1 f1 kB kR kB3 kR3 b2 b3
    generalize w3.setCell ⟨g, p + 1, none⟩ (.int .i64 x) = w4 at *
    have c0 := kB4.cell 0 (v := .slice A n c) rfl
    go_wp2_with fail
    refine (inOrder_any _ _ _ _ _ _ _).mono ?_
    rintro e w5 ⟨rfl, hb5⟩
    have hI6 := hI5.out.to hb5
    replace kR := kR4.to hb5
    have b5 := bl_trans b4 hb5
    have r0 := kR.cell 0 (v := .slice none 0 0) rfl
    have r1 := kR.cell 1 (v := .slice none 0 0) rfl
    have r2 := kR.cell 2 (v := .int .u64 0) rfl
    have f0 := kR.frozen 0
    have f1 := kR.frozen 1
    have f2 := kR.frozen 2
    clear hb5 hI5 kB4 c0 kR4 b4
    go_wp2
    have kE := ((kR.set 0 (.slice A n c)).set 1 (.slice (some ⟨g, 0, none⟩) n d)).set 2 (.int .u64 0)
    have bE := ((b5.setCell (p := ⟨w.heap.size + 1, 0, none⟩) (by simp) (.slice A n c)).setCell (p := ⟨w.heap.size + 1, 1, none⟩) (by simp) (.slice (some ⟨g, 0, none⟩) n d)).setCell (p := ⟨w.heap.size + 1, 2, none⟩) (by simp) (.int .u64 0)
    have hIE : IBlk (((w5.setCell ⟨w.heap.size + 1, 0, none⟩ (.slice A n c)).setCell ⟨w.heap.size + 1, 1, none⟩ (.slice (some ⟨g, 0, none⟩) n d)).setCell ⟨w.heap.size + 1, 2, none⟩ (.int .u64 0)) g (swpL L p) n := hI6.keep (by
      rw [Below.heap_setCell _ _ _ g (by simp; omega), Below.heap_setCell _ _ _ g (by simp; omega), Below.heap_setCell _ _ _ g (by simp; omega)])
    generalize (((w5.setCell ⟨w.heap.size + 1, 0, none⟩ (.slice A n c)).setCell ⟨w.heap.size + 1, 1, none⟩ (.slice (some ⟨g, 0, none⟩) n d)).setCell ⟨w.heap.size + 1, 2, none⟩ (.int .u64 0)) = wE at *
    have e0 := kE.cell 0 (v := .slice A n c) (by simp)
    have e1 := kE.cell 1 (v := .slice (some ⟨g, 0, none⟩) n d) (by simp)
    have e2 := kE.cell 2 (v := .int .u64 0) (by simp)
    refine bodyPost_ret_by (v := .agg #[.slice A n c, .slice (some ⟨g, 0, none⟩) n d, .int .u64 0]) ?_ rfl ⟨g, d, rfl, hgw, hIE, bE⟩
    simp [results, Tryd.results74, go_sem, e0, e1, e2]
set_option maxRecDepth 100000 in
set_option maxHeartbeats 1600000 in
theorem swapGain_any (A : Option Addr) (n c : Nat) (B : Mz) (AO : Option Addr) (L : List Int) (cO p : Nat) (w : World) (h : LoAt w A AO n B L) (hp : p + 1 < n) (hT : BruAt w) :
    Calls Tryd.prog 49 #[.agg #[.slice A n c, .slice AO n cO, .int .u64 0], .int .i64 (p : Int)] w fun e w' => e = .returned (.int .i64 (gainI B L p)) ∧ Below w.heap.size w w' := by
  have h9 := h.n9
  have hlen := h.ok.len
  have CC := Lib.hid (fun (AQ : Option Addr) (Q : List Int) (cQ : Nat) (wx : World) (hb : Below w.heap.size w wx) (hq : LoAt wx A AQ n B Q) => by
    have := coupling_any A n c B AQ Q cQ [] wx hq (hT.to hb)
    rw [shM_nil] at this
    exact this)
  have CW := Lib.hid (fun (wx : World) (hb : Below w.heap.size w wx) => swapped_any A n c B AO L cO p wx (h.to hb) hp)
  have hGI : gainI B L p = cplTo B L [] n - cplTo B (swpL L p) [] n := by unfold gainI; rw [hlen]
  obtain ⟨a0, a1⟩ := cplTo_ge (S := []) h.bn h.len h.ok n (Nat.le_refl _)
  obtain ⟨b0, b1⟩ := cplTo_ge (S := []) h.bn h.len (h.ok.swp hp) n (Nat.le_refl _)
  have h9I : (n : Int) ≤ 9 := by omega
  have HLo := Lib.hid h
  rw [hGI]
  have hx : Below w.heap.size w (w.alloc (.cells #[.slice A n c, .slice AO n cO, .int .u64 0] 57)) := by (repeat (first | assumption | exact Below.refl _ _ | (refine bl_alloc ?_ _) | (refine Below.drew ?_) | (refine bl_drewN ?_ _) | (refine bl_set ?_ (by first | (simp; done) | omega | (simp; omega)) _) | (refine bl_trans ?_ (by assumption)) | (refine bl_step ?_ (by assumption) (by first | omega | exact Below.size (by assumption) | (simp; omega) | (simp; exact Below.size (by assumption))))))
  have kB := Blk.new w #[.slice A n c, .slice AO n cO, .int .u64 0] 57
  have a2 : cplTo B L [] n ≤ 9000 := by omega
  have b2 : cplTo B (swpL L p) [] n ≤ 9000 := by omega
  clear h hGI a1 b1 hlen
  obtain ⟨sx, hsx⟩ : ∃ s, cplTo B L [] n = s := ⟨_, rfl⟩
  obtain ⟨sy, hsy⟩ : ∃ s, cplTo B (swpL L p) [] n = s := ⟨_, rfl⟩
  rw [hsx] at a0 a2 ⊢
  rw [hsy] at b0 b2 ⊢
  have HSX := Lib.hid hsx
  have HSY := Lib.hid hsy
  have c0 := kB.cell 0 (v := .slice A n c) rfl
  have c1 := kB.cell 1 (v := .slice AO n cO) rfl
  have c2 := kB.cell 2 (v := .int .u64 0) rfl
  have lB := kB.lt
  clear hsx hsy kB
  go_enter Tryd.func49, Tryd.ntmps49
  go_wp2
  generalize (w.alloc (.cells #[.slice A n c, .slice AO n cO, .int .u64 0] 57)) = w0 at *
  refine wp_region_treeB (Pl.takes [0, 2, 3] (.alone 1 (.alone 4 (.alone 5 (Pl.takes [6, 7] .done))))) (by kernel_rfl) (by kernel_rfl) (by kernel_rfl) (fun _ d _ _ _ h => by cases d <;> exact h) (fun hS0 => ?_)
  refine tplan_w (v := ?_) rfl (by rfl) ?_ ?_
  rotate_left
  · intro wx hSx
    obtain ⟨hcx, hfx, hzx⟩ := bcell hSx
    go_simp
    try (with_reducible rfl)
  try simp only [Act.put, List.setIfInBounds_toArray, List.set_cons_zero, List.set_cons_succ]
  refine tplan_w (v := ?_) rfl (by rfl) ?_ ?_
  rotate_left
  · intro wx hSx
    obtain ⟨hcx, hfx, hzx⟩ := bcell hSx
    go_simp
    try (with_reducible rfl)
  try simp only [Act.put, List.setIfInBounds_toArray, List.set_cons_zero, List.set_cons_succ]
  refine tplan_w (v := ?_) rfl (by rfl) ?_ ?_
  rotate_left
  · intro wx hSx
    obtain ⟨hcx, hfx, hzx⟩ := bcell hSx
    go_simp
    try (with_reducible rfl)
  try simp only [Act.put, List.setIfInBounds_toArray, List.set_cons_zero, List.set_cons_succ]
  refine tplan_b rfl (fun K hK => ?_)
  go_simp
  refine (CC.out AO L cO _ (bl_step hx hS0 hx.size) (HLo.out.to (bl_step hx hS0 hx.size))).mono ?_
  rintro e w1 ⟨rfl, hb1⟩
  rw [HSX.out]
  have hS1 := belowS hS0 hb1
  refine hK _ _ ⟨hS1, ?_⟩
  clear hK K
  try simp only [Act.put, List.setIfInBounds_toArray, List.set_cons_zero, List.set_cons_succ]
  refine tplan_b rfl (fun K hK => ?_)
  go_simp
  refine (CW.out _ (bl_step hx hS1 hx.size)).mono ?_
  rintro e w2 ⟨g, d, rfl, hg, hI, hb2⟩
  have hS2 := belowS hS1 hb2
  refine hK _ _ ⟨hS2, ?_⟩
  clear hK K
  try simp only [Act.put, List.setIfInBounds_toArray, List.set_cons_zero, List.set_cons_succ]
  have x2 := bl_step hx hS2 hx.size
  have hLo2 : LoAt w2 A (some ⟨g, 0, none⟩) n B (swpL L p) := by
    have o := HLo.out.ok.swp hp
    exact ⟨(HLo.out.sq.to x2), by have := hI; rw [show n = (swpL L p).length from o.len.symm] at this; exact this.ints, o, HLo.out.bn, HLo.out.len⟩
  refine tplan_b rfl (fun K hK => ?_)
  go_simp
  refine (CC.out _ _ d _ x2 hLo2).mono ?_
  rintro e w3 ⟨rfl, hb3⟩
  rw [HSY.out]
  have hS3 := belowS hS2 hb3
  refine hK _ _ ⟨hS3, ?_⟩
  clear hK K
  try simp only [Act.put, List.setIfInBounds_toArray, List.set_cons_zero, List.set_cons_succ]
  refine tplan_w (v := ?_) rfl (by rfl) ?_ ?_
  rotate_left
  · intro wx hSx
    obtain ⟨hcx, hfx, hzx⟩ := bcell hSx
    go_simp
    try (with_reducible rfl)
  try simp only [Act.put, List.setIfInBounds_toArray, List.set_cons_zero, List.set_cons_succ]
  refine tplan_w (v := ?_) rfl (by rfl) ?_ ?_
  rotate_left
  · intro wx hSx
    obtain ⟨hcx, hfx, hzx⟩ := bcell hSx
    go_simp
    try (with_reducible rfl)
  try simp only [Act.put, List.setIfInBounds_toArray, List.set_cons_zero, List.set_cons_succ]
  refine tplan_endQ ?_
  go_wp2
  go_ret
  exact ⟨retI (IntWalk.i64_in _ (by omega)), bl_step hx hS3 hx.size⟩
end Go.Proofs.YtifenbamookmiaaDoor
