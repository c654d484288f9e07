/-
  Contracts: LeastPlaces, as the program has it and as the model has it.
-/
import Derived.Test.YtgpcfkegbcpkpaaSetl
import Derived.Test.YtgpcfkegbcpkpaaLstS
namespace Go.Proofs.Ytgpcfkegbcpkpaa
set_option linter.unusedSimpArgs false
set_option linter.unusedVariables false
open Go.ChangeShapes Go.WideShapes Go.ChangeAt Go.RowKit Go.BigFrame

theorem turn_up (rs : List R3) : rs.map (turnR true) = rs := by
  have : turnR true = id := by funext r; rfl
  rw [this, List.map_id]
theorem run_store_func {P : Program} (w : World) (a : Addr) (m : Mode) (fn : Fn) (xs ys : Array Value) : (store a (.func fn xs ys) m).run P w = stored P w a (.func fn xs ys) m := run_store P w a _ m rfl
attribute [local go_sem] run_store_func
theorem upward_any (w : World) : Calls Try.prog 112 #[] w fun e w' => e = .returned (.agg #[.func (.func 124) #[] #[], .func (.func 125) #[] #[]]) ∧ Below w.heap.size w w' := by
  go_enter Try.func112, Try.ntmps112
  go_wp2
  refine bodyPost_ret_by (v := .agg #[.func (.func 124) #[] #[], .func (.func 125) #[] #[]]) ?_ rfl ⟨rfl, by (repeat (first | assumption | exact Below.refl _ _ | (refine bl_alloc ?_ _) | (refine Below.drew ?_) | (refine bl_drewN ?_ _) | (refine bl_set ?_ (by first | (simp; done) | omega | (simp; omega)) _) | (refine bl_trans ?_ (by assumption)) | (refine bl_step ?_ (by assumption) (by first | omega | exact Below.size (by assumption) | (simp; omega) | (simp; exact Below.size (by assumption))))))⟩
  simp [results, Try.results112, go_sem]
theorem downward_any (w : World) : Calls Try.prog 117 #[] w fun e w' => e = .returned (.agg #[.func (.func 125) #[] #[], .func (.func 124) #[] #[]]) ∧ Below w.heap.size w w' := by
  go_enter Try.func117, Try.ntmps117
  go_wp2
  refine bodyPost_ret_by (v := .agg #[.func (.func 125) #[] #[], .func (.func 124) #[] #[]]) ?_ rfl ⟨rfl, by (repeat (first | assumption | exact Below.refl _ _ | (refine bl_alloc ?_ _) | (refine Below.drew ?_) | (refine bl_drewN ?_ _) | (refine bl_set ?_ (by first | (simp; done) | omega | (simp; omega)) _) | (refine bl_trans ?_ (by assumption)) | (refine bl_step ?_ (by assumption) (by first | omega | exact Below.size (by assumption) | (simp; omega) | (simp; exact Below.size (by assumption))))))⟩
  simp [results, Try.results117, go_sem]
set_option maxRecDepth 100000 in
set_option maxHeartbeats 1600000 in
theorem leastPlaces_any (N : Nat) (A : Option Addr) (rs : List R3) (c : Nat) (w : World) (hp : RulAt w w.heap.size A rs) (hv : prB (N : Int) rs = true) :
    Calls Try.prog 81 #[.agg #[.int .i64 (N : Int), .slice A rs.length c]] w (GoRes (runR rs (N + 1) (zer N)) w) := by
  have hx : Below w.heap.size w (w.alloc (.cells #[.int .i64 (N : Int), .slice A rs.length c] 29)) := by (repeat (first | assumption | exact Below.refl _ _ | (refine bl_alloc ?_ _) | (refine Below.drew ?_) | (refine bl_drewN ?_ _) | (refine bl_set ?_ (by first | (simp; done) | omega | (simp; omega)) _) | (refine bl_trans ?_ (by assumption)) | (refine bl_step ?_ (by assumption) (by first | omega | exact Below.size (by assumption) | (simp; omega) | (simp; exact Below.size (by assumption))))))
  have cs := Lib.hid (fun (wx : World) (hb : Below w.heap.size w wx) => settled_any 124 125 true N A rs c wx head_up (hp.to hb) hv)
  rw [turn_up] at cs
  have kp := Blk.new w #[.int .i64 (N : Int), .slice A rs.length c] 29
  clear hp hv
  generalize runR rs (N + 1) (zer N) = R at *
  have s0 := kp.cell 0 (v := .int .i64 (N : Int)) rfl
  have s1 := kp.cell 1 (v := .slice A rs.length c) rfl
  have hl := kp.lt
  go_enter Try.func81, Try.ntmps81
  go_wp2_with fail
  generalize (w.alloc (.cells #[.int .i64 (N : Int), .slice A rs.length c] 29)) = w0 at *
  refine wp_region_treeB (.takes [0] (.alone 1 (.alone 2 (.takes [3] .done)))) (by kernel_rfl) (by kernel_rfl) (by kernel_rfl) (fun _ d _ _ _ h => by cases d <;> exact h) (fun hS0 => ?_)
  refine tplan_w (v := ?_) rfl (by rfl) ?_ ?_
  rotate_left
  · intro wx hSx
    obtain ⟨hcx, hfx, hzx⟩ := bcell hSx
    go_simp
    try (with_reducible rfl)
  try simp only [Act.put, List.setIfInBounds_toArray, List.set_cons_zero, List.set_cons_succ]
  refine tplan_b rfl (fun K hK => ?_)
  go_simp
  refine ((upward_any _)).mono ?_
  rintro e w1 ⟨rfl, hb1⟩
  have hS1 := belowS hS0 hb1
  refine hK _ _ ⟨hS1, ?_⟩
  clear hK K
  try simp only [Act.put, List.setIfInBounds_toArray, List.set_cons_zero, List.set_cons_succ]
  refine tplan_b rfl (fun K hK => ?_)
  go_simp
  refine (cs.out _ (bl_step hx hS1 hx.size)).mono ?_
  rintro e w2 ⟨h, hb2⟩
  have hS2 := belowS hS1 hb2
  have x2 := bl_step hx hS2 hx.size
  have hz1 := (bl_step hx hS1 hx.size).size
  rcases h with ⟨ds, H, hR, rfl, hD, hH⟩ | ⟨hR, u, pv, rfl⟩
  · refine hK _ _ ⟨hS2, ?_⟩
    clear hK K
    try simp only [Act.put, List.setIfInBounds_toArray, List.set_cons_zero, List.set_cons_succ]
    refine tplan_w (v := ?_) rfl (by rfl) ?_ ?_
    rotate_left
    · intro wx hSx
      obtain ⟨hcx, hfx, hzx⟩ := bcell hSx
      go_simp
      try (with_reducible rfl)
    try simp only [Act.put, List.setIfInBounds_toArray, List.set_cons_zero, List.set_cons_succ]
    refine tplan_endQ ?_
    go_wp2
    go_ret
    exact ⟨.inl ⟨ds, H, hR, rfl, hD, Nat.le_trans hz1 hH⟩, x2⟩
  · have HR := Lib.hid hR
    clear hR
    go_wp2
    exact ⟨rfl, .inr ⟨HR.out, ⟨_, _, rfl⟩⟩, x2⟩
theorem requirePress_any (n : Int) (A : Option Addr) (rs : List R3) (c : Nat) (w : World) (hp : RulAt w w.heap.size A rs) (hl : rs.length ≤ 1048576) :
    Calls Try.prog 80 #[.agg #[.int .i64 n, .slice A rs.length c]] w fun e w' => ((prB n rs = true ∧ e = .returned (.agg #[.int .i64 n, .slice A rs.length c])) ∨ (prB n rs = false ∧ Pan e)) ∧ Below w.heap.size w w' := by
  have hx : Below w.heap.size w ((w.alloc (.cells #[.int .i64 n, .slice A rs.length c] 29)).alloc (.cells #[.int .i64 0, .slice none 0 0] 29)) := by (repeat (first | assumption | exact Below.refl _ _ | (refine bl_alloc ?_ _) | (refine Below.drew ?_) | (refine bl_drewN ?_ _) | (refine bl_set ?_ (by first | (simp; done) | omega | (simp; omega)) _) | (refine bl_trans ?_ (by assumption)) | (refine bl_step ?_ (by assumption) (by first | omega | exact Below.size (by assumption) | (simp; omega) | (simp; exact Below.size (by assumption))))))
  have cv := Lib.hid (ValidPressI_any n A rs c _ (hp.to hx) hl)
  have kr : Blk ((w.alloc (.cells #[.int .i64 n, .slice A rs.length c] 29)).alloc (.cells #[.int .i64 0, .slice none 0 0] 29)) (w.heap.size + 1) #[.int .i64 0, .slice none 0 0] 29 := by
    have := Blk.new (w.alloc (.cells #[.int .i64 n, .slice A rs.length c] 29)) #[.int .i64 0, .slice none 0 0] 29
    rwa [World.size_alloc] at this
  have ka : Blk ((w.alloc (.cells #[.int .i64 n, .slice A rs.length c] 29)).alloc (.cells #[.int .i64 0, .slice none 0 0] 29)) w.heap.size #[.int .i64 n, .slice A rs.length c] 29 := (Blk.new _ _ _).alloc _
  clear hp
  cases hv : prB n rs
  · rw [hv] at cv
    go_enter Try.func80, Try.ntmps80
    go_wp2_with fail
    refine cv.out.mono ?_
    rintro e w1 ⟨rfl, hb1⟩
    go_wp2_with fail
    refine (require_no _).mono ?_
    rintro e w2 ⟨⟨u, pv, rfl⟩, rfl⟩
    go_wp2
    exact ⟨rfl, .inr ⟨by simp, ⟨_, _, rfl⟩⟩, bl_step hx hb1 hx.size⟩
  · rw [hv] at cv
    go_enter Try.func80, Try.ntmps80
    go_wp2_with fail
    refine cv.out.mono ?_
    rintro e w1 ⟨rfl, hb1⟩
    replace kr := kr.to hb1
    replace ka := ka.to hb1
    have x1 := bl_step hx hb1 hx.size
    have s0 := ka.cell 0 (v := .int .i64 n) rfl
    have s1 := ka.cell 1 (v := .slice A rs.length c) rfl
    have t0 := kr.cell 0 rfl
    have t1 := kr.cell 1 rfl
    have q0 := kr.frozen 0
    have q1 := kr.frozen 1
    have ke := (kr.set 0 (.int .i64 n)).set 1 (.slice A rs.length c)
    have xE := (x1.setCell (p := ⟨w.heap.size + 1, 0, none⟩) (by simp) (.int .i64 n)).setCell (p := ⟨w.heap.size + 1, 1, none⟩) (by simp) (.slice A rs.length c)
    clear hb1 kr ka
    go_wp2_with fail
    refine (require_yes _).mono ?_
    rintro e w2 ⟨rfl, rfl⟩
    go_wp2
    generalize ((w2.setCell ⟨w.heap.size + 1, 0, none⟩ (.int .i64 n)).setCell ⟨w.heap.size + 1, 1, none⟩ (.slice A rs.length c)) = wE at *
    have e0 := ke.cell 0 (v := .int .i64 n) (by simp)
    have e1 := ke.cell 1 (v := .slice A rs.length c) (by simp)
    refine bodyPost_ret_by (v := .agg #[.int .i64 n, .slice A rs.length c]) ?_ rfl ⟨.inl ⟨by simp, rfl⟩, xE⟩
    simp [results, Try.results80, go_sem, e0, e1]
theorem leastClo_any (n : Int) (A : Option Addr) (rs : List R3) (c Z : Nat) (w : World) (c0 : w.cell? ⟨Z, 0, none⟩ = some (.int .i64 n)) (c1 : w.cell? ⟨Z, 1, none⟩ = some (.slice A rs.length c)) (hp : RulAt w w.heap.size A rs) (hl : rs.length ≤ 1048576) :
    Calls Try.prog 79 #[.pointer (some ⟨Z, 0, none⟩)] w (GoRes (lstP n rs) w) := by
  have cr := Lib.hid (requirePress_any n A rs c w hp hl)
  cases hv : prB n rs
  · have R : Hid (lstP n rs = none) := by show _ = _; unfold lstP; rw [hv]; rfl
    have HV := Lib.hid hv
    clear hp hv
    rw [R.out]
    go_enter Try.func79, Try.ntmps79
    go_wp2_with fail
    refine cr.out.mono ?_
    rintro e w1 ⟨⟨h, rfl⟩ | ⟨_, u, pv, rfl⟩, hb1⟩
    · rw [HV.out] at h; cases h
    · go_wp2
      exact ⟨rfl, .inr ⟨rfl, ⟨_, _, rfl⟩⟩, hb1⟩
  · obtain ⟨⟨n1, n16⟩, _, _⟩ := pr_facts hv
    obtain ⟨N, rfl⟩ : ∃ N : Nat, n = (N : Int) := ⟨n.toNat, by omega⟩
    have R : Hid (lstP (N : Int) rs = runR rs (N + 1) (zer N)) := by show _ = _; unfold lstP; rw [if_pos hv]; rfl
    have cl := Lib.hid (fun (wx : World) (hb : Below w.heap.size w wx) => leastPlaces_any N A rs c wx (hp.to hb) hv)
    have HV := Lib.hid hv
    clear hp hv
    rw [R.out]
    generalize runR rs (N + 1) (zer N) = R' at *
    go_enter Try.func79, Try.ntmps79
    go_wp2_with fail
    refine cr.out.mono ?_
    rintro e w1 ⟨⟨_, rfl⟩ | ⟨h, u, pv, rfl⟩, hb1⟩
    · go_wp2_with fail
      refine (cl.out _ hb1).mono ?_
      rintro e w2 ⟨h, hb2⟩
      rcases h with ⟨ds, H, hR, rfl, hD, hH⟩ | ⟨hR, u, pv, rfl⟩
      · have HR := Lib.hid hR
        clear hR
        go_wp2
        go_ret
        exact ⟨.inl ⟨ds, H, HR.out, rfl, hD, Nat.le_trans hb1.size hH⟩, bl_trans hb1 hb2⟩
      · have HR := Lib.hid hR
        clear hR
        go_wp2
        exact ⟨rfl, .inr ⟨HR.out, ⟨_, _, rfl⟩⟩, bl_trans hb1 hb2⟩
    · rw [HV.out] at h; cases h
/-- The answer's numbers. -/
def outL (R : Option (List Int)) : List Int := R.getD []
theorem lstP_len {n : Int} {rs : List R3} : (outL (lstP n rs)).length ≤ 1048576 := by
  unfold lstP
  split
  · rename_i h
    obtain ⟨⟨n1, n16⟩, _, _⟩ := pr_facts h
    cases hr : runR rs (n.toNat + 1) (zer n.toNat) with
    | none => simp [outL]
    | some ds =>
      have := (run_fix _ _ _ hr).1
      simp [outL, this, zer]
      omega
  · simp [outL]
theorem NBlk.own4 {w : World} {g B : Nat} {ds : List Int} (h : NBlk w g ds ds.length) (hB : B ≤ g) : Own4 w B (some ⟨g, 0, none⟩) ds := fun _ => by
  obtain ⟨cs, h0, h1, h2⟩ := h
  exact ⟨g, rfl, hB, cs, h0, Nat.le_of_eq h1.symm, h2⟩
theorem NBlk.ownI {w : World} {g B : Nat} {ds : List Int} (h : NBlk w g ds ds.length) (hB : B ≤ g) (hl : ds.length ≤ 1048576) : OwnI w B (.slice (some ⟨g, 0, none⟩) ds.length ds.length) ds := by
  obtain ⟨cs, h0, h1, h2⟩ := h
  refine ⟨by simp [cellsI], .inr ⟨g, ds.length, cs, rfl, hB, h0, Nat.le_refl _, by unfold maxLen; omega, by omega, ?_⟩⟩
  refine List.ext_getElem? fun i => ?_
  rcases Nat.lt_or_ge i ds.length with hi | hi
  · rw [List.getElem?_take, if_pos (by omega), Array.getElem?_toList, h2 i hi hi, cellsI_at hi]
  · rw [List.getElem?_eq_none (by simp [h1]; omega), List.getElem?_eq_none (by simp [cellsI]; omega)]
/-- A closure over a press whose answer is numbers: attempted. -/
theorem goAtt {R : Option (List Int)} {w1 : World} {e : Ending} {w' : World} (h : GoRes R w1 e w') (hl : (outL R).length ≤ 1048576) : ((∃ v, e = .returned v ∧ OwnI w' w1.heap.size v (outL R) ∧ R.isSome = true) ∨ (Pan e ∧ R.isSome = false)) ∧ Below w1.heap.size w1 w' := by
  obtain ⟨⟨ds, G, rfl, rfl, hD, hG⟩ | ⟨rfl, hp⟩, hb⟩ := h
  · exact ⟨.inl ⟨_, rfl, hD.ownI hG hl, rfl⟩, hb⟩
  · exact ⟨.inr ⟨hp, rfl⟩, hb⟩
set_option maxRecDepth 100000 in
set_option maxHeartbeats 800000 in
theorem LeastPlacesI_any (n : Int) (A : Option Addr) (rs : List R3) (c : Nat) (w : World) (hp : RulAt w w.heap.size A rs) (hl : rs.length ≤ 1048576) :
    Calls Try.prog 38 #[.agg #[.int .i64 n, .slice A rs.length c]] w (NRes (outL (lstP n rs)) (lstP n rs).isSome w) := by
  have hx : Below w.heap.size w (w.alloc (.cells #[.int .i64 n, .slice A rs.length c] 29)) := by (repeat (first | assumption | exact Below.refl _ _ | (refine bl_alloc ?_ _) | (refine Below.drew ?_) | (refine bl_drewN ?_ _) | (refine bl_set ?_ (by first | (simp; done) | omega | (simp; omega)) _) | (refine bl_trans ?_ (by assumption)) | (refine bl_step ?_ (by assumption) (by first | omega | exact Below.size (by assumption) | (simp; omega) | (simp; exact Below.size (by assumption))))))
  have kp := Blk.new w #[.int .i64 n, .slice A rs.length c] 29
  have cc := Lib.hid (fun (wx : World) (hb : Below (w.alloc (.cells #[.int .i64 n, .slice A rs.length c] 29)).heap.size (w.alloc (.cells #[.int .i64 n, .slice A rs.length c] 29)) wx) => leastClo_any n A rs c w.heap.size wx ((kp.to hb).cell 0 rfl) ((kp.to hb).cell 1 rfl) ((hp.to hx).to hb) hl)
  clear hp kp
  have HLL := Lib.hid (lstP_len (n := n) (rs := rs))
  generalize lstP n rs = R at *
  have HNO : Hid (R.isSome = false → outL R = [] ∧ R.isSome = false) := fun h => by cases R with
    | none => exact ⟨rfl, rfl⟩
    | some _ => cases h
  go_enter Try.func38, Try.ntmps38
  go_wp2_with fail
  generalize (w.alloc (.cells #[.int .i64 n, .slice A rs.length c] 29)) = w1 at *
  have hx1 : Below w1.heap.size w1 (w1.alloc (.cells #[.bool false] 4)) := by (repeat (first | assumption | exact Below.refl _ _ | (refine bl_alloc ?_ _) | (refine Below.drew ?_) | (refine bl_drewN ?_ _) | (refine bl_set ?_ (by first | (simp; done) | omega | (simp; omega)) _) | (refine bl_trans ?_ (by assumption)) | (refine bl_step ?_ (by assumption) (by first | omega | exact Below.size (by assumption) | (simp; omega) | (simp; exact Below.size (by assumption))))))
  refine (attemptNs_any 79 _ w1 (fun v w2 => OwnI w2 (w1.heap.size + 1) v (outL R) ∧ R.isSome = true) (R.isSome = false) (fun _ _ => by first | rfl | (simp [go_sem]; done)) ((cc.out _ hx1).mono ?_)).mono ?_
  · intro e w2 h
    obtain ⟨h2, h3⟩ := goAtt h HLL.out
    rw [World.size_alloc] at h2
    exact ⟨h2, h3⟩
  rintro e w2 h
  obtain ⟨A4, c4, rfl, h4, hb4⟩ := nres_att h HNO.out
  go_wp2
  go_ret2
  exact ⟨A4, c4, rfl, fun h0 => by obtain ⟨g, e1, hg, hI⟩ := h4 h0; exact ⟨g, e1, Nat.le_trans hx.size hg, hI⟩, bl_step hx hb4 hx.size⟩
set_option maxHeartbeats 800000 in
theorem LeastPlacesS_any (n : Int) (A : Option Addr) (rs : List R3) (c : Nat) (w : World) (hp : RulAt w w.heap.size A rs) (hl : rs.length ≤ 1048576) :
    Calls Try.prog 37 #[.agg #[.int .i64 n, .slice A rs.length c]] w (NRes (outL (lstP n rs)) (lstP n rs).isSome w) := by
  have hx : Below w.heap.size w (w.alloc (.cells #[.int .i64 n, .slice A rs.length c] 29)) := by (repeat (first | assumption | exact Below.refl _ _ | (refine bl_alloc ?_ _) | (refine Below.drew ?_) | (refine bl_drewN ?_ _) | (refine bl_set ?_ (by first | (simp; done) | omega | (simp; omega)) _) | (refine bl_trans ?_ (by assumption)) | (refine bl_step ?_ (by assumption) (by first | omega | exact Below.size (by assumption) | (simp; omega) | (simp; exact Below.size (by assumption))))))
  have kp := Blk.new w #[.int .i64 n, .slice A rs.length c] 29
  have c1 := Lib.hid (l09Is_any w.heap.size n A rs c _ (kp.cell 0 rfl) (kp.cell 1 rfl) (hp.to hx) hl)
  cases hv : prB n rs
  · have R : Hid (lstP n rs = none) := by show _ = _; unfold lstP; rw [hv]; rfl
    rw [hv] at c1
    rw [R.out]
    clear hp hv
    go_enter Try.func37, Try.ntmps37
    go_wp2_with fail
    refine c1.out.mono ?_
    rintro e w1 ⟨rfl, hb1⟩
    go_wp2
    go_ret2
    exact ⟨none, 0, rfl, Own4.none_ _ _ _, bl_step hx hb1 hx.size⟩
  · have R : Hid (lstP n rs = runR rs (n.toNat + 1) (zer n.toNat)) := by show _ = _; unfold lstP; rw [if_pos hv]
    have c2 := Lib.hid (fun (wx : World) (hb : Below (w.alloc (.cells #[.int .i64 n, .slice A rs.length c] 29)).heap.size (w.alloc (.cells #[.int .i64 n, .slice A rs.length c] 29)) wx) => l09Least_any w.heap.size n A rs c wx ((kp.to hb).cell 0 rfl) ((kp.to hb).cell 1 rfl) ((hp.to hx).to hb) hv)
    rw [hv] at c1
    rw [R.out]
    clear hp hv
    generalize runR rs (n.toNat + 1) (zer n.toNat) = R' at *
    go_enter Try.func37, Try.ntmps37
    go_wp2_with fail
    refine c1.out.mono ?_
    rintro e w1 ⟨rfl, hb1⟩
    have x1 := bl_step hx hb1 hx.size
    go_wp2_with fail
    refine (c2.out _ hb1).mono ?_
    rintro e w2 ⟨h, hb2⟩
    rcases h with ⟨ds, H, hR, rfl, hD, hH⟩ | ⟨hR, rfl⟩
    · have HR := Lib.hid hR
      clear hR
      go_wp2
      go_ret2
      exact ⟨some ⟨H, 0, none⟩, ds.length, by rw [HR.out]; rfl, by rw [HR.out]; exact hD.own4 (Nat.le_trans x1.size hH), bl_trans x1 hb2⟩
    · have HR := Lib.hid hR
      clear hR
      go_wp2
      go_ret2
      exact ⟨none, 0, by rw [HR.out]; rfl, by rw [HR.out]; exact Own4.none_ _ _ _, bl_trans x1 hb2⟩
end Go.Proofs.Ytgpcfkegbcpkpaa
