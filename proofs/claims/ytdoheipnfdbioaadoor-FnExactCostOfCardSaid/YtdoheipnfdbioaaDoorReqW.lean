/-
  Contract: a wiring, as the program has it inside.
-/
import Derived.Test.YtdoheipnfdbioaaDoorWirV
import Derived.Test.YtdoheipnfdbioaaDoorReqP
import Derived.Test.YtdoheipnfdbioaaDoorOwnT
import Derived.Test.YtdoheipnfdbioaaDoorStepA
import Derived.Test.YtdoheipnfdbioaaDoorOver
import Derived.Deep.DeepCutAuto
namespace Go.Proofs.YtdoheipnfdbioaaDoor
set_option linter.unusedSimpArgs false
set_option linter.unusedVariables false
open Go.ChangeShapes Go.WideShapes Go.ChangeAt Go.RowKit Go.BigFrame

/-- The joint of a list. -/
def jtOf (J : List (List Int)) (k : Nat) : Int × Int := (((2 ^ cx J k ||| 2 ^ cy J k : Nat) : Int), (J.getD k []).getD 2 0)
/-- The joints of the first m lists. -/
def jtsTo (J : List (List Int)) (m : Nat) : List (Int × Int) := (List.range m).map (jtOf J)
theorem run_mkarrows (m : Nat) (h : m ≤ 1048576) (w : World) :
    (Instr.makeSlice 58 (.int .i64 (m : Int)) (.int .i64 (m : Int))).run Tryd.prog w = .ok (.slice (some ⟨w.heap.size, 0, none⟩) m m) (w.alloc (.cells (zeros m) 54)) := by
  obtain ⟨i, hi, hzz⟩ := Option.map_eq_some_iff.1 infoBits
  simp only [Prod.mk.injEq] at hzz
  obtain ⟨hz, hs, hb⟩ := hzz
  have := run_make (P := Tryd.prog) w 58 54 i _ Tryd.underlying58 hi hz .i64 .i64 m m (by omega) (by omega) (by rw [hb]; omega) (by omega)
  rw [this, hs, Nat.mul_one]
  rfl
theorem heap_setCell_eq (w : World) (g i : Nat) (v : Value) : (w.setCell ⟨g, i, none⟩ v).heap[g]? = (w.heap[g]?).map (fun o => match o with | .cells cs t r => .cells (cs.setIfInBounds i v) t r | o => o) := by
  simp only [World.setCell, Array.getElem?_modify, if_pos rfl]
  rfl
theorem mask_orpow {n : Nat} {p : Nat → Bool} (hn : n ≤ 14) (h : p n = true) : bits .or .u64 (maskTo p n : Int) ((2 ^ n : Nat) : Int) = (maskTo p (n + 1) : Int) := by
  rw [bits_or_u64_nat _ _ (mask_64 p (by omega)) (pow_lt64 (by omega)), or_two_pow (maskTo_lt p n), maskTo_t h]
def ReqWRes (nI : Int) (C J : List (List Int)) (F : List Int) (w : World) (e : Ending) (w' : World) : Prop :=
  ((∃ (n gX : Nat) (AJ : Option Addr) (cJ : Nat), nI = (n : Int) ∧ (wvB nI C J F = true ∧ WvOk n C J F) ∧ e = .returned (.agg #[.int .i64 (n : Int), .slice (some ⟨gX, 0, none⟩) n n, .slice AJ J.length cJ, .int .u64 (maskTo (fixP F 0) n : Int), .int .u64 (maskTo (fixP F 1) n : Int)]) ∧ BitBlk w' gX n (adjT C C.length) ∧ JtsAt w' w'.heap.size AJ (jtsTo J J.length)) ∨ (wvB nI C J F = false ∧ Pan e)) ∧ Below w.heap.size w w'
theorem alloc_belowR (W : World) (o : Obj) : Below W.heap.size W (W.alloc o) := (Below.refl _ _).alloc (Nat.le_refl _) _
set_option maxRecDepth 100000 in
set_option maxHeartbeats 16000000 in
theorem requireWiring_any (nI : Int) (AC : Option Addr) (C : List SlI) (cC : Nat) (AJ : Option Addr) (J : List SlI) (cJ : Nat) (AF : Option Addr) (F : List Int) (cF : Nat) (w : World)
    (hC : ISAt w w.heap.size AC C) (hJ : ISAt w w.heap.size AJ J) (hF : IntsAt w w.heap.size AF F)
    (lC : C.length ≤ 1048576) (lJ : J.length ≤ 1048576) (lF : F.length ≤ 1048576) (mC : ∀ i, i < C.length → (C.getD i si0).2.1.length ≤ 1048576) (mJ : ∀ i, i < J.length → (J.getD i si0).2.1.length ≤ 1048576) :
    Calls Tryd.prog 39 #[.agg #[.int .i64 nI, .slice AC C.length cC, .slice AJ J.length cJ, .slice AF F.length cF]] w (ReqWRes nI (heldI C) (heldI J) F w) := by
  have hb0 : Below w.heap.size w ((w.alloc (.cells #[.int .i64 nI, .slice AC C.length cC, .slice AJ J.length cJ, .slice AF F.length cF] 28)).alloc (.cells #[.int .i64 0, .slice none 0 0, .slice none 0 0, .int .u64 0, .int .u64 0] 62)) := by (repeat (first | assumption | exact Below.refl _ _ | (refine bl_alloc ?_ _) | (refine Below.drew ?_) | (refine bl_drewN ?_ _) | (refine bl_set ?_ (by first | (simp; done) | omega | (simp; omega)) _) | (refine bl_trans ?_ (by assumption)) | (refine bl_step ?_ (by assumption) (by first | omega | exact Below.size (by assumption) | (simp; omega) | (simp; exact Below.size (by assumption))))))
  have k1 : Blk ((w.alloc (.cells #[.int .i64 nI, .slice AC C.length cC, .slice AJ J.length cJ, .slice AF F.length cF] 28)).alloc (.cells #[.int .i64 0, .slice none 0 0, .slice none 0 0, .int .u64 0, .int .u64 0] 62)) w.heap.size #[.int .i64 nI, .slice AC C.length cC, .slice AJ J.length cJ, .slice AF F.length cF] 28 := (Blk.new _ _ _).alloc _
  have k2 : Blk ((w.alloc (.cells #[.int .i64 nI, .slice AC C.length cC, .slice AJ J.length cJ, .slice AF F.length cF] 28)).alloc (.cells #[.int .i64 0, .slice none 0 0, .slice none 0 0, .int .u64 0, .int .u64 0] 62)) (w.heap.size + 1) #[.int .i64 0, .slice none 0 0, .slice none 0 0, .int .u64 0, .int .u64 0] 62 := by
    have := Blk.new (w.alloc (.cells #[.int .i64 nI, .slice AC C.length cC, .slice AJ J.length cJ, .slice AF F.length cF] 28)) #[.int .i64 0, .slice none 0 0, .slice none 0 0, .int .u64 0, .int .u64 0] 62
    rwa [World.size_alloc] at this
  have CV := Lib.hid (ValidWiringI_any nI AC C cC AJ J cJ AF F cF _ (hC.to hb0) (hJ.to hb0) (hF.to hb0) lC lJ lF mC mJ)
  cases hv : wvB nI (heldI C) (heldI J) F
  · rw [hv] at CV
    have HV := Lib.hid hv
    clear hv hC hJ hF mC mJ
    have d0 := k1.cell 0 (v := .int .i64 nI) rfl
    go_enter Tryd.func39, Tryd.ntmps39
    go_wp2_with fail
    refine CV.out.mono ?_
    rintro e w3 ⟨rfl, hb3⟩
    go_wp2_with fail
    refine (require_no _).mono ?_
    rintro e w4 ⟨⟨u, pv, rfl⟩, rfl⟩
    go_wp2
    exact ⟨rfl, .inr ⟨HV.out, _, _, rfl⟩, hb0.trans (hb3.mono hb0.size)⟩
  rw [hv] at CV
  obtain ⟨n, hn, ok⟩ := wvOk_of hv
  subst hn
  have HVT := Lib.hid hv
  clear hv
  have n14 := ok.n14
  have HFL := Lib.hid ok.fl
  go_enter Tryd.func39, Tryd.ntmps39
  go_wp2_with fail
  refine CV.out.mono ?_
  rintro e w3 ⟨rfl, hb3⟩
  replace k1 := k1.to hb3
  replace k2 := k2.to hb3
  replace hb3 := hb0.trans (hb3.mono hb0.size)
  clear CV hb0
  go_wp2_with fail
  refine (require_yes _).mono ?_
  rintro e w4 ⟨rfl, rfl⟩
  have d0 := k1.cell 0 (v := .int .i64 (n : Int)) rfl
  have hmk := run_mkarrows n (by omega)
  have l1 := k1.lt
  have l2 := k2.lt
  go_upto_region 2 with fail
  go_cut [3] (fun s3 wx => ∃ gI gX : Nat, s3 = .pointer (some ⟨gI, 0, none⟩) ∧ Blk wx gI #[.int .i64 (n : Int), .slice (some ⟨gX, 0, none⟩) n n, .slice none 0 0, .int .u64 0, .int .u64 0] 62 ∧ BitBlk wx gX n (fun _ _ => false) ∧ w4.heap.size ≤ gI ∧ w4.heap.size ≤ gX ∧ gI ≠ gX ∧ Below w4.heap.size w4 wx)
  case first =>
    refine wp_region_treeB (.takes [0, 1, 2, 3] (.fork 4 (.take 5 (.alone 6 (.alone 7 .done))) 6 (.alone 4 (.take 5 (.alone 7 .done))))) (by kernel_rfl) (by kernel_rfl) (by kernel_rfl) (fun _ d _ _ _ h => by cases d <;> exact h) (fun hS0 => ?_)
    refine tplan_w (v := ?_) rfl (by rfl) ?_ ?_
    rotate_left
    · intro wx hSx
      obtain ⟨hcx, hfx, hzx⟩ := bcell hSx
      go_simp
      try (with_reducible rfl)
    try simp only [Act.put, List.setIfInBounds_toArray, List.set_cons_zero, List.set_cons_succ]
    refine tplan_w (v := ?_) rfl (by rfl) ?_ ?_
    rotate_left
    · intro wx hSx
      obtain ⟨hcx, hfx, hzx⟩ := bcell hSx
      go_simp
      try (with_reducible rfl)
    try simp only [Act.put, List.setIfInBounds_toArray, List.set_cons_zero, List.set_cons_succ]
    refine tplan_w (v := ?_) rfl (by rfl) ?_ ?_
    rotate_left
    · intro wx hSx
      obtain ⟨hcx, hfx, hzx⟩ := bcell hSx
      go_simp
      try (with_reducible rfl)
    try simp only [Act.put, List.setIfInBounds_toArray, List.set_cons_zero, List.set_cons_succ]
    refine tplan_w (v := ?_) rfl (by rfl) ?_ ?_
    rotate_left
    · intro wx hSx
      obtain ⟨hcx, hfx, hzx⟩ := bcell hSx
      go_simp
      try (with_reducible rfl)
    try simp only [Act.put, List.setIfInBounds_toArray, List.set_cons_zero, List.set_cons_succ]
    refine tplan_fork ?_ ?_
    · refine tplan_b rfl (fun K hK => ?_)
      go_simp
      refine hK _ _ ⟨by (repeat (first | assumption | exact Below.refl _ _ | (refine bl_alloc ?_ _) | (refine Below.drew ?_) | (refine bl_drewN ?_ _) | (refine bl_set ?_ (by first | (simp; done) | omega | (simp; omega)) _) | (refine bl_trans ?_ (by assumption)) | (refine bl_step ?_ (by assumption) (by first | omega | exact Below.size (by assumption) | (simp; omega) | (simp; exact Below.size (by assumption)))))), ?_⟩
      clear hK K
      try simp only [Act.put, List.setIfInBounds_toArray, List.set_cons_zero, List.set_cons_succ]
      refine tplan_w (v := ?_) rfl (by rfl) ?_ ?_
      rotate_left
      · intro wx hSx
        obtain ⟨hcx, hfx, hzx⟩ := bcell hSx
        go_simp
        try (with_reducible rfl)
      try simp only [Act.put, List.setIfInBounds_toArray, List.set_cons_zero, List.set_cons_succ]
      refine tplan_b rfl (fun K hK => ?_)
      go_simp
      refine hK _ _ ⟨by (repeat (first | assumption | exact Below.refl _ _ | (refine bl_alloc ?_ _) | (refine Below.drew ?_) | (refine bl_drewN ?_ _) | (refine bl_set ?_ (by first | (simp; done) | omega | (simp; omega)) _) | (refine bl_trans ?_ (by assumption)) | (refine bl_step ?_ (by assumption) (by first | omega | exact Below.size (by assumption) | (simp; omega) | (simp; exact Below.size (by assumption)))))), ?_⟩
      clear hK K
      try simp only [Act.put, List.setIfInBounds_toArray, List.set_cons_zero, List.set_cons_succ]
      have kI : Blk ((w4.alloc (.cells (zeros n) 54)).alloc (.cells #[.int .i64 0, .slice none 0 0, .slice none 0 0, .int .u64 0, .int .u64 0] 62)) (w4.heap.size + 1) #[.int .i64 0, .slice none 0 0, .slice none 0 0, .int .u64 0, .int .u64 0] 62 := by have := Blk.new (w4.alloc (.cells (zeros n) 54)) #[.int .i64 0, .slice none 0 0, .slice none 0 0, .int .u64 0, .int .u64 0] 62; rwa [World.size_alloc] at this
      have bX : BitBlk ((w4.alloc (.cells (zeros n) 54)).alloc (.cells #[.int .i64 0, .slice none 0 0, .slice none 0 0, .int .u64 0, .int .u64 0] 62)) (w4.heap.size) n (fun _ _ => false) := (BitBlk.new w4 n).to (alloc_belowR _ _)
      have bb : Below w4.heap.size w4 ((w4.alloc (.cells (zeros n) 54)).alloc (.cells #[.int .i64 0, .slice none 0 0, .slice none 0 0, .int .u64 0, .int .u64 0] 62)) := by (repeat (first | assumption | exact Below.refl _ _ | (refine bl_alloc ?_ _) | (refine Below.drew ?_) | (refine bl_drewN ?_ _) | (refine bl_set ?_ (by first | (simp; done) | omega | (simp; omega)) _) | (refine bl_trans ?_ (by assumption)) | (refine bl_step ?_ (by assumption) (by first | omega | exact Below.size (by assumption) | (simp; omega) | (simp; exact Below.size (by assumption))))))
      have i0 := kI.cell 0 (v := .int .i64 0) rfl
      have i1 := kI.cell 1 (v := .slice none 0 0) rfl
      have i2 := kI.cell 2 (v := .slice none 0 0) rfl
      have i3 := kI.cell 3 (v := .int .u64 0) rfl
      have i4 := kI.cell 4 (v := .int .u64 0) rfl
      have iF := kI.frozen
      generalize ((w4.alloc (.cells (zeros n) 54)).alloc (.cells #[.int .i64 0, .slice none 0 0, .slice none 0 0, .int .u64 0, .int .u64 0] 62)) = wv at *
      refine tplan_b rfl (fun K hK => ?_)
      go_simp
      have kE := ((((kI.set 0 (.int .i64 (n : Int))).set 1 (.slice (some ⟨w4.heap.size, 0, none⟩) n n)).set 2 (.slice none 0 0)).set 3 (.int .u64 0)).set 4 (.int .u64 0)
      have bE := ((((bX.keep (Below.heap_setCell _ ⟨w4.heap.size + 1, 0, none⟩ (.int .i64 (n : Int)) _ (by simp))).keep (Below.heap_setCell _ ⟨w4.heap.size + 1, 1, none⟩ (.slice (some ⟨w4.heap.size, 0, none⟩) n n) _ (by simp))).keep (Below.heap_setCell _ ⟨w4.heap.size + 1, 2, none⟩ (.slice none 0 0) _ (by simp))).keep (Below.heap_setCell _ ⟨w4.heap.size + 1, 3, none⟩ (.int .u64 0) _ (by simp))).keep (Below.heap_setCell _ ⟨w4.heap.size + 1, 4, none⟩ (.int .u64 0) _ (by simp))
      have bbE := ((((bb.setCell (p := ⟨w4.heap.size + 1, 0, none⟩) (by simp) (.int .i64 (n : Int))).setCell (p := ⟨w4.heap.size + 1, 1, none⟩) (by simp) (.slice (some ⟨w4.heap.size, 0, none⟩) n n)).setCell (p := ⟨w4.heap.size + 1, 2, none⟩) (by simp) (.slice none 0 0)).setCell (p := ⟨w4.heap.size + 1, 3, none⟩) (by simp) (.int .u64 0)).setCell (p := ⟨w4.heap.size + 1, 4, none⟩) (by simp) (.int .u64 0)
      refine hK _ _ ⟨bbE.drew, ?_⟩
      clear hK K
      try simp only [Act.put, List.setIfInBounds_toArray, List.set_cons_zero, List.set_cons_succ]
      refine tplan_endQ ?_
      go_wp2_with fail
      go_meet
      exact ⟨w4.heap.size + 1, w4.heap.size, rfl, kE, bE, by omega, by omega, by omega, bbE.drew⟩
    · refine tplan_b rfl (fun K hK => ?_)
      go_simp
      refine hK _ _ ⟨by (repeat (first | assumption | exact Below.refl _ _ | (refine bl_alloc ?_ _) | (refine Below.drew ?_) | (refine bl_drewN ?_ _) | (refine bl_set ?_ (by first | (simp; done) | omega | (simp; omega)) _) | (refine bl_trans ?_ (by assumption)) | (refine bl_step ?_ (by assumption) (by first | omega | exact Below.size (by assumption) | (simp; omega) | (simp; exact Below.size (by assumption)))))), ?_⟩
      clear hK K
      try simp only [Act.put, List.setIfInBounds_toArray, List.set_cons_zero, List.set_cons_succ]
      refine tplan_b rfl (fun K hK => ?_)
      go_simp
      refine hK _ _ ⟨by (repeat (first | assumption | exact Below.refl _ _ | (refine bl_alloc ?_ _) | (refine Below.drew ?_) | (refine bl_drewN ?_ _) | (refine bl_set ?_ (by first | (simp; done) | omega | (simp; omega)) _) | (refine bl_trans ?_ (by assumption)) | (refine bl_step ?_ (by assumption) (by first | omega | exact Below.size (by assumption) | (simp; omega) | (simp; exact Below.size (by assumption)))))), ?_⟩
      clear hK K
      try simp only [Act.put, List.setIfInBounds_toArray, List.set_cons_zero, List.set_cons_succ]
      refine tplan_w (v := ?_) rfl (by rfl) ?_ ?_
      rotate_left
      · intro wx hSx
        obtain ⟨hcx, hfx, hzx⟩ := bcell hSx
        go_simp
        try (with_reducible rfl)
      try simp only [Act.put, List.setIfInBounds_toArray, List.set_cons_zero, List.set_cons_succ]
      have kI : Blk ((w4.alloc (.cells #[.int .i64 0, .slice none 0 0, .slice none 0 0, .int .u64 0, .int .u64 0] 62)).alloc (.cells (zeros n) 54)) (w4.heap.size) #[.int .i64 0, .slice none 0 0, .slice none 0 0, .int .u64 0, .int .u64 0] 62 := by exact (Blk.new w4 #[.int .i64 0, .slice none 0 0, .slice none 0 0, .int .u64 0, .int .u64 0] 62).alloc (.cells (zeros n) 54)
      have bX : BitBlk ((w4.alloc (.cells #[.int .i64 0, .slice none 0 0, .slice none 0 0, .int .u64 0, .int .u64 0] 62)).alloc (.cells (zeros n) 54)) (w4.heap.size + 1) n (fun _ _ => false) := (by have := BitBlk.new (w4.alloc (.cells #[.int .i64 0, .slice none 0 0, .slice none 0 0, .int .u64 0, .int .u64 0] 62)) n; rwa [World.size_alloc] at this)
      have bb : Below w4.heap.size w4 ((w4.alloc (.cells #[.int .i64 0, .slice none 0 0, .slice none 0 0, .int .u64 0, .int .u64 0] 62)).alloc (.cells (zeros n) 54)) := by (repeat (first | assumption | exact Below.refl _ _ | (refine bl_alloc ?_ _) | (refine Below.drew ?_) | (refine bl_drewN ?_ _) | (refine bl_set ?_ (by first | (simp; done) | omega | (simp; omega)) _) | (refine bl_trans ?_ (by assumption)) | (refine bl_step ?_ (by assumption) (by first | omega | exact Below.size (by assumption) | (simp; omega) | (simp; exact Below.size (by assumption))))))
      have i0 := kI.cell 0 (v := .int .i64 0) rfl
      have i1 := kI.cell 1 (v := .slice none 0 0) rfl
      have i2 := kI.cell 2 (v := .slice none 0 0) rfl
      have i3 := kI.cell 3 (v := .int .u64 0) rfl
      have i4 := kI.cell 4 (v := .int .u64 0) rfl
      have iF := kI.frozen
      generalize ((w4.alloc (.cells #[.int .i64 0, .slice none 0 0, .slice none 0 0, .int .u64 0, .int .u64 0] 62)).alloc (.cells (zeros n) 54)) = wv at *
      refine tplan_b rfl (fun K hK => ?_)
      go_simp
      have kE := ((((kI.set 0 (.int .i64 (n : Int))).set 1 (.slice (some ⟨w4.heap.size + 1, 0, none⟩) n n)).set 2 (.slice none 0 0)).set 3 (.int .u64 0)).set 4 (.int .u64 0)
      have bE := ((((bX.keep (Below.heap_setCell _ ⟨w4.heap.size, 0, none⟩ (.int .i64 (n : Int)) _ (by simp))).keep (Below.heap_setCell _ ⟨w4.heap.size, 1, none⟩ (.slice (some ⟨w4.heap.size + 1, 0, none⟩) n n) _ (by simp))).keep (Below.heap_setCell _ ⟨w4.heap.size, 2, none⟩ (.slice none 0 0) _ (by simp))).keep (Below.heap_setCell _ ⟨w4.heap.size, 3, none⟩ (.int .u64 0) _ (by simp))).keep (Below.heap_setCell _ ⟨w4.heap.size, 4, none⟩ (.int .u64 0) _ (by simp))
      have bbE := ((((bb.setCell (p := ⟨w4.heap.size, 0, none⟩) (by simp) (.int .i64 (n : Int))).setCell (p := ⟨w4.heap.size, 1, none⟩) (by simp) (.slice (some ⟨w4.heap.size + 1, 0, none⟩) n n)).setCell (p := ⟨w4.heap.size, 2, none⟩) (by simp) (.slice none 0 0)).setCell (p := ⟨w4.heap.size, 3, none⟩) (by simp) (.int .u64 0)).setCell (p := ⟨w4.heap.size, 4, none⟩) (by simp) (.int .u64 0)
      refine hK _ _ ⟨bbE.drew, ?_⟩
      clear hK K
      try simp only [Act.put, List.setIfInBounds_toArray, List.set_cons_zero, List.set_cons_succ]
      refine tplan_endQ ?_
      go_wp2_with fail
      go_meet
      exact ⟨w4.heap.size, w4.heap.size + 1, rfl, kE, bE, by omega, by omega, by omega, bbE.drew⟩
  case rest =>
    obtain ⟨gI, gX, rfl, kI, bX, hgI, hgX, hne, hb4⟩ := hcut
    replace k1 := k1.to hb4
    replace k2 := k2.to hb4
    have zI : w.heap.size + 1 < gI := by omega
    have zX : w.heap.size + 1 < gX := by omega
    have b4 := hb3.trans (hb4.mono hb3.size)
    clear d0 hmk l1 l2 hb3 hb4 hgI hgX
    have HC : Hid (0 < C.length → ∃ b off, AC = some ⟨b, off, none⟩ ∧ b < w.heap.size ∧ ∀ j, j < C.length → ∃ bj oj cj, w.cell? ⟨b, off + j, none⟩ = some (.slice (some ⟨bj, oj, none⟩) 2 cj) ∧ bj < w.heap.size ∧ w.cell? ⟨bj, oj, none⟩ = some (.int .i64 (cx (heldI C) j)) ∧ w.cell? ⟨bj, oj + 1, none⟩ = some (.int .i64 (cy (heldI C) j)) ∧ cx (heldI C) j < n ∧ cy (heldI C) j < n) := by
      intro h0
      obtain ⟨b, off, e, hb, hc⟩ := hC h0
      refine ⟨b, off, e, hb, fun j hj => ?_⟩
      obtain ⟨k1, k2, _, _⟩ := hc j hj
      obtain ⟨q1, q2, q3, q4, q5⟩ := ok.c2 j (by rw [heldI_len]; exact hj)
      rw [heldI_at] at q1 q2 q3
      obtain ⟨bj, oj, e2, hbj, hcj⟩ := k2 (by omega)
      rw [e2, q1] at k1
      have a0 := hcj 0 (by omega)
      have a1 := hcj 1 (by omega)
      rw [q2, Nat.add_zero] at a0
      rw [q3] at a1
      exact ⟨bj, oj, _, k1, hbj, a0, a1, by omega, q5⟩
    have HJ : Hid (0 < J.length → ∃ b off, AJ = some ⟨b, off, none⟩ ∧ b < w.heap.size ∧ ∀ j, j < J.length → ∃ bj oj cj, w.cell? ⟨b, off + j, none⟩ = some (.slice (some ⟨bj, oj, none⟩) 3 cj) ∧ bj < w.heap.size ∧ w.cell? ⟨bj, oj, none⟩ = some (.int .i64 (cx (heldI J) j)) ∧ w.cell? ⟨bj, oj + 1, none⟩ = some (.int .i64 (cy (heldI J) j)) ∧ w.cell? ⟨bj, oj + 2, none⟩ = some (.int .i64 (((heldI J).getD j []).getD 2 0)) ∧ cx (heldI J) j < n ∧ cy (heldI J) j < n) := by
      intro h0
      obtain ⟨b, off, e, hb, hc⟩ := hJ h0
      refine ⟨b, off, e, hb, fun j hj => ?_⟩
      obtain ⟨k1, k2, _, _⟩ := hc j hj
      obtain ⟨q1, q2, q3, q4, q5, _, _⟩ := ok.j3 j (by rw [heldI_len]; exact hj)
      have hj2 := heldI_at (Ls := J) (i := j)
      rw [hj2] at q1 q2 q3
      obtain ⟨bj, oj, e2, hbj, hcj⟩ := k2 (by omega)
      rw [e2, q1] at k1
      have a0 := hcj 0 (by omega)
      have a1 := hcj 1 (by omega)
      have a2 := hcj 2 (by omega)
      rw [q2, Nat.add_zero] at a0
      rw [q3] at a1
      exact ⟨bj, oj, _, k1, hbj, a0, a1, by rw [hj2]; exact a2, by omega, q5⟩
    have HF : Hid (0 < n → ∃ b off, AF = some ⟨b, off, none⟩ ∧ b < w.heap.size ∧ ∀ i, i < n → w.cell? ⟨b, off + i, none⟩ = some (.int .i64 (F.getD i 0))) := by
      intro h; rw [← HFL.out] at h ⊢; exact hF h
    have lC30 : C.length ≤ 30 := by have := ok.c30; rw [heldI_len] at this; exact this
    have lJ30 : J.length ≤ 30 := by have := ok.j30; rw [heldI_len] at this; exact this
    have lCI : (C.length : Int) ≤ 30 := by omega
    have lJI : (J.length : Int) ≤ 30 := by omega
    have n14I : (n : Int) ≤ 14 := by omega
    have OK := Lib.hid ok
    clear hC hJ hF mC mJ lC lJ lF ok
    have c1 := k1.cell 1 (v := .slice AC C.length cC) rfl
    go_wp2
    clear c1
    go_loopw [5, 22] (fun _ i wr => ∃ m : Nat, m ≤ C.length ∧ i = .int .i64 m ∧ Blk wr gI #[.int .i64 (n : Int), .slice (some ⟨gX, 0, none⟩) n n, .slice none 0 0, .int .u64 0, .int .u64 0] 62 ∧ BitBlk wr gX n (adjT (heldI C) m) ∧ Blk wr w.heap.size #[.int .i64 (n : Int), .slice AC C.length cC, .slice AJ J.length cJ, .slice AF F.length cF] 28 ∧ Blk wr (w.heap.size + 1) #[.int .i64 0, .slice none 0 0, .slice none 0 0, .int .u64 0, .int .u64 0] 62 ∧ Below w.heap.size w wr) (fun _ i _ => C.length - (intOf i).toNat)
    case atStart => exact ⟨0, Nat.zero_le _, rfl, kI, bX, k1, k2, b4⟩
    case round =>
      clear kI bX k1 k2 b4
      obtain ⟨m, hm, rfl, kI, bX, k1, k2, hb⟩ := hrel
      have hm0 : (0 : Int) ≤ (m : Int) := by omega
      have lI := kI.lt
      by_cases hlt : m < C.length
      · have hmI : (m : Int) < (C.length : Int) := by omega
        obtain ⟨b, off, rfl, hbB, hc⟩ := HC.out (by omega)
        obtain ⟨bj, oj, cj, q0, hbj, q1, q2, q3, q4⟩ := hc m hlt
        have e0 := (hb.cell (p := ⟨b, off + m, none⟩) hbB).trans q0
        have e1 := (hb.cell (p := ⟨bj, oj, none⟩) hbj).trans q1
        have e2 := (hb.cell (p := ⟨bj, oj + 1, none⟩) hbj).trans q2
        have q1' := q1
        have q2' := q2
        have hbw : b < wr.heap.size := Nat.lt_of_lt_of_le hbB hb.size
        have hbjw : bj < wr.heap.size := Nat.lt_of_lt_of_le hbj hb.size
        obtain ⟨x, hx⟩ : ∃ x, cx (heldI C) m = x := ⟨_, rfl⟩
        obtain ⟨y, hy⟩ : ∃ y, cy (heldI C) m = y := ⟨_, rfl⟩
        rw [hx] at e1 q3 q1'
        rw [hy] at e2 q4 q2'
        have HADJ : Hid (adjT (heldI C) (m + 1) = addB (addB (adjT (heldI C) m) x y) y x) := by show _ = _; rw [adjT_succ, hx, hy]
        obtain ⟨v, hv64, cv, _⟩ := bX.at_ (i := x) q3
        have bX2 := bX.set (i := x) (y := y) (v := v) q3 (by omega) cv
        obtain ⟨pY, hpY⟩ : ∃ p, 2 ^ y = p := ⟨_, rfl⟩
        obtain ⟨pX, hpX⟩ : ∃ p, 2 ^ x = p := ⟨_, rfl⟩
        have hpY64 : pY < 18446744073709551616 := by rw [← hpY]; exact pow_lt64 (by omega)
        have hpX64 : pX < 18446744073709551616 := by rw [← hpX]; exact pow_lt64 (by omega)
        have CY := Lib.hid (fun w => bitsetOf_any y (by omega) w)
        have CX := Lib.hid (fun w => bitsetOf_any x (by omega) w)
        rw [hpY] at CY bX2
        rw [hpX] at CX
        have hor := bits_or_u64_nat v pY hv64 hpY64
        have xI : (x : Int) < (n : Int) := by omega
        have yI : (y : Int) < (n : Int) := by omega
        have x0 : (0 : Int) ≤ (x : Int) := by omega
        have y0 : (0 : Int) ≤ (y : Int) := by omega
        have s1 := kI.cell 1 (v := .slice (some ⟨gX, 0, none⟩) n n) rfl
        have lX := bX.lt
        have fX := bX.frozen x
        have HX := Lib.hid hpX
        clear hc q0 q1 q2 hx hy hpY hpX bX
        generalize v ||| pY = v2 at *
        go_wp2
        refine wp_region_overB (m := 13) (.alone 13 .done) (by kernel_rfl) (by kernel_rfl) (by kernel_rfl) ?_
        simp only [List.take_succ_cons, List.take_zero]
        have hov := over_cells wr
        repeat (go_big_quiet_step ((go_at_call 67; exact overE (CY.out _))))
        refine over_nilB (fun w2 hb2 => ?_)
        clear hov
        have st1 := (hb2.cell (p := ⟨gX, x, none⟩) lX).trans cv
        have sf1 := (hb2.frozen (p := ⟨gX, x, none⟩) lX).trans fX
        refine tplan_b rfl (fun K hK => ?_)
        go_simp
        refine hK _ _ ⟨trivial, ?_⟩
        clear hK K
        try simp only [Act.put, List.setIfInBounds_toArray, List.set_cons_zero, List.set_cons_succ]
        refine tplan_end ?_
        have kI3 := (kI.to hb2).far (p := ⟨gX, x, none⟩) hne (.int .u64 (v2 : Int))
        have k13 := (k1.to hb2).far (p := ⟨gX, x, none⟩) (by simp; omega) (.int .u64 (v2 : Int))
        have k23 := (k2.to hb2).far (p := ⟨gX, x, none⟩) (by simp; omega) (.int .u64 (v2 : Int))
        have bX3 : BitBlk (w2.setCell ⟨gX, x, none⟩ (.int .u64 (v2 : Int))) gX n (addB (adjT (heldI C) m) x y) := bX2.keep (by
          have h1 := hb2.block gX lX
          rw [heap_setCell_eq, heap_setCell_eq, h1])
        have b3 := (hb.trans (hb2.mono hb.size)).setCell (p := ⟨gX, x, none⟩) (by simp; omega) (.int .u64 (v2 : Int))
        generalize (w2.setCell ⟨gX, x, none⟩ (.int .u64 (v2 : Int))) = w5 at *
        have hbw5 : b < w5.heap.size := Nat.lt_of_lt_of_le hbB b3.size
        have hbjw5 : bj < w5.heap.size := Nat.lt_of_lt_of_le hbj b3.size
        have e15 := (b3.cell (p := ⟨bj, oj, none⟩) hbj).trans q1'
        have e25 := (b3.cell (p := ⟨bj, oj + 1, none⟩) hbj).trans q2'
        have s15 := kI3.cell 1 (v := .slice (some ⟨gX, 0, none⟩) n n) rfl
        have lI5 := kI3.lt
        obtain ⟨v', hv64', cv', _⟩ := bX3.at_ (i := y) q4
        have bX4 := bX3.set (i := y) (y := x) (v := v') q4 (by omega) cv'
        rw [HX.out] at bX4
        have hor' := bits_or_u64_nat v' pX hv64' hpX64
        have lX5 := bX3.lt
        have fX5 := bX3.frozen y
        clear hor e0 e1 e2 s1 lI lX fX kI k1 k2 hb hb2 st1 sf1 cv bX2 hbw hbjw bX3
        generalize v' ||| pX = v3 at *
        go_wp2
        refine wp_region_overB (m := 13) (.alone 13 .done) (by kernel_rfl) (by kernel_rfl) (by kernel_rfl) ?_
        simp only [List.take_succ_cons, List.take_zero]
        have hov := over_cells w5
        repeat (go_big_quiet_step ((go_at_call 67; exact overE (CX.out _))))
        refine over_nilB (fun w2 hb2 => ?_)
        clear hov
        have st1 := (hb2.cell (p := ⟨gX, y, none⟩) lX5).trans cv'
        have sf1 := (hb2.frozen (p := ⟨gX, y, none⟩) lX5).trans fX5
        refine tplan_b rfl (fun K hK => ?_)
        go_simp
        refine hK _ _ ⟨trivial, ?_⟩
        clear hK K
        try simp only [Act.put, List.setIfInBounds_toArray, List.set_cons_zero, List.set_cons_succ]
        refine tplan_end ?_
        have kI6 := (kI3.to hb2).far (p := ⟨gX, y, none⟩) hne (.int .u64 (v3 : Int))
        have k16 := (k13.to hb2).far (p := ⟨gX, y, none⟩) (by simp; omega) (.int .u64 (v3 : Int))
        have k26 := (k23.to hb2).far (p := ⟨gX, y, none⟩) (by simp; omega) (.int .u64 (v3 : Int))
        have bX6 : BitBlk (w2.setCell ⟨gX, y, none⟩ (.int .u64 (v3 : Int))) gX n (adjT (heldI C) (m + 1)) := by
          rw [HADJ.out]
          exact bX4.keep (by
            have h1 := hb2.block gX lX5
            rw [heap_setCell_eq, heap_setCell_eq, h1])
        have b6 := (b3.trans (hb2.mono b3.size)).setCell (p := ⟨gX, y, none⟩) (by simp; omega) (.int .u64 (v3 : Int))
        clear hor' s15 lI5 e15 e25 hb2 st1 sf1 kI3 k13 k23 b3 bX4
        go_wp2
        go_roundw
        case rel => exact ⟨m + 1, by omega, by go_num, kI6, bX6, k16, k26, b6⟩
        case measure => simp [intOf]; omega
      · obtain rfl : m = C.length := by omega
        have c2 := k1.cell 2 (v := .slice AJ J.length cJ) rfl
        have l1 := k1.lt
        clear HC
        go_wp2
        clear c2 l1
        have b7 := hb
        go_loopw [7, 56] (fun _ i wr => ∃ (m : Nat) (jv : Value), m ≤ J.length ∧ i = .int .i64 m ∧ Blk wr gI #[.int .i64 (n : Int), .slice (some ⟨gX, 0, none⟩) n n, jv, .int .u64 0, .int .u64 0] 62 ∧ OwnT wr w.heap.size jv (jtsTo (heldI J) m) ∧ Hid (jv.ownBlock ≠ some gI ∧ jv.ownBlock ≠ some gX ∧ jv.ownBlock ≠ some w.heap.size ∧ jv.ownBlock ≠ some (w.heap.size + 1)) ∧ BitBlk wr gX n (adjT (heldI C) C.length) ∧ Blk wr w.heap.size #[.int .i64 (n : Int), .slice AC C.length cC, .slice AJ J.length cJ, .slice AF F.length cF] 28 ∧ Blk wr (w.heap.size + 1) #[.int .i64 0, .slice none 0 0, .slice none 0 0, .int .u64 0, .int .u64 0] 62 ∧ Below w.heap.size w wr) (fun _ i _ => J.length - (intOf i).toNat)
        case atStart => exact ⟨0, .slice none 0 0, Nat.zero_le _, rfl, kI, OwnT.nil_ _ _, ⟨fun h => (by cases h), fun h => (by cases h), fun h => (by cases h), fun h => (by cases h)⟩, bX, k1, k2, b7⟩
        case round =>
          clear kI bX k1 k2 hb b7 lI
          obtain ⟨m, jv, hm, rfl, kI, hO, HOB, bX, k1, k2, hb⟩ := hrel
          have hm0 : (0 : Int) ≤ (m : Int) := by omega
          have lI := kI.lt
          by_cases hlt : m < J.length
          · have hmI : (m : Int) < (J.length : Int) := by omega
            obtain ⟨b, off, rfl, hbB, hc⟩ := HJ.out (by omega)
            obtain ⟨bj, oj, cj, q0, hbj, q1, q2, qc, q3, q4⟩ := hc m hlt
            have e0 := (hb.cell (p := ⟨b, off + m, none⟩) hbB).trans q0
            have e1 := (hb.cell (p := ⟨bj, oj, none⟩) hbj).trans q1
            have e2 := (hb.cell (p := ⟨bj, oj + 1, none⟩) hbj).trans q2
            have e3 := (hb.cell (p := ⟨bj, oj + 2, none⟩) hbj).trans qc
            have hbw : b < wr.heap.size := Nat.lt_of_lt_of_le hbB hb.size
            have hbjw : bj < wr.heap.size := Nat.lt_of_lt_of_le hbj hb.size
            obtain ⟨x, hx⟩ : ∃ x, cx (heldI J) m = x := ⟨_, rfl⟩
            obtain ⟨y, hy⟩ : ∃ y, cy (heldI J) m = y := ⟨_, rfl⟩
            obtain ⟨z, hz⟩ : ∃ z, ((heldI J).getD m []).getD 2 0 = z := ⟨_, rfl⟩
            rw [hx] at e1 q3
            rw [hy] at e2 q4
            rw [hz] at e3
            obtain ⟨pY, hpY⟩ : ∃ p, 2 ^ y = p := ⟨_, rfl⟩
            obtain ⟨pX, hpX⟩ : ∃ p, 2 ^ x = p := ⟨_, rfl⟩
            have hpY64 : pY < 18446744073709551616 := by rw [← hpY]; exact pow_lt64 (by omega)
            have hpX64 : pX < 18446744073709551616 := by rw [← hpX]; exact pow_lt64 (by omega)
            have CY := Lib.hid (fun w => bitsetOf_any y (by omega) w)
            have CX := Lib.hid (fun w => bitsetOf_any x (by omega) w)
            rw [hpY] at CY
            rw [hpX] at CX
            have hor := bits_or_u64_nat pX pY hpX64 hpY64
            have HJT : Hid (jtsTo (heldI J) (m + 1) = jtsTo (heldI J) m ++ [(((pX ||| pY : Nat) : Int), z)]) := by
              show _ = _
              unfold jtsTo
              rw [List.range_succ, List.map_append]
              simp only [List.map_cons, List.map_nil, jtOf, hx, hy, hz, hpX, hpY]
            have s2 := kI.cell 2 (v := jv) rfl
            clear hc q0 q1 q2 qc hx hy hz hpY hpX
            generalize pX ||| pY = pp at *
            have xI : (x : Int) < 14 := by omega
            have hLen : (jtsTo (heldI J) m).length ≤ 4000000 := by unfold jtsTo; simp; omega
            have FIN : Hid (∀ (wA : World) (jv' : Value) (w6 : World), wA = wr.drew.alloc (.cells #[.int .u64 (pp : Int), .int .i64 z] 95) → OwnT w6 w.heap.size jv' (jtsTo (heldI J) m ++ [((pp : Int), z)]) → wA.grownBy w6 jv.ownBlock → (jv'.ownBlock = jv.ownBlock ∨ jv'.ownBlock = some wA.heap.size) →
                (w6.cell? ⟨bj, oj, none⟩ = some (.int .i64 (x : Int)) ∧ w6.cell? ⟨bj, oj + 1, none⟩ = some (.int .i64 (y : Int)) ∧ w6.cell? ⟨bj, oj + 2, none⟩ = some (.int .i64 z)) ∧ Blk w6 gI #[.int .i64 (n : Int), .slice (some ⟨gX, 0, none⟩) n n, jv, .int .u64 0, .int .u64 0] 62 ∧ BitBlk w6 gX n (adjT (heldI C) C.length) ∧ Blk w6 w.heap.size #[.int .i64 (n : Int), .slice AC C.length cC, .slice (some ⟨b, off, none⟩) J.length cJ, .slice AF F.length cF] 28 ∧ Blk w6 (w.heap.size + 1) #[.int .i64 0, .slice none 0 0, .slice none 0 0, .int .u64 0, .int .u64 0] 62 ∧ Below w.heap.size w w6 ∧ (jv'.ownBlock ≠ some gI ∧ jv'.ownBlock ≠ some gX ∧ jv'.ownBlock ≠ some w.heap.size ∧ jv'.ownBlock ≠ some (w.heap.size + 1))) := by
              rintro wA jv' w6 rfl hO6 hgrow howb
              have bA : Below wr.heap.size wr (wr.drew.alloc (.cells #[.int .u64 (pp : Int), .int .i64 z] 95)) := (Below.refl _ _).drew.alloc (Nat.le_refl _) _
              have hOA := hO.to bA
              have hsz : (wr.drew.alloc (.cells #[.int .u64 (pp : Int), .int .i64 z] 95)).heap.size = wr.heap.size + 1 := by rw [World.size_alloc]; rfl
              obtain ⟨o1, o2, o3, o4⟩ := HOB.out
              have blk : ∀ k, k < wr.heap.size → jv.ownBlock ≠ some k → w6.heap[k]? = wr.heap[k]? := fun k hk ho => (hgrow.block k (by rw [hsz]; omega) (Ne.symm ho)).trans (bA.block k hk)
              have hlow : jv.ownBlock ≠ some bj := fun e => by
                have := (World.ownsRow.lt hOA bj e).1
                omega
              have lX := bX.lt
              have l1 := k1.lt
              have l2 := k2.lt
              refine ⟨⟨(World.cell?_of_block (a := ⟨bj, oj, none⟩) (blk bj hbjw hlow)).trans e1, (World.cell?_of_block (a := ⟨bj, oj + 1, none⟩) (blk bj hbjw hlow)).trans e2, (World.cell?_of_block (a := ⟨bj, oj + 2, none⟩) (blk bj hbjw hlow)).trans e3⟩, kI.keep (blk gI lI o1), bX.keep (blk gX lX o2), k1.keep (blk _ l1 o3), k2.keep (blk _ l2 o4), ?_, ?_⟩
              · exact Below.grown (hb.trans (bA.mono hb.size)) hgrow (by rw [hsz]; have := hb.size; omega) (fun k e => (World.ownsRow.lt hOA k e).1)
              · rw [hsz] at howb
                rcases howb with h | h
                · rw [h]; exact ⟨o1, o2, o3, o4⟩
                · rw [h]; exact ⟨fun e => (by injection e with e; omega), fun e => (by injection e with e; omega), fun e => (by injection e with e; omega), fun e => (by injection e with e; omega)⟩
            go_wp2
            refine (wpIn_wide (n := 3)).1 (wpIn_region_tree (fun wx => wx.cell? ⟨bj, oj, none⟩ = some (.int .i64 (x : Int)) ∧ wx.cell? ⟨bj, oj + 1, none⟩ = some (.int .i64 (y : Int)) ∧ wx.cell? ⟨bj, oj + 2, none⟩ = some (.int .i64 z)) (Pl.takes [0, 2, 3, 4, 6, 7, 8, 11, 12, 13] (.fork 1 (.alone 5 (.alone 9 (Pl.takes [10, 14] (.alone 15 (.alone 16 (.take 17 (.alone 18 .done))))))) 5 (.fork 1 (.alone 9 (Pl.takes [10, 14] (.alone 15 (.alone 16 (.take 17 (.alone 18 .done)))))) 9 (Pl.takes [10, 14] (.fork 1 (.alone 15 (.alone 16 (.take 17 (.alone 18 .done)))) 15 (.alone 1 (.alone 16 (.take 17 (.alone 18 .done))))))))) (by kernel_rfl) (by kernel_rfl) (by kernel_rfl) ⟨e1, e2, e3⟩ (fun hS0 => ?_))
            refine tplan_w (v := ?_) rfl (by rfl) ?_ ?_
            rotate_left
            · intro wx hSx
              try dsimp only at hSx
              go_simp
              try (with_reducible rfl)
            try simp only [Act.put, List.setIfInBounds_toArray, List.set_cons_zero, List.set_cons_succ]
            refine tplan_w (v := ?_) rfl (by rfl) ?_ ?_
            rotate_left
            · intro wx hSx
              try dsimp only at hSx
              go_simp
              try (with_reducible rfl)
            try simp only [Act.put, List.setIfInBounds_toArray, List.set_cons_zero, List.set_cons_succ]
            refine tplan_w (v := ?_) rfl (by rfl) ?_ ?_
            rotate_left
            · intro wx hSx
              try dsimp only at hSx
              go_simp
              try (with_reducible rfl)
            try simp only [Act.put, List.setIfInBounds_toArray, List.set_cons_zero, List.set_cons_succ]
            refine tplan_w (v := ?_) rfl (by rfl) ?_ ?_
            rotate_left
            · intro wx hSx
              try dsimp only at hSx
              go_simp
              try (with_reducible rfl)
            try simp only [Act.put, List.setIfInBounds_toArray, List.set_cons_zero, List.set_cons_succ]
            refine tplan_w (v := ?_) rfl (by rfl) ?_ ?_
            rotate_left
            · intro wx hSx
              try dsimp only at hSx
              go_simp
              try (with_reducible rfl)
            try simp only [Act.put, List.setIfInBounds_toArray, List.set_cons_zero, List.set_cons_succ]
            refine tplan_w (v := ?_) rfl (by rfl) ?_ ?_
            rotate_left
            · intro wx hSx
              try dsimp only at hSx
              go_simp
              try (with_reducible rfl)
            try simp only [Act.put, List.setIfInBounds_toArray, List.set_cons_zero, List.set_cons_succ]
            refine tplan_w (v := ?_) rfl (by rfl) ?_ ?_
            rotate_left
            · intro wx hSx
              try dsimp only at hSx
              go_simp
              try (with_reducible rfl)
            try simp only [Act.put, List.setIfInBounds_toArray, List.set_cons_zero, List.set_cons_succ]
            refine tplan_w (v := ?_) rfl (by rfl) ?_ ?_
            rotate_left
            · intro wx hSx
              try dsimp only at hSx
              go_simp
              try (with_reducible rfl)
            try simp only [Act.put, List.setIfInBounds_toArray, List.set_cons_zero, List.set_cons_succ]
            refine tplan_w (v := ?_) rfl (by rfl) ?_ ?_
            rotate_left
            · intro wx hSx
              try dsimp only at hSx
              go_simp
              try (with_reducible rfl)
            try simp only [Act.put, List.setIfInBounds_toArray, List.set_cons_zero, List.set_cons_succ]
            refine tplan_w (v := ?_) rfl (by rfl) ?_ ?_
            rotate_left
            · intro wx hSx
              try dsimp only at hSx
              go_simp
              try (with_reducible rfl)
            try simp only [Act.put, List.setIfInBounds_toArray, List.set_cons_zero, List.set_cons_succ]
            have hS := hS0
            refine tplan_fork ?_ ?_
            · skip
              refine tplan_b rfl (fun K hK => ?_)
              have s2a : wr.drew.cell? ⟨gI, 2, none⟩ = some jv := s2
              go_simp
              refine hK _ _ ⟨hS, ?_⟩
              clear hK K s2a
              try simp only [Act.put, List.setIfInBounds_toArray, List.set_cons_zero, List.set_cons_succ]
              refine tplan_b rfl (fun K hK => ?_)
              go_simp
              refine (CX.out _).mono ?_
              rintro e w2 ⟨rfl, rfl⟩
              refine hK _ _ ⟨hS, ?_⟩
              clear hK K
              try simp only [Act.put, List.setIfInBounds_toArray, List.set_cons_zero, List.set_cons_succ]
              refine tplan_b rfl (fun K hK => ?_)
              go_simp
              refine (CY.out _).mono ?_
              rintro e w2 ⟨rfl, rfl⟩
              refine hK _ _ ⟨hS, ?_⟩
              clear hK K
              try simp only [Act.put, List.setIfInBounds_toArray, List.set_cons_zero, List.set_cons_succ]
              refine tplan_w (v := ?_) rfl (by rfl) ?_ ?_
              rotate_left
              · intro wx hSx
                try dsimp only at hSx
                go_simp
                try (with_reducible rfl)
              try simp only [Act.put, List.setIfInBounds_toArray, List.set_cons_zero, List.set_cons_succ]
              refine tplan_w (v := ?_) rfl (by rfl) ?_ ?_
              rotate_left
              · intro wx hSx
                try dsimp only at hSx
                go_simp
                try (with_reducible rfl)
              try simp only [Act.put, List.setIfInBounds_toArray, List.set_cons_zero, List.set_cons_succ]
              refine tplan_b rfl (fun K hK => ?_)
              go_simp
              replace hS : (fun wx : World => wx.cell? ⟨bj, oj, none⟩ = some (.int .i64 (x : Int)) ∧ wx.cell? ⟨bj, oj + 1, none⟩ = some (.int .i64 (y : Int)) ∧ wx.cell? ⟨bj, oj + 2, none⟩ = some (.int .i64 z)) (wr.drew.alloc (.cells #[.int .u64 (pp : Int), .int .i64 z] 95)) := ⟨Lib.cell?_alloc_some _ hS.1, Lib.cell?_alloc_some _ hS.2.1, Lib.cell?_alloc_some _ hS.2.2⟩
              refine hK _ _ ⟨hS, ?_⟩
              clear hK K
              try simp only [Act.put, List.setIfInBounds_toArray, List.set_cons_zero, List.set_cons_succ]
              have hgA : Blk (wr.drew.alloc (.cells #[.int .u64 (pp : Int), .int .i64 z] 95)) wr.heap.size #[.int .u64 (pp : Int), .int .i64 z] 95 := Blk.new wr.drew _ _
              have bA : Below wr.heap.size wr (wr.drew.alloc (.cells #[.int .u64 (pp : Int), .int .i64 z] 95)) := (Below.refl _ _).drew.alloc (Nat.le_refl _) _
              refine tplan_b rfl (fun K hK => ?_)
              refine step_append_jt (by rfl) (.tmp 61) (.tmp 75) (by rfl) w.heap.size jv (jtsTo (heldI J) m) (pp : Int) z wr.heap.size (by rfl) (hO.to bA) (by rfl) hgA hLen (Nat.le_trans hb.size bA.size) ?_
              intro jv' w6 hO6 hgrow howb
              obtain ⟨⟨f1, f2, f3⟩, kI6, bX6, k16, k26, b6, hob6⟩ := FIN.out _ _ _ rfl hO6 hgrow howb
              obtain ⟨A6, c6, hv6, _, _⟩ := hO6.pts
              obtain ⟨q6, hq6⟩ : ∃ q, (jtsTo (heldI J) m ++ [((pp : Int), z)]).length = q := ⟨_, rfl⟩
              rw [hq6] at hv6
              clear hq6
              subst hv6
              refine hK _ _ ⟨⟨f1, f2, f3⟩, ?_⟩
              clear hK K hgrow howb hgA bA
              try simp only [Act.put, List.setIfInBounds_toArray, List.set_cons_zero, List.set_cons_succ]
              refine tplan_w (v := ?_) rfl (by rfl) ?_ ?_
              rotate_left
              · intro wx hSx
                try dsimp only at hSx
                go_simp
                try (with_reducible rfl)
              try simp only [Act.put, List.setIfInBounds_toArray, List.set_cons_zero, List.set_cons_succ]
              have i2 := kI6.cell 2 (v := jv) rfl
              have iF := kI6.frozen 2
              have kI7 := kI6.set 2 (.slice A6 q6 c6)
              have g5 : ∀ (b o : Nat), b ≠ gI → (w6.setCell ⟨gI, 2, none⟩ (.slice A6 q6 c6)).cell? ⟨b, o, none⟩ = w6.cell? ⟨b, o, none⟩ := fun b o h => World.cell?_of_block (a := ⟨b, o, none⟩) (Below.heap_setCell w6 _ _ _ h)
              have hO7 : OwnT (w6.setCell ⟨gI, 2, none⟩ (.slice A6 q6 c6)) w.heap.size (.slice A6 q6 c6) (jtsTo (heldI J) (m + 1)) := by rw [HJT.out]; exact OwnT.apart hO6 hob6.1
              have bX7 := bX6.keep (Below.heap_setCell w6 ⟨gI, 2, none⟩ (.slice A6 q6 c6) gX (Ne.symm hne))
              have k17 := k16.far (p := ⟨gI, 2, none⟩) (by simp; omega) (.slice A6 q6 c6)
              have k27 := k26.far (p := ⟨gI, 2, none⟩) (by simp; omega) (.slice A6 q6 c6)
              have b7 := b6.setCell (p := ⟨gI, 2, none⟩) (by simp; omega) (.slice A6 q6 c6)
              refine tplan_b rfl (fun K hK => ?_)
              go_simp
              refine hK _ _ ⟨⟨(g5 _ _ (by omega)).trans f1, (g5 _ _ (by omega)).trans f2, (g5 _ _ (by omega)).trans f3⟩, ?_⟩
              clear hK K
              try simp only [Act.put, List.setIfInBounds_toArray, List.set_cons_zero, List.set_cons_succ]
              refine tplan_end ?_
              skip
              clear i2 iF g5 f1 f2 f3 hO6 kI6 bX6 k16 k26 b6 hS0 hS FIN
              skip
              go_wp2
              go_roundw
              case rel => exact ⟨m + 1, _, by omega, by go_num, kI7, hO7, hob6, bX7, k17, k27, b7⟩
              case measure => simp [intOf]; omega
            · skip
              refine tplan_b rfl (fun K hK => ?_)
              go_simp
              refine (CX.out _).mono ?_
              rintro e w2 ⟨rfl, rfl⟩
              refine hK _ _ ⟨hS, ?_⟩
              clear hK K
              try simp only [Act.put, List.setIfInBounds_toArray, List.set_cons_zero, List.set_cons_succ]
              refine tplan_fork ?_ ?_
              · skip
                refine tplan_b rfl (fun K hK => ?_)
                have s2a : wr.drew.cell? ⟨gI, 2, none⟩ = some jv := s2
                go_simp
                refine hK _ _ ⟨hS, ?_⟩
                clear hK K s2a
                try simp only [Act.put, List.setIfInBounds_toArray, List.set_cons_zero, List.set_cons_succ]
                refine tplan_b rfl (fun K hK => ?_)
                go_simp
                refine (CY.out _).mono ?_
                rintro e w2 ⟨rfl, rfl⟩
                refine hK _ _ ⟨hS, ?_⟩
                clear hK K
                try simp only [Act.put, List.setIfInBounds_toArray, List.set_cons_zero, List.set_cons_succ]
                refine tplan_w (v := ?_) rfl (by rfl) ?_ ?_
                rotate_left
                · intro wx hSx
                  try dsimp only at hSx
                  go_simp
                  try (with_reducible rfl)
                try simp only [Act.put, List.setIfInBounds_toArray, List.set_cons_zero, List.set_cons_succ]
                refine tplan_w (v := ?_) rfl (by rfl) ?_ ?_
                rotate_left
                · intro wx hSx
                  try dsimp only at hSx
                  go_simp
                  try (with_reducible rfl)
                try simp only [Act.put, List.setIfInBounds_toArray, List.set_cons_zero, List.set_cons_succ]
                refine tplan_b rfl (fun K hK => ?_)
                go_simp
                replace hS : (fun wx : World => wx.cell? ⟨bj, oj, none⟩ = some (.int .i64 (x : Int)) ∧ wx.cell? ⟨bj, oj + 1, none⟩ = some (.int .i64 (y : Int)) ∧ wx.cell? ⟨bj, oj + 2, none⟩ = some (.int .i64 z)) (wr.drew.alloc (.cells #[.int .u64 (pp : Int), .int .i64 z] 95)) := ⟨Lib.cell?_alloc_some _ hS.1, Lib.cell?_alloc_some _ hS.2.1, Lib.cell?_alloc_some _ hS.2.2⟩
                refine hK _ _ ⟨hS, ?_⟩
                clear hK K
                try simp only [Act.put, List.setIfInBounds_toArray, List.set_cons_zero, List.set_cons_succ]
                have hgA : Blk (wr.drew.alloc (.cells #[.int .u64 (pp : Int), .int .i64 z] 95)) wr.heap.size #[.int .u64 (pp : Int), .int .i64 z] 95 := Blk.new wr.drew _ _
                have bA : Below wr.heap.size wr (wr.drew.alloc (.cells #[.int .u64 (pp : Int), .int .i64 z] 95)) := (Below.refl _ _).drew.alloc (Nat.le_refl _) _
                refine tplan_b rfl (fun K hK => ?_)
                refine step_append_jt (by rfl) (.tmp 61) (.tmp 75) (by rfl) w.heap.size jv (jtsTo (heldI J) m) (pp : Int) z wr.heap.size (by rfl) (hO.to bA) (by rfl) hgA hLen (Nat.le_trans hb.size bA.size) ?_
                intro jv' w6 hO6 hgrow howb
                obtain ⟨⟨f1, f2, f3⟩, kI6, bX6, k16, k26, b6, hob6⟩ := FIN.out _ _ _ rfl hO6 hgrow howb
                obtain ⟨A6, c6, hv6, _, _⟩ := hO6.pts
                obtain ⟨q6, hq6⟩ : ∃ q, (jtsTo (heldI J) m ++ [((pp : Int), z)]).length = q := ⟨_, rfl⟩
                rw [hq6] at hv6
                clear hq6
                subst hv6
                refine hK _ _ ⟨⟨f1, f2, f3⟩, ?_⟩
                clear hK K hgrow howb hgA bA
                try simp only [Act.put, List.setIfInBounds_toArray, List.set_cons_zero, List.set_cons_succ]
                refine tplan_w (v := ?_) rfl (by rfl) ?_ ?_
                rotate_left
                · intro wx hSx
                  try dsimp only at hSx
                  go_simp
                  try (with_reducible rfl)
                try simp only [Act.put, List.setIfInBounds_toArray, List.set_cons_zero, List.set_cons_succ]
                have i2 := kI6.cell 2 (v := jv) rfl
                have iF := kI6.frozen 2
                have kI7 := kI6.set 2 (.slice A6 q6 c6)
                have g5 : ∀ (b o : Nat), b ≠ gI → (w6.setCell ⟨gI, 2, none⟩ (.slice A6 q6 c6)).cell? ⟨b, o, none⟩ = w6.cell? ⟨b, o, none⟩ := fun b o h => World.cell?_of_block (a := ⟨b, o, none⟩) (Below.heap_setCell w6 _ _ _ h)
                have hO7 : OwnT (w6.setCell ⟨gI, 2, none⟩ (.slice A6 q6 c6)) w.heap.size (.slice A6 q6 c6) (jtsTo (heldI J) (m + 1)) := by rw [HJT.out]; exact OwnT.apart hO6 hob6.1
                have bX7 := bX6.keep (Below.heap_setCell w6 ⟨gI, 2, none⟩ (.slice A6 q6 c6) gX (Ne.symm hne))
                have k17 := k16.far (p := ⟨gI, 2, none⟩) (by simp; omega) (.slice A6 q6 c6)
                have k27 := k26.far (p := ⟨gI, 2, none⟩) (by simp; omega) (.slice A6 q6 c6)
                have b7 := b6.setCell (p := ⟨gI, 2, none⟩) (by simp; omega) (.slice A6 q6 c6)
                refine tplan_b rfl (fun K hK => ?_)
                go_simp
                refine hK _ _ ⟨⟨(g5 _ _ (by omega)).trans f1, (g5 _ _ (by omega)).trans f2, (g5 _ _ (by omega)).trans f3⟩, ?_⟩
                clear hK K
                try simp only [Act.put, List.setIfInBounds_toArray, List.set_cons_zero, List.set_cons_succ]
                refine tplan_end ?_
                skip
                clear i2 iF g5 f1 f2 f3 hO6 kI6 bX6 k16 k26 b6 hS0 hS FIN
                skip
                go_wp2
                go_roundw
                case rel => exact ⟨m + 1, _, by omega, by go_num, kI7, hO7, hob6, bX7, k17, k27, b7⟩
                case measure => simp [intOf]; omega
              · skip
                refine tplan_b rfl (fun K hK => ?_)
                go_simp
                refine (CY.out _).mono ?_
                rintro e w2 ⟨rfl, rfl⟩
                refine hK _ _ ⟨hS, ?_⟩
                clear hK K
                try simp only [Act.put, List.setIfInBounds_toArray, List.set_cons_zero, List.set_cons_succ]
                refine tplan_w (v := ?_) rfl (by rfl) ?_ ?_
                rotate_left
                · intro wx hSx
                  try dsimp only at hSx
                  go_simp
                  try (with_reducible rfl)
                try simp only [Act.put, List.setIfInBounds_toArray, List.set_cons_zero, List.set_cons_succ]
                refine tplan_w (v := ?_) rfl (by rfl) ?_ ?_
                rotate_left
                · intro wx hSx
                  try dsimp only at hSx
                  go_simp
                  try (with_reducible rfl)
                try simp only [Act.put, List.setIfInBounds_toArray, List.set_cons_zero, List.set_cons_succ]
                refine tplan_fork ?_ ?_
                · skip
                  refine tplan_b rfl (fun K hK => ?_)
                  have s2a : wr.drew.cell? ⟨gI, 2, none⟩ = some jv := s2
                  go_simp
                  refine hK _ _ ⟨hS, ?_⟩
                  clear hK K s2a
                  try simp only [Act.put, List.setIfInBounds_toArray, List.set_cons_zero, List.set_cons_succ]
                  refine tplan_b rfl (fun K hK => ?_)
                  go_simp
                  replace hS : (fun wx : World => wx.cell? ⟨bj, oj, none⟩ = some (.int .i64 (x : Int)) ∧ wx.cell? ⟨bj, oj + 1, none⟩ = some (.int .i64 (y : Int)) ∧ wx.cell? ⟨bj, oj + 2, none⟩ = some (.int .i64 z)) (wr.drew.alloc (.cells #[.int .u64 (pp : Int), .int .i64 z] 95)) := ⟨Lib.cell?_alloc_some _ hS.1, Lib.cell?_alloc_some _ hS.2.1, Lib.cell?_alloc_some _ hS.2.2⟩
                  refine hK _ _ ⟨hS, ?_⟩
                  clear hK K
                  try simp only [Act.put, List.setIfInBounds_toArray, List.set_cons_zero, List.set_cons_succ]
                  have hgA : Blk (wr.drew.alloc (.cells #[.int .u64 (pp : Int), .int .i64 z] 95)) wr.heap.size #[.int .u64 (pp : Int), .int .i64 z] 95 := Blk.new wr.drew _ _
                  have bA : Below wr.heap.size wr (wr.drew.alloc (.cells #[.int .u64 (pp : Int), .int .i64 z] 95)) := (Below.refl _ _).drew.alloc (Nat.le_refl _) _
                  refine tplan_b rfl (fun K hK => ?_)
                  refine step_append_jt (by rfl) (.tmp 61) (.tmp 75) (by rfl) w.heap.size jv (jtsTo (heldI J) m) (pp : Int) z wr.heap.size (by rfl) (hO.to bA) (by rfl) hgA hLen (Nat.le_trans hb.size bA.size) ?_
                  intro jv' w6 hO6 hgrow howb
                  obtain ⟨⟨f1, f2, f3⟩, kI6, bX6, k16, k26, b6, hob6⟩ := FIN.out _ _ _ rfl hO6 hgrow howb
                  obtain ⟨A6, c6, hv6, _, _⟩ := hO6.pts
                  obtain ⟨q6, hq6⟩ : ∃ q, (jtsTo (heldI J) m ++ [((pp : Int), z)]).length = q := ⟨_, rfl⟩
                  rw [hq6] at hv6
                  clear hq6
                  subst hv6
                  refine hK _ _ ⟨⟨f1, f2, f3⟩, ?_⟩
                  clear hK K hgrow howb hgA bA
                  try simp only [Act.put, List.setIfInBounds_toArray, List.set_cons_zero, List.set_cons_succ]
                  refine tplan_w (v := ?_) rfl (by rfl) ?_ ?_
                  rotate_left
                  · intro wx hSx
                    try dsimp only at hSx
                    go_simp
                    try (with_reducible rfl)
                  try simp only [Act.put, List.setIfInBounds_toArray, List.set_cons_zero, List.set_cons_succ]
                  have i2 := kI6.cell 2 (v := jv) rfl
                  have iF := kI6.frozen 2
                  have kI7 := kI6.set 2 (.slice A6 q6 c6)
                  have g5 : ∀ (b o : Nat), b ≠ gI → (w6.setCell ⟨gI, 2, none⟩ (.slice A6 q6 c6)).cell? ⟨b, o, none⟩ = w6.cell? ⟨b, o, none⟩ := fun b o h => World.cell?_of_block (a := ⟨b, o, none⟩) (Below.heap_setCell w6 _ _ _ h)
                  have hO7 : OwnT (w6.setCell ⟨gI, 2, none⟩ (.slice A6 q6 c6)) w.heap.size (.slice A6 q6 c6) (jtsTo (heldI J) (m + 1)) := by rw [HJT.out]; exact OwnT.apart hO6 hob6.1
                  have bX7 := bX6.keep (Below.heap_setCell w6 ⟨gI, 2, none⟩ (.slice A6 q6 c6) gX (Ne.symm hne))
                  have k17 := k16.far (p := ⟨gI, 2, none⟩) (by simp; omega) (.slice A6 q6 c6)
                  have k27 := k26.far (p := ⟨gI, 2, none⟩) (by simp; omega) (.slice A6 q6 c6)
                  have b7 := b6.setCell (p := ⟨gI, 2, none⟩) (by simp; omega) (.slice A6 q6 c6)
                  refine tplan_b rfl (fun K hK => ?_)
                  go_simp
                  refine hK _ _ ⟨⟨(g5 _ _ (by omega)).trans f1, (g5 _ _ (by omega)).trans f2, (g5 _ _ (by omega)).trans f3⟩, ?_⟩
                  clear hK K
                  try simp only [Act.put, List.setIfInBounds_toArray, List.set_cons_zero, List.set_cons_succ]
                  refine tplan_end ?_
                  skip
                  clear i2 iF g5 f1 f2 f3 hO6 kI6 bX6 k16 k26 b6 hS0 hS FIN
                  skip
                  go_wp2
                  go_roundw
                  case rel => exact ⟨m + 1, _, by omega, by go_num, kI7, hO7, hob6, bX7, k17, k27, b7⟩
                  case measure => simp [intOf]; omega
                · skip
                  refine tplan_b rfl (fun K hK => ?_)
                  go_simp
                  replace hS : (fun wx : World => wx.cell? ⟨bj, oj, none⟩ = some (.int .i64 (x : Int)) ∧ wx.cell? ⟨bj, oj + 1, none⟩ = some (.int .i64 (y : Int)) ∧ wx.cell? ⟨bj, oj + 2, none⟩ = some (.int .i64 z)) (wr.drew.alloc (.cells #[.int .u64 (pp : Int), .int .i64 z] 95)) := ⟨Lib.cell?_alloc_some _ hS.1, Lib.cell?_alloc_some _ hS.2.1, Lib.cell?_alloc_some _ hS.2.2⟩
                  refine hK _ _ ⟨hS, ?_⟩
                  clear hK K
                  try simp only [Act.put, List.setIfInBounds_toArray, List.set_cons_zero, List.set_cons_succ]
                  refine tplan_b rfl (fun K hK => ?_)
                  have s2a := Lib.cell?_alloc_some (.cells #[.int .u64 (pp : Int), .int .i64 z] 95) (show wr.drew.cell? ⟨gI, 2, none⟩ = some jv from s2)
                  go_simp
                  refine hK _ _ ⟨hS, ?_⟩
                  clear hK K s2a
                  try simp only [Act.put, List.setIfInBounds_toArray, List.set_cons_zero, List.set_cons_succ]
                  have hgA : Blk (wr.drew.alloc (.cells #[.int .u64 (pp : Int), .int .i64 z] 95)) wr.heap.size #[.int .u64 (pp : Int), .int .i64 z] 95 := Blk.new wr.drew _ _
                  have bA : Below wr.heap.size wr (wr.drew.alloc (.cells #[.int .u64 (pp : Int), .int .i64 z] 95)) := (Below.refl _ _).drew.alloc (Nat.le_refl _) _
                  refine tplan_b rfl (fun K hK => ?_)
                  refine step_append_jt (by rfl) (.tmp 61) (.tmp 75) (by rfl) w.heap.size jv (jtsTo (heldI J) m) (pp : Int) z wr.heap.size (by rfl) (hO.to bA) (by rfl) hgA hLen (Nat.le_trans hb.size bA.size) ?_
                  intro jv' w6 hO6 hgrow howb
                  obtain ⟨⟨f1, f2, f3⟩, kI6, bX6, k16, k26, b6, hob6⟩ := FIN.out _ _ _ rfl hO6 hgrow howb
                  obtain ⟨A6, c6, hv6, _, _⟩ := hO6.pts
                  obtain ⟨q6, hq6⟩ : ∃ q, (jtsTo (heldI J) m ++ [((pp : Int), z)]).length = q := ⟨_, rfl⟩
                  rw [hq6] at hv6
                  clear hq6
                  subst hv6
                  refine hK _ _ ⟨⟨f1, f2, f3⟩, ?_⟩
                  clear hK K hgrow howb hgA bA
                  try simp only [Act.put, List.setIfInBounds_toArray, List.set_cons_zero, List.set_cons_succ]
                  refine tplan_w (v := ?_) rfl (by rfl) ?_ ?_
                  rotate_left
                  · intro wx hSx
                    try dsimp only at hSx
                    go_simp
                    try (with_reducible rfl)
                  try simp only [Act.put, List.setIfInBounds_toArray, List.set_cons_zero, List.set_cons_succ]
                  have i2 := kI6.cell 2 (v := jv) rfl
                  have iF := kI6.frozen 2
                  have kI7 := kI6.set 2 (.slice A6 q6 c6)
                  have g5 : ∀ (b o : Nat), b ≠ gI → (w6.setCell ⟨gI, 2, none⟩ (.slice A6 q6 c6)).cell? ⟨b, o, none⟩ = w6.cell? ⟨b, o, none⟩ := fun b o h => World.cell?_of_block (a := ⟨b, o, none⟩) (Below.heap_setCell w6 _ _ _ h)
                  have hO7 : OwnT (w6.setCell ⟨gI, 2, none⟩ (.slice A6 q6 c6)) w.heap.size (.slice A6 q6 c6) (jtsTo (heldI J) (m + 1)) := by rw [HJT.out]; exact OwnT.apart hO6 hob6.1
                  have bX7 := bX6.keep (Below.heap_setCell w6 ⟨gI, 2, none⟩ (.slice A6 q6 c6) gX (Ne.symm hne))
                  have k17 := k16.far (p := ⟨gI, 2, none⟩) (by simp; omega) (.slice A6 q6 c6)
                  have k27 := k26.far (p := ⟨gI, 2, none⟩) (by simp; omega) (.slice A6 q6 c6)
                  have b7 := b6.setCell (p := ⟨gI, 2, none⟩) (by simp; omega) (.slice A6 q6 c6)
                  refine tplan_b rfl (fun K hK => ?_)
                  go_simp
                  refine hK _ _ ⟨⟨(g5 _ _ (by omega)).trans f1, (g5 _ _ (by omega)).trans f2, (g5 _ _ (by omega)).trans f3⟩, ?_⟩
                  clear hK K
                  try simp only [Act.put, List.setIfInBounds_toArray, List.set_cons_zero, List.set_cons_succ]
                  refine tplan_end ?_
                  skip
                  clear i2 iF g5 f1 f2 f3 hO6 kI6 bX6 k16 k26 b6 hS0 hS FIN
                  skip
                  go_wp2
                  go_roundw
                  case rel => exact ⟨m + 1, _, by omega, by go_num, kI7, hO7, hob6, bX7, k17, k27, b7⟩
                  case measure => simp [intOf]; omega
          · obtain rfl : m = J.length := by omega
            obtain ⟨AJ', cJ', rfl, hJts, _⟩ := hO.pts
            have hjl : (jtsTo (heldI J) J.length).length = J.length := by unfold jtsTo; simp
            rw [hjl] at kI HOB hO
            have c3 := k1.cell 3 (v := .slice AF F.length cF) rfl
            clear HJ hjl hJts
            go_wp2
            clear c3 k1
            have b8 := hb
            have z0 : maskTo (fixP F 0) 0 = 0 := rfl
            have z1 : maskTo (fixP F 1) 0 = 0 := rfl
            go_loopw [8, 9, 82] (fun _ _ i wq => ∃ k : Nat, Hid (k ≤ n) ∧ i = .int .i64 k ∧ Blk wq gI #[.int .i64 (n : Int), .slice (some ⟨gX, 0, none⟩) n n, .slice AJ' J.length cJ', .int .u64 (maskTo (fixP F 0) k : Int), .int .u64 (maskTo (fixP F 1) k : Int)] 62 ∧ BitBlk wq gX n (adjT (heldI C) C.length) ∧ OwnT wq w.heap.size (.slice AJ' J.length cJ') (jtsTo (heldI J) J.length) ∧ Blk wq (w.heap.size + 1) #[.int .i64 0, .slice none 0 0, .slice none 0 0, .int .u64 0, .int .u64 0] 62 ∧ Below w.heap.size w wq) (fun _ _ i _ => F.length - (intOf i).toNat)
            case atStart => exact ⟨0, Nat.zero_le _, rfl, by rw [z0, z1]; exact kI, bX, hO, k2, b8⟩
            case round =>
              clear kI bX hO k2 b8 hb lI z0 z1
              obtain ⟨k, hk, rfl, kI, bX, hO, k2, hb⟩ := hrel
              have hk0 : (0 : Int) ≤ (k : Int) := by omega
              have lI := kI.lt
              have hkn := hk.out
              by_cases hlt : k < n
              · have hkI : (k : Int) < (F.length : Int) := by have := HFL.out; omega
                have hkI2 : k < F.length := by have := HFL.out; omega
                have hk14 : (k : Int) < 14 := by omega
                obtain ⟨b, off, rfl, hbB, hc⟩ := HF.out (by omega)
                have e0 := (hb.cell (p := ⟨b, off + k, none⟩) hbB).trans (hc k hlt)
                have hfix := OK.out.fix k hlt
                have HN1 : Hid (k + 1 ≤ n) := hlt
                obtain ⟨f, hf⟩ : ∃ f, F.getD k 0 = f := ⟨_, rfl⟩
                rw [hf] at e0 hfix
                have p0 : fixP F 0 k = decide (f = 0) := by unfold fixP; rw [hf]
                have p1 : fixP F 1 k = decide (f = 1) := by unfold fixP; rw [hf]
                have CK := Lib.hid (fun w => bitsetOf_any k (by omega) w)
                clear hc hf hk
                have h3 : f = -1 ∨ f = 0 ∨ f = 1 := by omega
                rcases h3 with rfl | rfl | rfl
                · have m0 : maskTo (fixP F 0) (k + 1) = maskTo (fixP F 0) k := maskTo_f (by rw [p0]; rfl)
                  have m1 : maskTo (fixP F 1) (k + 1) = maskTo (fixP F 1) k := maskTo_f (by rw [p1]; rfl)
                  rw [← m0, ← m1] at kI
                  clear m0 m1 p0 p1 hfix
                  go_wp2
                  go_roundw
                  case rel => exact ⟨k + 1, HN1, by go_num, kI, bX, hO, k2, hb⟩
                  case measure => simp [intOf]; omega
                · have m1 : maskTo (fixP F 1) (k + 1) = maskTo (fixP F 1) k := maskTo_f (by rw [p1]; rfl)
                  have hor := mask_orpow (p := fixP F 0) (show k ≤ 14 by omega) (by rw [p0]; rfl)
                  have s3 := kI.cell 3 (v := .int .u64 (maskTo (fixP F 0) k : Int)) rfl
                  have fI := kI.frozen 3
                  obtain ⟨pK, hpK⟩ : ∃ q, 2 ^ k = q := ⟨_, rfl⟩
                  rw [hpK] at CK hor
                  have kI2 := kI.set 3 (.int .u64 (maskTo (fixP F 0) (k + 1) : Int))
                  rw [← m1] at kI2
                  clear m1 p0 p1 hfix hpK
                  go_wp2
                  refine wp_region_overB (m := 9) (.alone 9 .done) (by kernel_rfl) (by kernel_rfl) (by kernel_rfl) ?_
                  simp only [List.take_succ_cons, List.take_zero]
                  have hov := over_cells wr
                  repeat (go_big_quiet_step ((go_at_call 67; exact overE (CK.out _))))
                  refine over_nilB (fun w2 hb2 => ?_)
                  clear hov
                  have st1 := (hb2.cell (p := ⟨gI, 3, none⟩) lI).trans s3
                  have sf1 := (hb2.frozen (p := ⟨gI, 3, none⟩) lI).trans fI
                  refine tplan_b rfl (fun K hK => ?_)
                  go_simp
                  refine hK _ _ ⟨trivial, ?_⟩
                  clear hK K
                  try simp only [Act.put, List.setIfInBounds_toArray, List.set_cons_zero, List.set_cons_succ]
                  refine tplan_end ?_
                  have kI3 : Blk (w2.setCell ⟨gI, 3, none⟩ (.int .u64 (maskTo (fixP F 0) (k + 1) : Int))) gI #[.int .i64 (n : Int), .slice (some ⟨gX, 0, none⟩) n n, .slice AJ' J.length cJ', .int .u64 (maskTo (fixP F 0) (k + 1) : Int), .int .u64 (maskTo (fixP F 1) (k + 1) : Int)] 62 := (show Blk _ gI _ _ from kI2).keep (by
                    have h1 := hb2.block gI lI
                    rw [heap_setCell_eq, heap_setCell_eq, h1])
                  have bX3 := (bX.to hb2).keep (Below.heap_setCell w2 ⟨gI, 3, none⟩ (.int .u64 (maskTo (fixP F 0) (k + 1) : Int)) gX (Ne.symm hne))
                  have hO3 := OwnT.apart (g := gI) (i := 3) (u := (.int .u64 (maskTo (fixP F 0) (k + 1) : Int))) (hO.to hb2) HOB.out.1
                  have k23 := (k2.to hb2).far (p := ⟨gI, 3, none⟩) (by simp; omega) (.int .u64 (maskTo (fixP F 0) (k + 1) : Int))
                  have b3 := (hb.trans (hb2.mono hb.size)).setCell (p := ⟨gI, 3, none⟩) (by simp; omega) (.int .u64 (maskTo (fixP F 0) (k + 1) : Int))
                  clear st1 sf1 fI kI kI2 bX hO k2 hb hb2 hor s3
                  go_wp2
                  go_roundw
                  case rel => exact ⟨k + 1, HN1, by go_num, kI3, bX3, hO3, k23, b3⟩
                  case measure => simp [intOf]; omega
                · have m0 : maskTo (fixP F 0) (k + 1) = maskTo (fixP F 0) k := maskTo_f (by rw [p0]; rfl)
                  have hor := mask_orpow (p := fixP F 1) (show k ≤ 14 by omega) (by rw [p1]; rfl)
                  have s4 := kI.cell 4 (v := .int .u64 (maskTo (fixP F 1) k : Int)) rfl
                  have fI := kI.frozen 4
                  obtain ⟨pK, hpK⟩ : ∃ q, 2 ^ k = q := ⟨_, rfl⟩
                  rw [hpK] at CK hor
                  have kI2 := kI.set 4 (.int .u64 (maskTo (fixP F 1) (k + 1) : Int))
                  rw [← m0] at kI2
                  clear m0 p0 p1 hfix hpK
                  go_wp2
                  refine wp_region_overB (m := 9) (.alone 9 .done) (by kernel_rfl) (by kernel_rfl) (by kernel_rfl) ?_
                  simp only [List.take_succ_cons, List.take_zero]
                  have hov := over_cells wr
                  repeat (go_big_quiet_step ((go_at_call 67; exact overE (CK.out _))))
                  refine over_nilB (fun w2 hb2 => ?_)
                  clear hov
                  have st1 := (hb2.cell (p := ⟨gI, 4, none⟩) lI).trans s4
                  have sf1 := (hb2.frozen (p := ⟨gI, 4, none⟩) lI).trans fI
                  refine tplan_b rfl (fun K hK => ?_)
                  go_simp
                  refine hK _ _ ⟨trivial, ?_⟩
                  clear hK K
                  try simp only [Act.put, List.setIfInBounds_toArray, List.set_cons_zero, List.set_cons_succ]
                  refine tplan_end ?_
                  have kI3 : Blk (w2.setCell ⟨gI, 4, none⟩ (.int .u64 (maskTo (fixP F 1) (k + 1) : Int))) gI #[.int .i64 (n : Int), .slice (some ⟨gX, 0, none⟩) n n, .slice AJ' J.length cJ', .int .u64 (maskTo (fixP F 0) (k + 1) : Int), .int .u64 (maskTo (fixP F 1) (k + 1) : Int)] 62 := (show Blk _ gI _ _ from kI2).keep (by
                    have h1 := hb2.block gI lI
                    rw [heap_setCell_eq, heap_setCell_eq, h1])
                  have bX3 := (bX.to hb2).keep (Below.heap_setCell w2 ⟨gI, 4, none⟩ (.int .u64 (maskTo (fixP F 1) (k + 1) : Int)) gX (Ne.symm hne))
                  have hO3 := OwnT.apart (g := gI) (i := 4) (u := (.int .u64 (maskTo (fixP F 1) (k + 1) : Int))) (hO.to hb2) HOB.out.1
                  have k23 := (k2.to hb2).far (p := ⟨gI, 4, none⟩) (by simp; omega) (.int .u64 (maskTo (fixP F 1) (k + 1) : Int))
                  have b3 := (hb.trans (hb2.mono hb.size)).setCell (p := ⟨gI, 4, none⟩) (by simp; omega) (.int .u64 (maskTo (fixP F 1) (k + 1) : Int))
                  clear st1 sf1 fI kI kI2 bX hO k2 hb hb2 hor s4
                  go_wp2
                  go_roundw
                  case rel => exact ⟨k + 1, HN1, by go_num, kI3, bX3, hO3, k23, b3⟩
                  case measure => simp [intOf]; omega
              · obtain rfl : k = n := by omega
                have s0 := kI.cell 0 (v := .int .i64 (k : Int)) rfl
                have s1 := kI.cell 1 (v := .slice (some ⟨gX, 0, none⟩) k k) rfl
                have s2 := kI.cell 2 (v := .slice AJ' J.length cJ') rfl
                have s3 := kI.cell 3 (v := .int .u64 (maskTo (fixP F 0) k : Int)) rfl
                have s4 := kI.cell 4 (v := .int .u64 (maskTo (fixP F 1) k : Int)) rfl
                have t0 := k2.cell 0 (v := .int .i64 0) rfl
                have t1 := k2.cell 1 (v := .slice none 0 0) rfl
                have t2 := k2.cell 2 (v := .slice none 0 0) rfl
                have t3 := k2.cell 3 (v := .int .u64 0) rfl
                have t4 := k2.cell 4 (v := .int .u64 0) rfl
                have tF := k2.frozen
                have hnI : ¬ (k : Int) < (F.length : Int) := by have := HFL.out; omega
                have kE := ((((k2.set 0 (.int .i64 (k : Int))).set 1 (.slice (some ⟨gX, 0, none⟩) k k)).set 2 (.slice AJ' J.length cJ')).set 3 (.int .u64 (maskTo (fixP F 0) k : Int))).set 4 (.int .u64 (maskTo (fixP F 1) k : Int))
                have hE : ∀ g, g ≠ w.heap.size + 1 → (((((wr.setCell ⟨w.heap.size + 1, 0, none⟩ (.int .i64 (k : Int))).setCell ⟨w.heap.size + 1, 1, none⟩ (.slice (some ⟨gX, 0, none⟩) k k)).setCell ⟨w.heap.size + 1, 2, none⟩ (.slice AJ' J.length cJ')).setCell ⟨w.heap.size + 1, 3, none⟩ (.int .u64 (maskTo (fixP F 0) k : Int))).setCell ⟨w.heap.size + 1, 4, none⟩ (.int .u64 (maskTo (fixP F 1) k : Int))).heap[g]? = wr.heap[g]? := by
                  intro g hg
                  rw [Below.heap_setCell _ _ _ g (by simpa using hg), Below.heap_setCell _ _ _ g (by simpa using hg), Below.heap_setCell _ _ _ g (by simpa using hg), Below.heap_setCell _ _ _ g (by simpa using hg), Below.heap_setCell _ _ _ g (by simpa using hg)]
                have hOE := OwnT.apart (g := w.heap.size + 1) (i := 4) (u := (.int .u64 (maskTo (fixP F 1) k : Int))) (OwnT.apart (g := w.heap.size + 1) (i := 3) (u := (.int .u64 (maskTo (fixP F 0) k : Int))) (OwnT.apart (g := w.heap.size + 1) (i := 2) (u := (.slice AJ' J.length cJ')) (OwnT.apart (g := w.heap.size + 1) (i := 1) (u := (.slice (some ⟨gX, 0, none⟩) k k)) (OwnT.apart (g := w.heap.size + 1) (i := 0) (u := (.int .i64 (k : Int))) hO HOB.out.2.2.2) HOB.out.2.2.2) HOB.out.2.2.2) HOB.out.2.2.2) HOB.out.2.2.2
                have bE := ((((hb.setCell (p := ⟨w.heap.size + 1, 0, none⟩) (by simp) (.int .i64 (k : Int))).setCell (p := ⟨w.heap.size + 1, 1, none⟩) (by simp) (.slice (some ⟨gX, 0, none⟩) k k)).setCell (p := ⟨w.heap.size + 1, 2, none⟩) (by simp) (.slice AJ' J.length cJ')).setCell (p := ⟨w.heap.size + 1, 3, none⟩) (by simp) (.int .u64 (maskTo (fixP F 0) k : Int))).setCell (p := ⟨w.heap.size + 1, 4, none⟩) (by simp) (.int .u64 (maskTo (fixP F 1) k : Int))
                have bXE := bX.keep (hE gX (by omega))
                clear hE kI k2 hO bX hb
                go_wp2
                generalize (((((wr.setCell ⟨w.heap.size + 1, 0, none⟩ (.int .i64 (k : Int))).setCell ⟨w.heap.size + 1, 1, none⟩ (.slice (some ⟨gX, 0, none⟩) k k)).setCell ⟨w.heap.size + 1, 2, none⟩ (.slice AJ' J.length cJ')).setCell ⟨w.heap.size + 1, 3, none⟩ (.int .u64 (maskTo (fixP F 0) k : Int))).setCell ⟨w.heap.size + 1, 4, none⟩ (.int .u64 (maskTo (fixP F 1) k : Int))) = wE at *
                have u0 := kE.cell 0 (v := .int .i64 (k : Int)) (by simp)
                have u1 := kE.cell 1 (v := .slice (some ⟨gX, 0, none⟩) k k) (by simp)
                have u2 := kE.cell 2 (v := .slice AJ' J.length cJ') (by simp)
                have u3 := kE.cell 3 (v := .int .u64 (maskTo (fixP F 0) k : Int)) (by simp)
                have u4 := kE.cell 4 (v := .int .u64 (maskTo (fixP F 1) k : Int)) (by simp)
                obtain ⟨A9, c9, h9, hJ9, _⟩ := hOE.pts
                have hA9 : A9 = AJ' := by injection h9 with h1 _ _; exact h1.symm
                subst hA9
                refine bodyPost_ret_by (v := .agg #[.int .i64 (k : Int), .slice (some ⟨gX, 0, none⟩) k k, .slice A9 J.length cJ', .int .u64 (maskTo (fixP F 0) k : Int), .int .u64 (maskTo (fixP F 1) k : Int)]) ?_ rfl ⟨.inl ⟨k, gX, A9, cJ', rfl, ⟨HVT.out, OK.out⟩, by rw [heldI_len], by rw [heldI_len]; exact bXE, by rw [heldI_len]; exact hJ9⟩, bE⟩
                simp [results, Tryd.results39, go_sem, u0, u1, u2, u3, u4]
end Go.Proofs.YtdoheipnfdbioaaDoor
