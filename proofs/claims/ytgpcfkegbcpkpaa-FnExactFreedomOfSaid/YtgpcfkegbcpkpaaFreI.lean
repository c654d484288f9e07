/-
  Contracts: FreedomOf, as the program has it and as the model has it.
-/
import Derived.Test.YtgpcfkegbcpkpaaLatI
namespace Go.Proofs.Ytgpcfkegbcpkpaa
set_option linter.unusedSimpArgs false
set_option linter.unusedVariables false
open Go.ChangeShapes Go.WideShapes Go.ChangeAt Go.RowKit Go.BigFrame

/-- The first k of the differences, the rest as it was. -/
def subK (a d : List Int) (k : Nat) : List Int := (List.range a.length).map fun i => if i < k then a.getD i 0 - d.getD i 0 else a.getD i 0
theorem subK_len (a d : List Int) (k : Nat) : (subK a d k).length = a.length := by simp [subK]
theorem subK_at {a d : List Int} {k i : Nat} (h : i < a.length) : (subK a d k).getD i 0 = if i < k then a.getD i 0 - d.getD i 0 else a.getD i 0 := by
  simp [subK, List.getD_eq_getElem?_getD, h]
theorem subK_zero (a d : List Int) : subK a d 0 = a := list_ext0 (subK_len _ _ _) fun i hi => by
  rw [subK_at (by rwa [subK_len] at hi), if_neg (by omega)]
theorem subK_set {a d : List Int} {k : Nat} (h : k < a.length) : (subK a d k).set k (a.getD k 0 - d.getD k 0) = subK a d (k + 1) := list_ext0 (by simp [subK]) fun i hi => by
  have hi' : i < a.length := by simpa [subK] using hi
  rw [at_set, subK_at hi', subK_at hi', subK_len]
  by_cases e : k = i
  · subst e; rw [if_pos ⟨rfl, hi'⟩, if_pos (by omega)]
  · rw [if_neg (fun x => e x.1)]
    by_cases h2 : i < k
    · rw [if_pos h2, if_pos (by omega)]
    · rw [if_neg h2, if_neg (by omega)]
/-- The first k of the differences. -/
def subT (a d : List Int) (k : Nat) : List Int := (List.range k).map fun i => a.getD i 0 - d.getD i 0
theorem subT_succ (a d : List Int) (k : Nat) : subT a d (k + 1) = subT a d k ++ [a.getD k 0 - d.getD k 0] := by simp [subT, List.range_succ]
theorem subT_all (a d : List Int) : subT a d a.length = subK a d a.length := list_ext0 (by simp [subT, subK]) fun i hi => by
  have hi' : i < a.length := by simpa [subT] using hi
  rw [subK_at hi', if_pos hi']
  simp [subT, List.getD_eq_getElem?_getD, hi']
/-- Freedom. -/
def frO (n : Int) (rs : List R3) (t : Int) : Option (List Int) := (ltO n rs t).bind fun a => (lstP n rs).map fun d => subK a d a.length
theorem ltR_facts {N : Nat} {rs : List R3} {t : Int} {a : List Int} (h : ltR N rs t = some a) (ht : t ≤ 16000) : a.length = N ∧ ∀ i, 0 ≤ a.getD i 0 ∧ a.getD i 0 ≤ 16000 := by
  unfold ltR at h
  cases hr : runR (rs.map (turnR false)) (N + 1) (zer N) with
  | none => rw [hr] at h; simp at h
  | some ds =>
    rw [hr] at h
    simp only [Option.bind_some] at h
    split at h
    · rename_i ho
      injection h with h
      subst h
      obtain ⟨hl, hn⟩ := run_nn hr
      refine ⟨by rw [mir_len, hl], fun i => ?_⟩
      rcases Nat.lt_or_ge i ds.length with hi | hi
      · have h1 : ds.getD i 0 ≤ t := of_decide_eq_true (okTo_iff.1 ho i hi)
        have := hn i
        rw [mir_at hi]
        omega
      · rw [List.getD_eq_getElem?_getD, List.getElem?_eq_none (by rw [mir_len]; exact hi)]; simp
    · cases h
/-- Sums of rules are not great. -/
theorem run_bd {rs : List R3} (hw : ∀ r ∈ rs, r.2.2 ≤ 1000) (hl : rs.length ≤ 40) : ∀ (k : Nat) (ds out : List Int) (M : Int), 0 ≤ M → Bd ds M → runR rs k ds = some out → Bd out (M + 40000 * (k : Int))
  | 0, _, _, _, _, _, h => by simp [runR] at h
  | k + 1, ds, out, M, hM, hB, h => by
    have h1 : Bd (passR rs ds) (M + 40000) := (Bd.pass (K := 0) (by omega) rs ds M hM hw hB).mono (by omega)
    rw [runR] at h
    split at h
    · exact (run_bd hw hl k _ out (M + 40000) (by omega) h1 h).mono (by push_cast; omega)
    · injection h with h
      rw [← h]
      exact h1.mono (by push_cast; omega)
theorem lst_bd {N : Nat} {rs : List R3} {ds : List Int} (hv : prB (N : Int) rs = true) (h : runR rs (N + 1) (zer N) = some ds) : Bd ds 1000000 := by
  obtain ⟨⟨n1, n16⟩, h40, hru⟩ := pr_facts hv
  refine (run_bd (fun r hr => ?_) h40 (N + 1) _ ds 0 (by omega) (Bd.zer N) h).mono (by push_cast; omega)
  obtain ⟨j, hj, rfl⟩ := List.mem_iff_getElem.1 hr
  obtain ⟨_, _, _, _, _, _, _, _, z2⟩ := ru_facts (hru j hj) n16
  rwa [show rs.getD j r30 = rs[j] from by simp [List.getD_eq_getElem?_getD, hj]] at z2
set_option maxRecDepth 100000 in
set_option maxHeartbeats 3200000 in
theorem freeClo_any (n : Int) (A : Option Addr) (rs : List R3) (c Z Y : Nat) (t : Int) (w : World) (c0 : w.cell? ⟨Z, 0, none⟩ = some (.int .i64 n)) (c1 : w.cell? ⟨Z, 1, none⟩ = some (.slice A rs.length c)) (c2 : w.cell? ⟨Y, 0, none⟩ = some (.int .i64 t)) (hp : RulAt w w.heap.size A rs) (hl : rs.length ≤ 1048576) :
    Calls Try.prog 93 #[.pointer (some ⟨Z, 0, none⟩), .pointer (some ⟨Y, 0, none⟩)] w (GoRes (frO n rs t) w) := by
  have hZ : Z < w.heap.size := World.block_lt_of_cell? w _ c0
  have hY : Y < w.heap.size := World.block_lt_of_cell? w _ c2
  have cr := Lib.hid (fun (wx : World) (hb : Below w.heap.size w wx) => requirePress_any n A rs c wx (hp.to hb) hl)
  cases hv : prB n rs
  · have R : Hid (frO n rs t = none) := by show _ = _; unfold frO ltO; rw [if_neg (by rw [hv]; simp)]; rfl
    have HV := Lib.hid hv
    clear hp hv
    rw [R.out]
    go_enter Try.func93, Try.ntmps93
    go_wp2_with fail
    refine wp_region_treeB (.takes [0, 2] (.alone 1 (.alone 3 (.takes [4] .done)))) (by kernel_rfl) (by kernel_rfl) (by kernel_rfl) (fun _ d _ _ _ h => by cases d <;> exact h) (fun hS0 => ?_)
    refine tplan_w (v := ?_) rfl (by rfl) ?_ ?_
    rotate_left
    · intro wx hSx
      obtain ⟨hcx, hfx, hzx⟩ := bcell hSx
      go_simp
      try (with_reducible rfl)
    try simp only [Act.put, List.setIfInBounds_toArray, List.set_cons_zero, List.set_cons_succ]
    refine tplan_w (v := ?_) rfl (by rfl) ?_ ?_
    rotate_left
    · intro wx hSx
      obtain ⟨hcx, hfx, hzx⟩ := bcell hSx
      go_simp
      try (with_reducible rfl)
    try simp only [Act.put, List.setIfInBounds_toArray, List.set_cons_zero, List.set_cons_succ]
    refine tplan_b rfl (fun K hK => ?_)
    go_simp
    refine (cr.out _ hS0).mono ?_
    rintro e w1 ⟨⟨h, rfl⟩ | ⟨_, u, pv, rfl⟩, hb1⟩
    · rw [HV.out] at h; cases h
    · have x1 := belowS hS0 hb1
      go_wp2
      exact ⟨rfl, .inr ⟨rfl, ⟨_, _, rfl⟩⟩, x1⟩
  · obtain ⟨⟨n1, n16⟩, _, _⟩ := pr_facts hv
    obtain ⟨N, rfl⟩ : ∃ N : Nat, n = (N : Int) := ⟨n.toNat, by omega⟩
    have cl := Lib.hid (fun (wx : World) (hb : Below w.heap.size w wx) => latestPlaces_any N A rs c t wx (hp.to hb) hv)
    have ce := Lib.hid (fun (wx : World) (hb : Below w.heap.size w wx) => leastPlaces_any N A rs c wx (hp.to hb) hv)
    have HV := Lib.hid hv
    have HLT : Hid (∀ a, ltO (N : Int) rs t = some a → a.length = N ∧ ∀ i, 0 ≤ a.getD i 0 ∧ a.getD i 0 ≤ 16000) := fun a h => by
      unfold ltO at h
      split at h
      · rename_i h2
        have := (show 0 ≤ t ∧ t ≤ 16000 from of_decide_eq_true h2.2).2
        exact ltR_facts h this
      · cases h
    have HLS : Hid (∀ d, runR rs (N + 1) (zer N) = some d → d.length = N ∧ Bd d 1000000) := fun d h => ⟨(run_nn h).1, lst_bd hv h⟩
    have HFR : Hid (∀ a d, ltO (N : Int) rs t = some a → runR rs (N + 1) (zer N) = some d → frO (N : Int) rs t = some (subK a d a.length)) := fun a d h1 h2 => by
      unfold frO lstP
      rw [h1, if_pos hv, show ((N : Int).toNat) = N by omega, h2]; rfl
    have HF0 : Hid (ltO (N : Int) rs t = none → frO (N : Int) rs t = none) := fun h => by unfold frO; rw [h]; rfl
    have HF1 : Hid (runR rs (N + 1) (zer N) = none → frO (N : Int) rs t = none) := fun h => by
      unfold frO lstP
      rw [if_pos hv, show ((N : Int).toNat) = N by omega, h]
      cases ltO (N : Int) rs t <;> rfl
    clear hp hv
    generalize ltO (N : Int) rs t = R1 at *
    generalize runR rs (N + 1) (zer N) = R2 at *
    generalize frO (N : Int) rs t = R' at *
    go_enter Try.func93, Try.ntmps93
    go_wp2_with fail
    refine wp_region_treeB (.takes [0, 2] (.alone 1 (.alone 3 (.takes [4] .done)))) (by kernel_rfl) (by kernel_rfl) (by kernel_rfl) (fun _ d _ _ _ h => by cases d <;> exact h) (fun hS0 => ?_)
    refine tplan_w (v := ?_) rfl (by rfl) ?_ ?_
    rotate_left
    · intro wx hSx
      obtain ⟨hcx, hfx, hzx⟩ := bcell hSx
      go_simp
      try (with_reducible rfl)
    try simp only [Act.put, List.setIfInBounds_toArray, List.set_cons_zero, List.set_cons_succ]
    refine tplan_w (v := ?_) rfl (by rfl) ?_ ?_
    rotate_left
    · intro wx hSx
      obtain ⟨hcx, hfx, hzx⟩ := bcell hSx
      go_simp
      try (with_reducible rfl)
    try simp only [Act.put, List.setIfInBounds_toArray, List.set_cons_zero, List.set_cons_succ]
    refine tplan_b rfl (fun K hK => ?_)
    go_simp
    refine (cr.out _ hS0).mono ?_
    rintro e w1 ⟨⟨_, rfl⟩ | ⟨h, u, pv, rfl⟩, hb1⟩
    · have hS1 := belowS hS0 hb1
      refine hK _ _ ⟨hS1, ?_⟩
      clear hK K
      try simp only [Act.put, List.setIfInBounds_toArray, List.set_cons_zero, List.set_cons_succ]
      refine tplan_b rfl (fun K hK => ?_)
      go_simp
      refine (cl.out _ hS1).mono ?_
      rintro e w2 ⟨h, hb2⟩
      have hS2 := belowS hS1 hb2
      rcases h with ⟨a, H, hR, rfl, hD, hH⟩ | ⟨hR, u, pv, rfl⟩
      · refine hK _ _ ⟨hS2, ?_⟩
        clear hK K
        try simp only [Act.put, List.setIfInBounds_toArray, List.set_cons_zero, List.set_cons_succ]
        refine tplan_w (v := ?_) rfl (by rfl) ?_ ?_
        rotate_left
        · intro wx hSx
          obtain ⟨hcx, hfx, hzx⟩ := bcell hSx
          go_simp
          try (with_reducible rfl)
        try simp only [Act.put, List.setIfInBounds_toArray, List.set_cons_zero, List.set_cons_succ]
        refine tplan_endQ ?_
        obtain ⟨hal, hab⟩ := HLT.out a hR
        have HFR2 := Lib.hid (fun d h => HFR.out a d hR h)
        have hwH : w.heap.size ≤ H := Nat.le_trans hS1.size hH
        have s0 := (hS2.cell (p := ⟨Z, 0, none⟩) hZ).trans c0
        have s1 := (hS2.cell (p := ⟨Z, 1, none⟩) hZ).trans c1
        have HAL := Lib.hid hal
        have HAB := Lib.hid hab
        clear hal hab hR hb1 hb2 hS0 hS1 c0 c1 c2
        go_wp2_with fail
        refine (ce.out _ hS2).mono ?_
        rintro e w3 ⟨h, hb3⟩
        have x3 := bl_trans hS2 hb3
        have hHl := hD.lt
        replace hD := hD.to hb3
        rcases h with ⟨d, E, hE, rfl, hDd, hEE⟩ | ⟨hE, u, pv, rfl⟩
        · obtain ⟨hdl, hdb⟩ := HLS.out d hE
          have HF := Lib.hid (HFR2.out d hE)
          have hEl := hDd.lt
          have hEH : E ≠ H := by omega
          have hl16 : d.length ≤ 16 := by omega
          have hl16I : (d.length : Int) ≤ 16 := by omega
          have hda : d.length = a.length := by have := HAL.out; omega
          have HDA := Lib.hid hda
          have HDB := Lib.hid hdb
          have hK0 : NBlk w3 H (subK a d 0) (subK a d 0).length := by rw [subK_zero]; exact hD
          clear hD hE hdl hdb hda cr cl ce s0 s1 hb3
          go_wp2
          go_loopw [4, 5, 13] (fun _ _ i wr => ∃ k : Nat, k ≤ d.length ∧ i = .int .i64 k ∧ NBlk wr H (subK a d k) (subK a d k).length ∧ NBlk wr E d d.length ∧ Below w.heap.size w wr) (fun _ _ i _ => d.length - (intOf i).toNat)
          case atStart => exact ⟨0, by omega, rfl, hK0, hDd, x3⟩
          case round =>
            clear hK0 hDd x3
            obtain ⟨k, hk, rfl, hD, hE, hb⟩ := hrel
            have hk0 : (0 : Int) ≤ (k : Int) := by omega
            by_cases hlt : k < d.length
            case neg =>
              have hkd : k = a.length := by have := HDA.out; omega
              rw [hkd] at hD
              have HSL : Hid ((subK a d a.length).length = a.length) := subK_len _ _ _
              have hdn : ¬ (k : Int) < (d.length : Int) := by omega
              clear hkd
              go_wp2
              go_ret
              exact ⟨.inl ⟨subK a d a.length, H, HF.out, by rw [HSL.out]; rfl, hD, hwH⟩, hb⟩
            have hka : k < a.length := by have := HDA.out; omega
            have hkm : k < (subK a d k).length := by rw [subK_len]; exact hka
            have e0 := hD.at_ hkm hkm
            rw [subK_at hka, if_neg (by omega)] at e0
            have e1 := hE.at_ hlt hlt
            have fz := hD.frozen k
            have hltI : (k : Int) < (d.length : Int) := by omega
            have hkaI : (k : Int) < (a.length : Int) := by omega
            have HKS : Hid ((subK a d k).set k (a.getD k 0 - d.getD k 0) = subK a d (k + 1)) := subK_set hka
            have hD5 := hD.upd hkm (a.getD k 0 - d.getD k 0)
            rw [HKS.out] at hD5
            have hE5 : NBlk (wr.setCell ⟨H, k, none⟩ (.int .i64 (a.getD k 0 - d.getD k 0))) E d d.length := hE.keep (Below.heap_setCell wr ⟨H, k, none⟩ _ E hEH)
            have ba := HAB.out k
            have bd := HDB.out k
            have hb5 := hb.setCell (p := ⟨H, k, none⟩) hwH (.int .i64 (a.getD k 0 - d.getD k 0))
            clear HKS hD hE
            generalize a.getD k 0 = x at *
            generalize d.getD k 0 = y at *
            obtain ⟨ba0, ba1⟩ := ba
            obtain ⟨bd0, bd1⟩ := bd
            clear hb
            go_wp2
            go_roundw
            case rel => exact ⟨k + 1, by omega, by go_num, hD5, hE5, hb5⟩
            case measure => simp [intOf]; omega
        · have HR := Lib.hid (HF1.out hE)
          clear hE
          go_wp2
          exact ⟨rfl, .inr ⟨HR.out, ⟨_, _, rfl⟩⟩, x3⟩
      · have HR := Lib.hid (HF0.out hR)
        clear hR
        go_wp2
        exact ⟨rfl, .inr ⟨HR.out, ⟨_, _, rfl⟩⟩, hS2⟩
    · rw [HV.out] at h; cases h
theorem frO_len {n : Int} {rs : List R3} {t : Int} : (outL (frO n rs t)).length ≤ 1048576 := by
  have h := ltO_len (n := n) (rs := rs) (t := t)
  unfold frO
  cases h1 : ltO n rs t with
  | none => simp [outL]
  | some a =>
    rw [h1] at h
    cases lstP n rs with
    | none => simp [outL]
    | some d => simpa [outL, subK_len] using h
set_option maxRecDepth 100000 in
set_option maxHeartbeats 800000 in
theorem FreedomOfI_any (n : Int) (A : Option Addr) (rs : List R3) (c : Nat) (t : Int) (w : World) (hp : RulAt w w.heap.size A rs) (hl : rs.length ≤ 1048576) (_ : (Lit.int .i64 t).wf = true) :
    Calls Try.prog 47 #[.agg #[.int .i64 n, .slice A rs.length c], .int .i64 t] w (NRes (outL (frO n rs t)) (frO n rs t).isSome w) := by
  have hx : Below w.heap.size w ((w.alloc (.cells #[.int .i64 n, .slice A rs.length c] 29)).alloc (.cells #[.int .i64 t] 2)) := by (repeat (first | assumption | exact Below.refl _ _ | (refine bl_alloc ?_ _) | (refine Below.drew ?_) | (refine bl_drewN ?_ _) | (refine bl_set ?_ (by first | (simp; done) | omega | (simp; omega)) _) | (refine bl_trans ?_ (by assumption)) | (refine bl_step ?_ (by assumption) (by first | omega | exact Below.size (by assumption) | (simp; omega) | (simp; exact Below.size (by assumption))))))
  have kp : Blk ((w.alloc (.cells #[.int .i64 n, .slice A rs.length c] 29)).alloc (.cells #[.int .i64 t] 2)) w.heap.size #[.int .i64 n, .slice A rs.length c] 29 := (Blk.new _ _ _).alloc _
  have kb : Blk ((w.alloc (.cells #[.int .i64 n, .slice A rs.length c] 29)).alloc (.cells #[.int .i64 t] 2)) (w.heap.size + 1) #[.int .i64 t] 2 := by
    have := Blk.new (w.alloc (.cells #[.int .i64 n, .slice A rs.length c] 29)) #[.int .i64 t] 2
    rwa [World.size_alloc] at this
  have cc := Lib.hid (fun (wx : World) (hb : Below ((w.alloc (.cells #[.int .i64 n, .slice A rs.length c] 29)).alloc (.cells #[.int .i64 t] 2)).heap.size ((w.alloc (.cells #[.int .i64 n, .slice A rs.length c] 29)).alloc (.cells #[.int .i64 t] 2)) wx) => freeClo_any n A rs c w.heap.size (w.heap.size + 1) t wx ((kp.to hb).cell 0 rfl) ((kp.to hb).cell 1 rfl) ((kb.to hb).cell 0 rfl) ((hp.to hx).to hb) hl)
  clear hp kp kb
  have HLL := Lib.hid (frO_len (n := n) (rs := rs) (t := t))
  generalize frO n rs t = R at *
  have HNO : Hid (R.isSome = false → outL R = [] ∧ R.isSome = false) := fun h => by cases R with
    | none => exact ⟨rfl, rfl⟩
    | some _ => cases h
  go_enter Try.func47, Try.ntmps47
  go_wp2_with fail
  generalize ((w.alloc (.cells #[.int .i64 n, .slice A rs.length c] 29)).alloc (.cells #[.int .i64 t] 2)) = w1 at *
  have hx1 : Below w1.heap.size w1 (w1.alloc (.cells #[.bool false] 4)) := by (repeat (first | assumption | exact Below.refl _ _ | (refine bl_alloc ?_ _) | (refine Below.drew ?_) | (refine bl_drewN ?_ _) | (refine bl_set ?_ (by first | (simp; done) | omega | (simp; omega)) _) | (refine bl_trans ?_ (by assumption)) | (refine bl_step ?_ (by assumption) (by first | omega | exact Below.size (by assumption) | (simp; omega) | (simp; exact Below.size (by assumption))))))
  refine (attemptNs_any 93 _ w1 (fun v w2 => OwnI w2 (w1.heap.size + 1) v (outL R) ∧ R.isSome = true) (R.isSome = false) (fun _ _ => by first | rfl | (simp [go_sem]; done)) ((cc.out _ hx1).mono ?_)).mono ?_
  · intro e w2 h
    obtain ⟨h2, h3⟩ := goAtt h HLL.out
    rw [World.size_alloc] at h2
    exact ⟨h2, h3⟩
  rintro e w2 h
  obtain ⟨A4, c4, rfl, h4, hb4⟩ := nres_att h HNO.out
  go_wp2
  go_ret2
  exact ⟨A4, c4, rfl, fun h0 => by obtain ⟨g, e1, hg, hI⟩ := h4 h0; exact ⟨g, e1, Nat.le_trans hx.size hg, hI⟩, bl_step hx hb4 hx.size⟩
theorem OwnI.ge {w : World} {B : Nat} {v : Value} {L : List Int} (h : OwnI w B v L) {i : Nat} (e : v.ownBlock = some i) : B ≤ i := by
  rcases h.2 with ⟨rfl, _⟩ | ⟨g, cap, cur, rfl, hB, _⟩
  · simp [Value.ownBlock] at e
  · simp [Value.ownBlock] at e
    omega
/-- A model's answer: numbers in a block of their own where it succeeds. -/
def SomRes (R : Option (List Int)) (w : World) (e : Ending) (w' : World) : Prop :=
  (∃ v ok, e = .returned (.tuple #[v, .bool ok]) ∧ (ok = true → ∃ (a : List Int) (H : Nat), R = some a ∧ v = .slice (some ⟨H, 0, none⟩) a.length a.length ∧ NBlk w' H a a.length ∧ w.heap.size ≤ H) ∧ (ok = false → R = none)) ∧ Below w.heap.size w w'
theorem lst_som {R : Option (List Int)} {w : World} {e : Ending} {w' : World} (h : LstRes R w e w') : SomRes R w e w' := by
  obtain ⟨⟨ds, G, rfl, rfl, hD, hG⟩ | ⟨rfl, rfl⟩, hb⟩ := h
  · exact ⟨⟨_, true, rfl, fun _ => ⟨ds, G, rfl, rfl, hD, hG⟩, fun h => by cases h⟩, hb⟩
  · exact ⟨⟨_, false, rfl, fun h => (by cases h), fun _ => rfl⟩, hb⟩
theorem lat_som {N : Nat} {rs : List R3} {t : Int} (hv : prB (N : Int) rs = true) (h0 : 0 ≤ t) (h1 : t ≤ 16000) {w : World} {e : Ending} {w' : World} (h : LatRes (N : Int) rs t (runR (rs.map (turnR false)) (N + 1) (zer N)) w e w') : SomRes (ltR N rs t) w e w' := by
  obtain ⟨⟨ds, G, hR, rfl, hD, hG⟩ | ⟨hR, rfl⟩, hb⟩ := h
  · have e1 : ltR N rs t = if okW t ds = true then some (mir t ds) else none := by unfold ltR; rw [hR]; rfl
    rw [plB_mir hv hR h0 h1]
    refine ⟨⟨_, _, rfl, fun ho => ⟨mir t ds, G, by rw [e1, if_pos ho], rfl, hD, hG⟩, fun ho => by rw [e1, if_neg (by rw [ho]; simp)]⟩, hb⟩
  · have e1 : ltR N rs t = none := by unfold ltR; rw [hR]; rfl
    exact ⟨⟨_, false, rfl, fun h => (by cases h), fun _ => e1⟩, hb⟩
theorem step_append_int {ops : Array Oper} {o : Oper} {a : Act} {w : World} {K : Act → World → Prop} {Q : Exit → Act → World → Prop} {E : Prop} (hgd : o.guard = none) (s x : Operand)
    (ho : o.op = .call { callee := .builtin .append, args := #[s, x], argTypes := #[33, 33] }) (base : Nat) (v : Value) (L : List Int) (X : Int) (g : Nat)
    (hs : a.eval s = v) (hown : OwnI w base v L) (hx : a.eval x = .slice (some ⟨g, 0, none⟩) 1 1) (hg : Blk w g #[.int .i64 X] 2) (hL : L.length ≤ 4000000) (hbase : base ≤ w.heap.size)
    (h : ∀ v' w', OwnI w' base v' (L ++ [X]) → w.grownBy w' v.ownBlock → (v'.ownBlock = v.ownBlock ∨ v'.ownBlock = some w.heap.size) → K (a.put o.dst v') w') :
    if Region.wanted o (yielded ops a.tmps) = true then Oper.wp Try.prog o a w K Q else E := by
  obtain ⟨i0, hi0, hz0, hz1, hz2⟩ := info_parts infoIO
  refine stepU_append_at hgd s x _ ho base 2 i0 _ 1 8 Try.underlying33 hi0 hz0 hz1 hz2 rfl (by decide) v L.length (cellsI L) hs hown ⟨g, 0, none⟩ 1 1 [.int .i64 X] hx rfl ?_ ?_ ?_ ?_ hbase ?_
  · intro j u hu
    rcases j with _ | j
    · simp at hu; subst hu; simpa [Addr.add] using hg.cell 0 rfl
    · simp at hu
  · intro u hu
    simp at hu
    subst hu; rfl
  · unfold maxLen; omega
  · omega
  · intro v' w' h1 h2 h5
    exact h v' w' (OwnI.snoc h1) h2 h5
set_option maxRecDepth 100000 in
set_option maxHeartbeats 3200000 in
theorem FreedomOfS_any (n : Int) (A : Option Addr) (rs : List R3) (c : Nat) (t : Int) (w : World) (hp : RulAt w w.heap.size A rs) (hl : rs.length ≤ 1048576) (_ : (Lit.int .i64 t).wf = true) :
    Calls Try.prog 46 #[.agg #[.int .i64 n, .slice A rs.length c], .int .i64 t] w (NRes (outL (frO n rs t)) (frO n rs t).isSome w) := by
  have hx : Below w.heap.size w (w.alloc (.cells #[.int .i64 n, .slice A rs.length c] 29)) := by (repeat (first | assumption | exact Below.refl _ _ | (refine bl_alloc ?_ _) | (refine Below.drew ?_) | (refine bl_drewN ?_ _) | (refine bl_set ?_ (by first | (simp; done) | omega | (simp; omega)) _) | (refine bl_trans ?_ (by assumption)) | (refine bl_step ?_ (by assumption) (by first | omega | exact Below.size (by assumption) | (simp; omega) | (simp; exact Below.size (by assumption))))))
  have kp := Blk.new w #[.int .i64 n, .slice A rs.length c] 29
  have c1 := Lib.hid (l09Is_any w.heap.size n A rs c _ (kp.cell 0 rfl) (kp.cell 1 rfl) (hp.to hx) hl)
  cases hv : prB n rs
  · have R : Hid (frO n rs t = none) := by show _ = _; unfold frO ltO; rw [if_neg (by rw [hv]; simp)]; rfl
    rw [hv] at c1
    rw [R.out]
    clear hp hv
    go_enter Try.func46, Try.ntmps46
    go_wp2_with fail
    refine c1.out.mono ?_
    rintro e w1 ⟨rfl, hb1⟩
    go_wp2
    go_ret2
    exact ⟨none, 0, rfl, Own4.none_ _ _ _, bl_step hx hb1 hx.size⟩
  cases ht : inB t 0 16000
  · have R : Hid (frO n rs t = none) := by show _ = _; unfold frO ltO; rw [if_neg (by rw [ht]; simp)]; rfl
    have HI := Lib.hid ht
    rw [hv] at c1
    rw [R.out]
    clear hp hv ht
    go_enter Try.func46, Try.ntmps46
    go_wp2_with fail
    refine c1.out.mono ?_
    rintro e w1 ⟨rfl, hb1⟩
    go_wp2_with fail
    refine (l09Wide_any t _ HI _).mono ?_
    rintro e w2 ⟨rfl, rfl⟩
    go_wp2
    go_ret2
    exact ⟨none, 0, rfl, Own4.none_ _ _ _, bl_step hx hb1 hx.size⟩
  obtain ⟨t0, t16⟩ : 0 ≤ t ∧ t ≤ 16000 := of_decide_eq_true ht
  obtain ⟨⟨n1, n16⟩, _, _⟩ := pr_facts hv
  obtain ⟨N, rfl⟩ : ∃ N : Nat, n = (N : Int) := ⟨n.toNat, by omega⟩
  have HI := Lib.hid ht
  have HFR : Hid (∀ a d, ltR N rs t = some a → runR rs (N + 1) (zer N) = some d → frO (N : Int) rs t = some (subK a d a.length)) := fun a d h1 h2 => by
    unfold frO ltO lstP
    rw [if_pos ⟨hv, ht⟩, if_pos hv, show ((N : Int).toNat) = N by omega, h1, h2]; rfl
  have HF0 : Hid (ltR N rs t = none → frO (N : Int) rs t = none) := fun h => by unfold frO ltO; rw [if_pos ⟨hv, ht⟩, show ((N : Int).toNat) = N by omega, h]; rfl
  have HF1 : Hid (runR rs (N + 1) (zer N) = none → frO (N : Int) rs t = none) := fun h => by
    unfold frO lstP
    rw [if_pos hv, show ((N : Int).toNat) = N by omega, h]
    cases ltO (N : Int) rs t <;> rfl
  have HLT := Lib.hid (fun a (h : ltR N rs t = some a) => ltR_facts h t16)
  have HLS : Hid (∀ d, runR rs (N + 1) (zer N) = some d → d.length = N ∧ Bd d 1000000) := fun d h => ⟨(run_nn h).1, lst_bd hv h⟩
  have c2 := Lib.hid (fun (wx : World) (hb : Below (w.alloc (.cells #[.int .i64 (N : Int), .slice A rs.length c] 29)).heap.size (w.alloc (.cells #[.int .i64 (N : Int), .slice A rs.length c] 29)) wx) => by
    have := l09Latest_any w.heap.size t (N : Int) A rs c wx ((kp.to hb).cell 0 rfl) ((kp.to hb).cell 1 rfl) ((hp.to hx).to hb) hv ⟨t0, t16⟩
    rw [show ((N : Int).toNat) = N by omega] at this
    exact this.mono (R' := SomRes (ltR N rs t) wx) fun e w' h => lat_som hv t0 t16 h)
  have c3 := Lib.hid (fun (wx : World) (hb : Below (w.alloc (.cells #[.int .i64 (N : Int), .slice A rs.length c] 29)).heap.size (w.alloc (.cells #[.int .i64 (N : Int), .slice A rs.length c] 29)) wx) => by
    have := l09Least_any w.heap.size (N : Int) A rs c wx ((kp.to hb).cell 0 rfl) ((kp.to hb).cell 1 rfl) ((hp.to hx).to hb) hv
    rw [show ((N : Int).toNat) = N by omega] at this
    exact this.mono (R' := SomRes (runR rs (N + 1) (zer N)) wx) fun e w' h => lst_som h)
  rw [hv] at c1
  clear hp hv ht
  generalize ltR N rs t = R1 at *
  generalize runR rs (N + 1) (zer N) = R2 at *
  generalize frO (N : Int) rs t = R' at *
  go_enter Try.func46, Try.ntmps46
  go_wp2_with fail
  refine c1.out.mono ?_
  rintro e w1 ⟨rfl, hb1⟩
  have x1 := bl_step hx hb1 hx.size
  go_wp2_with fail
  refine (l09Wide_any t _ HI _).mono ?_
  rintro e w2 ⟨rfl, rfl⟩
  go_wp2_with fail
  refine (c2.out _ hb1).mono ?_
  rintro e w2 ⟨⟨v1, ok1, rfl, hy1, hn1⟩, hb2⟩
  have y2 := bl_trans hb1 hb2
  have x2 := bl_trans x1 hb2
  have HY1 := Lib.hid hy1
  have HN1 := Lib.hid hn1
  clear hy1 hn1
  go_wp2_with fail
  refine (c3.out _ y2).mono ?_
  rintro e w3 ⟨⟨v2, ok2, rfl, hy2, hn2⟩, hb3⟩
  have x3 := bl_trans x2 hb3
  have HY2 := Lib.hid hy2
  have HN2 := Lib.hid hn2
  clear hy2 hn2 c1 c2 c3
  cases ok1
  · have HF := Lib.hid (HF0.out (HN1.out rfl))
    go_wp2
    go_ret2
    exact ⟨none, 0, by rw [HF.out]; rfl, by rw [HF.out]; exact Own4.none_ _ _ _, x3⟩
  cases ok2
  · have HF := Lib.hid (HF1.out (HN2.out rfl))
    go_wp2
    go_ret2
    exact ⟨none, 0, by rw [HF.out]; rfl, by rw [HF.out]; exact Own4.none_ _ _ _, x3⟩
  obtain ⟨a, H, hR1, rfl, hDa, hH⟩ := HY1.out rfl
  obtain ⟨d, E, hR2, rfl, hDd, hE⟩ := HY2.out rfl
  obtain ⟨hal, hab⟩ := HLT.out a hR1
  obtain ⟨hdl, hdb⟩ := HLS.out d hR2
  have HF := Lib.hid (HFR.out a d hR1 hR2)
  have hda : d.length = a.length := by omega
  have hl16 : d.length ≤ 16 := by omega
  have hl16I : (d.length : Int) ≤ 16 := by omega
  have HDA := Lib.hid hda
  have HAB := Lib.hid hab
  have HDB := Lib.hid hdb
  have hDa3 := hDa.to hb3
  have hHl := hDa3.lt
  have hEl := hDd.lt
  have ho1 := OwnI.empty w3 w3.heap.size (Nat.le_refl _)
  have hb4 : Below w3.heap.size w3 (w3.alloc (.cells #[] 2)) := by (repeat (first | assumption | exact Below.refl _ _ | (refine bl_alloc ?_ _) | (refine Below.drew ?_) | (refine bl_drewN ?_ _) | (refine bl_set ?_ (by first | (simp; done) | omega | (simp; omega)) _) | (refine bl_trans ?_ (by assumption)) | (refine bl_step ?_ (by assumption) (by first | omega | exact Below.size (by assumption) | (simp; omega) | (simp; exact Below.size (by assumption))))))
  clear hR1 hR2 hal hdl hab hdb hda HY1 HY2 HN1 HN2 HLT HLS HFR HF0 HF1 hDa hb3 hb2 hb1
  go_wp2
  go_loopw [10, 11] (fun v i wr => ∃ k : Nat, k ≤ d.length ∧ i = .int .i64 k ∧ OwnI wr w3.heap.size v (subT a d k) ∧ Below w3.heap.size w3 wr) (fun _ i _ => d.length - (intOf i).toNat)
  case atStart => exact ⟨0, by omega, rfl, ho1, hb4⟩
  case round =>
    clear ho1 hb4
    obtain ⟨k, hk, rfl, hown, hb⟩ := hrel
    have hk0 : (0 : Int) ≤ (k : Int) := by omega
    by_cases hlt : k < d.length
    case neg =>
      have hkd : k = a.length := by have := HDA.out; omega
      obtain ⟨A4, c4, rfl, h4⟩ := own4_of (hown.mono (C := w.heap.size) x3.size)
      have HE : Hid (subT a d k = subK a d a.length) := by show _ = _; rw [hkd, subT_all]
      have hdn : ¬ (k : Int) < (d.length : Int) := by omega
      clear hkd
      go_wp2
      go_ret2
      exact ⟨A4, c4, by rw [HF.out, HE.out]; rfl, by rw [HF.out]; rw [HE.out] at h4; exact h4, x3.trans (hb.mono x3.size)⟩
    have hka : k < a.length := by have := HDA.out; omega
    have e0 := (hDa3.to hb).at_ hka hka
    have e1 := (hDd.to hb).at_ hlt hlt
    have hltI : (k : Int) < (d.length : Int) := by omega
    have hkaI : (k : Int) < (a.length : Int) := by omega
    have ba := HAB.out k
    have bd := HDB.out k
    have HS := Lib.hid (subT_succ a d k)
    have hLl : (subT a d k).length ≤ 4000000 := by simp [subT]; omega
    generalize a.getD k 0 = x at *
    generalize d.getD k 0 = y at *
    obtain ⟨ba0, ba1⟩ := ba
    obtain ⟨bd0, bd1⟩ := bd
    have hzw := hb.size
    have hwr : IntKind.i64.wrap (x - y) = x - y := IntWalk.i64_in _ (by omega)
    go_wp2_with fail
    refine wp_region_tree (fun wx => wx.cell? ⟨H, k, none⟩ = some (.int .i64 x) ∧ wx.cell? ⟨E, k, none⟩ = some (.int .i64 y))
      (Pl.takes [0, 1, 2, 3, 4, 5, 6, 7, 8, 9] (.alone 10 (.alone 11 (.takes [12] .done)))) (by kernel_rfl) (by kernel_rfl) (by kernel_rfl) (fun _ d _ _ _ h => by cases d <;> exact h) ⟨e0, e1⟩ (fun S0 => ?_)
    refine tplan_w (v := ?_) rfl (by rfl) ?_ ?_
    rotate_left
    · intro wx hSx
      try dsimp only at hSx
      go_simp
      try (with_reducible rfl)
    try simp only [Act.put, List.setIfInBounds_toArray, List.set_cons_zero, List.set_cons_succ]
    refine tplan_w (v := ?_) rfl (by rfl) ?_ ?_
    rotate_left
    · intro wx hSx
      try dsimp only at hSx
      go_simp
      try (with_reducible rfl)
    try simp only [Act.put, List.setIfInBounds_toArray, List.set_cons_zero, List.set_cons_succ]
    refine tplan_w (v := ?_) rfl (by rfl) ?_ ?_
    rotate_left
    · intro wx hSx
      try dsimp only at hSx
      go_simp
      try (with_reducible rfl)
    try simp only [Act.put, List.setIfInBounds_toArray, List.set_cons_zero, List.set_cons_succ]
    refine tplan_w (v := ?_) rfl (by rfl) ?_ ?_
    rotate_left
    · intro wx hSx
      try dsimp only at hSx
      go_simp
      try (with_reducible rfl)
    try simp only [Act.put, List.setIfInBounds_toArray, List.set_cons_zero, List.set_cons_succ]
    refine tplan_w (v := ?_) rfl (by rfl) ?_ ?_
    rotate_left
    · intro wx hSx
      try dsimp only at hSx
      go_simp
      try (with_reducible rfl)
    try simp only [Act.put, List.setIfInBounds_toArray, List.set_cons_zero, List.set_cons_succ]
    refine tplan_w (v := ?_) rfl (by rfl) ?_ ?_
    rotate_left
    · intro wx hSx
      try dsimp only at hSx
      go_simp
      try (with_reducible rfl)
    try simp only [Act.put, List.setIfInBounds_toArray, List.set_cons_zero, List.set_cons_succ]
    refine tplan_w (v := ?_) rfl (by rfl) ?_ ?_
    rotate_left
    · intro wx hSx
      try dsimp only at hSx
      go_simp
      try (with_reducible rfl)
    try simp only [Act.put, List.setIfInBounds_toArray, List.set_cons_zero, List.set_cons_succ]
    refine tplan_w (v := ?_) rfl (by rfl) ?_ ?_
    rotate_left
    · intro wx hSx
      try dsimp only at hSx
      go_simp
      try (with_reducible rfl)
    try simp only [Act.put, List.setIfInBounds_toArray, List.set_cons_zero, List.set_cons_succ]
    refine tplan_w (v := ?_) rfl (by rfl) ?_ ?_
    rotate_left
    · intro wx hSx
      try dsimp only at hSx
      go_simp
      try (with_reducible rfl)
    try simp only [Act.put, List.setIfInBounds_toArray, List.set_cons_zero, List.set_cons_succ]
    refine tplan_w (v := ?_) rfl (by rfl) ?_ ?_
    rotate_left
    · intro wx hSx
      try dsimp only at hSx
      go_simp
      try (with_reducible rfl)
    try simp only [Act.put, List.setIfInBounds_toArray, List.set_cons_zero, List.set_cons_succ]
    have hbC : Below wr.heap.size wr (wr.alloc (.cells #[.int .i64 (x - y)] 2)).drew := ((Below.refl wr.heap.size wr).alloc (Nat.le_refl _) (.cells #[.int .i64 (x - y)] 2)).drew
    have S1 : (wr.alloc (.cells #[.int .i64 (x - y)] 2)).drew.cell? ⟨H, k, none⟩ = some (.int .i64 x) ∧ (wr.alloc (.cells #[.int .i64 (x - y)] 2)).drew.cell? ⟨E, k, none⟩ = some (.int .i64 y) := ⟨(hbC.cell (p := ⟨H, k, none⟩) (by show H < wr.heap.size; omega)).trans e0, (hbC.cell (p := ⟨E, k, none⟩) (by show E < wr.heap.size; omega)).trans e1⟩
    have kC : Blk (wr.alloc (.cells #[.int .i64 (x - y)] 2)).drew wr.heap.size #[.int .i64 (x - y)] 2 := Blk.new wr _ _
    refine tplan_b rfl (fun K hK => ?_)
    go_simp
    refine hK _ _ ⟨S1, ?_⟩
    clear hK K
    try simp only [Act.put, List.setIfInBounds_toArray, List.set_cons_zero, List.set_cons_succ]
    have hoC := hown.to hbC
    have bC := bl_step hb hbC hb.size
    refine tplan_b rfl (fun K hK => ?_)
    refine step_append_int (by rfl) (.tmp 41) (.tmp 51) (by rfl) w3.heap.size _ (subT a d k) (x - y) wr.heap.size (by rfl) hoC (by rfl) kC hLl bC.size ?_
    intro v6 w6 hO6 hgrow howb
    have hb6 : Below w3.heap.size w3 w6 := Below.grown bC hgrow bC.size (fun i hi => hown.ge hi)
    have S6 : w6.cell? ⟨H, k, none⟩ = some (.int .i64 x) ∧ w6.cell? ⟨E, k, none⟩ = some (.int .i64 y) := ⟨((hb6.cell (p := ⟨H, k, none⟩) hHl).trans (hb.cell (p := ⟨H, k, none⟩) hHl).symm).trans e0, ((hb6.cell (p := ⟨E, k, none⟩) hEl).trans (hb.cell (p := ⟨E, k, none⟩) hEl).symm).trans e1⟩
    refine hK _ _ ⟨S6, ?_⟩
    clear hK K
    try simp only [Act.put, List.setIfInBounds_toArray, List.set_cons_zero, List.set_cons_succ]
    refine tplan_w (v := ?_) rfl (by rfl) ?_ ?_
    rotate_left
    · intro wx hSx
      try dsimp only at hSx
      go_simp
      try (with_reducible rfl)
    try simp only [Act.put, List.setIfInBounds_toArray, List.set_cons_zero, List.set_cons_succ]
    refine tplan_endQ ?_
    go_wp2
    go_roundw
    case rel => exact ⟨k + 1, by omega, by go_num, by rw [HS.out]; exact hO6, hb6⟩
    case measure => simp [intOf]; omega
end Go.Proofs.Ytgpcfkegbcpkpaa
