/-
  Contracts: LatestPlaces, as the program has it and as the model has it.
-/
import Derived.Test.YtgpcfkegbcpkpaaWidI
import Derived.Test.YtgpcfkegbcpkpaaLatS
namespace Go.Proofs.Ytgpcfkegbcpkpaa
set_option linter.unusedSimpArgs false
set_option linter.unusedVariables false
open Go.ChangeShapes Go.WideShapes Go.ChangeAt Go.RowKit Go.BigFrame

def upTo (t : Int) (ds : List Int) (i : Nat) : Bool := decide (ds.getD i 0 ≤ t)
def okW (t : Int) (ds : List Int) : Bool := okTo (upTo t ds) ds.length
/-- The latest places of a valid press. -/
def ltR (N : Nat) (rs : List R3) (t : Int) : Option (List Int) := (runR (rs.map (turnR false)) (N + 1) (zer N)).bind fun ds => if okW t ds = true then some (mir t ds) else none
def ltO (n : Int) (rs : List R3) (t : Int) : Option (List Int) := if prB n rs = true ∧ inB t 0 16000 = true then ltR n.toNat rs t else none
theorem plB_mir {N : Nat} {rs : List R3} {ds : List Int} {t : Int} (hv : prB (N : Int) rs = true) (h : runR (rs.map (turnR false)) (N + 1) (zer N) = some ds) (h0 : 0 ≤ t) (h1 : t ≤ 16000) : plB (N : Int) rs (mir t ds) = okW t ds := by
  obtain ⟨hl, hf, hz⟩ := run_fix _ _ _ h
  have hlN : ds.length = N := by rw [hl]; simp [zer]
  have hnn : ∀ i, 0 ≤ ds.getD i 0 := fun i => by have := hz i; rw [zer_at] at this; exact this
  obtain ⟨⟨n1, n16⟩, h40, hru⟩ := pr_facts hv
  have e1 : okTo (plcB (mir t ds)) (mir t ds).length = okW t ds := by
    rw [mir_len]
    refine okTo_congr fun i hi => ?_
    unfold plcB upTo inB
    rw [mir_at hi]
    have := hnn i
    rw [decide_eq_decide]
    omega
  have e2 : okTo (kptB (mir t ds) rs) rs.length = true := by
    refine okTo_iff.2 fun k hk => ?_
    obtain ⟨X, Y, hX, hY, hXn, hYn, _, _, _⟩ := ru_facts (hru k hk) n16
    have hm : turnR false (rs.getD k r30) ∈ rs.map (turnR false) := List.mem_map.2 ⟨rs.getD k r30, by rw [List.getD_eq_getElem?_getD, List.getElem?_eq_getElem hk]; simp, rfl⟩
    have h3 := of_decide_eq_false (hf _ hm)
    unfold kptB tst atP
    unfold atP turnR fromH toH at h3
    simp only [Bool.false_eq_true, if_false] at h3
    rw [hX, hY] at h3
    rw [hX, hY]
    simp only [Int.toNat_natCast] at h3 ⊢
    simp only [Bool.not_eq_true', decide_eq_false_iff_not]
    rw [mir_at (by omega), mir_at (by omega)]
    omega
  unfold plB
  rw [decide_eq_true (by rw [mir_len, hlN]), e1, e2, Bool.and_true, Bool.true_and]
/-- The first k of the places seen from the other end. -/
def mirK (t : Int) (ds : List Int) (k : Nat) : List Int := (List.range ds.length).map fun i => if i < k then t - ds.getD i 0 else ds.getD i 0
theorem mirK_len (t : Int) (ds : List Int) (k : Nat) : (mirK t ds k).length = ds.length := by simp [mirK]
theorem mirK_at {t : Int} {ds : List Int} {k i : Nat} (h : i < ds.length) : (mirK t ds k).getD i 0 = if i < k then t - ds.getD i 0 else ds.getD i 0 := by
  simp [mirK, List.getD_eq_getElem?_getD, h]
theorem mirK_zero (t : Int) (ds : List Int) : mirK t ds 0 = ds := list_ext0 (mirK_len _ _ _) fun i hi => by
  rw [mirK_at (by rwa [mirK_len] at hi), if_neg (by omega)]
theorem mirK_all (t : Int) (ds : List Int) : mirK t ds ds.length = mir t ds := list_ext0 (by rw [mirK_len, mir_len]) fun i hi => by
  have hi' : i < ds.length := by rwa [mirK_len] at hi
  rw [mirK_at hi', if_pos hi', mir_at hi']
theorem mirK_set {t : Int} {ds : List Int} {k : Nat} (h : k < ds.length) : (mirK t ds k).set k (t - ds.getD k 0) = mirK t ds (k + 1) := list_ext0 (by simp [mirK]) fun i hi => by
  have hi' : i < ds.length := by simpa [mirK] using hi
  rw [at_set, mirK_at hi', mirK_at hi', mirK_len]
  by_cases e : k = i
  · subst e; rw [if_pos ⟨rfl, hi'⟩, if_pos (by omega)]
  · rw [if_neg (fun x => e x.1)]
    by_cases h2 : i < k
    · rw [if_pos h2, if_pos (by omega)]
    · rw [if_neg h2, if_neg (by omega)]
set_option maxRecDepth 100000 in
set_option maxHeartbeats 3200000 in
theorem latestPlaces_any (N : Nat) (A : Option Addr) (rs : List R3) (c : Nat) (t : Int) (w : World) (hp : RulAt w w.heap.size A rs) (hv : prB (N : Int) rs = true) :
    Calls Try.prog 92 #[.agg #[.int .i64 (N : Int), .slice A rs.length c], .int .i64 t] w (GoRes (ltO (N : Int) rs t) w) := by
  have hx : Below w.heap.size w (w.alloc (.cells #[.int .i64 (N : Int), .slice A rs.length c] 29)) := by (repeat (first | assumption | exact Below.refl _ _ | (refine bl_alloc ?_ _) | (refine Below.drew ?_) | (refine bl_drewN ?_ _) | (refine bl_set ?_ (by first | (simp; done) | omega | (simp; omega)) _) | (refine bl_trans ?_ (by assumption)) | (refine bl_step ?_ (by assumption) (by first | omega | exact Below.size (by assumption) | (simp; omega) | (simp; exact Below.size (by assumption))))))
  obtain ⟨⟨n1, n16⟩, _, _⟩ := pr_facts hv
  cases ht : inB t 0 16000
  · have R : Hid (ltO (N : Int) rs t = none) := by show _ = _; unfold ltO; rw [if_neg (by rw [ht]; simp)]
    have HI := Lib.hid ht
    rw [R.out]
    clear hp hv ht
    go_enter Try.func92, Try.ntmps92
    go_wp2_with fail
    refine (isNoPlace_any _ _ HI _).mono ?_
    rintro e w1 ⟨rfl, rfl⟩
    go_wp2_with fail
    refine (require_no _).mono ?_
    rintro e w2 ⟨⟨u, pv, rfl⟩, rfl⟩
    go_wp2
    exact ⟨rfl, .inr ⟨rfl, ⟨_, _, rfl⟩⟩, hx⟩
  obtain ⟨t0, t16⟩ : 0 ≤ t ∧ t ≤ 16000 := of_decide_eq_true ht
  have R : Hid (ltO (N : Int) rs t = ltR N rs t) := by show _ = _; unfold ltO; rw [if_pos ⟨hv, ht⟩]; rfl
  have HI := Lib.hid ht
  have cs := Lib.hid (fun (wx : World) (hb : Below w.heap.size w wx) => settled_any 125 124 false N A rs c wx head_down (hp.to hb) hv)
  have HNN := Lib.hid (fun ds h => run_nn (rs := rs.map (turnR false)) (k := N + 1) (n := N) (ds := ds) h)
  have HBD : Hid (∀ ds, runR (rs.map (turnR false)) (N + 1) (zer N) = some ds → ltR N rs t = if okW t ds = true then some (mir t ds) else none) := fun ds h => by unfold ltR; rw [h]; rfl
  have HBN : Hid (runR (rs.map (turnR false)) (N + 1) (zer N) = none → ltR N rs t = none) := fun h => by unfold ltR; rw [h]; rfl
  have kp := Blk.new w #[.int .i64 (N : Int), .slice A rs.length c] 29
  rw [R.out]
  clear hp hv ht R
  generalize runR (rs.map (turnR false)) (N + 1) (zer N) = R at *
  generalize ltR N rs t = R2 at *
  have s0 := kp.cell 0 (v := .int .i64 (N : Int)) rfl
  have s1 := kp.cell 1 (v := .slice A rs.length c) rfl
  have hl := kp.lt
  go_enter Try.func92, Try.ntmps92
  go_wp2_with fail
  generalize (w.alloc (.cells #[.int .i64 (N : Int), .slice A rs.length c] 29)) = w0 at *
  refine (isNoPlace_any _ _ HI _).mono ?_
  rintro e w1 ⟨rfl, rfl⟩
  go_wp2_with fail
  refine (require_yes _).mono ?_
  rintro e w1 ⟨rfl, rfl⟩
  go_wp2_with fail
  refine wp_region_treeB (.takes [0] (.alone 1 (.alone 2 (.takes [3] .done)))) (by kernel_rfl) (by kernel_rfl) (by kernel_rfl) (fun _ d _ _ _ h => by cases d <;> exact h) (fun hS0 => ?_)
  refine tplan_w (v := ?_) rfl (by rfl) ?_ ?_
  rotate_left
  · intro wx hSx
    obtain ⟨hcx, hfx, hzx⟩ := bcell hSx
    go_simp
    try (with_reducible rfl)
  try simp only [Act.put, List.setIfInBounds_toArray, List.set_cons_zero, List.set_cons_succ]
  refine tplan_b rfl (fun K hK => ?_)
  go_simp
  refine ((downward_any _)).mono ?_
  rintro e w1 ⟨rfl, hb1⟩
  have hS1 := belowS hS0 hb1
  refine hK _ _ ⟨hS1, ?_⟩
  clear hK K
  try simp only [Act.put, List.setIfInBounds_toArray, List.set_cons_zero, List.set_cons_succ]
  refine tplan_b rfl (fun K hK => ?_)
  go_simp
  refine (cs.out _ (bl_step hx hS1 hx.size)).mono ?_
  rintro e w2 ⟨h, hb2⟩
  have hS2 := belowS hS1 hb2
  have x2 := bl_step hx hS2 hx.size
  have hz1 := (bl_step hx hS1 hx.size).size
  rcases h with ⟨ds, H, hR, rfl, hD, hH⟩ | ⟨hR, u, pv, rfl⟩
  · obtain ⟨hlN, hnn⟩ := HNN.out ds hR
    have HR2 := Lib.hid (HBD.out ds hR)
    have HLN := Lib.hid hlN
    have HNN2 := Lib.hid hnn
    have hwH : w.heap.size ≤ H := Nat.le_trans hz1 hH
    have hl16 : ds.length ≤ 16 := by omega
    have hl16I : (ds.length : Int) ≤ 16 := by omega
    refine hK _ _ ⟨hS2, ?_⟩
    clear hK K hR HBD HBN HNN hlN hnn cs s0 s1 kp
    try simp only [Act.put, List.setIfInBounds_toArray, List.set_cons_zero, List.set_cons_succ]
    refine tplan_w (v := ?_) rfl (by rfl) ?_ ?_
    rotate_left
    · intro wx hSx
      obtain ⟨hcx, hfx, hzx⟩ := bcell hSx
      go_simp
      try (with_reducible rfl)
    try simp only [Act.put, List.setIfInBounds_toArray, List.set_cons_zero, List.set_cons_succ]
    refine tplan_endQ ?_
    have hK0 : NBlk w2 H (mirK t ds 0) (mirK t ds 0).length := by rw [mirK_zero]; exact hD
    clear hD hb2 hS1 hS2
    go_wp2
    go_loopw [6, 7, 17] (fun _ _ i wr => ∃ k : Nat, k ≤ ds.length ∧ i = .int .i64 k ∧ NBlk wr H (mirK t ds k) (mirK t ds k).length ∧ Hid (okTo (upTo t ds) k = true) ∧ Below w.heap.size w wr) (fun _ _ i _ => ds.length - (intOf i).toNat)
    case atStart => exact ⟨0, by omega, rfl, hK0, rfl, x2⟩
    case round =>
      clear hK0 x2
      obtain ⟨k, hk, rfl, hD, HX, hb⟩ := hrel
      have hk0 : (0 : Int) ≤ (k : Int) := by omega
      by_cases hlt : k < ds.length
      case neg =>
        obtain rfl : k = ds.length := by omega
        have HF : Hid (R2 = some (mir t ds)) := by show _ = _; rw [HR2.out, if_pos (show okW t ds = true from HX.out)]
        rw [mirK_all] at hD
        have HML : Hid ((mir t ds).length = ds.length) := mir_len t ds
        go_wp2
        go_ret
        exact ⟨.inl ⟨mir t ds, H, HF.out, by rw [HML.out]; rfl, hD, hwH⟩, hb⟩
      have hkm : k < (mirK t ds k).length := by rw [mirK_len]; exact hlt
      have e0 := hD.at_ hkm hkm
      rw [mirK_at hlt, if_neg (by omega)] at e0
      have fz := hD.frozen k
      have hltI : (k : Int) < (ds.length : Int) := by omega
      have hnn := HNN2.out k
      have HKS : Hid ((mirK t ds k).set k (t - ds.getD k 0) = mirK t ds (k + 1)) := mirK_set hlt
      have HBAD := Lib.hid (fun (h : upTo t ds k = false) => okTo_bad (f := upTo t ds) hlt h)
      have HNX := Lib.hid (fun (h : upTo t ds k = true) => okTo_next (f := upTo t ds) HX.out h)
      have hD5 := hD.upd hkm (t - ds.getD k 0)
      rw [HKS.out] at hD5
      have HU : Hid (upTo t ds k = decide (ds.getD k 0 ≤ t)) := rfl
      clear HKS
      by_cases hc : ds.getD k 0 ≤ t
      · have HOK := Lib.hid (HNX.out (by rw [HU.out, decide_eq_true hc]))
        have hd : decide (ds.getD k 0 ≤ t) = true := decide_eq_true hc
        clear HU HBAD HNX
        generalize ds.getD k 0 = x at *
        have hb5 := hb.setCell (p := ⟨H, k, none⟩) hwH (.int .i64 (t - x))
        clear hb hD
        go_wp2_with fail
        refine (require_yes _).mono ?_
        rintro e w5 ⟨rfl, rfl⟩
        go_wp2
        go_roundw
        case rel => exact ⟨k + 1, by omega, by go_num, hD5, HOK, hb5⟩
        case measure => simp [intOf]; omega
      · have HB := Lib.hid (HBAD.out (by rw [HU.out, decide_eq_false hc]))
        have HN2 : Hid (R2 = none) := by show _ = _; rw [HR2.out, if_neg (by show ¬ okTo (upTo t ds) ds.length = true; rw [HB.out]; simp)]
        have hd : decide (ds.getD k 0 ≤ t) = false := decide_eq_false hc
        clear HU HBAD HNX hD5 hD
        generalize ds.getD k 0 = x at *
        go_wp2_with fail
        refine (require_no _).mono ?_
        rintro e w5 ⟨⟨u, pv, rfl⟩, rfl⟩
        go_wp2
        exact ⟨rfl, .inr ⟨HN2.out, ⟨_, _, rfl⟩⟩, hb⟩
  · have HR := Lib.hid (HBN.out hR)
    clear hR
    go_wp2
    exact ⟨rfl, .inr ⟨HR.out, ⟨_, _, rfl⟩⟩, x2⟩
theorem l09Wide_any (t : Int) (b : Bool) (h : Hid (inB t 0 16000 = b)) (w : World) :
    Calls Try.prog 89 #[.int .i64 t] w fun e w' => e = .returned (.bool b) ∧ w = w' := by
  go_enter Try.func89, Try.ntmps89
  go_wp2_with fail
  refine (l00In_at h _).mono ?_
  rintro e w' ⟨rfl, rfl⟩
  go_wp2
  go_ret
  exact ⟨rfl, rfl⟩
set_option maxRecDepth 100000 in
set_option maxHeartbeats 1600000 in
theorem latestClo_any (n : Int) (A : Option Addr) (rs : List R3) (c Z Y : Nat) (t : Int) (w : World) (c0 : w.cell? ⟨Z, 0, none⟩ = some (.int .i64 n)) (c1 : w.cell? ⟨Z, 1, none⟩ = some (.slice A rs.length c)) (c2 : w.cell? ⟨Y, 0, none⟩ = some (.int .i64 t)) (hp : RulAt w w.heap.size A rs) (hl : rs.length ≤ 1048576) :
    Calls Try.prog 91 #[.pointer (some ⟨Z, 0, none⟩), .pointer (some ⟨Y, 0, none⟩)] w (GoRes (ltO n rs t) w) := by
  have hZ : Z < w.heap.size := World.block_lt_of_cell? w _ c0
  have hY : Y < w.heap.size := World.block_lt_of_cell? w _ c2
  have cr := Lib.hid (fun (wx : World) (hb : Below w.heap.size w wx) => requirePress_any n A rs c wx (hp.to hb) hl)
  have hxw : Below w.heap.size w w := Below.refl _ _
  cases hv : prB n rs
  · have R : Hid (ltO n rs t = none) := by show _ = _; unfold ltO; rw [if_neg (by rw [hv]; simp)]
    have HV := Lib.hid hv
    clear hp hv
    rw [R.out]
    go_enter Try.func91, Try.ntmps91
    go_wp2_with fail
    refine wp_region_treeB (.takes [0, 2] (.alone 1 (.alone 3 (.takes [4] .done)))) (by kernel_rfl) (by kernel_rfl) (by kernel_rfl) (fun _ d _ _ _ h => by cases d <;> exact h) (fun hS0 => ?_)
    refine tplan_w (v := ?_) rfl (by rfl) ?_ ?_
    rotate_left
    · intro wx hSx
      obtain ⟨hcx, hfx, hzx⟩ := bcell hSx
      go_simp
      try (with_reducible rfl)
    try simp only [Act.put, List.setIfInBounds_toArray, List.set_cons_zero, List.set_cons_succ]
    refine tplan_w (v := ?_) rfl (by rfl) ?_ ?_
    rotate_left
    · intro wx hSx
      obtain ⟨hcx, hfx, hzx⟩ := bcell hSx
      go_simp
      try (with_reducible rfl)
    try simp only [Act.put, List.setIfInBounds_toArray, List.set_cons_zero, List.set_cons_succ]
    refine tplan_b rfl (fun K hK => ?_)
    go_simp
    refine (cr.out _ hS0).mono ?_
    rintro e w1 ⟨⟨h, rfl⟩ | ⟨_, u, pv, rfl⟩, hb1⟩
    · rw [HV.out] at h; cases h
    · have x1 := belowS hS0 hb1
      go_wp2
      exact ⟨rfl, .inr ⟨rfl, ⟨_, _, rfl⟩⟩, x1⟩
  · obtain ⟨⟨n1, n16⟩, _, _⟩ := pr_facts hv
    obtain ⟨N, rfl⟩ : ∃ N : Nat, n = (N : Int) := ⟨n.toNat, by omega⟩
    have cl := Lib.hid (fun (wx : World) (hb : Below w.heap.size w wx) => latestPlaces_any N A rs c t wx (hp.to hb) hv)
    have HV := Lib.hid hv
    clear hp hv
    generalize ltO (N : Int) rs t = R' at *
    go_enter Try.func91, Try.ntmps91
    go_wp2_with fail
    refine wp_region_treeB (.takes [0, 2] (.alone 1 (.alone 3 (.takes [4] .done)))) (by kernel_rfl) (by kernel_rfl) (by kernel_rfl) (fun _ d _ _ _ h => by cases d <;> exact h) (fun hS0 => ?_)
    refine tplan_w (v := ?_) rfl (by rfl) ?_ ?_
    rotate_left
    · intro wx hSx
      obtain ⟨hcx, hfx, hzx⟩ := bcell hSx
      go_simp
      try (with_reducible rfl)
    try simp only [Act.put, List.setIfInBounds_toArray, List.set_cons_zero, List.set_cons_succ]
    refine tplan_w (v := ?_) rfl (by rfl) ?_ ?_
    rotate_left
    · intro wx hSx
      obtain ⟨hcx, hfx, hzx⟩ := bcell hSx
      go_simp
      try (with_reducible rfl)
    try simp only [Act.put, List.setIfInBounds_toArray, List.set_cons_zero, List.set_cons_succ]
    refine tplan_b rfl (fun K hK => ?_)
    go_simp
    refine (cr.out _ hS0).mono ?_
    rintro e w1 ⟨⟨_, rfl⟩ | ⟨h, u, pv, rfl⟩, hb1⟩
    · have hS1 := belowS hS0 hb1
      refine hK _ _ ⟨hS1, ?_⟩
      clear hK K
      try simp only [Act.put, List.setIfInBounds_toArray, List.set_cons_zero, List.set_cons_succ]
      refine tplan_b rfl (fun K hK => ?_)
      go_simp
      refine (cl.out _ hS1).mono ?_
      rintro e w2 ⟨h, hb2⟩
      have hS2 := belowS hS1 hb2
      rcases h with ⟨ds, H, hR, rfl, hD, hH⟩ | ⟨hR, u, pv, rfl⟩
      · refine hK _ _ ⟨hS2, ?_⟩
        clear hK K
        try simp only [Act.put, List.setIfInBounds_toArray, List.set_cons_zero, List.set_cons_succ]
        refine tplan_w (v := ?_) rfl (by rfl) ?_ ?_
        rotate_left
        · intro wx hSx
          obtain ⟨hcx, hfx, hzx⟩ := bcell hSx
          go_simp
          try (with_reducible rfl)
        try simp only [Act.put, List.setIfInBounds_toArray, List.set_cons_zero, List.set_cons_succ]
        refine tplan_endQ ?_
        have HR := Lib.hid hR
        clear hR
        go_wp2
        go_ret
        exact ⟨.inl ⟨ds, H, HR.out, rfl, hD, Nat.le_trans hS1.size hH⟩, hS2⟩
      · have HR := Lib.hid hR
        clear hR
        go_wp2
        exact ⟨rfl, .inr ⟨HR.out, ⟨_, _, rfl⟩⟩, hS2⟩
    · rw [HV.out] at h; cases h
theorem ltO_len {n : Int} {rs : List R3} {t : Int} : (outL (ltO n rs t)).length ≤ 1048576 := by
  unfold ltO
  split
  · rename_i h
    obtain ⟨⟨n1, n16⟩, _, _⟩ := pr_facts h.1
    unfold ltR
    cases hr : runR (rs.map (turnR false)) (n.toNat + 1) (zer n.toNat) with
    | none => simp [outL]
    | some ds =>
      have := (run_fix _ _ _ hr).1
      have hz : (zer n.toNat).length = n.toNat := by simp [zer]
      simp only [Option.bind_some]
      split
      · simp [outL, mir_len]; omega
      · simp [outL]
  · simp [outL]
set_option maxRecDepth 100000 in
set_option maxHeartbeats 800000 in
theorem LatestPlacesI_any (n : Int) (A : Option Addr) (rs : List R3) (c : Nat) (t : Int) (w : World) (hp : RulAt w w.heap.size A rs) (hl : rs.length ≤ 1048576) (_ : (Lit.int .i64 t).wf = true) :
    Calls Try.prog 45 #[.agg #[.int .i64 n, .slice A rs.length c], .int .i64 t] w (NRes (outL (ltO n rs t)) (ltO n rs t).isSome w) := by
  have hx : Below w.heap.size w ((w.alloc (.cells #[.int .i64 n, .slice A rs.length c] 29)).alloc (.cells #[.int .i64 t] 2)) := by (repeat (first | assumption | exact Below.refl _ _ | (refine bl_alloc ?_ _) | (refine Below.drew ?_) | (refine bl_drewN ?_ _) | (refine bl_set ?_ (by first | (simp; done) | omega | (simp; omega)) _) | (refine bl_trans ?_ (by assumption)) | (refine bl_step ?_ (by assumption) (by first | omega | exact Below.size (by assumption) | (simp; omega) | (simp; exact Below.size (by assumption))))))
  have kp : Blk ((w.alloc (.cells #[.int .i64 n, .slice A rs.length c] 29)).alloc (.cells #[.int .i64 t] 2)) w.heap.size #[.int .i64 n, .slice A rs.length c] 29 := (Blk.new _ _ _).alloc _
  have kb : Blk ((w.alloc (.cells #[.int .i64 n, .slice A rs.length c] 29)).alloc (.cells #[.int .i64 t] 2)) (w.heap.size + 1) #[.int .i64 t] 2 := by
    have := Blk.new (w.alloc (.cells #[.int .i64 n, .slice A rs.length c] 29)) #[.int .i64 t] 2
    rwa [World.size_alloc] at this
  have cc := Lib.hid (fun (wx : World) (hb : Below ((w.alloc (.cells #[.int .i64 n, .slice A rs.length c] 29)).alloc (.cells #[.int .i64 t] 2)).heap.size ((w.alloc (.cells #[.int .i64 n, .slice A rs.length c] 29)).alloc (.cells #[.int .i64 t] 2)) wx) => latestClo_any n A rs c w.heap.size (w.heap.size + 1) t wx ((kp.to hb).cell 0 rfl) ((kp.to hb).cell 1 rfl) ((kb.to hb).cell 0 rfl) ((hp.to hx).to hb) hl)
  clear hp kp kb
  have HLL := Lib.hid (ltO_len (n := n) (rs := rs) (t := t))
  generalize ltO n rs t = R at *
  have HNO : Hid (R.isSome = false → outL R = [] ∧ R.isSome = false) := fun h => by cases R with
    | none => exact ⟨rfl, rfl⟩
    | some _ => cases h
  go_enter Try.func45, Try.ntmps45
  go_wp2_with fail
  generalize ((w.alloc (.cells #[.int .i64 n, .slice A rs.length c] 29)).alloc (.cells #[.int .i64 t] 2)) = w1 at *
  have hx1 : Below w1.heap.size w1 (w1.alloc (.cells #[.bool false] 4)) := by (repeat (first | assumption | exact Below.refl _ _ | (refine bl_alloc ?_ _) | (refine Below.drew ?_) | (refine bl_drewN ?_ _) | (refine bl_set ?_ (by first | (simp; done) | omega | (simp; omega)) _) | (refine bl_trans ?_ (by assumption)) | (refine bl_step ?_ (by assumption) (by first | omega | exact Below.size (by assumption) | (simp; omega) | (simp; exact Below.size (by assumption))))))
  refine (attemptNs_any 91 _ w1 (fun v w2 => OwnI w2 (w1.heap.size + 1) v (outL R) ∧ R.isSome = true) (R.isSome = false) (fun _ _ => by first | rfl | (simp [go_sem]; done)) ((cc.out _ hx1).mono ?_)).mono ?_
  · intro e w2 h
    obtain ⟨h2, h3⟩ := goAtt h HLL.out
    rw [World.size_alloc] at h2
    exact ⟨h2, h3⟩
  rintro e w2 h
  obtain ⟨A4, c4, rfl, h4, hb4⟩ := nres_att h HNO.out
  go_wp2
  go_ret2
  exact ⟨A4, c4, rfl, fun h0 => by obtain ⟨g, e1, hg, hI⟩ := h4 h0; exact ⟨g, e1, Nat.le_trans hx.size hg, hI⟩, bl_step hx hb4 hx.size⟩
set_option maxRecDepth 100000 in
set_option maxHeartbeats 1600000 in
theorem LatestPlacesS_any (n : Int) (A : Option Addr) (rs : List R3) (c : Nat) (t : Int) (w : World) (hp : RulAt w w.heap.size A rs) (hl : rs.length ≤ 1048576) (_ : (Lit.int .i64 t).wf = true) :
    Calls Try.prog 44 #[.agg #[.int .i64 n, .slice A rs.length c], .int .i64 t] w (NRes (outL (ltO n rs t)) (ltO n rs t).isSome w) := by
  have hx : Below w.heap.size w (w.alloc (.cells #[.int .i64 n, .slice A rs.length c] 29)) := by (repeat (first | assumption | exact Below.refl _ _ | (refine bl_alloc ?_ _) | (refine Below.drew ?_) | (refine bl_drewN ?_ _) | (refine bl_set ?_ (by first | (simp; done) | omega | (simp; omega)) _) | (refine bl_trans ?_ (by assumption)) | (refine bl_step ?_ (by assumption) (by first | omega | exact Below.size (by assumption) | (simp; omega) | (simp; exact Below.size (by assumption))))))
  have kp := Blk.new w #[.int .i64 n, .slice A rs.length c] 29
  have c1 := Lib.hid (l09Is_any w.heap.size n A rs c _ (kp.cell 0 rfl) (kp.cell 1 rfl) (hp.to hx) hl)
  cases hv : prB n rs
  · have R : Hid (ltO n rs t = none) := by show _ = _; unfold ltO; rw [if_neg (by rw [hv]; simp)]
    rw [hv] at c1
    rw [R.out]
    clear hp hv
    go_enter Try.func44, Try.ntmps44
    go_wp2_with fail
    refine c1.out.mono ?_
    rintro e w1 ⟨rfl, hb1⟩
    go_wp2
    go_ret2
    exact ⟨none, 0, rfl, Own4.none_ _ _ _, bl_step hx hb1 hx.size⟩
  cases ht : inB t 0 16000
  · have R : Hid (ltO n rs t = none) := by show _ = _; unfold ltO; rw [if_neg (by rw [ht]; simp)]
    have HI := Lib.hid ht
    rw [hv] at c1
    rw [R.out]
    clear hp hv ht
    go_enter Try.func44, Try.ntmps44
    go_wp2_with fail
    refine c1.out.mono ?_
    rintro e w1 ⟨rfl, hb1⟩
    go_wp2_with fail
    refine (l09Wide_any t _ HI _).mono ?_
    rintro e w2 ⟨rfl, rfl⟩
    go_wp2
    go_ret2
    exact ⟨none, 0, rfl, Own4.none_ _ _ _, bl_step hx hb1 hx.size⟩
  obtain ⟨t0, t16⟩ : 0 ≤ t ∧ t ≤ 16000 := of_decide_eq_true ht
  have hv' := hv
  obtain ⟨⟨n1, n16⟩, _, _⟩ := pr_facts hv
  obtain ⟨N, rfl⟩ : ∃ N : Nat, n = (N : Int) := ⟨n.toNat, by omega⟩
  have HI := Lib.hid ht
  have R : Hid (ltO (N : Int) rs t = ltR N rs t) := by show _ = _; unfold ltO; rw [if_pos ⟨hv, ht⟩]; rfl
  have c2 := Lib.hid (fun (wx : World) (hb : Below (w.alloc (.cells #[.int .i64 (N : Int), .slice A rs.length c] 29)).heap.size (w.alloc (.cells #[.int .i64 (N : Int), .slice A rs.length c] 29)) wx) => l09Latest_any w.heap.size t (N : Int) A rs c wx ((kp.to hb).cell 0 rfl) ((kp.to hb).cell 1 rfl) ((hp.to hx).to hb) hv ⟨t0, t16⟩)
  have HM := Lib.hid (fun ds h => plB_mir (rs := rs) (ds := ds) (t := t) hv h t0 t16)
  have HBD : Hid (∀ ds, runR (rs.map (turnR false)) (N + 1) (zer N) = some ds → ltR N rs t = if okW t ds = true then some (mir t ds) else none) := fun ds h => by unfold ltR; rw [h]; rfl
  have HBN : Hid (runR (rs.map (turnR false)) (N + 1) (zer N) = none → ltR N rs t = none) := fun h => by unfold ltR; rw [h]; rfl
  rw [hv] at c1
  rw [show ((N : Int).toNat) = N by omega] at c2
  rw [R.out]
  clear hp hv hv' ht R
  go_enter Try.func44, Try.ntmps44
  go_wp2_with fail
  refine c1.out.mono ?_
  rintro e w1 ⟨rfl, hb1⟩
  have x1 := bl_step hx hb1 hx.size
  go_wp2_with fail
  refine (l09Wide_any t _ HI _).mono ?_
  rintro e w2 ⟨rfl, rfl⟩
  go_wp2_with fail
  refine (c2.out _ hb1).mono ?_
  rintro e w2 ⟨h, hb2⟩
  rcases h with ⟨ds, H, hR, rfl, hD, hH⟩ | ⟨hR, rfl⟩
  · have HR2 := Lib.hid (HBD.out ds hR)
    have hpb := HM.out ds hR
    rw [hpb]
    cases ho : okW t ds
    · have HF : Hid (ltR N rs t = none) := by show _ = _; rw [HR2.out, if_neg (by rw [ho]; simp)]
      clear hpb ho hR
      go_wp2
      go_ret2
      exact ⟨none, 0, by rw [HF.out]; rfl, by rw [HF.out]; exact Own4.none_ _ _ _, bl_trans x1 hb2⟩
    · have HF : Hid (ltR N rs t = some (mir t ds)) := by show _ = _; rw [HR2.out, if_pos ho]
      clear hpb ho hR
      go_wp2
      go_ret2
      exact ⟨some ⟨H, 0, none⟩, (mir t ds).length, by rw [HF.out]; rfl, by rw [HF.out]; exact hD.own4 (Nat.le_trans x1.size hH), bl_trans x1 hb2⟩
  · have HF := Lib.hid (HBN.out hR)
    clear hR
    go_wp2
    go_ret2
    exact ⟨none, 0, by rw [HF.out]; rfl, by rw [HF.out]; exact Own4.none_ _ _ _, bl_trans x1 hb2⟩
end Go.Proofs.Ytgpcfkegbcpkpaa
