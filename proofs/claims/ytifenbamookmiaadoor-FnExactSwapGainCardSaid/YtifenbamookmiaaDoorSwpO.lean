/-
  Contracts: SwapGain of both.
-/
import Derived.Test.YtifenbamookmiaaDoorSwpS
import Derived.Test.YtifenbamookmiaaDoorSwpI
import Derived.Test.YtifenbamookmiaaDoorCplO
import Derived.Test.YtifenbamookmiaaDoorQuietA
namespace Go.Proofs.YtifenbamookmiaaDoor
set_option linter.unusedSimpArgs false
set_option linter.unusedVariables false
open Go.ChangeShapes Go.WideShapes Go.ChangeAt Go.RowKit Go.BigFrame

theorem requireBundle_yes (A : Option Addr) (Ls : List SlI) (c : Nat) (w : World) (hp : ISAt w w.heap.size A Ls) (hs : ShI Ls) (hv : bnB (heldI Ls) = true) :
    Calls Tryd.prog 46 #[.agg #[.slice A Ls.length c]] w fun e w' => e = .returned (buV A Ls.length c) ∧ Below w.heap.size w w' :=
  (requireBundle_any A Ls c w hp hs.1 hs.2).mono fun _ _ ⟨h, hb⟩ => by
    rcases h with ⟨_, h⟩ | ⟨h, _⟩
    · exact ⟨h, hb⟩
    · rw [hv] at h; cases h
theorem requireBundle_no (A : Option Addr) (Ls : List SlI) (c : Nat) (w : World) (hp : ISAt w w.heap.size A Ls) (hs : ShI Ls) (hv : bnB (heldI Ls) = false) :
    Calls Tryd.prog 46 #[.agg #[.slice A Ls.length c]] w fun e w' => Pan e ∧ Below w.heap.size w w' :=
  (requireBundle_any A Ls c w hp hs.1 hs.2).mono fun _ _ ⟨h, hb⟩ => by
    rcases h with ⟨h, _⟩ | ⟨_, h⟩
    · rw [hv] at h; cases h
    · exact ⟨h, hb⟩
theorem requireOrder_yes (A : Option Addr) (n c : Nat) (AO : Option Addr) (L : List Int) (cO : Nat) (w : World) (hn : n ≤ 9) (hL : IntsAt w w.heap.size AO L) (lL : L.length ≤ 1048576) (ho : orB n L = true) :
    Calls Tryd.prog 47 #[.agg #[.slice A n c], .slice AO L.length cO] w fun e w' => e = .returned (.agg #[.slice A n c, .slice AO L.length cO, .int .u64 0]) ∧ Below w.heap.size w w' :=
  (requireOrder_any A n c AO L cO w hn hL lL).mono fun _ _ ⟨h, hb⟩ => by
    rcases h with ⟨_, h⟩ | ⟨h, _⟩
    · exact ⟨h, hb⟩
    · rw [ho] at h; cases h
theorem requireOrder_no (A : Option Addr) (n c : Nat) (AO : Option Addr) (L : List Int) (cO : Nat) (w : World) (hn : n ≤ 9) (hL : IntsAt w w.heap.size AO L) (lL : L.length ≤ 1048576) (ho : orB n L = false) :
    Calls Tryd.prog 47 #[.agg #[.slice A n c], .slice AO L.length cO] w fun e w' => Pan e ∧ Below w.heap.size w w' :=
  (requireOrder_any A n c AO L cO w hn hL lL).mono fun _ _ ⟨h, hb⟩ => by
    rcases h with ⟨h, _⟩ | ⟨_, h⟩
    · rw [ho] at h; cases h
    · exact ⟨h, hb⟩
theorem require_yesB (w : World) : Calls Tryd.prog 48 #[.bool true] w fun e w' => e = .returned (.tuple #[]) ∧ Below w.heap.size w w' :=
  (require_yes w).mono fun _ _ ⟨h1, h2⟩ => ⟨h1, by rw [h2]; exact Below.refl _ _⟩
theorem require_noB (w : World) : Calls Tryd.prog 48 #[.bool false] w fun e w' => Pan e ∧ Below w.heap.size w w' :=
  (require_no w).mono fun _ _ ⟨h1, h2⟩ => ⟨h1, by rw [h2]; exact Below.refl _ _⟩
/-- Three values in boxes. -/
def BoxV (w : World) (b : Nat) (V0 V1 V2 : Value) : Prop :=
  w.cell? ⟨b, 0, none⟩ = some V0 ∧ w.cell? ⟨b + 1, 0, none⟩ = some V1 ∧ w.cell? ⟨b + 1 + 1, 0, none⟩ = some V2 ∧ b + 1 + 1 < w.heap.size
theorem BoxV.to {w w1 : World} {b : Nat} {V0 V1 V2 : Value} (h : BoxV w b V0 V1 V2) (hb : Below w.heap.size w w1) : BoxV w1 b V0 V1 V2 := by
  obtain ⟨h0, h1, h2, h3⟩ := h
  exact ⟨(hb.cell (p := ⟨b, 0, none⟩) (by simp; omega)).trans h0, (hb.cell (p := ⟨b + 1, 0, none⟩) (by simp; omega)).trans h1, (hb.cell (p := ⟨b + 1 + 1, 0, none⟩) (by simp; omega)).trans h2, Nat.lt_of_lt_of_le h3 hb.size⟩
theorem BoxV.new (w : World) (V0 V1 V2 : Value) (t u v : TypeId) :
    BoxV (((w.alloc (.cells #[V0] t)).alloc (.cells #[V1] u)).alloc (.cells #[V2] v)) w.heap.size V0 V1 V2 := by
  have k0 := ((Blk.new w #[V0] t).alloc (.cells #[V1] u)).alloc (.cells #[V2] v)
  have k1 := (Blk.new (w.alloc (.cells #[V0] t)) #[V1] u).alloc (.cells #[V2] v)
  have k2 := Blk.new ((w.alloc (.cells #[V0] t)).alloc (.cells #[V1] u)) #[V2] v
  rw [World.size_alloc] at k1
  rw [World.size_alloc, World.size_alloc] at k2
  exact ⟨k0.cell 0 rfl, k1.cell 0 rfl, k2.cell 0 rfl, k2.lt⟩

/-- Does SwapGain succeed? -/
def sgB (B : Mz) (L : List Int) (x : Int) : Bool := (bnB B && orB B.length L) && inB x 0 ((B.length : Int) - 2)
def sgX (B : Mz) (L : List Int) (x : Int) : Int := if sgB B L x then gainI B L x.toNat else 0
theorem sgB_held {Ls : List SlI} {L : List Int} {x : Int} : sgB (heldI Ls) L x = ((bnB (heldI Ls) && orB Ls.length L) && inB x 0 ((Ls.length : Int) - 2)) := by unfold sgB; rw [heldI_len]
set_option maxRecDepth 100000 in
set_option maxHeartbeats 1600000 in
theorem SwapGainS_any (A : Option Addr) (Ls : List SlI) (c : Nat) (AO : Option Addr) (L : List Int) (cO : Nat) (x : Int) (w : World) (hp : ISAt w w.heap.size A Ls) (hs : ShI Ls) (hL : IntsAt w w.heap.size AO L) (lL : L.length ≤ 1048576) :
    Calls Tryd.prog 20 #[.agg #[.slice A Ls.length c], .slice AO L.length cO, .int .i64 x] w fun e w' => e = .returned (.tuple #[.int .i64 (sgX (heldI Ls) L x), .bool (sgB (heldI Ls) L x)]) ∧ Below w.heap.size w w' := by
  have hx : Below w.heap.size w (w.alloc (.cells #[.slice A Ls.length c] 29)) := by (repeat (first | assumption | exact Below.refl _ _ | (refine bl_alloc ?_ _) | (refine Below.drew ?_) | (refine bl_drewN ?_ _) | (refine bl_set ?_ (by first | (simp; done) | omega | (simp; omega)) _) | (refine bl_trans ?_ (by assumption)) | (refine bl_step ?_ (by assumption) (by first | omega | exact Below.size (by assumption) | (simp; omega) | (simp; exact Below.size (by assumption))))))
  have kB := Blk.new w #[.slice A Ls.length c] 29
  have CO := Lib.hid (l10Order_any w.heap.size A Ls c AO L cO (w.alloc (.cells #[.slice A Ls.length c] 29)) (kB.cell 0 rfl) kB.lt (hp.to hx) hs (hL.to hx) lL)
  cases hv : bnB (heldI Ls) && orB Ls.length L
  · have R : Hid (sgB (heldI Ls) L x = false) := by show _ = _; rw [sgB_held, hv]; rfl
    have R2 : Hid (sgX (heldI Ls) L x = 0) := by show _ = _; unfold sgX; rw [R.out]; rfl
    rw [hv] at CO
    rw [R.out, R2.out]
    clear hv hp hs hL kB
    generalize Ls.length = n at *
    generalize L.length = m at *
    go_enter Tryd.func20, Tryd.ntmps20
    go_wp2_with fail
    refine CO.out.mono ?_
    rintro e w1 ⟨rfl, hb1⟩
    go_wp2
    go_ret2
    exact ⟨rfl, bl_step hx hb1 hx.size⟩
  have hbo := hv
  rw [Bool.and_eq_true] at hbo
  have hlo := LoAt.of hp hL hbo.1 hbo.2
  have hln : L.length = Ls.length := hlo.ok.len
  have h9 := hlo.n9
  have HB : Hid (sgB (heldI Ls) L x = inB x 0 ((Ls.length : Int) - 2)) := by show _ = _; rw [sgB_held, hv]; rfl
  have HX : Hid (sgX (heldI Ls) L x = if inB x 0 ((Ls.length : Int) - 2) then gainI (heldI Ls) L x.toNat else 0) := by show _ = _; unfold sgX; rw [HB.out]
  have CG := Lib.hid (fun (p : Nat) (hp : p + 1 < Ls.length) (wx : World) (hb : Below (w.alloc (.cells #[.slice A Ls.length c] 29)).heap.size (w.alloc (.cells #[.slice A Ls.length c] 29)) wx) => l10Gain_any w.heap.size A Ls.length c (heldI Ls) AO L cO p wx ((kB.to hb).cell 0 rfl) (kB.to hb).lt (hlo.to (bl_step hx hb hx.size)) hp)
  rw [hv] at CO
  rw [hln] at CO ⊢
  rw [HB.out, HX.out]
  clear hv hp hs hL kB hbo hlo hln lL HB HX
  generalize Ls.length = n at *
  have h9I : (n : Int) ≤ 9 := by omega
  cases hin : inB x 0 ((n : Int) - 2)
  · have HI := Lib.hid hin
    clear hin CG
    simp only [Bool.false_eq_true, if_false]
    go_enter Tryd.func20, Tryd.ntmps20
    go_wp2_with fail
    refine CO.out.mono ?_
    rintro e w1 ⟨rfl, hb1⟩
    go_wp2_with fail
    refine (l00In_at HI _).mono ?_
    rintro e w' ⟨rfl, rfl⟩
    go_wp2
    go_ret2
    exact ⟨rfl, bl_step hx hb1 hx.size⟩
  · have HI := Lib.hid hin
    have hr : 0 ≤ x ∧ x ≤ (n : Int) - 2 := of_decide_eq_true hin
    obtain ⟨p, rfl⟩ : ∃ p : Nat, x = p := ⟨x.toNat, by omega⟩
    have CG2 := Lib.hid (CG.out p (by omega))
    simp only [if_true, Int.toNat_natCast]
    clear hin CG hr
    generalize gainI (heldI Ls) L p = v at *
    go_enter Tryd.func20, Tryd.ntmps20
    go_wp2_with fail
    generalize (w.alloc (.cells #[.slice A n c] 29)) = w0 at *
    refine CO.out.mono ?_
    rintro e w1 ⟨rfl, hb1⟩
    go_wp2_with fail
    refine (l00In_at HI _).mono ?_
    rintro e w' ⟨rfl, rfl⟩
    go_wp2_with fail
    refine (CG2.out _ hb1).mono ?_
    rintro e w2 ⟨rfl, hb2⟩
    go_wp2
    go_ret2
    exact ⟨rfl, bl_step hx (bl_trans hb1 hb2) hx.size⟩
set_option maxRecDepth 100000 in
set_option maxHeartbeats 3200000 in
theorem swapClo_any (A : Option Addr) (Ls : List SlI) (c : Nat) (AO : Option Addr) (L : List Int) (cO : Nat) (x : Int) (b : Nat) (w : World) (hB : BoxV w b (.slice A Ls.length c) (.slice AO L.length cO) (.int .i64 x)) (hp : ISAt w w.heap.size A Ls) (hs : ShI Ls) (hL : IntsAt w w.heap.size AO L) (lL : L.length ≤ 1048576) (hxw : (Lit.int .i64 x).wf = true) (hT : BruAt w) :
    Calls Tryd.prog 45 #[.pointer (some ⟨b, 0, none⟩), .pointer (some ⟨b + 1, 0, none⟩), .pointer (some ⟨b + 1 + 1, 0, none⟩)] w (CplRes (sgB (heldI Ls) L x) (gainI (heldI Ls) L x.toNat) w) := by
  have hxb := bounds_i64 hxw
  clear hxw
  have hB0 := hB
  obtain ⟨q0, q1, q2, q3⟩ := hB
  have qb : b < w.heap.size := by omega
  have qb1 : b + 1 < w.heap.size := by omega
  cases hv : bnB (heldI Ls)
  · have R : Hid (sgB (heldI Ls) L x = false) := by show _ = _; rw [sgB_held, hv]; rfl
    have CB := Lib.hid (fun (wx : World) (hb : Below w.heap.size w wx) => requireBundle_no A Ls c wx (hp.to hb) hs hv)
    unfold CplRes
    rw [R.out]
    clear hv hp hs hL hT
    generalize Ls.length = n at *
    generalize L.length = m at *
    go_enter Tryd.func45, Tryd.ntmps45
    go_wp2
    refine wp_region_treeB (Pl.takes [0, 2] (.fork 1 (.fork 3 (.alone 4 (.alone 5 .done)) 4 (.alone 3 (.alone 5 .done))) 4 (.alone 1 (.alone 3 (.alone 5 .done))))) (by kernel_rfl) (by kernel_rfl) (by kernel_rfl) (fun _ d _ _ _ h => by cases d <;> exact h) (fun hS0 => ?_)
    refine tplan_w (v := ?_) rfl (by rfl) ?_ ?_
    rotate_left
    · intro wx hSx
      obtain ⟨hcx, hfx, hzx⟩ := bcell hSx
      go_simp
      try (with_reducible rfl)
    try simp only [Act.put, List.setIfInBounds_toArray, List.set_cons_zero, List.set_cons_succ]
    refine tplan_w (v := ?_) rfl (by rfl) ?_ ?_
    rotate_left
    · intro wx hSx
      obtain ⟨hcx, hfx, hzx⟩ := bcell hSx
      go_simp
      try (with_reducible rfl)
    try simp only [Act.put, List.setIfInBounds_toArray, List.set_cons_zero, List.set_cons_succ]
    refine tplan_fork ?_ ?_
    · skip
      refine tplan_b rfl (fun K hK => ?_)
      go_simp
      refine (CB.out _ hS0).mono ?_
      rintro e w1 ⟨⟨u, pv, rfl⟩, hb1⟩
      have hS1 := belowS hS0 hb1
      exact ⟨by first | rfl | trivial, .inr ⟨by first | trivial | rfl, _, _, rfl⟩, hS1⟩
    · refine tplan_b rfl (fun K hK => ?_)
      go_simp
      have hS0' : Below w.heap.size w (w.drew.alloc (.cells #[.slice none 0 0, .slice none 0 0, .int .u64 0] 57)) := (hS0.alloc (Nat.le_refl _) _)
      refine hK _ _ ⟨hS0', ?_⟩
      clear hK K hS0
      try simp only [Act.put, List.setIfInBounds_toArray, List.set_cons_zero, List.set_cons_succ]
      have hS0 := hS0'
      refine tplan_b rfl (fun K hK => ?_)
      go_simp
      refine (CB.out _ hS0).mono ?_
      rintro e w1 ⟨⟨u, pv, rfl⟩, hb1⟩
      have hS1 := belowS hS0 hb1
      exact ⟨by first | rfl | trivial, .inr ⟨by first | trivial | rfl, _, _, rfl⟩, hS1⟩
  have hn := bnB_iff.1 hv
  have h1 := hn.h1; have h9 := hn.h9
  rw [heldI_len] at h1 h9
  have CB := Lib.hid (fun (wx : World) (hb : Below w.heap.size w wx) => requireBundle_yes A Ls c wx (hp.to hb) hs hv)
  cases ho : orB Ls.length L
  · have R : Hid (sgB (heldI Ls) L x = false) := by show _ = _; rw [sgB_held, hv, ho]; rfl
    have CO := Lib.hid (fun (wx : World) (hb : Below w.heap.size w wx) => requireOrder_no A Ls.length c AO L cO wx h9 (hL.to hb) lL ho)
    unfold CplRes
    rw [R.out]
    clear hv hp hs hL hT hn ho h1 h9
    generalize Ls.length = n at *
    generalize L.length = m at *
    go_enter Tryd.func45, Tryd.ntmps45
    go_wp2
    refine wp_region_treeB (Pl.takes [0, 2] (.fork 1 (.fork 3 (.alone 4 (.alone 5 .done)) 4 (.alone 3 (.alone 5 .done))) 4 (.alone 1 (.alone 3 (.alone 5 .done))))) (by kernel_rfl) (by kernel_rfl) (by kernel_rfl) (fun _ d _ _ _ h => by cases d <;> exact h) (fun hS0 => ?_)
    refine tplan_w (v := ?_) rfl (by rfl) ?_ ?_
    rotate_left
    · intro wx hSx
      obtain ⟨hcx, hfx, hzx⟩ := bcell hSx
      go_simp
      try (with_reducible rfl)
    try simp only [Act.put, List.setIfInBounds_toArray, List.set_cons_zero, List.set_cons_succ]
    refine tplan_w (v := ?_) rfl (by rfl) ?_ ?_
    rotate_left
    · intro wx hSx
      obtain ⟨hcx, hfx, hzx⟩ := bcell hSx
      go_simp
      try (with_reducible rfl)
    try simp only [Act.put, List.setIfInBounds_toArray, List.set_cons_zero, List.set_cons_succ]
    refine tplan_fork ?_ ?_
    · skip
      refine tplan_b rfl (fun K hK => ?_)
      go_simp
      refine ((CB.out _ hS0)).mono ?_
      rintro e w1 ⟨rfl, hb1⟩
      have hS1 := belowS hS0 hb1
      refine hK _ _ ⟨hS1, ?_⟩
      clear hK K
      try simp only [Act.put, List.setIfInBounds_toArray, List.set_cons_zero, List.set_cons_succ]
      refine tplan_fork ?_ ?_
      · skip
        refine tplan_b rfl (fun K hK => ?_)
        go_simp
        refine (CO.out _ hS1).mono ?_
        rintro e w2 ⟨⟨u, pv, rfl⟩, hb2⟩
        have hS2 := belowS hS1 hb2
        exact ⟨by first | rfl | trivial, .inr ⟨by first | trivial | rfl, _, _, rfl⟩, hS2⟩
      · refine tplan_b rfl (fun K hK => ?_)
        go_simp
        have hS1' : Below w.heap.size w (w1.alloc (.cells #[.slice none 0 0, .slice none 0 0, .int .u64 0] 57)) := (hS1.alloc hS1.size _)
        refine hK _ _ ⟨hS1', ?_⟩
        clear hK K hS1
        try simp only [Act.put, List.setIfInBounds_toArray, List.set_cons_zero, List.set_cons_succ]
        have hS1 := hS1'
        refine tplan_b rfl (fun K hK => ?_)
        go_simp
        refine (CO.out _ hS1).mono ?_
        rintro e w2 ⟨⟨u, pv, rfl⟩, hb2⟩
        have hS2 := belowS hS1 hb2
        exact ⟨by first | rfl | trivial, .inr ⟨by first | trivial | rfl, _, _, rfl⟩, hS2⟩
    · refine tplan_b rfl (fun K hK => ?_)
      go_simp
      have hS0' : Below w.heap.size w (w.drew.alloc (.cells #[.slice none 0 0, .slice none 0 0, .int .u64 0] 57)) := (hS0.alloc (Nat.le_refl _) _)
      refine hK _ _ ⟨hS0', ?_⟩
      clear hK K hS0
      try simp only [Act.put, List.setIfInBounds_toArray, List.set_cons_zero, List.set_cons_succ]
      have hS0 := hS0'
      refine tplan_b rfl (fun K hK => ?_)
      go_simp
      refine ((CB.out _ hS0)).mono ?_
      rintro e w1 ⟨rfl, hb1⟩
      have hS1 := belowS hS0 hb1
      refine hK _ _ ⟨hS1, ?_⟩
      clear hK K
      try simp only [Act.put, List.setIfInBounds_toArray, List.set_cons_zero, List.set_cons_succ]
      refine tplan_b rfl (fun K hK => ?_)
      go_simp
      refine (CO.out _ hS1).mono ?_
      rintro e w2 ⟨⟨u, pv, rfl⟩, hb2⟩
      have hS2 := belowS hS1 hb2
      exact ⟨by first | rfl | trivial, .inr ⟨by first | trivial | rfl, _, _, rfl⟩, hS2⟩
  have CO := Lib.hid (fun (wx : World) (hb : Below w.heap.size w wx) => requireOrder_yes A Ls.length c AO L cO wx h9 (hL.to hb) lL ho)
  have hlo := LoAt.of hp hL hv ho
  have hln : L.length = Ls.length := hlo.ok.len
  have HB : Hid (sgB (heldI Ls) L x = inB x 0 ((Ls.length : Int) - 2)) := by show _ = _; rw [sgB_held, hv, ho]; rfl
  have CG := Lib.hid (fun (p : Nat) (hp : p + 1 < Ls.length) (wx : World) (hb : Below w.heap.size w wx) => swapGain_any A Ls.length c (heldI Ls) AO L cO p wx (hlo.to hb) hp (hT.to hb))
  unfold CplRes
  rw [HB.out]
  rw [hln] at CO q1
  clear hv hp hs hL hT hn ho hlo hln lL HB hB0
  generalize Ls.length = n at *
  have h9I : (n : Int) ≤ 9 := by omega
  have h1I : (1 : Int) ≤ (n : Int) := by omega
  go_enter Tryd.func45, Tryd.ntmps45
  go_wp2
  refine wp_region_alloc (i0 := 4) (m := 5) (ks := [(0, false), (1, false), (2, false), (3, false)]) (.alone 5 .done) (by kernel_rfl) (by kernel_rfl) (by kernel_rfl) (fun _ d _ _ _ h => by cases d <;> exact h) rfl rfl (fun a w => by go_simp <;> rfl) ?_
  refine g_w (v := ?_) (by rfl) ?_ ?_
  rotate_left
  · intro wx hSx
    obtain ⟨hcx, hfx, hzx⟩ := bcell hSx
    go_simp
    try (with_reducible rfl)
  try simp only [Act.put, List.setIfInBounds_toArray, List.set_cons_zero, List.set_cons_succ]
  refine g_c (by rfl) (fun wx hSx => CB.out _ hSx) (fun wx hSx => by go_simp <;> (repeat' (first | rfl | apply And.intro))) ?_
  try simp only [Act.put, List.setIfInBounds_toArray, List.set_cons_zero, List.set_cons_succ]
  refine g_w (v := ?_) (by rfl) ?_ ?_
  rotate_left
  · intro wx hSx
    obtain ⟨hcx, hfx, hzx⟩ := bcell hSx
    go_simp
    try (with_reducible rfl)
  try simp only [Act.put, List.setIfInBounds_toArray, List.set_cons_zero, List.set_cons_succ]
  refine g_c (by rfl) (fun wx hSx => CO.out _ hSx) (fun wx hSx => by go_simp <;> (repeat' (first | rfl | apply And.intro))) ?_
  try simp only [Act.put, List.setIfInBounds_toArray, List.set_cons_zero, List.set_cons_succ]
  refine g_nil (fun G w2 hb2 hG2 hNG => ?_)
  try simp only [Act.put, List.setIfInBounds_toArray, List.set_cons_zero, List.set_cons_succ]
  have g0 := hG2.cell 0 rfl
  have g1 := hG2.cell 1 rfl
  have g2 := hG2.cell 2 rfl
  have gf := hG2.frozen
  refine tplan_b rfl (fun K hK => ?_)
  go_simp
  refine hK _ _ ⟨trivial, ?_⟩
  clear hK K
  try simp only [Act.put, List.setIfInBounds_toArray, List.set_cons_zero, List.set_cons_succ]
  refine tplan_endQ ?_
  have kG := ((hG2.set 0 (.slice A n c)).set 1 (.slice AO n cO)).set 2 (.int .u64 0)
  have x2 := ((hb2.setCell (p := ⟨G, 0, none⟩) hNG (.slice A n c)).setCell (p := ⟨G, 1, none⟩) hNG (.slice AO n cO)).setCell (p := ⟨G, 2, none⟩) hNG (.int .u64 0)
  generalize (((w2.setCell ⟨G, 0, none⟩ (.slice A n c)).setCell ⟨G, 1, none⟩ (.slice AO n cO)).setCell ⟨G, 2, none⟩ (.int .u64 0)) = w3 at *
  clear hG2 g0 g1 g2 gf hb2 CB CO
  have c0 := kG.cell 0 (v := .slice A n c) (by simp)
  have c1 := kG.cell 1 (v := .slice AO n cO) (by simp)
  have c2 := kG.cell 2 (v := .int .u64 0) (by simp)
  have lG := kG.lt
  have p2 := (x2.cell (p := ⟨b + 1 + 1, 0, none⟩) q3).trans q2
  have lb := Nat.lt_of_lt_of_le q3 x2.size
  by_cases hx0 : 0 ≤ x
  case neg =>
    have hin : inB x 0 ((n : Int) - 2) = false := inB_f (by omega)
    have HI := Lib.hid hin
    have hd : decide (0 ≤ x) = false := decide_eq_false hx0
    have hx1 : ¬ (0 ≤ x) := hx0
    clear hin CG
    go_wp2
    refine wp_region_treeB (Pl.takes [0, 1, 2, 3, 4, 5] (.alone 6 (Pl.takes [7, 8, 9] (.alone 10 .done)))) (by kernel_rfl) (by kernel_rfl) (by kernel_rfl) (fun _ d _ _ _ h => by cases d <;> exact h) (fun hS0 => ?_)
    refine tplan_w (v := ?_) rfl (by rfl) ?_ ?_
    rotate_left
    · intro wx hSx
      obtain ⟨hcx, hfx, hzx⟩ := bcell hSx
      go_simp
      try (with_reducible rfl)
    try simp only [Act.put, List.setIfInBounds_toArray, List.set_cons_zero, List.set_cons_succ]
    refine tplan_w (v := ?_) rfl (by rfl) ?_ ?_
    rotate_left
    · intro wx hSx
      obtain ⟨hcx, hfx, hzx⟩ := bcell hSx
      go_simp
      try (with_reducible rfl)
    try simp only [Act.put, List.setIfInBounds_toArray, List.set_cons_zero, List.set_cons_succ]
    refine tplan_w (v := ?_) rfl (by rfl) ?_ ?_
    rotate_left
    · intro wx hSx
      obtain ⟨hcx, hfx, hzx⟩ := bcell hSx
      go_simp
      try (with_reducible rfl)
    try simp only [Act.put, List.setIfInBounds_toArray, List.set_cons_zero, List.set_cons_succ]
    refine tplan_u rfl (by rfl) ?_
    try simp only [Act.put, List.setIfInBounds_toArray, List.set_cons_zero, List.set_cons_succ]
    refine tplan_u rfl (by rfl) ?_
    try simp only [Act.put, List.setIfInBounds_toArray, List.set_cons_zero, List.set_cons_succ]
    refine tplan_u rfl (by rfl) ?_
    try simp only [Act.put, List.setIfInBounds_toArray, List.set_cons_zero, List.set_cons_succ]
    refine tplan_b rfl (fun K hK => ?_)
    go_simp
    refine hK _ _ ⟨hS0, ?_⟩
    clear hK K
    try simp only [Act.put, List.setIfInBounds_toArray, List.set_cons_zero, List.set_cons_succ]
    refine tplan_u rfl (by rfl) ?_
    try simp only [Act.put, List.setIfInBounds_toArray, List.set_cons_zero, List.set_cons_succ]
    refine tplan_u rfl (by rfl) ?_
    try simp only [Act.put, List.setIfInBounds_toArray, List.set_cons_zero, List.set_cons_succ]
    refine tplan_w (v := ?_) rfl (by rfl) ?_ ?_
    rotate_left
    · intro wx hSx
      obtain ⟨hcx, hfx, hzx⟩ := bcell hSx
      go_simp
      try (with_reducible rfl)
    try simp only [Act.put, List.setIfInBounds_toArray, List.set_cons_zero, List.set_cons_succ]
    refine tplan_b rfl (fun K hK => ?_)
    go_simp
    refine (require_noB _).mono ?_
    rintro e w1 ⟨⟨u, pv, rfl⟩, hb1⟩
    have hS1 := belowS hS0 hb1
    exact ⟨by first | rfl | trivial, .inr ⟨HI.out, _, _, rfl⟩, bl_trans x2 hS1⟩
  have hd : decide (0 ≤ x) = true := decide_eq_true hx0
  have hw1 : IntKind.i64.wrap ((n : Int) - 1) = (n : Int) - 1 := IntWalk.i64_in _ (by omega)
  by_cases hx1 : x < (n : Int) - 1
  case neg =>
    have hin : inB x 0 ((n : Int) - 2) = false := inB_f (by omega)
    have HI := Lib.hid hin
    have hd1 : decide (x < (n : Int) - 1) = false := decide_eq_false hx1
    clear hin CG
    go_wp2
    refine wp_region_treeB (Pl.takes [0, 1, 2, 3, 4, 5] (.alone 6 (Pl.takes [7, 8, 9] (.alone 10 .done)))) (by kernel_rfl) (by kernel_rfl) (by kernel_rfl) (fun _ d _ _ _ h => by cases d <;> exact h) (fun hS0 => ?_)
    refine tplan_w (v := ?_) rfl (by rfl) ?_ ?_
    rotate_left
    · intro wx hSx
      obtain ⟨hcx, hfx, hzx⟩ := bcell hSx
      go_simp
      try (with_reducible rfl)
    try simp only [Act.put, List.setIfInBounds_toArray, List.set_cons_zero, List.set_cons_succ]
    refine tplan_w (v := ?_) rfl (by rfl) ?_ ?_
    rotate_left
    · intro wx hSx
      obtain ⟨hcx, hfx, hzx⟩ := bcell hSx
      go_simp
      try (with_reducible rfl)
    try simp only [Act.put, List.setIfInBounds_toArray, List.set_cons_zero, List.set_cons_succ]
    refine tplan_w (v := ?_) rfl (by rfl) ?_ ?_
    rotate_left
    · intro wx hSx
      obtain ⟨hcx, hfx, hzx⟩ := bcell hSx
      go_simp
      try (with_reducible rfl)
    try simp only [Act.put, List.setIfInBounds_toArray, List.set_cons_zero, List.set_cons_succ]
    refine tplan_w (v := ?_) rfl (by rfl) ?_ ?_
    rotate_left
    · intro wx hSx
      obtain ⟨hcx, hfx, hzx⟩ := bcell hSx
      go_simp
      try (with_reducible rfl)
    try simp only [Act.put, List.setIfInBounds_toArray, List.set_cons_zero, List.set_cons_succ]
    refine tplan_w (v := ?_) rfl (by rfl) ?_ ?_
    rotate_left
    · intro wx hSx
      obtain ⟨hcx, hfx, hzx⟩ := bcell hSx
      go_simp
      try (with_reducible rfl)
    try simp only [Act.put, List.setIfInBounds_toArray, List.set_cons_zero, List.set_cons_succ]
    refine tplan_w (v := ?_) rfl (by rfl) ?_ ?_
    rotate_left
    · intro wx hSx
      obtain ⟨hcx, hfx, hzx⟩ := bcell hSx
      go_simp
      try (with_reducible rfl)
    try simp only [Act.put, List.setIfInBounds_toArray, List.set_cons_zero, List.set_cons_succ]
    refine tplan_b rfl (fun K hK => ?_)
    go_simp
    refine ((wires_any _ _ _ _)).mono ?_
    rintro e w1 ⟨rfl, hb1⟩
    have hS1 := belowS hS0 hb1
    refine hK _ _ ⟨hS1, ?_⟩
    clear hK K
    try simp only [Act.put, List.setIfInBounds_toArray, List.set_cons_zero, List.set_cons_succ]
    refine tplan_w (v := ?_) rfl (by rfl) ?_ ?_
    rotate_left
    · intro wx hSx
      obtain ⟨hcx, hfx, hzx⟩ := bcell hSx
      go_simp
      try (with_reducible rfl)
    try simp only [Act.put, List.setIfInBounds_toArray, List.set_cons_zero, List.set_cons_succ]
    refine tplan_w (v := ?_) rfl (by rfl) ?_ ?_
    rotate_left
    · intro wx hSx
      obtain ⟨hcx, hfx, hzx⟩ := bcell hSx
      go_simp
      try (with_reducible rfl)
    try simp only [Act.put, List.setIfInBounds_toArray, List.set_cons_zero, List.set_cons_succ]
    refine tplan_w (v := ?_) rfl (by rfl) ?_ ?_
    rotate_left
    · intro wx hSx
      obtain ⟨hcx, hfx, hzx⟩ := bcell hSx
      go_simp
      try (with_reducible rfl)
    try simp only [Act.put, List.setIfInBounds_toArray, List.set_cons_zero, List.set_cons_succ]
    refine tplan_b rfl (fun K hK => ?_)
    go_simp
    refine (require_noB _).mono ?_
    rintro e w2 ⟨⟨u, pv, rfl⟩, hb2⟩
    have hS2 := belowS hS1 hb2
    exact ⟨by first | rfl | trivial, .inr ⟨HI.out, _, _, rfl⟩, bl_trans x2 hS2⟩
  have hin : inB x 0 ((n : Int) - 2) = true := inB_t hx0 (by omega)
  have HI := Lib.hid hin
  have hd1 : decide (x < (n : Int) - 1) = true := decide_eq_true hx1
  obtain ⟨p, rfl⟩ : ∃ p : Nat, x = p := ⟨x.toNat, by omega⟩
  have CG2 := Lib.hid (CG.out p (by omega))
  have HV : Hid (gainI (heldI Ls) L (p : Int).toNat = gainI (heldI Ls) L p) := by show _ = _; rw [Int.toNat_natCast]
  clear hin CG
  generalize gainI (heldI Ls) L p = v at *
  go_wp2
  refine wp_region_treeB (Pl.takes [0, 1, 2, 3, 4, 5] (.alone 6 (Pl.takes [7, 8, 9] (.alone 10 .done)))) (by kernel_rfl) (by kernel_rfl) (by kernel_rfl) (fun _ d _ _ _ h => by cases d <;> exact h) (fun hS0 => ?_)
  refine tplan_w (v := ?_) rfl (by rfl) ?_ ?_
  rotate_left
  · intro wx hSx
    obtain ⟨hcx, hfx, hzx⟩ := bcell hSx
    go_simp
    try (with_reducible rfl)
  try simp only [Act.put, List.setIfInBounds_toArray, List.set_cons_zero, List.set_cons_succ]
  refine tplan_w (v := ?_) rfl (by rfl) ?_ ?_
  rotate_left
  · intro wx hSx
    obtain ⟨hcx, hfx, hzx⟩ := bcell hSx
    go_simp
    try (with_reducible rfl)
  try simp only [Act.put, List.setIfInBounds_toArray, List.set_cons_zero, List.set_cons_succ]
  refine tplan_w (v := ?_) rfl (by rfl) ?_ ?_
  rotate_left
  · intro wx hSx
    obtain ⟨hcx, hfx, hzx⟩ := bcell hSx
    go_simp
    try (with_reducible rfl)
  try simp only [Act.put, List.setIfInBounds_toArray, List.set_cons_zero, List.set_cons_succ]
  refine tplan_w (v := ?_) rfl (by rfl) ?_ ?_
  rotate_left
  · intro wx hSx
    obtain ⟨hcx, hfx, hzx⟩ := bcell hSx
    go_simp
    try (with_reducible rfl)
  try simp only [Act.put, List.setIfInBounds_toArray, List.set_cons_zero, List.set_cons_succ]
  refine tplan_w (v := ?_) rfl (by rfl) ?_ ?_
  rotate_left
  · intro wx hSx
    obtain ⟨hcx, hfx, hzx⟩ := bcell hSx
    go_simp
    try (with_reducible rfl)
  try simp only [Act.put, List.setIfInBounds_toArray, List.set_cons_zero, List.set_cons_succ]
  refine tplan_w (v := ?_) rfl (by rfl) ?_ ?_
  rotate_left
  · intro wx hSx
    obtain ⟨hcx, hfx, hzx⟩ := bcell hSx
    go_simp
    try (with_reducible rfl)
  try simp only [Act.put, List.setIfInBounds_toArray, List.set_cons_zero, List.set_cons_succ]
  refine tplan_b rfl (fun K hK => ?_)
  go_simp
  refine ((wires_any _ _ _ _)).mono ?_
  rintro e w1 ⟨rfl, hb1⟩
  have hS1 := belowS hS0 hb1
  refine hK _ _ ⟨hS1, ?_⟩
  clear hK K
  try simp only [Act.put, List.setIfInBounds_toArray, List.set_cons_zero, List.set_cons_succ]
  refine tplan_w (v := ?_) rfl (by rfl) ?_ ?_
  rotate_left
  · intro wx hSx
    obtain ⟨hcx, hfx, hzx⟩ := bcell hSx
    go_simp
    try (with_reducible rfl)
  try simp only [Act.put, List.setIfInBounds_toArray, List.set_cons_zero, List.set_cons_succ]
  refine tplan_w (v := ?_) rfl (by rfl) ?_ ?_
  rotate_left
  · intro wx hSx
    obtain ⟨hcx, hfx, hzx⟩ := bcell hSx
    go_simp
    try (with_reducible rfl)
  try simp only [Act.put, List.setIfInBounds_toArray, List.set_cons_zero, List.set_cons_succ]
  refine tplan_w (v := ?_) rfl (by rfl) ?_ ?_
  rotate_left
  · intro wx hSx
    obtain ⟨hcx, hfx, hzx⟩ := bcell hSx
    go_simp
    try (with_reducible rfl)
  try simp only [Act.put, List.setIfInBounds_toArray, List.set_cons_zero, List.set_cons_succ]
  refine tplan_b rfl (fun K hK => ?_)
  go_simp
  refine ((require_yesB _)).mono ?_
  rintro e w2 ⟨rfl, hb2⟩
  have hS2 := belowS hS1 hb2
  refine hK _ _ ⟨hS2, ?_⟩
  clear hK K
  try simp only [Act.put, List.setIfInBounds_toArray, List.set_cons_zero, List.set_cons_succ]
  refine tplan_endQ ?_
  have x3 := bl_trans x2 hS2
  have d0 := (hS2.cell (p := ⟨G, 0, none⟩) lG).trans c0
  have d1 := (hS2.cell (p := ⟨G, 1, none⟩) lG).trans c1
  have d2 := (hS2.cell (p := ⟨G, 2, none⟩) lG).trans c2
  have d3 := (hS2.cell (p := ⟨b + 1 + 1, 0, none⟩) lb).trans p2
  clear c0 c1 c2 p2 hS0 hS1 hS2 hb1 hb2 q0 q1 q2 x2 kG
  go_wp2_with fail
  refine (CG2.out _ x3).mono ?_
  rintro e w9 ⟨rfl, hb9⟩
  go_wp2
  go_ret
  exact ⟨.inl ⟨HI.out, by rw [HV.out]; rfl⟩, bl_trans x3 hb9⟩
set_option maxRecDepth 100000 in
set_option maxHeartbeats 3200000 in
theorem SwapGainI_any (A : Option Addr) (Ls : List SlI) (c : Nat) (AO : Option Addr) (L : List Int) (cO : Nat) (x : Int) (w : World) (hp : ISAt w w.heap.size A Ls) (hs : ShI Ls) (hL : IntsAt w w.heap.size AO L) (lL : L.length ≤ 1048576) (hxw : (Lit.int .i64 x).wf = true) (hT : BruAt w) :
    Calls Tryd.prog 21 #[.agg #[.slice A Ls.length c], .slice AO L.length cO, .int .i64 x] w fun e w' => e = .returned (.tuple #[.int .i64 (sgX (heldI Ls) L x), .bool (sgB (heldI Ls) L x)]) ∧ Below w.heap.size w w' := by
  have hx : Below w.heap.size w (((w.alloc (.cells #[.slice A Ls.length c] 29)).alloc (.cells #[.slice AO L.length cO] 25)).alloc (.cells #[.int .i64 x] 2)) := by (repeat (first | assumption | exact Below.refl _ _ | (refine bl_alloc ?_ _) | (refine Below.drew ?_) | (refine bl_drewN ?_ _) | (refine bl_set ?_ (by first | (simp; done) | omega | (simp; omega)) _) | (refine bl_trans ?_ (by assumption)) | (refine bl_step ?_ (by assumption) (by first | omega | exact Below.size (by assumption) | (simp; omega) | (simp; exact Below.size (by assumption))))))
  have kb := BoxV.new w (.slice A Ls.length c) (.slice AO L.length cO) (.int .i64 x) 29 25 2
  have cc := Lib.hid (fun (wx : World) (hb : Below (((w.alloc (.cells #[.slice A Ls.length c] 29)).alloc (.cells #[.slice AO L.length cO] 25)).alloc (.cells #[.int .i64 x] 2)).heap.size (((w.alloc (.cells #[.slice A Ls.length c] 29)).alloc (.cells #[.slice AO L.length cO] 25)).alloc (.cells #[.int .i64 x] 2)) wx) => swapClo_any A Ls c AO L cO x w.heap.size wx (kb.to hb) ((hp.to hx).to hb) hs ((hL.to hx).to hb) lL hxw ((hT.to hx).to hb))
  clear hp hs hL lL kb hT hxw
  unfold sgX
  unfold CplRes at cc
  generalize sgB (heldI Ls) L x = v at *
  generalize gainI (heldI Ls) L x.toNat = z at *
  generalize Ls.length = n at *
  generalize L.length = m at *
  go_enter Tryd.func21, Tryd.ntmps21
  go_wp2_with fail
  generalize (((w.alloc (.cells #[.slice A n c] 29)).alloc (.cells #[.slice AO m cO] 25)).alloc (.cells #[.int .i64 x] 2)) = w1 at *
  have hx1 : Below w1.heap.size w1 (w1.alloc (.cells #[.bool false] 4)) := by (repeat (first | assumption | exact Below.refl _ _ | (refine bl_alloc ?_ _) | (refine Below.drew ?_) | (refine bl_drewN ?_ _) | (refine bl_set ?_ (by first | (simp; done) | omega | (simp; omega)) _) | (refine bl_trans ?_ (by assumption)) | (refine bl_step ?_ (by assumption) (by first | omega | exact Below.size (by assumption) | (simp; omega) | (simp; exact Below.size (by assumption))))))
  refine (attemptInt_any 45 _ w1 (fun u _ => u = .int .i64 z ∧ v = true) (v = false) (fun _ _ => by first | rfl | (simp [go_sem]; done)) ((cc.out _ hx1).mono ?_)).mono ?_
  · rintro e w2 ⟨⟨hv, rfl⟩ | ⟨hv, hP⟩, hb⟩
    · exact ⟨.inl ⟨_, rfl, rfl, hv⟩, hb⟩
    · exact ⟨.inr ⟨hP, hv⟩, hb⟩
  rintro e w2 ⟨⟨v0, w3, rfl, ⟨rfl, rfl⟩, rfl⟩ | ⟨rfl, rfl⟩, hb2⟩
  · have b2 := bl_step hx hb2 hx.size
    go_wp2
    go_ret2
    exact ⟨rfl, b2⟩
  · have b2 := bl_step hx hb2 hx.size
    go_wp2
    go_ret2
    exact ⟨rfl, b2⟩
theorem SwapGainS_in (A : Option Addr) (n c : Nat) (M : Mz) (AO : Option Addr) (L : List Int) (cO : Nat) (x : Int) (w : World) (h : BnIn w A n M) (hL : IntsAt w w.heap.size AO L) (lL : L.length ≤ 1048576) (hxw : (Lit.int .i64 x).wf = true) :
    Calls Tryd.prog 20 #[.agg #[.slice A n c], .slice AO L.length cO, .int .i64 x] w fun e w' => e = .returned (.tuple #[.int .i64 (sgX M L x), .bool (sgB M L x)]) ∧ Below w.heap.size w w' := by
  obtain ⟨Ms, rfl, rfl, h3, h4⟩ := h
  exact SwapGainS_any A Ms c AO L cO x w h3 h4 hL lL
theorem SwapGainI_in (A : Option Addr) (n c : Nat) (M : Mz) (AO : Option Addr) (L : List Int) (cO : Nat) (x : Int) (w : World) (h : BnIn w A n M) (hL : IntsAt w w.heap.size AO L) (lL : L.length ≤ 1048576) (hxw : (Lit.int .i64 x).wf = true) (hT : BruAt w) :
    Calls Tryd.prog 21 #[.agg #[.slice A n c], .slice AO L.length cO, .int .i64 x] w fun e w' => e = .returned (.tuple #[.int .i64 (sgX M L x), .bool (sgB M L x)]) ∧ Below w.heap.size w w' := by
  obtain ⟨Ms, rfl, rfl, h3, h4⟩ := h
  exact SwapGainI_any A Ms c AO L cO x w h3 h4 hL lL hxw hT
end Go.Proofs.YtifenbamookmiaaDoor
