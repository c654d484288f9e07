/-
  Contract: IsNet, as the program has it.
-/
import Derived.Test.YtijnjcamfbnmgaaNet
namespace Go.Proofs.Ytijnjcamfbnmgaa
set_option linter.unusedSimpArgs false
set_option linter.unusedVariables false
open Go.ChangeShapes Go.WideShapes Go.ChangeAt Go.RowKit Go.BigFrame

theorem cellB_eq (n L : Nat) (x y : Int) : cellB n L x y = (decide (0 ≤ x) && decide (x < (n : Int) + 1) && decide (0 ≤ y) && decide (y < (L : Int))) := by
  unfold cellB inB
  rw [Bool.eq_iff_iff]
  simp
  omega
set_option maxRecDepth 100000 in
set_option maxHeartbeats 3200000 in
theorem hasCell_any (b off cA c0' : Nat) (A0 : Option Addr) (L n : Nat) (AU : Option Addr) (lU cU : Nat) (x y : Int) (w : World) (d0 : w.cell? ⟨b, off, none⟩ = some (.slice A0 n c0')) (h0 : 0 < L) (hL : L ≤ 8) (hn : n ≤ 7) :
    Calls Try.prog 84 #[.agg #[.slice (some ⟨b, off, none⟩) L cA, .slice AU lU cU], .agg #[.int .i64 x, .int .i64 y]] w fun e w' => e = .returned (.bool (cellB n L x y)) ∧ Below w.heap.size w w' := by
  have hbB := World.block_lt_of_cell? w _ d0
  have hx : Below w.heap.size w ((w.alloc (.cells #[.slice (some ⟨b, off, none⟩) L cA, .slice AU lU cU] 53)).alloc (.cells #[.int .i64 x, .int .i64 y] 66)) := by (repeat (first | assumption | exact Below.refl _ _ | (refine bl_alloc ?_ _) | (refine Below.drew ?_) | (refine bl_drewN ?_ _) | (refine bl_set ?_ (by first | (simp; done) | omega | (simp; omega)) _) | (refine bl_trans ?_ (by assumption)) | (refine bl_step ?_ (by assumption) (by first | omega | exact Below.size (by assumption) | (simp; omega) | (simp; exact Below.size (by assumption))))))
  have kg : Blk ((w.alloc (.cells #[.slice (some ⟨b, off, none⟩) L cA, .slice AU lU cU] 53)).alloc (.cells #[.int .i64 x, .int .i64 y] 66)) w.heap.size #[.slice (some ⟨b, off, none⟩) L cA, .slice AU lU cU] 53 := (Blk.new _ _ _).alloc _
  have kp : Blk ((w.alloc (.cells #[.slice (some ⟨b, off, none⟩) L cA, .slice AU lU cU] 53)).alloc (.cells #[.int .i64 x, .int .i64 y] 66)) (w.heap.size + 1) #[.int .i64 x, .int .i64 y] 66 := by
    have := Blk.new (w.alloc (.cells #[.slice (some ⟨b, off, none⟩) L cA, .slice AU lU cU] 53)) #[.int .i64 x, .int .i64 y] 66
    rwa [World.size_alloc] at this
  have e0 := (hx.cell (p := ⟨b, off, none⟩) hbB).trans d0
  obtain ⟨W1, hW1⟩ : ∃ W1, ((w.alloc (.cells #[.slice (some ⟨b, off, none⟩) L cA, .slice AU lU cU] 53)).alloc (.cells #[.int .i64 x, .int .i64 y] 66)) = W1 := ⟨_, rfl⟩
  rw [hW1] at hx kg kp e0
  have lb := World.block_lt_of_cell? W1 _ e0
  have HW : Hid (∀ z, Calls Try.prog 73 #[.agg #[.slice (some ⟨b, off, none⟩) L cA, .slice AU lU cU]] (over W1 z) fun e w' => e = .returned (.int .i64 ((n : Int) + 1)) ∧ Below (over W1 z).heap.size (over W1 z) w') := fun z =>
    width_any b off cA _ _ L n AU lU cU _ ((over_cell lb z off).trans e0) h0 (by omega) (Nat.lt_of_lt_of_le lb (over_below _ z).size)
  have g0 := kg.cell 0 (v := .slice (some ⟨b, off, none⟩) L cA) rfl
  have g1 := kg.cell 1 (v := .slice AU lU cU) rfl
  have p0 := kp.cell 0 (v := .int .i64 x) rfl
  have p1 := kp.cell 1 (v := .int .i64 y) rfl
  have lg := kg.lt
  have lp := kp.lt
  rw [cellB_eq]
  have HE := Lib.hid hW1
  clear hW1 kg kp e0 d0 hbB lb h0 hL hn
  cases hd1 : decide (0 ≤ x)
  case' true => cases hd2 : decide (x < (n : Int) + 1)
  case' true.true => cases hd3 : decide (0 ≤ y)
  case' true.true.true => cases hd4 : decide (y < (L : Int))
  all_goals
    go_enter Try.func84, Try.ntmps84
    go_wp2_with fail
    rw [HE.out]
    refine wp_region_over (by kernel_rfl) (by kernel_rfl) ?_
    have hov := over_cells W1
    repeat (go_big_quiet_step ((first | (go_at_call 73; exact overC (HW.out _)) | (go_at_call 74; exact overC (height_any _ _ _ _ _ _ _)))))
    refine over_nil (fun w2 hb2 => ?_)
    clear hov
    go_wp2
    go_ret
    exact ⟨rfl, bl_step hx hb2 hx.size⟩
set_option maxRecDepth 100000 in
set_option maxHeartbeats 3200000 in
theorem IsNetI_any (AA : Option Addr) (A : List SlI) (cA : Nat) (AU : Option Addr) (U : List SlI) (cU : Nat) (x y z t : Int) (w : World) (hp : GrAt w w.heap.size AA A AU U) (hs : GrSz A U) :
    Calls Try.prog 45 #[.agg #[.slice AA A.length cA, .slice AU U.length cU], .agg #[.int .i64 x, .int .i64 y, .int .i64 z, .int .i64 t]] w fun e w' => e = .returned (.bool (isNetB (heldI A) (heldI U) x y z t)) ∧ Below w.heap.size w w' := by
  have hx : Below w.heap.size w ((w.alloc (.cells #[.slice AA A.length cA, .slice AU U.length cU] 53)).alloc (.cells #[.int .i64 x, .int .i64 y, .int .i64 z, .int .i64 t] 68)) := by (repeat (first | assumption | exact Below.refl _ _ | (refine bl_alloc ?_ _) | (refine Below.drew ?_) | (refine bl_drewN ?_ _) | (refine bl_set ?_ (by first | (simp; done) | omega | (simp; omega)) _) | (refine bl_trans ?_ (by assumption)) | (refine bl_step ?_ (by assumption) (by first | omega | exact Below.size (by assumption) | (simp; omega) | (simp; exact Below.size (by assumption))))))
  have kg : Blk ((w.alloc (.cells #[.slice AA A.length cA, .slice AU U.length cU] 53)).alloc (.cells #[.int .i64 x, .int .i64 y, .int .i64 z, .int .i64 t] 68)) w.heap.size #[.slice AA A.length cA, .slice AU U.length cU] 53 := (Blk.new _ _ _).alloc _
  have kn : Blk ((w.alloc (.cells #[.slice AA A.length cA, .slice AU U.length cU] 53)).alloc (.cells #[.int .i64 x, .int .i64 y, .int .i64 z, .int .i64 t] 68)) (w.heap.size + 1) #[.int .i64 x, .int .i64 y, .int .i64 z, .int .i64 t] 68 := by
    have := Blk.new (w.alloc (.cells #[.slice AA A.length cA, .slice AU U.length cU] 53)) #[.int .i64 x, .int .i64 y, .int .i64 z, .int .i64 t] 68
    rwa [World.size_alloc] at this
  have hp1 := hp.to hx
  obtain ⟨W1, hW1⟩ : ∃ W1, ((w.alloc (.cells #[.slice AA A.length cA, .slice AU U.length cU] 53)).alloc (.cells #[.int .i64 x, .int .i64 y, .int .i64 z, .int .i64 t] 68)) = W1 := ⟨_, rfl⟩
  rw [hW1] at hx kg kn hp1
  have cc := ValidGridI_any AA A cA AU U cU W1 hp1 hs
  have g0 := kg.cell 0 (v := .slice AA A.length cA) rfl
  have g1 := kg.cell 1 (v := .slice AU U.length cU) rfl
  have lg := kg.lt
  unfold isNetB
  cases hg : gvB (heldI A) (heldI U)
  · rw [hg] at cc
    have HW := Lib.hid hW1
    clear hW1 hp hp1 kg kn hg hs
    go_enter Try.func45, Try.ntmps45
    go_wp2_with fail
    rw [HW.out]
    refine cc.mono ?_
    rintro e w1 ⟨rfl, hb1⟩
    go_wp2
    go_ret
    exact ⟨rfl, bl_step hx hb1 hx.size⟩
  rw [hg] at cc
  obtain ⟨h0, h8, h7⟩ := gvB_facts hg
  obtain ⟨b, off, rfl, hbB, hc⟩ := hp1.1 h0
  have d0 := (hc 0 h0).1
  rw [Nat.add_zero] at d0
  have CN := Lib.hid (fun (x y : Int) (wx : World) (hb : Below W1.heap.size W1 wx) => hasCell_any b off cA _ _ A.length _ AU U.length cU x y wx ((hb.cell (p := ⟨b, off, none⟩) hbB).trans d0) h0 h8 h7)
  have C1 := Lib.hid (fun wx hb => CN.out x y wx hb)
  have C2 := Lib.hid (fun wx hb => CN.out z t wx hb)
  have hnb : netB (heldI A) x y z t = (cellB (A.getD 0 si0).2.1.length A.length x y && cellB (A.getD 0 si0).2.1.length A.length z t) := by unfold netB; rw [heldI_at, heldI_len]
  rw [hnb]
  have HW := Lib.hid hW1
  clear CN hnb hW1 hp hp1 kg hc d0 h0 h8 h7 hg hs
  cases hX : cellB (A.getD 0 si0).2.1.length A.length x y
  · rw [hX] at C1
    clear hX C2
    go_enter Try.func45, Try.ntmps45
    go_wp2_with fail
    rw [HW.out]
    refine cc.mono ?_
    rintro e w1 ⟨rfl, hb1⟩
    have p0 := (kn.to hb1).cell 0 (v := .int .i64 x) rfl
    have p1 := (kn.to hb1).cell 1 (v := .int .i64 y) rfl
    have q0 := (hb1.cell (p := ⟨w.heap.size, 0, none⟩) lg).trans g0
    have q1 := (hb1.cell (p := ⟨w.heap.size, 1, none⟩) lg).trans g1
    have bb := bl_step hx hb1 hx.size
    clear cc g0 g1
    go_wp2_with fail
    refine (C1.out _ hb1).mono ?_
    rintro e w2 ⟨rfl, hb2⟩
    go_wp2
    go_ret
    exact ⟨rfl, bl_step bb hb2 bb.size⟩
  · rw [hX] at C1
    generalize cellB (A.getD 0 si0).2.1.length A.length z t = u at *
    clear hX
    go_enter Try.func45, Try.ntmps45
    go_wp2_with fail
    rw [HW.out]
    refine cc.mono ?_
    rintro e w1 ⟨rfl, hb1⟩
    have p0 := (kn.to hb1).cell 0 (v := .int .i64 x) rfl
    have p1 := (kn.to hb1).cell 1 (v := .int .i64 y) rfl
    have q0 := (hb1.cell (p := ⟨w.heap.size, 0, none⟩) lg).trans g0
    have q1 := (hb1.cell (p := ⟨w.heap.size, 1, none⟩) lg).trans g1
    have bb := bl_step hx hb1 hx.size
    clear cc
    go_wp2_with fail
    refine (C1.out _ hb1).mono ?_
    rintro e w2 ⟨rfl, hb2⟩
    have hb12 := bl_trans hb1 hb2
    have r0 := (hb12.cell (p := ⟨w.heap.size, 0, none⟩) lg).trans g0
    have r1 := (hb12.cell (p := ⟨w.heap.size, 1, none⟩) lg).trans g1
    have s0 := (kn.to hb12).cell 2 (v := .int .i64 z) rfl
    have s1 := (kn.to hb12).cell 3 (v := .int .i64 t) rfl
    clear g0 g1 p0 p1 q0 q1 kn
    go_wp2_with fail
    refine (C2.out _ hb12).mono ?_
    rintro e w3 ⟨rfl, hb3⟩
    go_wp2
    go_ret
    exact ⟨by simp, bl_step (bl_step bb hb2 bb.size) hb3 (bl_step bb hb2 bb.size).size⟩
end Go.Proofs.Ytijnjcamfbnmgaa
