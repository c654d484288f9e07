/-
  Proved: for every maze and point, the program's WallAround answers as the model's, in memory of its own, and leaves the maze alone. No condition.
-/
import Derived.Test.YtepamhdopmfkfaaWallW
namespace Go.Proofs.Ytepamhdopmfkfaa.fnExactWallAround
set_option linter.unusedSimpArgs false
set_option linter.unusedVariables false
open Go.ChangeShapes Go.WideShapes Go.ChangeAt Go.RowKit

set_option maxRecDepth 100000 in
set_option maxHeartbeats 3200000 in
theorem walk (A : Option Addr) (Ls : List SlI) (c : Nat) (x1 y1 : Int) (w : World) (h : RowsIn w A Ls c) (_ : Fits x1 ∧ Fits y1) :
    Calls Try.prog 9 #[.agg #[.slice A Ls.length c], .agg #[.int .i64 x1, .int .i64 y1]] w fun e w' => e = .returned (.bool true) ∧ Below w.heap.size w w' := by
  have hLn := wallL_len (heldI Ls) (x1, y1)
  obtain ⟨ok, hok⟩ : ∃ ok, atB (heldI Ls) x1 y1 = ok := ⟨_, rfl⟩
  obtain ⟨L, hL⟩ : ∃ L, wallL (heldI Ls) (x1, y1) = L := ⟨_, rfl⟩
  rw [hL] at hLn
  have q0 : ((w.alloc (.cells #[.slice A Ls.length c] 48)).alloc (.cells #[.int .i64 x1, .int .i64 y1] 32)).cell? ⟨w.heap.size, 0, none⟩ = some (.slice A Ls.length c) := by go_simp
  have q1 : ((w.alloc (.cells #[.slice A Ls.length c] 48)).alloc (.cells #[.int .i64 x1, .int .i64 y1] 32)).cell? ⟨w.heap.size + 1, 0, none⟩ = some (.int .i64 x1) := by go_simp
  have q2 : ((w.alloc (.cells #[.slice A Ls.length c] 48)).alloc (.cells #[.int .i64 x1, .int .i64 y1] 32)).cell? ⟨w.heap.size + 1, 1, none⟩ = some (.int .i64 y1) := by go_simp
  have hb1 : Below w.heap.size w ((w.alloc (.cells #[.slice A Ls.length c] 48)).alloc (.cells #[.int .i64 x1, .int .i64 y1] 32)) := by (repeat (first | assumption | exact Below.refl _ _ | (refine bl_alloc ?_ _) | (refine Below.drew ?_) | (refine bl_drewN ?_ _) | (refine bl_set ?_ (by first | (simp; done) | omega | (simp; omega)) _) | (refine bl_trans ?_ (by assumption)) | (refine bl_step ?_ (by assumption) (by first | omega | exact Below.size (by assumption) | (simp; omega) | (simp; exact Below.size (by assumption))))))
  obtain ⟨w1, hw1⟩ : ∃ w1, ((w.alloc (.cells #[.slice A Ls.length c] 48)).alloc (.cells #[.int .i64 x1, .int .i64 y1] 32)) = w1 := ⟨_, rfl⟩
  rw [hw1] at q0 q1 q2 hb1
  have hS1 : w1.cell? ⟨w.heap.size, 0, none⟩ = some (.slice A Ls.length c) ∧ w1.cell? ⟨w.heap.size + 1, 0, none⟩ = some (.int .i64 x1) ∧ w1.cell? ⟨w.heap.size + 1, 1, none⟩ = some (.int .i64 y1) ∧ Below w.heap.size w w1 ∧ w.heap.size ≤ w1.heap.size := ⟨q0, q1, q2, hb1, hb1.size⟩
  have cz := szMaze_in A Ls c w1 w h hb1
  obtain ⟨M, hM⟩ : ∃ M, heldI Ls = M := ⟨_, rfl⟩
  obtain ⟨n, hn⟩ : ∃ n, Ls.length = n := ⟨_, rfl⟩
  rw [hM] at hL hok
  rw [hM, hn] at cz
  rw [hn] at hS1 hw1
  rw [hn]
  have cS := fun A' n' c' w' h => WallAroundS_in A' n' c' M x1 y1 w' h
  have cP := fun A' n' c' w' h => WallAroundI_in A' n' c' M x1 y1 w' h
  rw [hL, hok] at cS cP
  have CS := Lib.hid cS
  have CP := Lib.hid cP
  clear hn hb1 h hM q0 q1 q2 hL hok cS cP
  go_enter Try.func9, Try.ntmps9
  go_wp2_with fail
  refine cz.mono ?_
  rintro e w2 ⟨⟨r, rfl, hr1, hr2, hr3⟩, hb2⟩
  have HR := Lib.hid hr3
  have hS2 := kp3 hS1 hb2
  clear hr3 hS1 cz hb2 hw1
  by_cases hr : r < 0
  · go_wp2
    go_ret
    exact ⟨rfl, bl3 hS2⟩
  · have hI := Lib.hid (HR.out (by omega))
    clear HR
    obtain ⟨e0, e1, e2, b2, z2⟩ := hS2
    go_wp2
    go_region_held3 (fun wx => wx.cell? ⟨w.heap.size, 0, none⟩ = some (.slice A n c) ∧ wx.cell? ⟨w.heap.size + 1, 0, none⟩ = some (.int .i64 x1) ∧ wx.cell? ⟨w.heap.size + 1, 1, none⟩ = some (.int .i64 y1) ∧ Below w.heap.size w wx ∧ w.heap.size ≤ wx.heap.size)
      (first | exact kd3 (by assumption) | exact kp3 (by assumption) (by assumption) | exact ⟨e0, e1, e2, b2.drew, z2⟩ | exact ⟨e0, e1, e2, b2, z2⟩)
      (first
        | (go_at_call 31; refine (toMaze_in _ _ _ M _ (hI.out.to (bl3 (by assumption)))).mono ?_; rintro e w3 ⟨g3, rfl, hO3, _, hb3⟩)
        | (go_at_call 18; refine (toPoint_any _ _ _).mono ?_; rintro e w4 ⟨rfl, hb4⟩)
        | (go_at_call 30; refine (CS.out _ _ _ _ (hO3.in_.to hb4)).mono ?_; rintro e w5 ⟨⟨A5, c5, rfl, ho5⟩, hb5⟩))
    have hS5 : w5.cell? ⟨w.heap.size, 0, none⟩ = some (.slice A n c) ∧ w5.cell? ⟨w.heap.size + 1, 0, none⟩ = some (.int .i64 x1) ∧ w5.cell? ⟨w.heap.size + 1, 1, none⟩ = some (.int .i64 y1) ∧ Below w.heap.size w w5 ∧ w.heap.size ≤ w5.heap.size := by assumption
    have p5 := ho5.pts
    have bb1 : Hid (w.heap.size + 1 < w5.heap.size) := World.block_lt_of_cell? _ _ hS5.2.1
    clear e0 e1 e2 b2 z2 hO3 hb3 hb4 hb5 ho5
    go_wp2_with fail
    refine (toMaze_in _ _ _ M _ (hI.out.to (bl3 hS5))).mono ?_
    rintro e w6 ⟨g6, rfl, hO6, hg6, hb6⟩
    have hx6 : Below w6.heap.size w6 (w6.alloc (.cells #[.slice (some ⟨g6, 0, none⟩) n n] 51)) := (Below.refl _ _).alloc (Nat.le_refl _) _
    have hS7 := kp3 (kp3 hS5 hb6) hx6
    have p7 := ptq_keep p5 (below_le (hb6.trans (below_le hx6 hb6.size)) (Nat.le_refl _))
    have hx60 := hx6
    have q7 : (w6.alloc (.cells #[.slice (some ⟨g6, 0, none⟩) n n] 51)).cell? ⟨w6.heap.size, 0, none⟩ = some (.slice (some ⟨g6, 0, none⟩) n n) := by go_simp
    have z60 := hb6.size
    have z5 := (bl3 hS5).size
    clear hS5 hb6 hx6 p5
    obtain ⟨w7, hw7⟩ : ∃ w7, (w6.alloc (.cells #[.slice (some ⟨g6, 0, none⟩) n n] 51)) = w7 := ⟨_, rfl⟩
    rw [hw7] at hS7 q7 p7 hx60
    have hO7 := hO6.to hx60
    have HO6 := Lib.hid hO6
    have z67 := hx60.size
    have HX := Lib.hid hx60
    clear hO6 hx60
    go_wp2
    clear hw7
    generalize hXX : w6.heap.size = X at *
    obtain ⟨e0, e1, e2, b7, z7⟩ := hS7
    go_region_held3 (fun wx => wx.cell? ⟨X, 0, none⟩ = some (.slice (some ⟨g6, 0, none⟩) n n) ∧ wx.cell? ⟨w.heap.size, 0, none⟩ = some (.slice A n c) ∧ wx.cell? ⟨w.heap.size + 1, 0, none⟩ = some (.int .i64 x1) ∧ wx.cell? ⟨w.heap.size + 1, 1, none⟩ = some (.int .i64 y1) ∧ Below w7.heap.size w7 wx ∧ w7.heap.size ≤ wx.heap.size)
      (first | exact kd4 (by assumption) | exact kp4 (by assumption) (by assumption) | exact ⟨q7, e0, e1, e2, (Below.refl _ _).drew, Nat.le_refl _⟩ | exact ⟨q7, e0, e1, e2, Below.refl _ _, Nat.le_refl _⟩)
      (first
        | (go_at_call 18; refine (toPoint_any _ _ _).mono ?_; rintro e w8 ⟨rfl, hb8⟩; have hz8 := hb8.size)
        | (go_at_call 32; refine (CP.out _ _ _ _ (hO7.in_.to (bl4 (by assumption)))).mono ?_; rintro e w9 ⟨⟨A9, c9, rfl, ho9⟩, hb9⟩))
    have hS9 : w9.cell? ⟨X, 0, none⟩ = some (.slice (some ⟨g6, 0, none⟩) n n) ∧ w9.cell? ⟨w.heap.size, 0, none⟩ = some (.slice A n c) ∧ w9.cell? ⟨w.heap.size + 1, 0, none⟩ = some (.int .i64 x1) ∧ w9.cell? ⟨w.heap.size + 1, 1, none⟩ = some (.int .i64 y1) ∧ Below w7.heap.size w7 w9 ∧ w7.heap.size ≤ w9.heap.size := by assumption
    clear e0 e1 e2 q7 hb8 hb9 hO7
    have hz8' : w7.heap.size ≤ w8.heap.size := hz8
    obtain ⟨q7, e0, e1, e2, b9, z9⟩ := hS9
    have hgX : g6 < X := by
      obtain ⟨Ms, _, _, hZ, _⟩ := HO6.out
      rw [← hXX]; exact hZ.lt
    have bb9 := bl_step b7 b9 z7
    have p9 := ptq_keep p7 (below_le b9 (by omega))
    have bC9 := HX.out.trans (below_le b9 z67)
    have m9 := ((HO6.out.to (by rw [hXX]; exact HX.out)).to b9).in_
    have zz9 := z9
    have HX0 := Lib.hid hXX
    clear b7 b9 p7 HX hXX hz8
    go_wp2_with fail
    refine (eqPointS_same A9 A5 L c9 c5 w9 ho9.pts (ptq_mono p9 (by omega)) hLn).mono ?_
    rintro e w10 ⟨rfl, hb10⟩
    have z10 := hb10.size
    have hS10 := kp4 ⟨q7, e0, e1, e2, bb9, bb9.size⟩ hb10
    have p10 := ptq_keep p9 (below_le hb10 (by omega))
    have bC10 := bC9.trans (below_le hb10 (by omega))
    have m10 := m9.to hb10
    have ho10 := ho9.to hb10
    clear q7 e0 e1 e2 p9 bC9 m9 ho9 hb10
    obtain ⟨q7, e0, e1, e2, bb10, _⟩ := hS10
    go_wp2
    go_region_held3 (fun wx => wx.cell? ⟨X, 0, none⟩ = some (.slice (some ⟨g6, 0, none⟩) n n) ∧ wx.cell? ⟨w.heap.size, 0, none⟩ = some (.slice A n c) ∧ wx.cell? ⟨w.heap.size + 1, 0, none⟩ = some (.int .i64 x1) ∧ wx.cell? ⟨w.heap.size + 1, 1, none⟩ = some (.int .i64 y1) ∧ Below w10.heap.size w10 wx ∧ w10.heap.size ≤ wx.heap.size)
      (first | exact kd4 (by assumption) | exact kp4 (by assumption) (by assumption) | exact ⟨q7, e0, e1, e2, (Below.refl _ _).drew, Nat.le_refl _⟩ | exact ⟨q7, e0, e1, e2, Below.refl _ _, Nat.le_refl _⟩)
      (first
        | (go_at_call 31; refine (toMaze_in _ _ _ M _ (hI.out.to (bl_step bb10 (bl4 (by assumption)) bb10.size))).mono ?_; rintro e w11 ⟨g11, rfl, hO11, _, hb11⟩)
        | (go_at_call 33; refine (eqMaze_in _ _ _ _ _ M _ (m10.to (bl4 (by assumption))) hO11.in_).mono ?_; rintro e w12 ⟨rfl, hb12⟩))
    have hS12 : w12.cell? ⟨X, 0, none⟩ = some (.slice (some ⟨g6, 0, none⟩) n n) ∧ w12.cell? ⟨w.heap.size, 0, none⟩ = some (.slice A n c) ∧ w12.cell? ⟨w.heap.size + 1, 0, none⟩ = some (.int .i64 x1) ∧ w12.cell? ⟨w.heap.size + 1, 1, none⟩ = some (.int .i64 y1) ∧ Below w10.heap.size w10 w12 ∧ w10.heap.size ≤ w12.heap.size := by assumption
    clear q7 e0 e1 e2 hO11 hb11 hb12
    obtain ⟨q7, e0, e1, e2, b12, z12⟩ := hS12
    have bb12 := bl_step bb10 b12 bb10.size
    have p12 := ptq_keep p10 (below_le b12 (by omega))
    have bC12 := bC10.trans (below_le b12 (by omega))
    have ho12 := ho10.to b12
    clear b12 p10 bC10 ho10 m10 bb10 bb9
    go_wp2_with fail
    refine (markMaze_in g6 n n M w6 w12 HO6.out (by rw [HX0.out]; exact bC12)).mono ?_
    rintro e w13 ⟨⟨r', rfl⟩, hM⟩
    rw [HX0.out] at hM
    have hr' : decide ((r' : Int) < 0) = false := decide_eq_false (by omega)
    have z13 := hM.size
    have e0' := (hM.cell (p := ⟨w.heap.size, 0, none⟩) (World.block_lt_of_cell? _ _ e0) (.inl (by simp only []; omega))).trans e0
    have e1' := (hM.cell (p := ⟨w.heap.size + 1, 0, none⟩) (World.block_lt_of_cell? _ _ e1) (.inl (by have := bb1.out; simp only []; omega))).trans e1
    have e2' := (hM.cell (p := ⟨w.heap.size + 1, 1, none⟩) (World.block_lt_of_cell? _ _ e2) (.inl (by have := bb1.out; simp only []; omega))).trans e2
    have p13 := hM.ptq p12 (by omega) (by omega)
    have ho13 := hM.own ho12 (by omega)
    have bb13 := hM.below bb12 (by omega) (Nat.le_refl _)
    clear q7 e0 e1 e2 hM p12 ho12 bb12 bC12
    go_wp2_with fail
    refine (eqPointS_same A9 A5 L c9 c5 w13 ho13.pts (ptq_mono p13 (by omega)) hLn).mono ?_
    rintro e w14 ⟨rfl, hb14⟩
    have z14 := hb14.size
    have hS14 := kp3 ⟨e0', e1', e2', bb13, bb13.size⟩ hb14
    have p14 := ptq_keep p13 (below_le hb14 (by omega))
    have ho14 := ho13.to hb14
    clear e0' e1' e2' p13 ho13 hb14 bb13 hr'
    obtain ⟨e0, e1, e2, bb14, _⟩ := hS14
    go_wp2_with fail
    refine (markQ_opt A9 L c9 w8.heap.size w14 ho14 hLn).mono ?_
    rintro e w15 hm
    have bq := MarkQ.below ho14 hm
    obtain ⟨rfl, ho15, _, _⟩ := hm
    have z15 := bq.size
    have hS15 : w15.cell? ⟨w.heap.size, 0, none⟩ = some (.slice A n c) ∧ w15.cell? ⟨w.heap.size + 1, 0, none⟩ = some (.int .i64 x1) ∧ w15.cell? ⟨w.heap.size + 1, 1, none⟩ = some (.int .i64 y1) ∧ Below w.heap.size w w15 ∧ w.heap.size ≤ w15.heap.size := ⟨(bq.cell (p := ⟨w.heap.size, 0, none⟩) (by have := bb1.out; simp only []; omega)).trans e0, (bq.cell (p := ⟨w.heap.size + 1, 0, none⟩) (by have := bb1.out; simp only []; omega)).trans e1, (bq.cell (p := ⟨w.heap.size + 1, 1, none⟩) (by have := bb1.out; simp only []; omega)).trans e2, bb14.trans (below_le bq (by omega)), by omega⟩
    have p15 := ptq_keep p14 (below_le bq (by omega))
    clear e0 e1 e2 p14 ho14 bq bb14
    go_wp2_with fail
    refine (heldQ_opt A9 L.length c9 w8.heap.size w15 ho15 hLn).mono ?_
    rintro e w16 ⟨rfl, hw16⟩
    obtain rfl : w15 = w16 := hw16.symm
    have hneg : decide (1 + 2 * (L.length : Int) < 0) = false := decide_eq_false (by omega)
    obtain ⟨e0, e1, e2, bb15, _⟩ := hS15
    go_wp2
    go_region_held3 (fun wx => wx.cell? ⟨w.heap.size, 0, none⟩ = some (.slice A n c) ∧ wx.cell? ⟨w.heap.size + 1, 0, none⟩ = some (.int .i64 x1) ∧ wx.cell? ⟨w.heap.size + 1, 1, none⟩ = some (.int .i64 y1) ∧ Below w15.heap.size w15 wx ∧ w15.heap.size ≤ wx.heap.size)
      (first | exact kd3 (by assumption) | exact kp3 (by assumption) (by assumption) | exact ⟨e0, e1, e2, (Below.refl _ _).drew, Nat.le_refl _⟩ | exact ⟨e0, e1, e2, Below.refl _ _, Nat.le_refl _⟩)
      (first
        | (go_at_call 31; refine (toMaze_in _ _ _ M _ (hI.out.to (bl_step bb15 (bl3 (by assumption)) bb15.size))).mono ?_; rintro e w17 ⟨g17, rfl, hO17, _, hb17⟩)
        | (go_at_call 18; refine (toPoint_any _ _ _).mono ?_; rintro e w18 ⟨rfl, hb18⟩)
        | (go_at_call 32; refine (CP.out _ _ _ _ (hO17.in_.to hb18)).mono ?_; rintro e w20 ⟨⟨A20, c20, rfl, ho20⟩, hb20⟩))
    have hS20 : w20.cell? ⟨w.heap.size, 0, none⟩ = some (.slice A n c) ∧ w20.cell? ⟨w.heap.size + 1, 0, none⟩ = some (.int .i64 x1) ∧ w20.cell? ⟨w.heap.size + 1, 1, none⟩ = some (.int .i64 y1) ∧ Below w15.heap.size w15 w20 ∧ w15.heap.size ≤ w20.heap.size := by assumption
    clear e0 e1 e2 hO17 hb17 hb18 hb20
    obtain ⟨e0, e1, e2, b20, z20⟩ := hS20
    have bb20 := bl_step bb15 b20 bb15.size
    have p20 := ptq_keep p15 (below_le b20 (by omega))
    have hm20 := ho15.to b20
    clear b20 p15 ho15 bb15 e0 e1 e2
    go_wp2_with fail
    refine (eqPointS_same A20 A5 L c20 c5 w20 ho20.pts (ptq_mono p20 (by omega)) hLn).mono ?_
    rintro e w21 ⟨rfl, hb21⟩
    have hm21 := hm20.to hb21
    have bb21 := bl_step bb20 hb21 bb20.size
    clear p20 ho20 hm20 bb20 hb21
    go_wp2_with fail
    refine (heldQ_opt A9 L.length c9 w8.heap.size w21 hm21 hLn).mono ?_
    rintro e w22 ⟨rfl, rfl⟩
    go_wp2
    go_ret
    exact ⟨rfl, bb21⟩
end Go.Proofs.Ytepamhdopmfkfaa.fnExactWallAround
