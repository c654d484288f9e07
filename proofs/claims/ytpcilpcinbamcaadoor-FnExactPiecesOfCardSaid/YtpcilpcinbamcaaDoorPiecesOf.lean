/-
  Proved: for every channel, the program's PiecesOf answers as the model's, leaves the channel alone, and its answer owns its memory (math/bits' table laid). No condition beyond the row's laid variable.
-/
import Derived.Test.YtpcilpcinbamcaaDoorPieces
import Derived.Test.YtpcilpcinbamcaaDoorMarkC
namespace Go.Proofs.YtpcilpcinbamcaaDoor
set_option linter.unusedSimpArgs false
set_option linter.unusedVariables false
open Go.ChangeShapes Go.WideShapes Go.ChangeAt Go.RowKit

theorem LLOwn.parts {W : World} {N n c : Nat} {A : Option Addr} {Ms : List SlI} (h : LLOwn W N (.slice A n c) Ms) : ISAt W W.heap.size A Ms ∧ OutAt W A Ms ∧ RowsOwn W N Ms ∧ ∀ i, i < Ms.length → nI Ms i ≤ 1048576 := by
  obtain ⟨A', c', e, h1, h2, h3, _, h5⟩ := h.isat
  injection e with e1 e2 e3
  subst e1
  exact ⟨h1, h2, h3, h5⟩
theorem PcAns.out {P : List (List Int)} {ok : Bool} {w w' : World} {e : Ending} (h : PcAns P ok w e w') : ∃ A Ms c, e = .returned (.tuple #[.slice A P.length c, .bool ok]) ∧ Ms.length = P.length ∧ heldI Ms = P ∧ LLOwn w' w.heap.size (.slice A P.length c) Ms ∧ Below w.heap.size w w' := by
  obtain ⟨A, Ms, c, e, hH, hLL, hb⟩ := h
  have l : Ms.length = P.length := by rw [← heldI_len, hH]
  exact ⟨A, Ms, c, by rw [e, l], l, hH, by rw [← l]; exact hLL, hb⟩
theorem piecesA_len (T B : List Int) : (piecesA T B).length ≤ 312 := by
  cases h : chanB T B
  · rw [piecesA_f h]; simp
  · rw [piecesA_t h]
    exact pcsAll_le T B T.length (chanB_form h).2.1
theorem rowsLt {w : World} {B : Nat} {Ls : List SlI} (h : RowsOwn w B Ls) {b : Nat} (hb : rowOf Ls b) : b < w.heap.size := by
  obtain ⟨i, hi, h0, e⟩ := hb
  obtain ⟨gi, e2, _, hp⟩ := h.1 i hi h0
  rw [e] at e2
  injection e2 with e2; injection e2 with e2
  subst e2
  exact hp.lt
theorem rowsTo {w w' : World} {B : Nat} {Ls : List SlI} (h : RowsOwn w B Ls) (hb : Below w.heap.size w w') : RowsOwn w' B Ls :=
  ⟨fun i hi h0 => by obtain ⟨gi, e, hB, hp⟩ := h.1 i hi h0; exact ⟨gi, e, hB, hp.keep (hb.block gi hp.lt)⟩, h.2⟩
theorem outTo {w w' : World} {A : Option Addr} {Ls : List SlI} (h : OutAt w A Ls) (hb : Below w.heap.size w w') : OutAt w' A Ls := fun h0 => by
  obtain ⟨b, off, e, hc, hne⟩ := h h0
  have hlt : b < w.heap.size := World.block_lt_of_cell? w _ (hc 0 h0)
  exact ⟨b, off, e, fun i hi => (hb.cell (p := ⟨b, off + i, none⟩) hlt).trans (hc i hi), hne⟩
theorem markTo {w w' : World} {B q k : Nat} {Ls : List SlI} (h : Marked w Ls q k) (hr : RowsOwn w B Ls) (hk : k ≤ Ls.length) (hb : Below w.heap.size w w') : Marked w' Ls q k := fun i hi gi e j hj =>
  (hb.cell (p := ⟨gi, j, none⟩) (rowsLt hr ⟨i, by omega, by omega, e⟩)).trans (h i hi gi e j hj)
end Go.Proofs.YtpcilpcinbamcaaDoor
namespace Go.Proofs.YtpcilpcinbamcaaDoor.fnExactPiecesOf
open Go.ChangeShapes Go.WideShapes Go.ChangeAt Go.RowKit

set_option maxRecDepth 100000 in
set_option maxHeartbeats 1600000 in
theorem walk (A : Option Addr) (T : List Int) (c : Nat) (A' : Option Addr) (B : List Int) (c' : Nat) (w : World) (h : RowIn w A T c) (h' : RowIn w A' B c') (hL : BruAt w) :
    Calls Tryd.prog 3 #[.agg #[.slice A T.length c, .slice A' B.length c']] w fun e w' => e = .returned (.bool true) ∧ Below w.heap.size w w' := by
  obtain ⟨hp, _, hlc, hc⟩ := h
  obtain ⟨hq, _, hlc', hc'⟩ := h'
  have hb0 : Below w.heap.size w (w.alloc (.cells #[.slice A T.length c, .slice A' B.length c'] 24)) := by (repeat (first | assumption | exact Below.refl _ _ | (refine bl_alloc ?_ _) | (refine Below.drew ?_) | (refine bl_drewN ?_ _) | (refine bl_set ?_ (by first | (simp; done) | omega | (simp; omega)) _) | (refine bl_trans ?_ (by assumption)) | (refine bl_step ?_ (by assumption) (by first | omega | exact Below.size (by assumption) | (simp; omega) | (simp; exact Below.size (by assumption))))))
  by_cases hs : T.length + B.length ≤ 1048576
  · have cS := fun (A A' : Option Addr) (c c' : Nat) w1 hp hq => (PiecesOfS_any A A' T B c c' w1 hp hq).mono (fun _ _ h => PcAns.out h)
    have cI := fun (A A' : Option Addr) (c c' : Nat) w1 hp hq hl => (PiecesOfI_any A A' T B c c' w1 hp hq hl).mono (fun _ _ h => PcAns.out h)
    have hP312 := piecesA_len T B
    generalize piecesA T B = P at *
    generalize chanB T B = ok at *
    have hl : T.length ≤ 1048576 := by omega
    have hl' : B.length ≤ 1048576 := by omega
    have hPm : P.length ≤ 1048576 := by omega
    have hkk : ¬ (1 + (T.length : Int) + (B.length : Int)) < 0 := by omega
    go_enter Tryd.func3, Tryd.ntmps3
    go_wp2_with fail
    refine (szChannel_fits _ _ _ _ _ _ _ hs).mono ?_
    rintro e w1 ⟨⟨k, hk, rfl⟩, hb1⟩
    have hkI : ¬ k < 0 := by omega
    have hca := (ChAt.new w A A' T.length B.length c c' 24).to hb1
    have b1 : Below w.heap.size w w1 := bl_step hb0 hb1 (by simp)
    have hca1 := hca
    obtain ⟨_, e0, e1⟩ := hca1
    clear hb1 hb0
    go_wp2_with fail
    refine (toChannel_new _ _ _ _ _ _ _ (hp.to b1) (hq.to b1) hl hl').mono ?_
    rintro e w2 ⟨g1, g2, rfl, hB1, hB2, hb2, hg1, hg2⟩
    have b2 := bl_step b1 hb2 b1.size
    go_wp2_with fail
    refine (cS _ _ _ _ _ hB1.nums hB2.nums).mono ?_
    rintro e w3 ⟨A0, M0, d0, rfl, l0, H0, o0, hb3⟩
    have hca3 := (hca.to hb2).to hb3
    have b3 := bl_step b2 hb3 b2.size
    clear e0 e1 hca b1 hB1 hB2 hb2 hb3 b2 hg1 hg2 cS
    have hca3' := hca3
    obtain ⟨_, e0, e1⟩ := hca3'
    have p0 : ISAt w3 w3.heap.size A0 M0 := o0.parts.1
    clear o0
    go_wp2_with fail
    refine (toChannel_new _ _ _ _ _ _ _ (hp.to b3) (hq.to b3) hl hl').mono ?_
    rintro e w4 ⟨g3, g4, rfl, hB3, hB4, hb4, hg3, hg4⟩
    have hx4 : Below w4.heap.size w4 (w4.alloc (.cells #[.slice (some ⟨g3, 0, none⟩) T.length T.length, .slice (some ⟨g4, 0, none⟩) B.length B.length] 29)) := (Below.refl _ _).alloc (Nat.le_refl _) _
    have s4 := bl_step hb4 hx4 hb4.size
    have hcx := ChAt.new w4 (some ⟨g3, 0, none⟩) (some ⟨g4, 0, none⟩) T.length B.length T.length B.length 29
    have z3 := hB3.lt
    have z4 := hB4.lt
    have hB3' := hB3.to hx4
    have hB4' := hB4.to hx4
    have b4 := bl_step b3 s4 b3.size
    clear hB3 hB4 hb4 hx4 e0 e1
    go_wp2_with fail
    refine (cI _ _ _ _ _ hB3'.nums hB4'.nums (hL.to b4)).mono ?_
    rintro e w5 ⟨A2, M2, d2, rfl, l2, H2, o2', hb5⟩
    have o2 : LLOwn w5 (w4.heap.size + 1) (.slice A2 P.length d2) M2 := by simpa using o2'
    have HH : heldI M2 = heldI M0 := H2.trans H0.symm
    have sm2 := o2.parts.2.2.2
    have hl2 : ∀ i, i < P.length → (M2.getD i si0).2.1.length ≤ 1048576 := fun i hi => sm2 i (by omega)
    clear o2'
    have s5 := bl_step s4 hb5 s4.size
    have hcx5 := hcx.to hb5
    have hB35 := hB3'.to hb5
    have hB45 := hB4'.to hb5
    have p05 : ISAt w5 w3.heap.size A0 M0 := p0.keepB s5
    clear hcx hB3' hB4' hb5 s4 b4
    go_wp2_with fail
    refine (eqInt64SS_same _ _ M2 M0 P.length _ _ _ o2.parts.1 (p05.mono s5.size) l2 l0 HH hPm hl2).mono ?_
    rintro e w6 ⟨rfl, hb6⟩
    have s6 := bl_step s5 hb6 s5.size
    have b6 := bl_step b3 s6 b3.size
    have hcx6 := hcx5.to hb6
    have hca6 := hca3.to s6
    have hB36 := hB35.to hb6
    have hB46 := hB45.to hb6
    have o6 := o2.to hb6
    clear hcx5 hB35 hB45 hb6 s5 o2 p05
    have hcx6' := hcx6
    have hca6' := hca6
    obtain ⟨_, e0, e1⟩ := hca6'
    obtain ⟨_, e2, e3⟩ := hcx6'
    obtain ⟨X, hX⟩ : ∃ X, w4.heap.size = X := ⟨_, rfl⟩
    rw [hX] at e2 e3 hcx6 z3 z4 o6
    go_wp2
    go_region_held3 (fun wx => wx.cell? ⟨X, 0, none⟩ = some (.slice (some ⟨g3, 0, none⟩) T.length T.length) ∧ wx.cell? ⟨X, 1, none⟩ = some (.slice (some ⟨g4, 0, none⟩) B.length B.length) ∧ wx.cell? ⟨w.heap.size, 0, none⟩ = some (.slice A T.length c) ∧ wx.cell? ⟨w.heap.size, 1, none⟩ = some (.slice A' B.length c') ∧ Below w6.heap.size w6 wx ∧ w6.heap.size ≤ wx.heap.size)
      (first | exact drewE (by assumption) | exact keepE (by assumption) (by assumption) | exact ⟨e2, e3, e0, e1, (Below.refl _ _).drew, Nat.le_refl _⟩ | exact ⟨e2, e3, e0, e1, Below.refl _ _, Nat.le_refl _⟩)
      (first
        | (go_at_call 6; refine (toChannel_new _ _ _ _ _ _ _ (hp.to (bl_step b6 (fifthE (by assumption)) b6.size)) (hq.to (bl_step b6 (fifthE (by assumption)) b6.size)) hl hl').mono ?_; rintro e w7 ⟨g5, g6, rfl, hB5, hB6, hb7, _, _⟩)
        | (go_at_call 9; refine (eqChannel_same _ _ _ _ _ _ _ _ _ _ _ (hB36.nums.to (fifthE (by assumption))) (hB46.nums.to (fifthE (by assumption))) hB5.nums hB6.nums hl hl').mono ?_; rintro e w8 ⟨rfl, hb8⟩))
    have t8 : Below w6.heap.size w6 w8 := fifthE (by assumption)
    have s8 := bl_step s6 t8 s6.size
    have hcx8 := hcx6.to t8
    have hB38 := (hB36.to t8).i
    have hB48 := (hB46.to t8).i
    have o8 := o6.to t8
    have z8 : w6.heap.size ≤ w8.heap.size := t8.size
    obtain ⟨_, f0', f1'⟩ := hcx8
    clear e0 e1 e2 e3 hcx6 hca6 hB36 hB46 o6 s6 b6 t8 hX
    go_wp2_with fail
    refine (markCh_any g3 g4 T B T.length B.length _ hB38 hB48 (by omega) hs).mono ?_
    rintro e w9 ⟨rfl, _, _, hM, hkp, hz9⟩
    have s9 : Below w3.heap.size w3 w9 := hM _ _ s8 hg3 (by omega) s8.size
    have b9 := bl_step b3 s9 b3.size
    have o9 : LLOwn w9 (X + 1) (.slice A2 P.length d2) M2 := o8.keep fun i hi hN => hkp i hi (by omega) (by omega)
    have p9 : ISAt w9 w3.heap.size A0 M0 := p0.keepB s9
    clear f0' f1' hB38 hB48 o8 s8 z8 hM hkp hz9
    go_wp2_with fail
    refine (eqInt64SS_same _ _ M2 M0 P.length _ _ _ o9.parts.1 (p9.mono s9.size) l2 l0 HH hPm hl2).mono ?_
    rintro e w10 ⟨rfl, hb10⟩
    have s10 := bl_step s9 hb10 s9.size
    have o10 := o9.to hb10
    clear o9 p9 hb10 s9 b9
    go_wp2_with fail
    have cm := markLL_any A2 M2 d2 (X + 1) 1 w10 o10.parts.2.1 o10.parts.2.2.1 (by omega) sm2 (by omega)
    rw [l2] at cm
    obtain ⟨t, ht⟩ : ∃ t, 1 + offL M2 P.length = t := ⟨_, rfl⟩
    rw [ht] at cm
    refine cm.mono ?_
    rintro e w11 ⟨rfl, hO, hR11, hA11, hM11⟩
    have s11 : Below w3.heap.size w3 w11 := hO.below s10 (fun i hi => by have := hR11.ge hi; omega)
    have b11 := bl_step b3 s11 b3.size
    have cH := fun (wx : World) (hx : Below w11.heap.size w11 wx) => heldLL_any A2 M2 d2 (X + 1) 1 wx (outTo hA11 hx) (rowsTo hR11 hx) (by rw [l2]; exact markTo hM11 hR11 (by omega) hx) (by omega) sm2 (by omega)
    rw [l2, ht] at cH
    have htI : ¬ ((t : Int) < 0) := by omega
    clear hO cm ht o10 s10 hR11 hA11 hM11
    go_wp2_with fail
    refine (cH _ (Below.refl _ _)).mono ?_
    rintro e w12 ⟨rfl, rfl⟩
    obtain ⟨_, e0, e1⟩ := hca3.to s11
    go_wp2_with fail
    refine (toChannel_new _ _ _ _ _ _ _ (hp.to b11) (hq.to b11) hl hl').mono ?_
    rintro e w13 ⟨g7, g8, rfl, hB7, hB8, hb13, _, _⟩
    have s13 := bl_step s11 hb13 s11.size
    have b13 := bl_step b11 hb13 b11.size
    clear e0 e1
    go_wp2_with fail
    refine (cI _ _ _ _ _ hB7.nums hB8.nums (hL.to b13)).mono ?_
    rintro e w14 ⟨A3, M3, d3, rfl, l3, H3, o14, hb14⟩
    have s14 := bl_step s13 hb14 s13.size
    have b14 := bl_step b13 hb14 b13.size
    have sm3 := o14.parts.2.2.2
    have p14 : ISAt w14 w3.heap.size A0 M0 := p0.keepB s14
    clear hB7 hB8 s13 b13
    go_wp2_with fail
    refine (eqInt64SS_same _ _ M3 M0 P.length _ _ _ o14.parts.1 (p14.mono s14.size) l3 l0 (H3.trans H0.symm) hPm (fun i hi => sm3 i (by omega))).mono ?_
    rintro e w15 ⟨rfl, hb15⟩
    have b15 := bl_step b14 hb15 b14.size
    have t15 := bl_trans (bl_trans hb13 hb14) hb15
    clear o14 p14 b14 s14
    go_wp2_with fail
    refine (cH _ t15).mono ?_
    rintro e w16 ⟨rfl, rfl⟩
    go_wp2
    go_ret
    exact ⟨rfl, b15⟩
  · have hbig : 1048576 < T.length + B.length := by omega
    go_enter Tryd.func3, Tryd.ntmps3
    go_wp2_with fail
    refine (szChannel_big _ _ _ _ _ _ _ hbig (by omega) (by omega)).mono ?_
    rintro e w1 ⟨rfl, hb1⟩
    go_wp2
    go_ret
    exact ⟨rfl, by (repeat (first | assumption | exact Below.refl _ _ | (refine bl_alloc ?_ _) | (refine Below.drew ?_) | (refine bl_drewN ?_ _) | (refine bl_set ?_ (by first | (simp; done) | omega | (simp; omega)) _) | (refine bl_trans ?_ (by assumption)) | (refine bl_step ?_ (by assumption) (by first | omega | exact Below.size (by assumption) | (simp; omega) | (simp; exact Below.size (by assumption))))))⟩
end Go.Proofs.YtpcilpcinbamcaaDoor.fnExactPiecesOf
