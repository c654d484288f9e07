/-
  Proved: for every channel, the program's NetsOf answers as the model's, leaves the channel alone, and its answer owns its memory (math/bits' table laid). No condition beyond the row's laid variable.
-/
import Derived.Test.YtiadoekhhmcokaaDoorChanE
import Derived.Test.YtiadoekhhmcokaaDoorCollect
import Derived.Test.YtiadoekhhmcokaaDoorMarkC
namespace Go.Proofs.YtiadoekhhmcokaaDoor
set_option linter.unusedSimpArgs false
set_option linter.unusedVariables false
open Go.ChangeShapes Go.WideShapes Go.ChangeAt Go.RowKit

/-- An answer: numbers in memory of its own, and whether it succeeds. -/
def LAns (L : List Int) (ok : Bool) (w : World) (e : Ending) (w' : World) : Prop :=
  ∃ A c, e = .returned (.tuple #[.slice A L.length c, .bool ok]) ∧ Own4 w' w.heap.size A L ∧ Below w.heap.size w w'
/-- The nets that are told. -/
def netsA (T B : List Int) : List Int := if chanB T B = true then natI (netsL T B T.length) else []
theorem netsA_f {T B : List Int} (h : chanB T B = false) : netsA T B = [] := by unfold netsA; rw [h]; rfl
theorem netsA_t {T B : List Int} (h : chanB T B = true) : netsA T B = natI (netsL T B T.length) := by unfold netsA; rw [h]; rfl
theorem netsA_len (T B : List Int) : (netsA T B).length ≤ 13 := by
  unfold netsA
  split
  · rw [natI_len]; exact netsL_len _ _ _
  · simp

set_option maxHeartbeats 800000 in
theorem NetsOfS_any (A A' : Option Addr) (T B : List Int) (c c' : Nat) (w : World) (hp : IntsAt w w.heap.size A T) (hq : IntsAt w w.heap.size A' B) :
    Calls Tryd.prog 20 #[.agg #[.slice A T.length c, .slice A' B.length c']] w (LAns (netsA T B) (chanB T B) w) := by
  have hb0 : Below w.heap.size w (w.alloc (.cells #[.slice A T.length c, .slice A' B.length c'] 34)) := by (repeat (first | assumption | exact Below.refl _ _ | (refine bl_alloc ?_ _) | (refine Below.drew ?_) | (refine bl_drewN ?_ _) | (refine bl_set ?_ (by first | (simp; done) | omega | (simp; omega)) _) | (refine bl_trans ?_ (by assumption)) | (refine bl_step ?_ (by assumption) (by first | omega | exact Below.size (by assumption) | (simp; omega) | (simp; exact Below.size (by assumption))))))
  have hca := ChAt.new w A A' T.length B.length c c' 34
  have hc := l03Is_any w.heap.size A A' T B c c' _ hca (hp.to hb0) (hq.to hb0)
  cases hv : chanB T B
  · rw [netsA_f hv]
    rw [hv] at hc
    clear hv
    go_enter Tryd.func20, Tryd.ntmps20
    go_wp2_with (go_at_call 58; refine hc.mono ?_; rintro e w1 ⟨rfl, hb1⟩)
    go_ret2
    exact ⟨_, _, rfl, Own4.none_ _ _ _, by (repeat (first | assumption | exact Below.refl _ _ | (refine bl_alloc ?_ _) | (refine Below.drew ?_) | (refine bl_drewN ?_ _) | (refine bl_set ?_ (by first | (simp; done) | omega | (simp; omega)) _) | (refine bl_trans ?_ (by assumption)) | (refine bl_step ?_ (by assumption) (by first | omega | exact Below.size (by assumption) | (simp; omega) | (simp; exact Below.size (by assumption))))))⟩
  · rw [netsA_t hv]
    obtain ⟨h1, h24, hBT⟩ := chanB_form hv
    have HBT := Lib.hid hBT
    rw [hv] at hc
    clear hv hBT
    go_enter Tryd.func20, Tryd.ntmps20
    go_wp2_with fail
    refine hc.mono ?_
    rintro e w1 ⟨rfl, hb1⟩
    have b1 := bl_step hb0 hb1 hb0.size
    have hca1 := hca.to hb1
    go_wp2_with fail
    refine (l03Nets_any w.heap.size A A' T B T.length B.length c c' _ hca1 (hp.to b1) (hq.to b1) rfl rfl h24 HBT).mono ?_
    rintro e w2 ⟨⟨v, rfl, ho⟩, hb2⟩
    obtain ⟨A2, c2, rfl, o4⟩ := own4_of ho
    have b2 := bl_step b1 hb2 b1.size
    go_wp2
    go_ret2
    exact ⟨A2, c2, rfl, fun h0 => by obtain ⟨g, e, hg, hP⟩ := o4 h0; exact ⟨g, e, by have := b1.size; omega, hP⟩, b2⟩

set_option maxRecDepth 100000 in
set_option maxHeartbeats 800000 in
theorem NetsOfI_any (A A' : Option Addr) (T B : List Int) (c c' : Nat) (w : World) (hp : IntsAt w w.heap.size A T) (hq : IntsAt w w.heap.size A' B) (hL : BruAt w) :
    Calls Tryd.prog 22 #[.agg #[.slice A T.length c, .slice A' B.length c']] w (LAns (netsA T B) (chanB T B) w) := by
  have hb0 : Below w.heap.size w (w.alloc (.cells #[.slice A T.length c, .slice A' B.length c'] 34)) := by (repeat (first | assumption | exact Below.refl _ _ | (refine bl_alloc ?_ _) | (refine Below.drew ?_) | (refine bl_drewN ?_ _) | (refine bl_set ?_ (by first | (simp; done) | omega | (simp; omega)) _) | (refine bl_trans ?_ (by assumption)) | (refine bl_step ?_ (by assumption) (by first | omega | exact Below.size (by assumption) | (simp; omega) | (simp; exact Below.size (by assumption))))))
  have hc := columnsOf_any A A' T B c c' (w.alloc (.cells #[.slice A T.length c, .slice A' B.length c'] 34)) (hp.to hb0) (hq.to hb0)
  go_enter Tryd.func22, Tryd.ntmps22
  go_wp2_with fail
  refine hc.mono ?_
  rintro e w1 ⟨hb1, ⟨hv, g, rfl, hG, hg⟩ | ⟨hv, v, rfl⟩⟩
  · have R := Lib.hid (netsA_t hv)
    have HV := Lib.hid hv
    obtain ⟨h1, h24, hBT⟩ := chanB_form hv
    have b1 := bl_step hb0 hb1 hb0.size
    clear hv hBT
    go_wp2_with fail
    refine (nets_any g T B T.length _ hG h24).mono ?_
    rintro e w2 ⟨rfl, hb2⟩
    have b2 := bl_step b1 hb2 b1.size
    go_wp2_with fail
    refine (members_any (isNetB T B T.length) 13 (by omega) _ (hL.to b2)).mono ?_
    rintro e w3 ⟨⟨v, rfl, ho⟩, hb3⟩
    have b3 := bl_step b2 hb3 b2.size
    obtain ⟨A2, c2, rfl, o4⟩ := own4_of ho
    go_wp2
    go_ret2
    refine ⟨A2, c2, ?_, ?_, b3⟩
    · rw [R.out, HV.out]; rfl
    · rw [R.out]
      intro h0
      obtain ⟨g, e, hg, hP⟩ := o4 h0
      exact ⟨g, e, by have := b2.size; omega, hP⟩
  · have R := Lib.hid (netsA_f hv)
    have HV := Lib.hid hv
    clear hv
    go_wp2
    go_ret2
    exact ⟨none, 0, by rw [R.out, HV.out]; rfl, by rw [R.out]; exact Own4.none_ _ _ _, by (repeat (first | assumption | exact Below.refl _ _ | (refine bl_alloc ?_ _) | (refine Below.drew ?_) | (refine bl_drewN ?_ _) | (refine bl_set ?_ (by first | (simp; done) | omega | (simp; omega)) _) | (refine bl_trans ?_ (by assumption)) | (refine bl_step ?_ (by assumption) (by first | omega | exact Below.size (by assumption) | (simp; omega) | (simp; exact Below.size (by assumption))))))⟩
end Go.Proofs.YtiadoekhhmcokaaDoor
namespace Go.Proofs.YtiadoekhhmcokaaDoor.fnExactNetsOf
open Go.ChangeShapes Go.WideShapes Go.ChangeAt Go.RowKit

set_option maxRecDepth 100000 in
set_option maxHeartbeats 1600000 in
theorem walk (A : Option Addr) (T : List Int) (c : Nat) (A' : Option Addr) (B : List Int) (c' : Nat) (w : World) (h : RowIn w A T c) (h' : RowIn w A' B c') (hL : BruAt w) :
    Calls Tryd.prog 4 #[.agg #[.slice A T.length c, .slice A' B.length c']] w fun e w' => e = .returned (.bool true) ∧ Below w.heap.size w w' := by
  obtain ⟨hp, _, hlc, hc⟩ := h
  obtain ⟨hq, _, hlc', hc'⟩ := h'
  have hb0 : Below w.heap.size w (w.alloc (.cells #[.slice A T.length c, .slice A' B.length c'] 30)) := by (repeat (first | assumption | exact Below.refl _ _ | (refine bl_alloc ?_ _) | (refine Below.drew ?_) | (refine bl_drewN ?_ _) | (refine bl_set ?_ (by first | (simp; done) | omega | (simp; omega)) _) | (refine bl_trans ?_ (by assumption)) | (refine bl_step ?_ (by assumption) (by first | omega | exact Below.size (by assumption) | (simp; omega) | (simp; exact Below.size (by assumption))))))
  by_cases hs : T.length + B.length ≤ 1048576
  · have cS := fun (A A' : Option Addr) (c c' : Nat) w1 hp hq => NetsOfS_any A A' T B c c' w1 hp hq
    have cI := fun (A A' : Option Addr) (c c' : Nat) w1 hp hq hl => NetsOfI_any A A' T B c c' w1 hp hq hl
    have hL13 := netsA_len T B
    generalize netsA T B = L at *
    generalize chanB T B = ok at *
    have hl : T.length ≤ 1048576 := by omega
    have hl' : B.length ≤ 1048576 := by omega
    have hLm : L.length ≤ 1048576 := by omega
    have hkk : ¬ (1 + (T.length : Int) + (B.length : Int)) < 0 := by omega
    have hm1 : ¬ (1 + (L.length : Int)) < 0 := by omega
    go_enter Tryd.func4, Tryd.ntmps4
    go_wp2_with fail
    refine (szChannel_fits _ _ _ _ _ _ _ hs).mono ?_
    rintro e w1 ⟨⟨k, hk, rfl⟩, hb1⟩
    have hkI : ¬ k < 0 := by omega
    have hca := (ChAt.new w A A' T.length B.length c c' 30).to hb1
    have b1 : Below w.heap.size w w1 := bl_step hb0 hb1 (by simp)
    have hca1 := hca
    obtain ⟨_, e0, e1⟩ := hca1
    clear hb1 hb0
    go_wp2_with fail
    refine (toChannel_new _ _ _ _ _ _ _ (hp.to b1) (hq.to b1) hl hl').mono ?_
    rintro e w2 ⟨g1, g2, rfl, hB1, hB2, hb2, hg1, hg2⟩
    have b2 := bl_step b1 hb2 b1.size
    go_wp2_with fail
    refine (cS _ _ _ _ _ hB1.nums hB2.nums).mono ?_
    rintro e w3 ⟨A0, d0, rfl, o0, hb3⟩
    have hca3 := (hca.to hb2).to hb3
    have b3 := bl_step b2 hb3 b2.size
    clear e0 e1 hca b1 hB1 hB2 hb2 hb3 b2 hg1 hg2 cS
    have hca3' := hca3
    obtain ⟨_, e0, e1⟩ := hca3'
    have p0 : IntsAt w3 w3.heap.size A0 L := o0.ints
    clear o0
    go_wp2_with fail
    refine (toChannel_new _ _ _ _ _ _ _ (hp.to b3) (hq.to b3) hl hl').mono ?_
    rintro e w4 ⟨g3, g4, rfl, hB3, hB4, hb4, hg3, hg4⟩
    have hx4 : Below w4.heap.size w4 (w4.alloc (.cells #[.slice (some ⟨g3, 0, none⟩) T.length T.length, .slice (some ⟨g4, 0, none⟩) B.length B.length] 34)) := (Below.refl _ _).alloc (Nat.le_refl _) _
    have s4 := bl_step hb4 hx4 hb4.size
    have hcx := ChAt.new w4 (some ⟨g3, 0, none⟩) (some ⟨g4, 0, none⟩) T.length B.length T.length B.length 34
    have z3 := hB3.lt
    have z4 := hB4.lt
    have hB3' := hB3.to hx4
    have hB4' := hB4.to hx4
    have b4 := bl_step b3 s4 b3.size
    clear hB3 hB4 hb4 hx4 e0 e1
    go_wp2_with fail
    refine (cI _ _ _ _ _ hB3'.nums hB4'.nums (hL.to b4)).mono ?_
    rintro e w5 ⟨A2, d2, rfl, o2', hb5⟩
    have o2 : Own4 w5 (w4.heap.size + 1) A2 L := by simpa using o2'
    clear o2'
    have s5 := bl_step s4 hb5 s4.size
    have hcx5 := hcx.to hb5
    have hB35 := hB3'.to hb5
    have hB45 := hB4'.to hb5
    have p05 : IntsAt w5 w3.heap.size A0 L := NumsAt.keepB p0 s5
    clear hcx hB3' hB4' hb5 s4 b4
    go_wp2_with fail
    refine (eqInt64S_same _ _ _ _ _ _ o2.ints (NumsAt.mono p05 s5.size) hLm).mono ?_
    rintro e w6 ⟨rfl, hb6⟩
    have s6 := bl_step s5 hb6 s5.size
    have b6 := bl_step b3 s6 b3.size
    have hcx6 := hcx5.to hb6
    have hca6 := hca3.to s6
    have hB36 := hB35.to hb6
    have hB46 := hB45.to hb6
    have o6 := o2.to hb6
    clear hcx5 hB35 hB45 hb6 s5 o2 p05
    have hcx6' := hcx6
    have hca6' := hca6
    obtain ⟨_, e0, e1⟩ := hca6'
    obtain ⟨_, e2, e3⟩ := hcx6'
    obtain ⟨X, hX⟩ : ∃ X, w4.heap.size = X := ⟨_, rfl⟩
    rw [hX] at e2 e3 hcx6 z3 z4 o6
    go_wp2
    go_region_held3 (fun wx => wx.cell? ⟨X, 0, none⟩ = some (.slice (some ⟨g3, 0, none⟩) T.length T.length) ∧ wx.cell? ⟨X, 1, none⟩ = some (.slice (some ⟨g4, 0, none⟩) B.length B.length) ∧ wx.cell? ⟨w.heap.size, 0, none⟩ = some (.slice A T.length c) ∧ wx.cell? ⟨w.heap.size, 1, none⟩ = some (.slice A' B.length c') ∧ Below w6.heap.size w6 wx ∧ w6.heap.size ≤ wx.heap.size)
      (first | exact drewE (by assumption) | exact keepE (by assumption) (by assumption) | exact ⟨e2, e3, e0, e1, (Below.refl _ _).drew, Nat.le_refl _⟩ | exact ⟨e2, e3, e0, e1, Below.refl _ _, Nat.le_refl _⟩)
      (first
        | (go_at_call 21; refine (toChannel_new _ _ _ _ _ _ _ (hp.to (bl_step b6 (fifthE (by assumption)) b6.size)) (hq.to (bl_step b6 (fifthE (by assumption)) b6.size)) hl hl').mono ?_; rintro e w7 ⟨g5, g6, rfl, hB5, hB6, hb7, _, _⟩)
        | (go_at_call 24; refine (eqChannel_same _ _ _ _ _ _ _ _ _ _ _ (hB36.nums.to (fifthE (by assumption))) (hB46.nums.to (fifthE (by assumption))) hB5.nums hB6.nums hl hl').mono ?_; rintro e w8 ⟨rfl, hb8⟩))
    have t8 : Below w6.heap.size w6 w8 := fifthE (by assumption)
    have s8 := bl_step s6 t8 s6.size
    have hcx8 := hcx6.to t8
    have hB38 := (hB36.to t8).i
    have hB48 := (hB46.to t8).i
    have o8 := o6.to t8
    have z8 : w6.heap.size ≤ w8.heap.size := t8.size
    obtain ⟨_, f0', f1'⟩ := hcx8
    clear e0 e1 e2 e3 hcx6 hca6 hB36 hB46 o6 s6 b6 t8 hX
    go_wp2_with fail
    refine (markCh_any g3 g4 T B T.length B.length _ hB38 hB48 (by omega) hs).mono ?_
    rintro e w9 ⟨rfl, _, _, hM, hkp, hz9⟩
    have s9 : Below w3.heap.size w3 w9 := hM _ _ s8 hg3 (by omega) s8.size
    have b9 := bl_step b3 s9 b3.size
    have o9 : Own4 w9 (X + 1) A2 L := fun h0 => by
      obtain ⟨g, e, hg, hP⟩ := o8 h0
      exact ⟨g, e, hg, hP.keep (hkp g hP.lt (by omega) (by omega))⟩
    have p9 : IntsAt w9 w3.heap.size A0 L := NumsAt.keepB p0 s9
    clear f0' f1' hB38 hB48 o8 s8 z8 hM hkp hz9
    go_wp2_with fail
    refine (eqInt64S_same _ _ _ _ _ _ o9.ints (NumsAt.mono p9 s9.size) hLm).mono ?_
    rintro e w10 ⟨rfl, hb10⟩
    have s10 := bl_step s9 hb10 s9.size
    have o10 := o9.to hb10
    clear o9 p9 hb10 s9 b9
    go_wp2_with fail
    refine (markI_opt A2 L d2 _ _ o10 hLm).mono ?_
    rintro e w11 ⟨rfl, m11, hO, hnw⟩
    have hA2 : ∀ g, A2 = some ⟨g, 0, none⟩ → 0 < L.length → X + 1 ≤ g := fun g e h0 => by
      obtain ⟨g', e', hg', _⟩ := o10 h0
      rw [e'] at e; injection e with e; injection e with e; omega
    have s11 : Below w3.heap.size w3 w11 := by
      rcases hnw with h0 | rfl
      · exact hO.below s10 (fun g e => by have := hA2 g e h0; omega)
      · exact s10
    have b11 := bl_step b3 s11 b3.size
    clear hO hnw hA2 o10 s10
    go_wp2_with fail
    refine (heldI_opt A2 L.length d2 _ _ m11 hLm).mono ?_
    rintro e w12 ⟨rfl, rfl⟩
    obtain ⟨_, e0, e1⟩ := hca3.to s11
    go_wp2_with fail
    refine (toChannel_new _ _ _ _ _ _ _ (hp.to b11) (hq.to b11) hl hl').mono ?_
    rintro e w13 ⟨g7, g8, rfl, hB7, hB8, hb13, _, _⟩
    have s13 := bl_step s11 hb13 s11.size
    have b13 := bl_step b11 hb13 b11.size
    have m13 := m11.to hb13
    clear e0 e1 m11 hb13 s11 b11
    go_wp2_with fail
    refine (cI _ _ _ _ _ hB7.nums hB8.nums (hL.to b13)).mono ?_
    rintro e w14 ⟨A3, d3, rfl, o14, hb14⟩
    have s14 := bl_step s13 hb14 s13.size
    have b14 := bl_step b13 hb14 b13.size
    have m14 := m13.to hb14
    have p14 : IntsAt w14 w3.heap.size A0 L := NumsAt.keepB p0 s14
    clear hB7 hB8 m13 hb14 s13 b13
    go_wp2_with fail
    refine (eqInt64S_same _ _ _ _ _ _ o14.ints (NumsAt.mono p14 s14.size) hLm).mono ?_
    rintro e w15 ⟨rfl, hb15⟩
    have b15 := bl_step b14 hb15 b14.size
    have m15 := m14.to hb15
    clear o14 p14 m14 hb15 b14 s14
    go_wp2_with fail
    refine (heldI_opt A2 L.length d2 _ _ m15 hLm).mono ?_
    rintro e w16 ⟨rfl, rfl⟩
    go_wp2
    go_ret
    exact ⟨rfl, b15⟩
  · have hbig : 1048576 < T.length + B.length := by omega
    go_enter Tryd.func4, Tryd.ntmps4
    go_wp2_with fail
    refine (szChannel_big _ _ _ _ _ _ _ hbig (by omega) (by omega)).mono ?_
    rintro e w1 ⟨rfl, hb1⟩
    go_wp2
    go_ret
    exact ⟨rfl, by (repeat (first | assumption | exact Below.refl _ _ | (refine bl_alloc ?_ _) | (refine Below.drew ?_) | (refine bl_drewN ?_ _) | (refine bl_set ?_ (by first | (simp; done) | omega | (simp; omega)) _) | (refine bl_trans ?_ (by assumption)) | (refine bl_step ?_ (by assumption) (by first | omega | exact Below.size (by assumption) | (simp; omega) | (simp; exact Below.size (by assumption))))))⟩
end Go.Proofs.YtiadoekhhmcokaaDoor.fnExactNetsOf
