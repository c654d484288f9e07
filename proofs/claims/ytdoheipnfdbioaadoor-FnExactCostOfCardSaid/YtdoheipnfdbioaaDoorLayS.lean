/-
  Layerings: said over lists; contract: is it one, as the model has it; the cost.
-/
import Derived.Test.YtdoheipnfdbioaaDoorWirIs
namespace Go.Proofs.YtdoheipnfdbioaaDoor
set_option linter.unusedSimpArgs false
set_option linter.unusedVariables false
open Go.ChangeShapes Go.WideShapes Go.ChangeAt Go.RowKit

def lyFix (F X : List Int) (i : Nat) : Bool := inB (X.getD i 0) 0 1 && (decide (F.getD i 0 < 0) || decide (F.getD i 0 = X.getD i 0))
def cx (C : List (List Int)) (j : Nat) : Nat := ((C.getD j []).getD 0 0).toNat
def cy (C : List (List Int)) (j : Nat) : Nat := ((C.getD j []).getD 1 0).toNat
def lyCr (C : List (List Int)) (X : List Int) (j : Nat) : Bool := !decide (X.getD (cx C j) 0 = X.getD (cy C j) 0)
/-- Are X layers that are a layering? -/
def layB (n : Int) (C : List (List Int)) (F X : List Int) : Bool := decide ((X.length : Int) = n) && (okTo (lyFix F X) X.length && okTo (lyCr C X) C.length)
/-- The facts of a valid wiring's lists. -/
structure WvOk (n : Nat) (C J : List (List Int)) (F : List Int) : Prop where
  n14 : n ≤ 14
  fl : F.length = n
  fix : ∀ i, i < n → -1 ≤ F.getD i 0 ∧ F.getD i 0 ≤ 1
  c30 : C.length ≤ 30
  c2 : ∀ j, j < C.length → (C.getD j []).length = 2 ∧ (C.getD j []).getD 0 0 = (cx C j : Int) ∧ (C.getD j []).getD 1 0 = (cy C j : Int) ∧ cx C j < cy C j ∧ cy C j < n
  j30 : J.length ≤ 30
  j3 : ∀ j, j < J.length → (J.getD j []).length = 3 ∧ (J.getD j []).getD 0 0 = (cx J j : Int) ∧ (J.getD j []).getD 1 0 = (cy J j : Int) ∧ cx J j < cy J j ∧ cy J j < n ∧ 0 ≤ (J.getD j []).getD 2 0 ∧ (J.getD j []).getD 2 0 ≤ 1000
theorem wvOk_of {nI : Int} {C J : List (List Int)} {F : List Int} (h : wvB nI C J F = true) : ∃ n : Nat, nI = (n : Int) ∧ WvOk n C J F := by
  simp only [wvB, Bool.and_eq_true, decide_eq_true_eq] at h
  obtain ⟨h1, h2, h3, h4, h5⟩ := h
  have h1' : 0 ≤ nI ∧ nI ≤ 14 := of_decide_eq_true h1
  refine ⟨F.length, h2.symm, ?_⟩
  rw [listsB_2, Bool.and_eq_true] at h4
  rw [listsB_3, Bool.and_eq_true, Bool.and_eq_true] at h5
  refine ⟨by omega, rfl, fun i hi => of_decide_eq_true (okTo_iff.1 h3 i hi), of_decide_eq_true h4.2, fun j hj => ?_, of_decide_eq_true h5.1.2, fun j hj => ?_⟩
  · obtain ⟨a, b, c, _⟩ := pairB_iff.1 (okTo_iff.1 h4.1 j hj)
    unfold cx cy
    exact ⟨a, by omega, by omega, by omega, by omega⟩
  · obtain ⟨a, b, c, _⟩ := pairB_iff.1 (okTo_iff.1 h5.1.1 j hj)
    have d : 0 ≤ (J.getD j []).getD 2 0 ∧ (J.getD j []).getD 2 0 ≤ 1000 := of_decide_eq_true (okTo_iff.1 h5.2 j hj)
    unfold cx cy
    exact ⟨a, by omega, by omega, by omega, by omega, d.1, d.2⟩

set_option maxRecDepth 100000 in
set_option maxHeartbeats 3200000 in
theorem l07Layering_any (g : Nat) (n : Nat) (AC : Option Addr) (C : List SlI) (cC : Nat) (Jh : List (List Int)) (AF : Option Addr) (F : List Int) (cF : Nat) (AX : Option Addr) (X : List Int) (cX : Nat) (w : World)
    (c0 : w.cell? ⟨g, 0, none⟩ = some (.int .i64 (n : Int))) (c1 : w.cell? ⟨g, 1, none⟩ = some (.slice AC C.length cC)) (c3 : w.cell? ⟨g, 3, none⟩ = some (.slice AF F.length cF))
    (hC : ISAt w w.heap.size AC C) (hF : IntsAt w w.heap.size AF F) (hX : IntsAt w w.heap.size AX X) (ok : WvOk n (heldI C) Jh F) (lX : X.length ≤ 1048576) :
    Calls Tryd.prog 35 #[.pointer (some ⟨g, 0, none⟩), .slice AX X.length cX] w fun e w' => e = .returned (.bool (layB n (heldI C) F X)) ∧ Below w.heap.size w w' := by
  have hg : g < w.heap.size := World.block_lt_of_cell? w _ c0
  have lXI : (X.length : Int) ≤ 1048576 := by omega
  by_cases hln : X.length = n
  case neg =>
    have R : Hid (layB n (heldI C) F X = false) := by show _ = _; unfold layB; rw [decide_eq_false (by omega)]; rfl
    have hne : ((X.length : Int) != (n : Int)) = true := by simp; omega
    clear hC hF hX ok hln
    go_enter Tryd.func35, Tryd.ntmps35
    go_wp2
    go_ret
    exact ⟨retB R.out.symm, Below.refl _ _⟩
  have hne : ((X.length : Int) != (n : Int)) = false := by simp; omega
  have RA : Hid (∀ i, i < n → lyFix F X i = false → layB n (heldI C) F X = false) := fun i hi h => by unfold layB; rw [okTo_bad (k := i) (by omega) h]; simp
  have RB : Hid (∀ j, j < C.length → lyCr (heldI C) X j = false → layB n (heldI C) F X = false) := fun i hi h => by unfold layB; rw [okTo_bad (f := lyCr (heldI C) X) (k := i) (by rw [heldI_len]; exact hi) h]; simp
  have RC : Hid (okTo (lyFix F X) n = true → okTo (lyCr (heldI C) X) C.length = true → layB n (heldI C) F X = true) := fun h1 h2 => by unfold layB; rw [hln, h1, heldI_len, h2, decide_eq_true rfl]; rfl
  obtain ⟨R, hR⟩ : ∃ R, layB n (heldI C) F X = R := ⟨_, rfl⟩
  rw [hR] at RA RB RC ⊢
  have lFn := ok.fl
  have n14 := ok.n14
  have HC : Hid (0 < C.length → ∃ b off, AC = some ⟨b, off, none⟩ ∧ b < w.heap.size ∧ ∀ j, j < C.length → ∃ bj oj cj, w.cell? ⟨b, off + j, none⟩ = some (.slice (some ⟨bj, oj, none⟩) 2 cj) ∧ bj < w.heap.size ∧ w.cell? ⟨bj, oj, none⟩ = some (.int .i64 (cx (heldI C) j)) ∧ w.cell? ⟨bj, oj + 1, none⟩ = some (.int .i64 (cy (heldI C) j)) ∧ cx (heldI C) j < n ∧ cy (heldI C) j < n) := by
    intro h0
    obtain ⟨b, off, e, hb, hc⟩ := hC h0
    refine ⟨b, off, e, hb, fun j hj => ?_⟩
    obtain ⟨k1, k2, _, _⟩ := hc j hj
    obtain ⟨q1, q2, q3, q4, q5⟩ := ok.c2 j (by rw [heldI_len]; exact hj)
    rw [heldI_at] at q1 q2 q3
    obtain ⟨bj, oj, e2, hbj, hcj⟩ := k2 (by omega)
    rw [e2, q1] at k1
    have a0 := hcj 0 (by omega)
    have a1 := hcj 1 (by omega)
    rw [q2, Nat.add_zero] at a0
    rw [q3] at a1
    exact ⟨bj, oj, _, k1, hbj, a0, a1, by omega, q5⟩
  have HF : Hid (0 < n → ∃ b off, AF = some ⟨b, off, none⟩ ∧ b < w.heap.size ∧ ∀ i, i < n → w.cell? ⟨b, off + i, none⟩ = some (.int .i64 (F.getD i 0))) := by
    intro h; rw [← lFn] at h ⊢; exact hF h
  have HX : Hid (0 < n → ∃ b off, AX = some ⟨b, off, none⟩ ∧ b < w.heap.size ∧ ∀ i, i < n → w.cell? ⟨b, off + i, none⟩ = some (.int .i64 (X.getD i 0))) := by
    intro h; rw [← hln] at h ⊢; exact hX h
  rw [lFn] at c3
  rw [hln] at lXI hne ⊢
  have lCI : (C.length : Int) ≤ 30 := by have := ok.c30; rw [heldI_len] at this; omega
  obtain ⟨m, hm⟩ : ∃ m, C.length = m := ⟨_, rfl⟩
  rw [hm] at HC RB RC c1 lCI
  have n14I : (n : Int) ≤ 14 := by omega
  clear hC hF hX hln ok lFn hm lX hR
  go_enter Tryd.func35, Tryd.ntmps35
  go_wp2
  go_loopw [5] (fun i wr => ∃ k : Nat, k ≤ n ∧ i = .int .i64 k ∧ Hid (okTo (lyFix F X) k = true) ∧ Below w.heap.size w wr) (fun i _ => n - (intOf i).toNat)
  case atStart => exact ⟨0, Nat.zero_le _, rfl, rfl, Below.refl _ _⟩
  case round =>
    obtain ⟨k, hk, rfl, HA, hb⟩ := hrel
    have hk0 : (0 : Int) ≤ (k : Int) := by omega
    have d0 := (hb.cell (p := ⟨g, 0, none⟩) hg).trans c0
    have d1 := (hb.cell (p := ⟨g, 1, none⟩) hg).trans c1
    have d3 := (hb.cell (p := ⟨g, 3, none⟩) hg).trans c3
    have hgw : g < wr.heap.size := Nat.lt_of_lt_of_le hg hb.size
    by_cases hlt : k < n
    · have hkI : (k : Int) < (n : Int) := by omega
      obtain ⟨bF, oF, rfl, hbF, hcF⟩ := HF.out (by omega)
      obtain ⟨bX, oX, rfl, hbX, hcX⟩ := HX.out (by omega)
      have dF := (hb.cell (p := ⟨bF, oF + k, none⟩) hbF).trans (hcF k hlt)
      have dX := (hb.cell (p := ⟨bX, oX + k, none⟩) hbX).trans (hcX k hlt)
      have hfw : bF < wr.heap.size := Nat.lt_of_lt_of_le hbF hb.size
      have hxw : bX < wr.heap.size := Nat.lt_of_lt_of_le hbX hb.size
      obtain ⟨f, hf⟩ : ∃ f, F.getD k 0 = f := ⟨_, rfl⟩
      obtain ⟨x, hx⟩ : ∃ x, X.getD k 0 = x := ⟨_, rfl⟩
      have HL : Hid (lyFix F X k = (inB x 0 1 && (decide (f < 0) || decide (f = x)))) := by show _ = _; unfold lyFix; rw [hf, hx]
      rw [hf] at dF
      rw [hx] at dX
      have RA2 := Lib.hid (RA.out k hlt)
      clear hcF hcX hf hx
      cases hin : inB x 0 1
      · have R2 := Lib.hid (RA2.out (by rw [HL.out, hin]; rfl))
        have HI := Lib.hid hin
        clear hin
        go_wp2
        go_quiet ((go_at_call 53; exact Calls.quiet_of_same (l00In_q HI _)))
        go_wp2
        go_ret
        exact ⟨retB R2.out.symm, bl_drewN hb _⟩
      have HI := Lib.hid hin
      rw [hin] at HL
      clear hin
      by_cases hf0 : f < 0
      · have HX2 : Hid (okTo (lyFix F X) (k + 1) = true) := okTo_next HA.out (by rw [HL.out, decide_eq_true hf0]; rfl)
        have hd : decide (0 ≤ f) = false := decide_eq_false (by omega)
        clear hf0
        go_wp2
        go_quiet ((go_at_call 53; exact Calls.quiet_of_same (l00In_q HI _)))
        go_wp2
        go_roundw
        case rel => exact ⟨k + 1, by omega, by go_num, HX2, bl_drewN hb _⟩
        case measure => simp [intOf]; omega
      have hd : decide (0 ≤ f) = true := decide_eq_true (by omega)
      rw [decide_eq_false hf0] at HL
      by_cases hfx : f = x
      · have HX2 : Hid (okTo (lyFix F X) (k + 1) = true) := okTo_next HA.out (by rw [HL.out, decide_eq_true hfx]; rfl)
        have hd2 : (f != x) = false := by simpa using hfx
        have hd3 : (f == x) = true := by simpa using hfx
        clear hfx hf0
        go_wp2
        go_quiet ((go_at_call 53; exact Calls.quiet_of_same (l00In_q HI _)))
        go_wp2
        go_roundw
        case rel => exact ⟨k + 1, by omega, by go_num, HX2, bl_drewN hb _⟩
        case measure => simp [intOf]; omega
      · have R2 := Lib.hid (RA2.out (by rw [HL.out, decide_eq_false hfx]; rfl))
        have hd2 : (f != x) = true := by simpa using hfx
        have hd3 : (f == x) = false := by simpa using hfx
        clear hfx hf0
        go_wp2
        go_quiet ((go_at_call 53; exact Calls.quiet_of_same (l00In_q HI _)))
        go_wp2
        go_ret
        exact ⟨retB R2.out.symm, bl_drewN hb _⟩
    · obtain rfl : k = n := by omega
      clear d0 d1 d3 hgw
      go_wp2
      have hb1 := hb
      go_loopw [6] (fun i wq => ∃ j : Nat, j ≤ m ∧ i = .int .i64 j ∧ Hid (okTo (lyCr (heldI C) X) j = true) ∧ Below w.heap.size w wq) (fun i _ => m - (intOf i).toNat)
      case atStart => exact ⟨0, Nat.zero_le _, rfl, rfl, hb1⟩
      case round =>
        clear hb1 hb
        obtain ⟨j, hj, rfl, HB, hb⟩ := hrel
        have hj0 : (0 : Int) ≤ (j : Int) := by omega
        have d1 := (hb.cell (p := ⟨g, 1, none⟩) hg).trans c1
        by_cases hlt : j < m
        · have hjI : (j : Int) < (m : Int) := by omega
          obtain ⟨b, off, rfl, hbB, hc⟩ := HC.out (by omega)
          obtain ⟨bj, oj, cj, q0, hbj, q1, q2, q3, q4⟩ := hc j hlt
          obtain ⟨bX, oX, rfl, hbX, hcX⟩ := HX.out (by omega)
          have e0 := (hb.cell (p := ⟨b, off + j, none⟩) hbB).trans q0
          have e1 := (hb.cell (p := ⟨bj, oj, none⟩) hbj).trans q1
          have e2 := (hb.cell (p := ⟨bj, oj + 1, none⟩) hbj).trans q2
          have e3 := (hb.cell (p := ⟨bX, oX + cx (heldI C) j, none⟩) hbX).trans (hcX _ q3)
          have e4 := (hb.cell (p := ⟨bX, oX + cy (heldI C) j, none⟩) hbX).trans (hcX _ q4)
          have HL : Hid (lyCr (heldI C) X j = !decide (X.getD (cx (heldI C) j) 0 = X.getD (cy (heldI C) j) 0)) := rfl
          have RB2 := Lib.hid (RB.out j hlt)
          generalize X.getD (cx (heldI C) j) 0 = x at *
          generalize X.getD (cy (heldI C) j) 0 = y at *
          generalize cx (heldI C) j = p at *
          generalize cy (heldI C) j = q at *
          have pI : (p : Int) < (k : Int) := by omega
          have qI : (q : Int) < (k : Int) := by omega
          have p0 : (0 : Int) ≤ (p : Int) := by omega
          have q00 : (0 : Int) ≤ (q : Int) := by omega
          clear hc hcX q0 q1 q2
          by_cases hxy : x = y
          · have R2 := Lib.hid (RB2.out (by rw [HL.out, decide_eq_true hxy]; rfl))
            have hd3 : (x == y) = true := by simpa using hxy
            clear hxy
            go_wp2
            go_quiet (fail)
            go_wp2
            go_ret
            exact ⟨retB R2.out.symm, bl_drewN hb _⟩
          · have HX2 : Hid (okTo (lyCr (heldI C) X) (j + 1) = true) := okTo_next HB.out (by rw [HL.out, decide_eq_false hxy]; rfl)
            have hd3 : (x == y) = false := by simpa using hxy
            clear hxy
            go_wp2
            go_quiet (fail)
            go_wp2
            go_roundw
            case rel => exact ⟨j + 1, by omega, by go_num, HX2, bl_drewN hb _⟩
            case measure => simp [intOf]; omega
        · obtain rfl : j = m := by omega
          have R2 := Lib.hid (RC.out HA.out HB.out)
          go_wp2
          go_ret
          exact ⟨retB R2.out.symm, hb⟩
end Go.Proofs.YtdoheipnfdbioaaDoor
