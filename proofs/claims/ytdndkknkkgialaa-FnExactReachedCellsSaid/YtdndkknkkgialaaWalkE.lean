/-
  Contracts: a way walked, as the program has it, with nothing done at its cells; EndOf.
-/
import Derived.Test.YtdndkknkkgialaaEndS
import Derived.Deep.DeepCutAuto
import Derived.Deep.CutRange
namespace Go.Proofs.Ytdndkknkkgialaa
set_option linter.unusedSimpArgs false
set_option linter.unusedVariables false
open Go.ChangeShapes Go.WideShapes Go.ChangeAt Go.RowKit

theorem seeNone_any (x y : Int) (w : World) : Calls Try.prog 49 #[.agg #[.int .i64 x, .int .i64 y]] w fun e w' => e = .returned (.tuple #[]) ∧ Below w.heap.size w w' := by
  go_enter Try.func49, Try.ntmps49
  go_wp2
  go_end0
  exact ⟨rfl, by (repeat (first | assumption | exact Below.refl _ _ | (refine bl_alloc ?_ _) | (refine Below.drew ?_) | (refine bl_drewN ?_ _) | (refine bl_set ?_ (by first | (simp; done) | omega | (simp; omega)) _) | (refine bl_trans ?_ (by assumption)) | (refine bl_step ?_ (by assumption) (by first | omega | exact Below.size (by assumption) | (simp; omega) | (simp; exact Below.size (by assumption))))))⟩
theorem stepL_way {x y c : Int} (h : ¬ wayI c < 0) : stepL x y c = stepW x y (wayI c) := by unfold stepL; rw [if_neg h]
theorem stepL_no {x y c : Int} (h : wayI c < 0) : stepL x y c = (x, y) := by unfold stepL; rw [if_pos h]
theorem stepW_ne {x y k : Int} (h0 : 0 ≤ k) (h3 : k ≤ 3) : ((stepW x y k).1 = x → ¬ (stepW x y k).2 = y) := by
  unfold stepW; split <;> (try split) <;> (try split) <;> (simp only []; omega)

theorem step_a {wr w1 : World} (h : Below wr.drew.heap.size wr.drew w1) : Below wr.heap.size wr w1 := ((Below.refl wr.heap.size wr).drew).trans h
theorem step_b {wr w1 : World} {o : Obj} (h : Below (wr.alloc o).drew.heap.size (wr.alloc o).drew w1) : Below wr.heap.size wr w1 ∧ w1.heap[wr.heap.size]? = some o :=
  ⟨((((Below.refl wr.heap.size wr).alloc (Nat.le_refl _) o).drew)).trans (h.mono (by show _ ≤ (wr.alloc o).heap.size; simp)), (h.block wr.heap.size (by show _ < (wr.alloc o).heap.size; simp)).trans (heap_alloc_new wr o)⟩
theorem pt_new (wr w1 : World) (x y : Int) (h : Below wr.drew.heap.size wr.drew w1) : ∃ H : Nat, Value.pointer (some ⟨w1.heap.size, 0, none⟩) = .pointer (some ⟨H, 0, none⟩) ∧ PtBox (w1.alloc (.cells #[.int .i64 x, .int .i64 y] 34)) H (x, y) ∧ Below wr.heap.size wr (w1.alloc (.cells #[.int .i64 x, .int .i64 y] 34)) ∧ wr.heap.size ≤ H :=
  ⟨_, rfl, PtBox.new _ _ _, bl_alloc (step_a h) _, (step_a h).size⟩
theorem pt_set (wr w1 : World) (x y a b : Int) (h : Below (wr.alloc (.cells #[.int .i64 a, .int .i64 b] 34)).drew.heap.size (wr.alloc (.cells #[.int .i64 a, .int .i64 b] 34)).drew w1) : ∃ H : Nat, Value.pointer (some ⟨wr.heap.size, 0, none⟩) = .pointer (some ⟨H, 0, none⟩) ∧ PtBox ((w1.setCell ⟨wr.heap.size, 0, none⟩ (.int .i64 x)).setCell ⟨wr.heap.size, 1, none⟩ (.int .i64 y)) H (x, y) ∧ Below wr.heap.size wr ((w1.setCell ⟨wr.heap.size, 0, none⟩ (.int .i64 x)).setCell ⟨wr.heap.size, 1, none⟩ (.int .i64 y)) ∧ wr.heap.size ≤ H :=
  ⟨_, rfl, PtBox.set_ (p := (a, b)) (step_b h).2 x y, bl_set (bl_set (step_b h).1 (Nat.le_refl _) _) (Nat.le_refl _) _, Nat.le_refl _⟩
/-- What a walk comes to. -/
def WalkV (M : Mz) (p : Int × Int) (s : ByteArray) : Value := .tuple #[ptA (endP (posTo M p s s.size)), .bool (endO (posTo M p s s.size))]
theorem WalkV_no {M : Mz} {p : Int × Int} {s : ByteArray} (h : posTo M p s s.size = none) : WalkV M p s = .tuple #[.agg #[.int .i64 0, .int .i64 0], .bool false] := by unfold WalkV; rw [h]; rfl
theorem WalkV_yes {M : Mz} {p q : Int × Int} {s : ByteArray} (h : posTo M p s s.size = some q) : WalkV M p s = .tuple #[.agg #[.int .i64 q.1, .int .i64 q.2], .bool true] := by unfold WalkV; rw [h]; rfl

set_option maxRecDepth 100000 in
set_option maxHeartbeats 3200000 in
theorem walkE_any (gw gh gc : Nat) (A : Option Addr) (Ls : List SlI) (c : Nat) (x y : Int) (s : ByteArray) (w : World) (hm : PrAt w gw gh gc A Ls c) (hv : MzOk (heldI Ls)) (ho : openB (heldI Ls) x y = true) (hs : s.size ≤ 1048576) :
    Calls Try.prog 48 #[prV gw gh gc, .agg #[.int .i64 x, .int .i64 y], .string s, .func (.func 49) #[] #[]] w fun e w' => e = .returned (WalkV (heldI Ls) (x, y) s) ∧ Below w.heap.size w w' := by
  obtain ⟨M, hM⟩ : ∃ M, heldI Ls = M := ⟨_, rfl⟩
  rw [hM] at ho hv ⊢
  have HMM := Lib.hid hM
  have HV := Lib.hid hv
  have HO := Lib.hid ho
  have hsI : (s.size : Int) ≤ 1048576 := by omega
  have q1 : PtBox (((w.alloc (.cells #[.int .i64 x, .int .i64 y] 34)).alloc (.cells #[.int .i64 0, .int .i64 0] 34)).alloc (.cells #[.int .i64 x, .int .i64 y] 34)) (w.heap.size + 1 + 1) (x, y) := by
    have := PtBox.new ((w.alloc (.cells #[.int .i64 x, .int .i64 y] 34)).alloc (.cells #[.int .i64 0, .int .i64 0] 34)) x y
    simpa using this
  have q4 : PtBox (((w.alloc (.cells #[.int .i64 x, .int .i64 y] 34)).alloc (.cells #[.int .i64 0, .int .i64 0] 34)).alloc (.cells #[.int .i64 x, .int .i64 y] 34)) (w.heap.size + 1) (0, 0) := by
    have := (PtBox.new (w.alloc (.cells #[.int .i64 x, .int .i64 y] 34)) 0 0).to (w1 := ((w.alloc (.cells #[.int .i64 x, .int .i64 y] 34)).alloc (.cells #[.int .i64 0, .int .i64 0] 34)).alloc (.cells #[.int .i64 x, .int .i64 y] 34)) ((Below.refl _ _).alloc (Nat.le_refl _) _)
    simpa using this
  have q2 : Below w.heap.size w (((w.alloc (.cells #[.int .i64 x, .int .i64 y] 34)).alloc (.cells #[.int .i64 0, .int .i64 0] 34)).alloc (.cells #[.int .i64 x, .int .i64 y] 34)) := by (repeat (first | assumption | exact Below.refl _ _ | (refine bl_alloc ?_ _) | (refine Below.drew ?_) | (refine bl_drewN ?_ _) | (refine bl_set ?_ (by first | (simp; done) | omega | (simp; omega)) _) | (refine bl_trans ?_ (by assumption)) | (refine bl_step ?_ (by assumption) (by first | omega | exact Below.size (by assumption) | (simp; omega) | (simp; exact Below.size (by assumption))))))
  have hGw : w.heap.size ≤ w.heap.size + 1 + 1 := by omega
  have hRw : w.heap.size ≤ w.heap.size + 1 := by omega
  have hRG : w.heap.size + 1 < w.heap.size + 1 + 1 := by omega
  clear hM hv ho
  go_enter Try.func48, Try.ntmps48
  go_wp2
  go_loopw [11, 12, 16] (fun _ _ i wr => ∃ (k : Nat) (q : Int × Int), k ≤ s.size ∧ i = .int .i64 k ∧ Hid (posTo M (x, y) s k = some q) ∧ PtBox wr (w.heap.size + 1 + 1) q ∧ PtBox wr (w.heap.size + 1) (0, 0) ∧ Below w.heap.size w wr) (fun _ _ i _ => s.size - (intOf i).toNat)
  case atStart => exact ⟨0, (x, y), Nat.zero_le _, rfl, rfl, q1, q4, q2⟩
  case round =>
    clear q1 q2 q4
    generalize hG : w.heap.size + 1 + 1 = G at *
    generalize hR : w.heap.size + 1 = R at *
    have HG := Lib.hid hG
    clear hG hR
    obtain ⟨k, ⟨a, b⟩, hk, rfl, HP, hB, hRb, hb⟩ := hrel
    have hk0 : (0 : Int) ≤ (k : Int) := by omega
    by_cases hlt : k < s.size
    · have hltI : (k : Int) < (s.size : Int) := by omega
      have HLT : Hid (ltr s k = (s[k].toNat : Int)) := ltr_at hlt
      have HST := Lib.hid (posTo_step HP.out)
      have hop := posTo_open (M := M) (p := (x, y)) HO.out HP.out
      obtain ⟨ha, hb'⟩ := open_lo HV.out hop
      have HSW := Lib.hid (fun k => stepW_lo (k := k) ha hb')
      have cst := fun w1 => stepFrom_any a b (ltr s k) w1 (by simp only at ha; omega) (by simp only at hb'; omega)
      have hc0 := hB.c0
      have hc1 := hB.c1
      simp only at hc0 hc1
      have hGz := hB.lt
      obtain ⟨sx, hsx⟩ : ∃ sx, (stepL a b (ltr s k)).1 = sx := ⟨_, rfl⟩
      obtain ⟨sy, hsy⟩ : ∃ sy, (stepL a b (ltr s k)).2 = sy := ⟨_, rfl⟩
      have HSS : Hid (stepL a b (ltr s k) = (sx, sy)) := by show _ = _; rw [← hsx, ← hsy]
      rw [HSS.out] at cst
      simp only [ptA] at cst
      clear hop ha hb' hsx hsy
      have hbz := hb.size
      go_upto_region 5 with fail
      go_cut [12] from 17 to 38 (fun s12 wx => ∃ H : Nat, s12 = .pointer (some ⟨H, 0, none⟩) ∧ PtBox wx H (sx, sy) ∧ Below wr.heap.size wr wx ∧ wr.heap.size ≤ H)
      case first =>
        go_region_with (go_at_call 81; rw [← HLT.out]; refine (cst _).mono ?_; rintro e w1 ⟨rfl, hb1⟩; obtain ⟨hc', hf', hz'⟩ := bcell hb1; try (have hz2 : wr.heap.size < w1.heap.size := (by (first | (simp at hz'; omega) | omega))))
        all_goals
          go_wp2_with fail
          go_meet
          first
            | exact pt_new _ _ _ _ hb1
            | exact pt_set _ _ _ _ _ _ hb1
      case rest =>
        obtain ⟨H, rfl, hH, hb2, hHz⟩ := hcut
        have hB2 := hB.to hb2
        have hRb2 := hRb.to hb2
        have b2 := bl_step hb hb2 hb.size
        clear hc0 hc1 hB hRb cst
        have hc0 := hB2.c0
        have hc1 := hB2.c1
        have hd0 := hH.c0
        have hd1 := hH.c1
        simp only at hc0 hc1 hd0 hd1
        by_cases hw : wayI (ltr s k) < 0
        · have HF := Lib.hid (WalkV_no (posTo_none (k := k + 1) (n := s.size) (by rw [HST.out]; exact goOn_bad hw) (by omega)))
          have hse : a = sx ∧ b = sy := by
            have := HSS.out
            rw [stepL_no hw] at this
            simpa using this
          obtain ⟨rfl, rfl⟩ := hse
          have hf0 := hRb2.fr 0
          have hf1 := hRb2.fr 1
          have hr0 := hRb2.c0
          have hr1 := hRb2.c1
          have hRl := hRb2.lt
          simp only at hr0 hr1
          clear hw
          go_wp2
          refine bodyPost_ret_by (v := .tuple #[.agg #[.int .i64 0, .int .i64 0], .bool false]) ?_ rfl ⟨by rw [HF.out], by (repeat (first | assumption | exact Below.refl _ _ | (refine bl_alloc ?_ _) | (refine Below.drew ?_) | (refine bl_drewN ?_ _) | (refine bl_set ?_ (by first | (simp; done) | omega | (simp; omega)) _) | (refine bl_trans ?_ (by assumption)) | (refine bl_step ?_ (by assumption) (by first | omega | exact Below.size (by assumption) | (simp; omega) | (simp; exact Below.size (by assumption))))))⟩
          rw [results_cell_tmp rfl]
          go_simp
        · have hwl := wayI_lo (ltr s k)
          have hne := stepW_ne (x := a) (y := b) (k := wayI (ltr s k)) (by omega) hwl.2
          rw [← stepL_way hw, HSS.out] at hne
          simp only at hne
          have HY : Hid (openB M sx sy = true → posTo M (x, y) s (k + 1) = some (sx, sy)) := fun ho => by
            rw [HST.out, ← HSS.out, stepL_way hw]
            exact goOn_yes hw (by rw [← stepL_way hw, HSS.out]; exact ho)
          have HNo : Hid (openB M sx sy = false → WalkV M (x, y) s = .tuple #[.agg #[.int .i64 0, .int .i64 0], .bool false]) := fun ho => by
            refine WalkV_no (posTo_none (k := k + 1) (n := s.size) ?_ (by omega))
            rw [HST.out]
            exact goOn_shut hw (by rw [← stepL_way hw, HSS.out]; exact ho)
          have hmr := hm.to b2
          have HNE := Lib.hid hne
          clear hw hwl hne
          have hcase : (∃ v : Bool, v = true ∧ (sx == a) = false ∧ ¬ sx = a) ∨ (sx = a ∧ (sy == b) = false ∧ ¬ sy = b) := by
            by_cases e : sx = a
            · exact .inr ⟨e, by simpa using HNE.out e, HNE.out e⟩
            · exact .inl ⟨true, rfl, by simpa using e, e⟩
          rcases hcase with ⟨_, _, hxa, hxp⟩ | ⟨rfl, hyb, hxp⟩
          all_goals
            go_wp2_with fail
            refine (isOpen_any gw gh gc A Ls c _ sy _ hmr (by rw [HMM.out]; exact HV.out)).mono ?_
            rintro e w4 ⟨rfl, hb4⟩
            rw [HMM.out]
            have hB4 := hB2.to hb4
            have hRb4 := hRb2.to hb4
            have hH4 := hH.to hb4
            have b4 := bl_step b2 hb4 b2.size
            clear hc0 hc1 hd0 hd1 hB2 hRb2 hH b2 hmr hb4
            have hc0 := hB4.c0
            have hc1 := hB4.c1
            have hd0 := hH4.c0
            have hd1 := hH4.c1
            have hf0 := hB4.fr 0
            have hf1 := hB4.fr 1
            have hr0 := hRb4.c0
            have hr1 := hRb4.c1
            have hrf0 := hRb4.fr 0
            have hrf1 := hRb4.fr 1
            simp only at hc0 hc1 hd0 hd1 hr0 hr1
            have hGl := hB4.lt
            have hRl := hRb4.lt
            cases hop : openB M sx sy
            · have HF := Lib.hid (HNo.out hop)
              clear hop hxp
              go_wp2
              refine bodyPost_ret_by (v := .tuple #[.agg #[.int .i64 0, .int .i64 0], .bool false]) ?_ rfl ⟨by rw [HF.out], by (repeat (first | assumption | exact Below.refl _ _ | (refine bl_alloc ?_ _) | (refine Below.drew ?_) | (refine bl_drewN ?_ _) | (refine bl_set ?_ (by first | (simp; done) | omega | (simp; omega)) _) | (refine bl_trans ?_ (by assumption)) | (refine bl_step ?_ (by assumption) (by first | omega | exact Below.size (by assumption) | (simp; omega) | (simp; exact Below.size (by assumption))))))⟩
              rw [results_cell_tmp rfl]
              go_simp
            · have HPn := Lib.hid (HY.out hop)
              have hB5 := hB4.set_ sx sy
              have hGRne : R ≠ G := by omega
              have hRb5 := (hRb4.keep (w' := w4.setCell ⟨G, 0, none⟩ (.int .i64 sx)) (Below.heap_setCell _ ⟨G, 0, none⟩ _ R hGRne)).keep (w' := (w4.setCell ⟨G, 0, none⟩ (.int .i64 sx)).setCell ⟨G, 1, none⟩ (.int .i64 sy)) (Below.heap_setCell _ ⟨G, 1, none⟩ _ R hGRne)
              have b5 : Below w.heap.size w ((w4.setCell ⟨G, 0, none⟩ (.int .i64 sx)).setCell ⟨G, 1, none⟩ (.int .i64 sy)) := by (repeat (first | assumption | exact Below.refl _ _ | (refine bl_alloc ?_ _) | (refine Below.drew ?_) | (refine bl_drewN ?_ _) | (refine bl_set ?_ (by first | (simp; done) | omega | (simp; omega)) _) | (refine bl_trans ?_ (by assumption)) | (refine bl_step ?_ (by assumption) (by first | omega | exact Below.size (by assumption) | (simp; omega) | (simp; exact Below.size (by assumption))))))
              clear hop
              go_wp2_with fail
              refine (seeNone_any sx sy _).mono ?_
              rintro e w6 ⟨rfl, hb6⟩
              have hB6 := hB5.to hb6
              have hRb6 := hRb5.to hb6
              have b6 := bl_step b5 hb6 b5.size
              clear hc0 hc1 hd0 hd1 hf0 hf1 hr0 hr1 hrf0 hrf1 hB4 hRb4 hH4 b4 hB5 hRb5 b5 hb6 hxp
              go_wp2
              go_roundw
              case rel => exact ⟨k + 1, (sx, sy), by omega, by go_num, HPn, hB6, hRb6, b6⟩
              case measure => simp [intOf]; omega
    · obtain rfl : k = s.size := by omega
      have HF := Lib.hid (WalkV_yes HP.out)
      have hc0 := hB.c0
      have hc1 := hB.c1
      have hf0 := hRb.fr 0
      have hf1 := hRb.fr 1
      have hr0 := hRb.c0
      have hr1 := hRb.c1
      simp only at hc0 hc1
      have hRl := hRb.lt
      go_wp2
      refine bodyPost_ret_by (v := .tuple #[.agg #[.int .i64 a, .int .i64 b], .bool true]) ?_ rfl ⟨by rw [HF.out], by (repeat (first | assumption | exact Below.refl _ _ | (refine bl_alloc ?_ _) | (refine Below.drew ?_) | (refine bl_drewN ?_ _) | (refine bl_set ?_ (by first | (simp; done) | omega | (simp; omega)) _) | (refine bl_trans ?_ (by assumption)) | (refine bl_step ?_ (by assumption) (by first | omega | exact Below.size (by assumption) | (simp; omega) | (simp; exact Below.size (by assumption))))))⟩
      rw [results_cell_tmp rfl]
      go_simp
end Go.Proofs.Ytdndkknkkgialaa
