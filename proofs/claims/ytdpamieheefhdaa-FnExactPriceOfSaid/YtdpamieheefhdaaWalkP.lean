/-
  Contracts: a way walked, as the program has it, its cells' prices summed.
-/
import Derived.Test.YtdpamieheefhdaaSeeS
namespace Go.Proofs.Ytdpamieheefhdaa
set_option linter.unusedSimpArgs false
set_option linter.unusedVariables false
open Go.ChangeShapes Go.WideShapes Go.ChangeAt Go.RowKit

/-- The prices of the cells into which the first steps lead. -/
def sumTo (M : Mz) (p : Int × Int) (s : ByteArray) : Nat → Int
  | 0 => 0
  | k + 1 => sumTo M p s k + priceI M (posD M p s (k + 1)).1 (posD M p s (k + 1)).2
theorem sumTo_lo {M : Mz} (hM : MzOk M) (p : Int × Int) (s : ByteArray) (k : Nat) : -(k : Int) ≤ sumTo M p s k ∧ sumTo M p s k ≤ 9 * k := by
  induction k with
  | zero => simp [sumTo]
  | succ k ih => have := priceI_lo hM (posD M p s (k + 1)).1 (posD M p s (k + 1)).2; simp only [sumTo]; omega
theorem sumTo_step {M : Mz} {p q : Int × Int} {s : ByteArray} {k : Nat} (h : posTo M p s (k + 1) = some q) : sumTo M p s (k + 1) = sumTo M p s k + priceI M q.1 q.2 := by
  simp only [sumTo, posD, h]; rfl
theorem But.trans_b {g : Nat} {a b c : World} (h : But g a b) (k : Below b.heap.size b c) : But g a c := h.trans (But.of k)
theorem endO_t {o : Option (Int × Int)} {q : Int × Int} (h : o = some q) : endO o = true := by rw [h]; rfl
set_option maxRecDepth 100000 in
set_option maxHeartbeats 3200000 in
theorem walkP_any (B gs gp gw gh gc : Nat) (A : Option Addr) (Ls : List SlI) (c : Nat) (x y : Int) (s : ByteArray) (w : World) (hm : PrB w B gw gh gc A Ls c) (hBs : B ≤ gs) (hgp : gp < B) (hsum : Boxed w gs 2 (.int .i64 0)) (hpp : w.cell? ⟨gp, 0, none⟩ = some (prV gw gh gc)) (hv : MzOk (heldI Ls)) (ho : openB (heldI Ls) x y = true) (hs : s.size ≤ 1000) :
    Calls Try.prog 62 #[prV gw gh gc, .agg #[.int .i64 x, .int .i64 y], .string s, .func (.func 63) #[] #[.pointer (some ⟨gs, 0, none⟩), .pointer (some ⟨gp, 0, none⟩)]] w fun e w' => e = .returned (WalkV (heldI Ls) (x, y) s) ∧ (endO (posTo (heldI Ls) (x, y) s s.size) = true → Boxed w' gs 2 (.int .i64 (sumTo (heldI Ls) (x, y) s s.size))) ∧ But gs w w' := by
  obtain ⟨M, hM⟩ : ∃ M, heldI Ls = M := ⟨_, rfl⟩
  rw [hM] at ho hv ⊢
  have HMM := Lib.hid hM
  have HV := Lib.hid hv
  have HO := Lib.hid ho
  have hsI : (s.size : Int) ≤ 1048576 := by omega
  have q1 : PtBox (((w.alloc (.cells #[.int .i64 x, .int .i64 y] 37)).alloc (.cells #[.int .i64 0, .int .i64 0] 37)).alloc (.cells #[.int .i64 x, .int .i64 y] 37)) (w.heap.size + 1 + 1) (x, y) := by
    have := PtBox.new ((w.alloc (.cells #[.int .i64 x, .int .i64 y] 37)).alloc (.cells #[.int .i64 0, .int .i64 0] 37)) x y
    simpa using this
  have q4 : PtBox (((w.alloc (.cells #[.int .i64 x, .int .i64 y] 37)).alloc (.cells #[.int .i64 0, .int .i64 0] 37)).alloc (.cells #[.int .i64 x, .int .i64 y] 37)) (w.heap.size + 1) (0, 0) := by
    have := (PtBox.new (w.alloc (.cells #[.int .i64 x, .int .i64 y] 37)) 0 0).to (w1 := ((w.alloc (.cells #[.int .i64 x, .int .i64 y] 37)).alloc (.cells #[.int .i64 0, .int .i64 0] 37)).alloc (.cells #[.int .i64 x, .int .i64 y] 37)) ((Below.refl _ _).alloc (Nat.le_refl _) _)
    simpa using this
  have q2 : Below w.heap.size w (((w.alloc (.cells #[.int .i64 x, .int .i64 y] 37)).alloc (.cells #[.int .i64 0, .int .i64 0] 37)).alloc (.cells #[.int .i64 x, .int .i64 y] 37)) := by (repeat (first | assumption | exact Below.refl _ _ | (refine bl_alloc ?_ _) | (refine Below.drew ?_) | (refine bl_drewN ?_ _) | (refine bl_set ?_ (by first | (simp; done) | omega | (simp; omega)) _) | (refine bl_trans ?_ (by assumption)) | (refine bl_step ?_ (by assumption) (by first | omega | exact Below.size (by assumption) | (simp; omega) | (simp; exact Below.size (by assumption))))))
  have hGw : w.heap.size ≤ w.heap.size + 1 + 1 := by omega
  have hRw : w.heap.size ≤ w.heap.size + 1 := by omega
  have hRG : w.heap.size + 1 < w.heap.size + 1 + 1 := by omega
  have hgs := hsum.lt
  have hBw : B ≤ w.heap.size := by omega
  have q5 := boxed_to hsum q2
  have HPP := Lib.hid hpp
  have HSP := Lib.hid (fun k => sumTo_lo hv (x, y) s k)
  have gG : gs ≠ w.heap.size + 1 + 1 := by omega
  have gR : gs ≠ w.heap.size + 1 := by omega
  clear hpp hsum
  clear hM hv ho
  go_enter Try.func62, Try.ntmps62
  go_wp2
  go_loopw [11, 12, 16] (fun _ _ i wr => ∃ (k : Nat) (q : Int × Int), k ≤ s.size ∧ i = .int .i64 k ∧ Hid (posTo M (x, y) s k = some q) ∧ PtBox wr (w.heap.size + 1 + 1) q ∧ PtBox wr (w.heap.size + 1) (0, 0) ∧ But gs w wr ∧ Hid (Boxed wr gs 2 (.int .i64 (sumTo M (x, y) s k)))) (fun _ _ i _ => s.size - (intOf i).toNat)
  case atStart => exact ⟨0, (x, y), Nat.zero_le _, rfl, rfl, q1, q4, But.of q2, q5⟩
  case round =>
    clear q1 q2 q4 q5
    generalize hG : w.heap.size + 1 + 1 = G at *
    generalize hR : w.heap.size + 1 = R at *
    have HG := Lib.hid hG
    clear hG hR
    obtain ⟨k, ⟨a, b⟩, hk, rfl, HP, hB, hRb, hb, HSB⟩ := hrel
    have hGw : w.heap.size ≤ G := by omega
    have hRw : w.heap.size ≤ R := by omega
    have hk0 : (0 : Int) ≤ (k : Int) := by omega
    by_cases hlt : k < s.size
    · have hltI : (k : Int) < (s.size : Int) := by omega
      have HLT : Hid (ltr s k = (s[k].toNat : Int)) := ltr_at hlt
      have HST := Lib.hid (posTo_step HP.out)
      have hop := posTo_open (M := M) (p := (x, y)) HO.out HP.out
      obtain ⟨ha, hb'⟩ := open_lo HV.out hop
      have HSW := Lib.hid (fun k => stepW_lo (k := k) ha hb')
      have cst := fun w1 => stepFrom_any a b (ltr s k) w1 (by simp only at ha; omega) (by simp only at hb'; omega)
      have hc0 := hB.c0
      have hc1 := hB.c1
      simp only at hc0 hc1
      have hGz := hB.lt
      obtain ⟨sx, hsx⟩ : ∃ sx, (stepL a b (ltr s k)).1 = sx := ⟨_, rfl⟩
      obtain ⟨sy, hsy⟩ : ∃ sy, (stepL a b (ltr s k)).2 = sy := ⟨_, rfl⟩
      have HSS : Hid (stepL a b (ltr s k) = (sx, sy)) := by show _ = _; rw [← hsx, ← hsy]
      rw [HSS.out] at cst
      simp only [ptA] at cst
      clear hop ha hb' hsx hsy
      have hbz := hb.size
      go_upto_region 5 with fail
      go_cut [12] from 17 to 38 (fun s12 wx => ∃ H : Nat, s12 = .pointer (some ⟨H, 0, none⟩) ∧ PtBox wx H (sx, sy) ∧ Below wr.heap.size wr wx ∧ wr.heap.size ≤ H)
      case first =>
        go_region_with (go_at_call 90; rw [← HLT.out]; refine (cst _).mono ?_; rintro e w1 ⟨rfl, hb1⟩; obtain ⟨hc', hf', hz'⟩ := bcell hb1; try (have hz2 : wr.heap.size < w1.heap.size := (by (first | (simp at hz'; omega) | omega))))
        all_goals
          go_wp2_with fail
          go_meet
          first
            | exact pt_new _ _ _ _ hb1
            | exact pt_set _ _ _ _ _ _ hb1
      case rest =>
        obtain ⟨H, rfl, hH, hb2, hHz⟩ := hcut
        have hB2 := hB.to hb2
        have hRb2 := hRb.to hb2
        have b2 := hb.trans_b hb2
        have HSB2 := Lib.hid (boxed_to HSB.out hb2)
        clear hc0 hc1 hB hRb cst
        have hc0 := hB2.c0
        have hc1 := hB2.c1
        have hd0 := hH.c0
        have hd1 := hH.c1
        simp only at hc0 hc1 hd0 hd1
        by_cases hw : wayI (ltr s k) < 0
        · have HF0 := Lib.hid (posTo_none (k := k + 1) (n := s.size) (by rw [HST.out]; exact goOn_bad hw) (by omega))
          have HF := Lib.hid (WalkV_no HF0.out)
          have hse : a = sx ∧ b = sy := by
            have := HSS.out
            rw [stepL_no hw] at this
            simpa using this
          obtain ⟨rfl, rfl⟩ := hse
          have hf0 := hRb2.fr 0
          have hf1 := hRb2.fr 1
          have hr0 := hRb2.c0
          have hr1 := hRb2.c1
          have hRl := hRb2.lt
          simp only at hr0 hr1
          clear hw
          go_wp2
          refine bodyPost_ret_by (v := .tuple #[.agg #[.int .i64 0, .int .i64 0], .bool false]) ?_ rfl ⟨by rw [HF.out], fun h => (by rw [HF0.out] at h; cases h), (b2.far hRw _).far hRw _⟩
          rw [results_cell_tmp rfl]
          go_simp
        · have hwl := wayI_lo (ltr s k)
          have hne := stepW_ne (x := a) (y := b) (k := wayI (ltr s k)) (by omega) hwl.2
          rw [← stepL_way hw, HSS.out] at hne
          simp only at hne
          have HY : Hid (openB M sx sy = true → posTo M (x, y) s (k + 1) = some (sx, sy)) := fun ho => by
            rw [HST.out, ← HSS.out, stepL_way hw]
            exact goOn_yes hw (by rw [← stepL_way hw, HSS.out]; exact ho)
          have HNo : Hid (openB M sx sy = false → posTo M (x, y) s s.size = none) := fun ho => by
            refine posTo_none (k := k + 1) (n := s.size) ?_ (by omega)
            rw [HST.out]
            exact goOn_shut hw (by rw [← stepL_way hw, HSS.out]; exact ho)
          have hmr := hm.at_ (b2.below (Below.refl _ _) hBs hBw) (by have := b2.size; omega)
          have HNE := Lib.hid hne
          clear hw hwl hne
          have hcase : (∃ v : Bool, v = true ∧ (sx == a) = false ∧ ¬ sx = a) ∨ (sx = a ∧ (sy == b) = false ∧ ¬ sy = b) := by
            by_cases e : sx = a
            · exact .inr ⟨e, by simpa using HNE.out e, HNE.out e⟩
            · exact .inl ⟨true, rfl, by simpa using e, e⟩
          rcases hcase with ⟨_, _, hxa, hxp⟩ | ⟨rfl, hyb, hxp⟩
          all_goals
            go_wp2_with fail
            refine (isOpen_any gw gh gc A Ls c _ sy _ hmr (by rw [HMM.out]; exact HV.out)).mono ?_
            rintro e w4 ⟨rfl, hb4⟩
            rw [HMM.out]
            have hB4 := hB2.to hb4
            have hRb4 := hRb2.to hb4
            have hH4 := hH.to hb4
            have b4 := b2.trans_b hb4
            have HSB4 := Lib.hid (boxed_to HSB2.out hb4)
            clear hc0 hc1 hd0 hd1 hB2 hRb2 hH b2 hmr hb4
            have hc0 := hB4.c0
            have hc1 := hB4.c1
            have hd0 := hH4.c0
            have hd1 := hH4.c1
            have hf0 := hB4.fr 0
            have hf1 := hB4.fr 1
            have hr0 := hRb4.c0
            have hr1 := hRb4.c1
            have hrf0 := hRb4.fr 0
            have hrf1 := hRb4.fr 1
            simp only at hc0 hc1 hd0 hd1 hr0 hr1
            have hGl := hB4.lt
            have hRl := hRb4.lt
            cases hop : openB M sx sy
            · have HF0 := Lib.hid (HNo.out hop)
              have HF := Lib.hid (WalkV_no HF0.out)
              clear hop hxp
              go_wp2
              refine bodyPost_ret_by (v := .tuple #[.agg #[.int .i64 0, .int .i64 0], .bool false]) ?_ rfl ⟨by rw [HF.out], fun h => (by rw [HF0.out] at h; cases h), (b4.far hRw _).far hRw _⟩
              rw [results_cell_tmp rfl]
              go_simp
            · have HPn := Lib.hid (HY.out hop)
              have hB5 := hB4.set_ sx sy
              have hGRne : R ≠ G := by omega
              have hRb5 := (hRb4.keep (w' := w4.setCell ⟨G, 0, none⟩ (.int .i64 sx)) (Below.heap_setCell _ ⟨G, 0, none⟩ _ R hGRne)).keep (w' := (w4.setCell ⟨G, 0, none⟩ (.int .i64 sx)).setCell ⟨G, 1, none⟩ (.int .i64 sy)) (Below.heap_setCell _ ⟨G, 1, none⟩ _ R hGRne)
              have b5 : But gs w ((w4.setCell ⟨G, 0, none⟩ (.int .i64 sx)).setCell ⟨G, 1, none⟩ (.int .i64 sy)) := (b4.far hGw _).far hGw _
              have HSB5 := Lib.hid (boxed_far (boxed_far HSB4.out (p := ⟨G, 0, none⟩) gG (.int .i64 sx)) (p := ⟨G, 1, none⟩) gG (.int .i64 sy))
              have bb5 := b5.below (Below.refl B w) hBs hBw
              have hp5 := (bb5.cell (p := ⟨gp, 0, none⟩) hgp).trans HPP.out
              have hm5 := hm.at_ bb5 (by have := b5.size; omega)
              have hlo := HSP.out k
              have HSU := Lib.hid (sumTo_step HPn.out)
              have cv := fun h0 h1 => seeSum_any gs gp gw gh gc A Ls c sx sy (sumTo M (x, y) s k) _ hm5 (by rw [HMM.out]; exact HV.out) HSB5.out hp5 h0 h1
              rw [HMM.out] at cv
              clear hop
              go_wp2_with fail
              refine (cv (by omega) (by omega)).mono ?_
              rintro e w6 ⟨rfl, hS6, hb6⟩
              rw [← HSU.out] at hS6
              have HSB6 := Lib.hid hS6
              have hB6 := hB5.keep (hb6.block G hB5.lt (by omega))
              have hRb6 := hRb5.keep (hb6.block R hRb5.lt (by omega))
              have b6 := b5.trans hb6
              clear hS6 hlo cv hm5 hp5 bb5
              clear hc0 hc1 hd0 hd1 hf0 hf1 hr0 hr1 hrf0 hrf1 hB4 hRb4 hH4 b4 hB5 hRb5 b5 hb6 hxp
              go_wp2
              go_roundw
              case rel => exact ⟨k + 1, (sx, sy), by omega, by go_num, HPn, hB6, hRb6, b6, HSB6⟩
              case measure => simp [intOf]; omega
    · obtain rfl : k = s.size := by omega
      have HF := Lib.hid (WalkV_yes HP.out)
      have hc0 := hB.c0
      have hc1 := hB.c1
      have hf0 := hRb.fr 0
      have hf1 := hRb.fr 1
      have hr0 := hRb.c0
      have hr1 := hRb.c1
      simp only at hc0 hc1
      have hRl := hRb.lt
      go_wp2
      refine bodyPost_ret_by (v := .tuple #[.agg #[.int .i64 a, .int .i64 b], .bool true]) ?_ rfl ⟨by rw [HF.out], fun _ => boxed_far (boxed_far HSB.out gR _) gR _, (hb.far hRw _).far hRw _⟩
      rw [results_cell_tmp rfl]
      go_simp
end Go.Proofs.Ytdpamieheefhdaa
