/-
  Contract: is a bundle valid, as the model has it.
-/
import Derived.Test.YtifenbamookmiaaDoorBunP
import Derived.Test.YtifenbamookmiaaDoorOver
namespace Go.Proofs.YtifenbamookmiaaDoor
set_option linter.unusedSimpArgs false
set_option linter.unusedVariables false
open Go.ChangeShapes Go.WideShapes Go.ChangeAt Go.RowKit Go.BigFrame

/-- Rows of n numbers each, in memory. -/
def SqAt (w : World) (b off n : Nat) (Ls : List SlI) : Prop := ∀ i, i < n → ∃ bi oi ci, bi < w.heap.size ∧ w.cell? ⟨b, off + i, none⟩ = some (.slice (some ⟨bi, oi, none⟩) n ci) ∧ ∀ k, k < n → w.cell? ⟨bi, oi + k, none⟩ = some (.int .i64 (wtI (heldI Ls) i k))
set_option maxRecDepth 100000 in
set_option maxHeartbeats 3200000 in
theorem l10Is_any (g : Nat) (A : Option Addr) (Ls : List SlI) (c : Nat) (w : World) (hg : w.cell? ⟨g, 0, none⟩ = some (.slice A Ls.length c)) (hgl : g < w.heap.size) (hp : ISAt w w.heap.size A Ls) (hn : Ls.length ≤ 1048576) (hl : ∀ i, i < Ls.length → (Ls.getD i si0).2.1.length ≤ 1048576) :
    Calls Tryd.prog 55 #[.pointer (some ⟨g, 0, none⟩)] w fun e w' => e = .returned (.bool (bnB (heldI Ls))) ∧ Below w.heap.size w w' := by
  have HLe := Lib.hid (heldI_len Ls)
  cases h1 : inB (Ls.length : Int) 1 9
  · have HF : Hid (bnB (heldI Ls) = false) := by show _ = _; unfold bnB; rw [HLe.out, h1]; rfl
    have HI := Lib.hid h1
    clear h1
    go_enter Tryd.func55, Tryd.ntmps55
    go_wp2_with (go_at_call 43; refine (l00In_at HI _).mono ?_; rintro e w' ⟨rfl, rfl⟩)
    go_ret
    exact ⟨retB (by rw [HF.out]), by (repeat (first | assumption | exact Below.refl _ _ | (refine bl_alloc ?_ _) | (refine Below.drew ?_) | (refine bl_drewN ?_ _) | (refine bl_set ?_ (by first | (simp; done) | omega | (simp; omega)) _) | (refine bl_trans ?_ (by assumption)) | (refine bl_step ?_ (by assumption) (by first | omega | exact Below.size (by assumption) | (simp; omega) | (simp; exact Below.size (by assumption))))))⟩
  have hb1 : 1 ≤ Ls.length ∧ Ls.length ≤ 9 := by simp [inB] at h1; omega
  obtain ⟨b, off, rfl, hbB, hc⟩ := hp (by omega)
  obtain ⟨n, hLn⟩ : ∃ n, Ls.length = n := ⟨_, rfl⟩
  have HC : Hid (∀ i, i < n → w.cell? ⟨b, off + i, none⟩ = some (.slice (Ls.getD i si0).1 (Ls.getD i si0).2.1.length (Ls.getD i si0).2.2) ∧ IntsAt w w.heap.size (Ls.getD i si0).1 (Ls.getD i si0).2.1) := fun i hi => ⟨(hc i (by omega)).1, (hc i (by omega)).2.1⟩
  have HI := Lib.hid h1
  rw [hLn] at HI HLe hg hb1
  have hn9 : (n : Int) ≤ 9 := by omega
  clear h1 hc hp hn hLn hl
  go_enter Tryd.func55, Tryd.ntmps55
  go_wp2_with fail
  refine (l00In_at HI _).mono ?_
  rintro e w' ⟨rfl, rfl⟩
  go_wp2
  go_loop [4] (fun y => ∃ k : Nat, k ≤ n ∧ y = .int .i64 k ∧ Hid (okTo (lenB (heldI Ls)) k = true)) (fun y => n - (intOf y).toNat)
  case atStart => exact ⟨0, Nat.zero_le _, rfl, rfl⟩
  case round =>
    obtain ⟨y, hy, rfl, HA⟩ := hrel
    have hy0 : (0 : Int) ≤ (y : Int) := by omega
    by_cases hlt : y < n
    · obtain ⟨dy, _⟩ := HC.out y hlt
      have hltI : (y : Int) < (n : Int) := by omega
      by_cases he : (Ls.getD y si0).2.1.length = n
      · have HT : Hid (okTo (lenB (heldI Ls)) (y + 1) = true) := okTo_next HA.out (by unfold lenB; rw [heldI_row, HLe.out]; exact decide_eq_true he)
        have hne : (((Ls.getD y si0).2.1.length : Int) != (n : Int)) = false := int_eq he
        have hne2 : ((Ls.getD y si0).2.1.length != n) = false := nat_eq he
        clear he
        generalize (Ls.getD y si0).2.1.length = m at *
        generalize (Ls.getD y si0).1 = Ay at *
        generalize (Ls.getD y si0).2.2 = ky at *
        go_wp2
        go_round
        case rel => exact ⟨y + 1, by omega, by go_num, HT⟩
        case measure => simp [intOf]; omega
      · have HF : Hid (bnB (heldI Ls) = false) := bnB_f fun o => he (by have := o.row y (by rw [HLe.out]; exact hlt); rw [heldI_row, HLe.out] at this; exact this)
        have hne : (((Ls.getD y si0).2.1.length : Int) != (n : Int)) = true := int_ne he
        have hne2 : ((Ls.getD y si0).2.1.length != n) = true := nat_ne he
        clear he
        generalize (Ls.getD y si0).2.1.length = m at *
        generalize (Ls.getD y si0).1 = Ay at *
        generalize (Ls.getD y si0).2.2 = ky at *
        go_wp2
        go_ret
        exact ⟨retB (by rw [HF.out]), by (repeat (first | assumption | exact Below.refl _ _ | (refine bl_alloc ?_ _) | (refine Below.drew ?_) | (refine bl_drewN ?_ _) | (refine bl_set ?_ (by first | (simp; done) | omega | (simp; omega)) _) | (refine bl_trans ?_ (by assumption)) | (refine bl_step ?_ (by assumption) (by first | omega | exact Below.size (by assumption) | (simp; omega) | (simp; exact Below.size (by assumption))))))⟩
    · obtain rfl : y = n := by omega
      have HR : Hid (SqAt w b off y Ls) := fun i hi => by
        obtain ⟨c0, c1⟩ := HC.out i hi
        have he := okTo_iff.1 HA.out i hi
        unfold lenB at he
        rw [heldI_row, HLe.out, decide_eq_true_eq] at he
        obtain ⟨bi, oi, e1, hbi, hci⟩ := c1 (by omega)
        rw [he, e1] at c0
        exact ⟨bi, oi, _, hbi, c0, fun k hk => by rw [wtI_held]; exact hci k (by omega)⟩
      clear HC
      go_wp2
      go_loopw [5, 6] (fun p _ wr => ∃ k : Nat, k ≤ y ∧ p = .int .i64 k ∧ Hid (okTo (cellsB (heldI Ls)) k = true) ∧ Below w.heap.size w wr) (fun p _ _ => y - (intOf p).toNat)
      case atStart => exact ⟨0, Nat.zero_le _, rfl, rfl, Below.refl _ _⟩
      case round =>
        obtain ⟨p, hp, rfl, HX, hbo⟩ := hrel
        have hp0 : (0 : Int) ≤ (p : Int) := by omega
        obtain ⟨wo, h⟩ : ∃ wo, wo = wr := ⟨_, rfl⟩
        subst h
        by_cases hpt : p < y
        · have hpI : (p : Int) < (y : Int) := by omega
          go_wp2
          go_loopw [6] (fun q wr => ∃ k : Nat, k ≤ y ∧ q = .int .i64 k ∧ Hid (okTo (cellB (heldI Ls) p) k = true) ∧ Below w.heap.size w wr) (fun q _ => y - (intOf q).toNat)
          case atStart => exact ⟨0, Nat.zero_le _, rfl, rfl, hbo⟩
          case round =>
            obtain ⟨q, hq, rfl, HQ, hb⟩ := hrel
            have hq0 : (0 : Int) ≤ (q : Int) := by omega
            by_cases hqt : q < y
            · have hqI : (q : Int) < (y : Int) := by omega
              obtain ⟨bp, op, cp, hbp, dp, vp⟩ := HR.out p hpt
              obtain ⟨bq, oq, cq, hbq, dq, vq⟩ := HR.out q hqt
              have dg := (hb.cell (p := ⟨g, 0, none⟩) hgl).trans hg
              have dp' := (hb.cell (p := ⟨b, off + p, none⟩) hbB).trans dp
              have dq' := (hb.cell (p := ⟨b, off + q, none⟩) hbB).trans dq
              have v1 := (hb.cell (p := ⟨bp, op + q, none⟩) hbp).trans (vp q hqt)
              have v2 := (hb.cell (p := ⟨bq, oq + p, none⟩) hbq).trans (vq p hpt)
              have v3 := (hb.cell (p := ⟨bp, op + p, none⟩) hbp).trans (vp p hpt)
              have zg : g < wr.heap.size := Nat.lt_of_lt_of_le hgl hb.size
              have zb : b < wr.heap.size := Nat.lt_of_lt_of_le hbB hb.size
              have zp : bp < wr.heap.size := Nat.lt_of_lt_of_le hbp hb.size
              have zq : bq < wr.heap.size := Nat.lt_of_lt_of_le hbq hb.size
              have HV : Hid (cellB (heldI Ls) p q = (inB (wtI (heldI Ls) p q) 0 1000 && (decide (wtI (heldI Ls) p q = wtI (heldI Ls) q p) && decide (wtI (heldI Ls) p p = 0)))) := rfl
              have HBad : Hid (cellB (heldI Ls) p q = false → bnB (heldI Ls) = false) := fun h => by
                unfold bnB; rw [okTo_bad (f := cellsB (heldI Ls)) (k := p) (by rw [HLe.out]; exact hpt) (by unfold cellsB; exact okTo_bad (by rw [HLe.out]; exact hqt) h)]; simp
              have HGood : Hid (cellB (heldI Ls) p q = true → okTo (cellB (heldI Ls) p) (q + 1) = true) := fun h => okTo_next HQ.out h
              clear hbp dp vp hbq dq vq
              generalize wtI (heldI Ls) p q = x at *
              generalize wtI (heldI Ls) q p = u at *
              generalize wtI (heldI Ls) p p = z at *
              go_wp2
              cases hin : inB x 0 1000
              · have HF := Lib.hid (HBad.out (by rw [HV.out, hin]; rfl))
                have HI2 := Lib.hid hin
                clear hin
                refine wp_region_over (by kernel_rfl) (by kernel_rfl) ?_
                have hov := over_cells wr
                repeat (go_big_quiet_step ((go_at_call 43; exact overL (l00In_at HI2 _))))
                refine over_nil (fun w2 hb2 => ?_)
                clear hov
                go_wp2
                go_ret
                exact ⟨retB (by rw [HF.out]), bl_trans hb hb2⟩
              by_cases h1 : x = u
              case neg =>
                have HF := Lib.hid (HBad.out (by rw [HV.out, decide_eq_false h1]; simp))
                have HI2 := Lib.hid hin
                have hne : (x != u) = true := by simpa using h1
                clear hin h1
                refine wp_region_over (by kernel_rfl) (by kernel_rfl) ?_
                have hov := over_cells wr
                repeat (go_big_quiet_step ((go_at_call 43; exact overL (l00In_at HI2 _))))
                refine over_nil (fun w2 hb2 => ?_)
                clear hov
                go_wp2
                go_ret
                exact ⟨retB (by rw [HF.out]), bl_trans hb hb2⟩
              subst h1
              by_cases h2 : z = 0
              case neg =>
                have HF := Lib.hid (HBad.out (by rw [HV.out, decide_eq_false h2]; simp))
                have HI2 := Lib.hid hin
                have hne : (z != 0) = true := by simpa using h2
                clear hin h2
                refine wp_region_over (by kernel_rfl) (by kernel_rfl) ?_
                have hov := over_cells wr
                repeat (go_big_quiet_step ((go_at_call 43; exact overL (l00In_at HI2 _))))
                refine over_nil (fun w2 hb2 => ?_)
                clear hov
                go_wp2
                go_ret
                exact ⟨retB (by rw [HF.out]), bl_trans hb hb2⟩
              subst h2
              have HT := Lib.hid (HGood.out (by rw [HV.out, hin]; simp))
              have HI2 := Lib.hid hin
              clear hin
              refine wp_region_over (by kernel_rfl) (by kernel_rfl) ?_
              have hov := over_cells wr
              repeat (go_big_quiet_step ((go_at_call 43; exact overL (l00In_at HI2 _))))
              refine over_nil (fun w2 hb2 => ?_)
              clear hov
              go_wp2
              go_roundw
              case rel => exact ⟨q + 1, by omega, by go_num, HT, bl_trans hb hb2⟩
              case measure => simp [intOf]; omega
            · obtain rfl : q = y := by omega
              have HN : Hid (okTo (cellsB (heldI Ls)) (p + 1) = true) := okTo_next HX.out (by unfold cellsB; rw [HLe.out]; exact HQ.out)
              go_wp2
              go_roundw
              case rel => exact ⟨p + 1, by omega, by go_num, HN, hb⟩
              case measure => simp [intOf]; omega
        · obtain rfl : p = y := by omega
          have HF : Hid (bnB (heldI Ls) = true) := by show _ = _; unfold bnB; rw [HLe.out, HI.out, HA.out, HX.out]; rfl
          go_wp2
          go_ret
          exact ⟨retB (by rw [HF.out]), hbo⟩
end Go.Proofs.YtifenbamookmiaaDoor
