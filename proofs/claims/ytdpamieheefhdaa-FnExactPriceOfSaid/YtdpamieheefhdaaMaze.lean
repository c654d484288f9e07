/-
  Contracts: is a maze valid, as the model has it; a law's size, copy and comparison.
-/
import Derived.Test.YtdpamieheefhdaaMazeP
namespace Go.Proofs.Ytdpamieheefhdaa
set_option linter.unusedSimpArgs false
set_option linter.unusedVariables false
open Go.ChangeShapes Go.WideShapes Go.ChangeAt Go.RowKit

set_option maxRecDepth 100000 in
set_option maxHeartbeats 1600000 in
theorem l04Is_any (g : Nat) (A : Option Addr) (Ls : List SlI) (c : Nat) (w : World) (hg : w.cell? ⟨g, 0, none⟩ = some (.slice A Ls.length c)) (hgl : g < w.heap.size) (hp : ISAt w w.heap.size A Ls) (hn : Ls.length ≤ 1048576) (hl : ∀ i, i < Ls.length → (Ls.getD i si0).2.1.length ≤ 1048576) :
    Calls Try.prog 83 #[.pointer (some ⟨g, 0, none⟩)] w fun e w' => e = .returned (.bool (mzB (heldI Ls))) ∧ Below w.heap.size w w' := by
  cases h1 : inB (Ls.length : Int) 1 12
  · have HF : Hid (mzB (heldI Ls) = false) := mzB_f1 (by rw [heldI_len]; exact h1)
    have HI := Lib.hid h1
    clear h1
    go_enter Try.func83, Try.ntmps83
    go_wp2_with (go_at_call 50; refine (l00In_at HI _).mono ?_; rintro e w' ⟨rfl, rfl⟩)
    go_ret
    exact ⟨retB (by rw [HF.out]), by (repeat (first | assumption | exact Below.refl _ _ | (refine bl_alloc ?_ _) | (refine Below.drew ?_) | (refine bl_drewN ?_ _) | (refine bl_set ?_ (by first | (simp; done) | omega | (simp; omega)) _) | (refine bl_trans ?_ (by assumption)) | (refine bl_step ?_ (by assumption) (by first | omega | exact Below.size (by assumption) | (simp; omega) | (simp; exact Below.size (by assumption))))))⟩
  · have hb1 : 1 ≤ Ls.length ∧ Ls.length ≤ 12 := by simp [inB] at h1; omega
    obtain ⟨b, off, rfl, hbB, hc⟩ := hp (by omega)
    obtain ⟨c0, _, _, _⟩ := hc 0 (by omega)
    rw [Nat.add_zero] at c0
    have h0I : (0 : Int) < (Ls.length : Int) := by omega
    have h0N : 0 < Ls.length := by omega
    cases h2 : inB ((Ls.getD 0 si0).2.1.length : Int) 1 12
    · have HF : Hid (mzB (heldI Ls) = false) := mzB_f2 (by rw [heldI_wid]; exact h2)
      have HI := Lib.hid h1
      have HJ := Lib.hid h2
      clear h1 h2 hc hp hl
      generalize (Ls.getD 0 si0).2.1.length = n0 at *
      generalize (Ls.getD 0 si0).1 = A0 at *
      generalize (Ls.getD 0 si0).2.2 = k0 at *
      go_enter Try.func83, Try.ntmps83
      go_wp2_with fail
      refine (l00In_at HI _).mono ?_
      rintro e w' ⟨rfl, rfl⟩
      go_wp2_with fail
      refine (l00In_at HJ _).mono ?_
      rintro e w' ⟨rfl, rfl⟩
      go_wp2
      go_ret
      exact ⟨retB (by rw [HF.out]), by (repeat (first | assumption | exact Below.refl _ _ | (refine bl_alloc ?_ _) | (refine Below.drew ?_) | (refine bl_drewN ?_ _) | (refine bl_set ?_ (by first | (simp; done) | omega | (simp; omega)) _) | (refine bl_trans ?_ (by assumption)) | (refine bl_step ?_ (by assumption) (by first | omega | exact Below.size (by assumption) | (simp; omega) | (simp; exact Below.size (by assumption))))))⟩
    · have HI := Lib.hid h1
      have HJ := Lib.hid h2
      have HW := Lib.hid (heldI_wid Ls)
      obtain ⟨n, hLn⟩ : ∃ n, Ls.length = n := ⟨_, rfl⟩
      have HN := Lib.hid hLn
      have HLe := Lib.hid (heldI_len Ls)
      have HC := Lib.hid hc
      have HL := Lib.hid hl
      rw [hLn] at HI HLe HC HL hb1 h0I h0N hg
      clear h1 h2 hc hp hl hn hLn
      go_enter Try.func83, Try.ntmps83
      go_wp2_with fail
      refine (l00In_at HI _).mono ?_
      rintro e w' ⟨rfl, rfl⟩
      go_wp2_with fail
      refine (l00In_at HJ _).mono ?_
      rintro e w' ⟨rfl, rfl⟩
      go_wp2
      go_loopw [3, 4] (fun y _ wr => ∃ k : Nat, k ≤ n ∧ y = .int .i64 k ∧ Hid (okTo (rowOk (heldI Ls)) k = true) ∧ Below w.heap.size w wr) (fun y _ _ => n - (intOf y).toNat)
      case atStart => exact ⟨0, Nat.zero_le _, rfl, rfl, Below.refl _ _⟩
      case round =>
        obtain ⟨y, hy, rfl, HA, hb⟩ := hrel
        have hy0 : (0 : Int) ≤ (y : Int) := by omega
        have dg := (hb.cell (p := ⟨g, 0, none⟩) hgl).trans hg
        have hgr : g < wr.heap.size := Nat.lt_of_lt_of_le hgl hb.size
        by_cases hlt : y < n
        · obtain ⟨cy, py, _, _⟩ := HC.out y hlt
          have d0 := (hb.cell (p := ⟨b, off, none⟩) hbB).trans c0
          have dy := (hb.cell (p := ⟨b, off + y, none⟩) hbB).trans cy
          have hltI : (y : Int) < (n : Int) := by omega
          have hlk := HL.out y hlt
          have HR := Lib.hid (heldI_row Ls y)
          by_cases he : (Ls.getD y si0).2.1.length = (Ls.getD 0 si0).2.1.length
          · have HE : Hid ((Ls.getD y si0).2.1.length = wid (heldI Ls)) := by show _ = _; rw [HW.out]; exact he
            rw [← he] at d0
            have HB := fun x (hx : x < (Ls.getD y si0).2.1.length) (h : cellOk (Ls.getD y si0).2.1 x = false) => Lib.hid (mzB_f3 (M := heldI Ls) (y := y) (by rw [HLe.out]; exact hlt) (rowOk_bad (x := x) (by rw [HR.out]; exact hx) (by rw [HR.out]; exact h)))
            have HT := fun (h : okTo (cellOk (Ls.getD y si0).2.1) (Ls.getD y si0).2.1.length = true) => Lib.hid (okTo_next HA.out (rowOk_t (by rw [HR.out]; exact HE.out) (by rw [HR.out]; exact h)))
            have HBT : Hid ((∀ x (hx : x < (Ls.getD y si0).2.1.length) (h : cellOk (Ls.getD y si0).2.1 x = false), mzB (heldI Ls) = false) ∧ ((okTo (cellOk (Ls.getD y si0).2.1) (Ls.getD y si0).2.1.length = true) → okTo (rowOk (heldI Ls)) (y + 1) = true)) := ⟨fun x hx h => (HB x hx h).out, fun h => (HT h).out⟩
            clear HB HT HR HE he cy HW
            generalize (Ls.getD y si0).2.1 = R at *
            generalize (Ls.getD y si0).1 = Ay at *
            generalize (Ls.getD y si0).2.2 = ky at *
            generalize (Ls.getD 0 si0).1 = A0 at *
            generalize (Ls.getD 0 si0).2.2 = k0 at *
            have hRI : (R.length : Int) ≤ 1048576 := by omega
            go_wp2
            go_quiet (fail)
            go_wp2
            have hb2 : ∀ a, Below w.heap.size w (wr.drewN a) := fun a => bl_drewN hb a
            go_loop [4] (fun x => ∃ k : Nat, k ≤ R.length ∧ x = .int .i64 k ∧ Hid (okTo (cellOk R) k = true)) (fun x => R.length - (intOf x).toNat)
            case atStart => exact ⟨0, Nat.zero_le _, rfl, rfl⟩
            case round =>
              obtain ⟨x, hx, rfl, HX⟩ := hrel
              have hx0 : (0 : Int) ≤ (x : Int) := by omega
              by_cases hxl : x < R.length
              · obtain ⟨b', off', rfl, hbB', hc'⟩ := py (by omega)
                have dx := (hb.cell (p := ⟨b', off' + x, none⟩) hbB').trans (hc' x hxl)
                have hxI : (x : Int) < (R.length : Int) := by omega
                cases hin : inB (R.getD x 0) 0 9
                · have HF := Lib.hid (HBT.out.1 x hxl hin)
                  have HI2 := Lib.hid hin
                  clear hc' hin py
                  generalize R.getD x 0 = v at *
                  go_wp2_with (go_at_call 50; refine (l00In_at HI2 _).mono ?_; rintro e w' ⟨rfl, rfl⟩)
                  go_ret
                  exact ⟨retB (by rw [HF.out]), by (repeat (first | assumption | exact Below.refl _ _ | (refine bl_alloc ?_ _) | (refine Below.drew ?_) | (refine bl_drewN ?_ _) | (refine bl_set ?_ (by first | (simp; done) | omega | (simp; omega)) _) | (refine bl_trans ?_ (by assumption)) | (refine bl_step ?_ (by assumption) (by first | omega | exact Below.size (by assumption) | (simp; omega) | (simp; exact Below.size (by assumption))))))⟩
                · have HX2 : Hid (okTo (cellOk R) (x + 1) = true) := okTo_next HX.out hin
                  have HI2 := Lib.hid hin
                  clear hc' hin py
                  generalize R.getD x 0 = v at *
                  go_wp2_with (go_at_call 50; refine (l00In_at HI2 _).mono ?_; rintro e w' ⟨rfl, rfl⟩)
                  go_round
                  case rel => exact ⟨x + 1, by omega, by go_num, HX2⟩
                  case measure => simp [intOf]; omega
              · obtain rfl : x = R.length := by omega
                have HN2 := Lib.hid (HBT.out.2 HX.out)
                go_wp2
                go_roundw
                case rel => exact ⟨y + 1, by omega, by go_num, HN2, by (repeat (first | assumption | exact Below.refl _ _ | (refine bl_alloc ?_ _) | (refine Below.drew ?_) | (refine bl_drewN ?_ _) | (refine bl_set ?_ (by first | (simp; done) | omega | (simp; omega)) _) | (refine bl_trans ?_ (by assumption)) | (refine bl_step ?_ (by assumption) (by first | omega | exact Below.size (by assumption) | (simp; omega) | (simp; exact Below.size (by assumption))))))⟩
                case measure => simp [intOf]; omega
          · have HF := Lib.hid (mzB_f3 (M := heldI Ls) (y := y) (by rw [HLe.out]; exact hlt) (rowOk_len (by rw [HR.out, HW.out]; exact he)))
            have hne : ((Ls.getD y si0).2.1.length != (Ls.getD 0 si0).2.1.length) = true := by simpa using he
            clear HR he cy HW
            generalize (Ls.getD y si0).2.1 = R at *
            generalize (Ls.getD y si0).1 = Ay at *
            generalize (Ls.getD y si0).2.2 = ky at *
            generalize (Ls.getD 0 si0).2.1.length = n0 at *
            generalize (Ls.getD 0 si0).1 = A0 at *
            generalize (Ls.getD 0 si0).2.2 = k0 at *
            generalize R.length = n1 at *
            go_wp2
            go_quiet (fail)
            go_wp2
            go_ret
            exact ⟨retB (by rw [HF.out]), by (repeat (first | assumption | exact Below.refl _ _ | (refine bl_alloc ?_ _) | (refine Below.drew ?_) | (refine bl_drewN ?_ _) | (refine bl_set ?_ (by first | (simp; done) | omega | (simp; omega)) _) | (refine bl_trans ?_ (by assumption)) | (refine bl_step ?_ (by assumption) (by first | omega | exact Below.size (by assumption) | (simp; omega) | (simp; exact Below.size (by assumption))))))⟩
        · obtain rfl : y = n := by omega
          have HF : Hid (mzB (heldI Ls) = true) := mzB_t (by rw [HLe.out]; exact HI.out) (by rw [HW.out]; exact HJ.out) (by rw [HLe.out]; exact HA.out)
          go_wp2
          go_ret
          exact ⟨retB (by rw [HF.out]), hb⟩
end Go.Proofs.Ytdpamieheefhdaa
