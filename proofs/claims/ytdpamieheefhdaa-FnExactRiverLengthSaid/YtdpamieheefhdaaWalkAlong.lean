/-
  Contracts: walkAlong, equality of lists of points.
-/
import Derived.Test.YtdpamieheefhdaaAlong
namespace Go.Proofs.Ytdpamieheefhdaa
set_option linter.unusedSimpArgs false
set_option linter.unusedVariables false
open Go.ChangeShapes Go.WideShapes Go.ChangeAt Go.RowKit

theorem wlk_drop {cs : List Pt} {j : Nat} (h : j + 1 < cs.length) (p : Pt) : wlk p (cs.drop (j + 1)) = seg (cs.getD (j + 1) (0, 0)) 100 p ++ wlk (cs.getD (j + 1) (0, 0)) (cs.drop (j + 2)) := by
  have e : cs.drop (j + 1) = cs.getD (j + 1) (0, 0) :: cs.drop (j + 2) := by
    rw [List.drop_eq_getElem_cons h]; simp [List.getD_eq_getElem?_getD, h]
  rw [e]; rfl
theorem wlk_end {cs : List Pt} {j : Nat} (h : cs.length ≤ j + 1) (p : Pt) : wlk p (cs.drop (j + 1)) = [] := by
  rw [List.drop_of_length_le h]; rfl
theorem wlkL_head {cs : List Pt} (h : 0 < cs.length) : wlkL cs = [cs.getD 0 (0, 0)] ++ wlk (cs.getD 0 (0, 0)) (cs.drop 1) := by
  cases cs with
  | nil => simp at h
  | cons p r => simp [wlkL]

theorem own_base {w : World} {base base' : Nat} {v : Value} {L : List Pt} (h : OwnL w (base + base') v L) : OwnL w base v L :=
  ⟨h.1, by
    rcases h.2 with h0 | ⟨g, cap, cur, e, hB, r⟩
    · exact .inl h0
    · exact .inr ⟨g, cap, cur, e, by omega, r⟩⟩

set_option maxRecDepth 100000 in
set_option maxHeartbeats 3200000 in
theorem walkAlong_any (A : Option Addr) (cs : List Pt) (c : Nat) (w : World) (hp : PtsAt w w.heap.size A cs) (h1 : 1 ≤ cs.length) (hl : cs.length ≤ 576) (hlc : cs.length ≤ c) (hg : allPt cs = true) :
    Calls Try.prog 42 #[.slice A cs.length c] w (OwnPost (wlkL cs) w) := by
  obtain ⟨b, off, rfl, hbB, hc⟩ := hp (by omega)
  obtain ⟨c0, c1⟩ := hc 0 (by omega)
  have hlI : (cs.length : Int) ≤ 576 := by omega
  have h1I : 1 ≤ (cs.length : Int) := by omega
  have hlcI : (cs.length : Int) ≤ (c : Int) := by omega
  have HW := Lib.hid (wlkL_head (by omega : 0 < cs.length))
  have HWl : (wlkL cs).length ≤ 1000000 := by have := wlkL_len cs; omega
  have hgr : ∀ k, k < cs.length → isPt (cs.getD k (0, 0)).1 (cs.getD k (0, 0)).2 = true := fun k hk => allPt_at hg hk
  have HGR := Lib.hid hgr
  clear hgr hg
  obtain ⟨W, hW⟩ : ∃ W, wlkL cs = W := ⟨_, rfl⟩
  rw [hW] at HW HWl ⊢
  clear hW
  obtain ⟨p0, hp0⟩ : ∃ p0, cs.getD 0 (0, 0) = p0 := ⟨_, rfl⟩
  rw [hp0] at c0 c1 HW
  have HP0 := Lib.hid hp0
  clear hp0
  rw [Nat.zero_mul, Nat.add_zero] at c0 c1
  have hz1 : w.heap.size + 1 ≤ w.heap.size + 1 + 1 := by omega
  by_cases hc1 : c = 1
  · have hn1 : cs.length = 1 := by omega
    have HV : Hid (W = [p0]) := by
      show _ = _
      rw [HW.out, wlk_end (by omega)]; rfl
    have hown : OwnL ((w.alloc (.cells #[.int .i64 p0.1, .int .i64 p0.2] 37)).alloc (.cells #[.int .i64 p0.1, .int .i64 p0.2] 37)) w.heap.size (.slice (some ⟨w.heap.size + 1, 0, none⟩) 1 1) [p0] := by
      have := OwnL.one (w.alloc (.cells #[.int .i64 p0.1, .int .i64 p0.2] 37)) w.heap.size p0 (by simp)
      simpa using this
    have hb : Below w.heap.size w ((w.alloc (.cells #[.int .i64 p0.1, .int .i64 p0.2] 37)).alloc (.cells #[.int .i64 p0.1, .int .i64 p0.2] 37)) := by (repeat (first | assumption | exact Below.refl _ _ | (refine bl_alloc ?_ _) | (refine Below.drew ?_) | (refine bl_drewN ?_ _) | (refine bl_set ?_ (by first | (simp; done) | omega | (simp; omega)) _) | (refine bl_trans ?_ (by assumption)) | (refine bl_step ?_ (by assumption) (by first | omega | exact Below.size (by assumption) | (simp; omega) | (simp; exact Below.size (by assumption))))))
    rw [hn1, hc1]
    clear hc hn1 hc1 hlcI h1I hlI hl hlc h1 HGR HWl
    go_enter Try.func42, Try.ntmps42
    go_wp2
    go_loopw [4, 6, 15] (fun v _ i wr => v = .slice (some ⟨w.heap.size + 1, 0, none⟩) 1 1 ∧ i = .int .i64 0 ∧ OwnL wr w.heap.size v [p0] ∧ Below w.heap.size w wr) (fun _ _ _ _ => 0)
    case atStart => exact ⟨rfl, rfl, hown, hb⟩
    case round =>
      clear hown hb
      obtain ⟨rfl, rfl, hown, hb⟩ := hrel
      go_wp2
      go_ret
      exact ⟨_, rfl, by rw [HV.out]; exact hown, hb⟩
  · have hcI : ¬ (c : Int) = 1 := by omega
    have hcd : (c == 1) = false := by simp [hc1]
    have hown : OwnL ((w.alloc (.cells #[.int .i64 p0.1, .int .i64 p0.2] 37)).alloc (.cells #[.int .i64 p0.1, .int .i64 p0.2] 37)) (w.heap.size + 1) (.slice (some ⟨w.heap.size + 1, 0, none⟩) 1 1) [p0] := by
      have := OwnL.one (w.alloc (.cells #[.int .i64 p0.1, .int .i64 p0.2] 37)) (w.heap.size + 1) p0 (by simp)
      simpa using this
    have hb : Below w.heap.size w ((w.alloc (.cells #[.int .i64 p0.1, .int .i64 p0.2] 37)).alloc (.cells #[.int .i64 p0.1, .int .i64 p0.2] 37)) := by (repeat (first | assumption | exact Below.refl _ _ | (refine bl_alloc ?_ _) | (refine Below.drew ?_) | (refine bl_drewN ?_ _) | (refine bl_set ?_ (by first | (simp; done) | omega | (simp; omega)) _) | (refine bl_trans ?_ (by assumption)) | (refine bl_step ?_ (by assumption) (by first | omega | exact Below.size (by assumption) | (simp; omega) | (simp; exact Below.size (by assumption))))))
    have hpt : PtB ((w.alloc (.cells #[.int .i64 p0.1, .int .i64 p0.2] 37)).alloc (.cells #[.int .i64 p0.1, .int .i64 p0.2] 37)) w.heap.size p0 := (PtB.new w p0).to ((Below.refl _ _).alloc (Nat.le_refl _) _)
    go_enter Try.func42, Try.ntmps42
    go_wp2
    clear c0 c1
    go_loopw [4, 6, 15] (fun v _ i wr => ∃ (j : Nat) (L : List Pt), j ≤ cs.length - 1 ∧ i = .int .i64 j ∧ OwnL wr (w.heap.size + 1) v L ∧ Hid (L ++ wlk (cs.getD j (0, 0)) (cs.drop (j + 1)) = W) ∧ PtB wr w.heap.size (cs.getD j (0, 0)) ∧ Below w.heap.size w wr) (fun _ _ i _ => (cs.length - 1) - (intOf i).toNat)
    case atStart => exact ⟨0, [p0], Nat.zero_le _, rfl, hown, by show _ = _; rw [HP0.out, HW.out], by rw [HP0.out]; exact hpt, hb⟩
    case round =>
      clear hown hb hpt HP0 HW
      obtain ⟨j, L, hj, rfl, hown, HL, hpt, hb⟩ := hrel
      have hj0 : 0 ≤ (j : Int) := by omega
      have hj5 : (j : Int) ≤ 576 := by omega
      by_cases hlt : j < cs.length - 1
      · obtain ⟨c0, c1⟩ := hc (j + 1) (by omega)
        rw [show off + (j + 1) * 2 = off + 2 + j * 2 by omega] at c0 c1
        have d0 := (hb.cell (p := ⟨b, off + 2 + j * 2, none⟩) hbB).trans c0
        have d1 := (hb.cell (p := ⟨b, off + 2 + j * 2 + 1, none⟩) hbB).trans c1
        have HN := Lib.hid (wlk_drop (j := j) (by omega : j + 1 < cs.length) (cs.getD j (0, 0)))
        have HGq := Lib.hid (HGR.out (j + 1) (by omega))
        have HGp := Lib.hid (HGR.out j (by omega))
        obtain ⟨q, hq⟩ : ∃ q, cs.getD (j + 1) (0, 0) = q := ⟨_, rfl⟩
        rw [hq] at d0 d1 HN HGq
        have HQ := Lib.hid hq
        clear hq c0 c1 hc
        generalize cs.getD j (0, 0) = p1 at *
        have hltI : (j : Int) < ((cs.length - 1 : Nat) : Int) := by omega
        have hz := hb.size
        have hzq : w.heap.size < wr.heap.size := hpt.lt
        have e1 : OwnL (wr.alloc (.cells #[.int .i64 q.1, .int .i64 q.2] 37)) (w.heap.size + 1) _ L := own_to hown ((Below.refl _ _).alloc (Nat.le_refl _) _)
        have e2 := hown.off (Nat.le_refl wr.heap.size)
        have e3 : PtB (wr.alloc (.cells #[.int .i64 q.1, .int .i64 q.2] 37)) w.heap.size p1 := hpt.to ((Below.refl _ _).alloc (Nat.le_refl _) _)
        have e4 := PtB.new wr q
        have e5 : Below w.heap.size w (wr.alloc (.cells #[.int .i64 q.1, .int .i64 q.2] 37)) := by (repeat (first | assumption | exact Below.refl _ _ | (refine bl_alloc ?_ _) | (refine Below.drew ?_) | (refine bl_drewN ?_ _) | (refine bl_set ?_ (by first | (simp; done) | omega | (simp; omega)) _) | (refine bl_trans ?_ (by assumption)) | (refine bl_step ?_ (by assumption) (by first | omega | exact Below.size (by assumption) | (simp; omega) | (simp; exact Below.size (by assumption))))))
        have HE : Hid (che p1 q ≤ 100 ∧ L ++ (seg q 100 p1 ++ wlk q (cs.drop (j + 2))) = W) := ⟨che_grid HGp.out HGq.out, by rw [← HN.out]; exact HL.out⟩
        obtain ⟨bc, hbc⟩ : ∃ bc, wr.heap.size = bc := ⟨_, rfl⟩
        rw [hbc] at e2 e4
        have HBC := Lib.hid hbc
        have HOff := Lib.hid e2
        clear hbc e2 hown HL hpt HN hb
        go_wp2
        rw [HBC.out]
        go_loopw [4] (fun v wr2 => ∃ (p : Pt) (L : List Pt) (m : Nat), OwnL wr2 (w.heap.size + 1) v L ∧ Hid (Off v bc) ∧ PtB wr2 w.heap.size p ∧ PtB wr2 bc q ∧ Hid (isPt p.1 p.2 = true) ∧ Hid (che p q ≤ m ∧ L ++ (seg q m p ++ wlk q (cs.drop (j + 2))) = W) ∧ Below w.heap.size w wr2) (fun v _ => W.length - lenOf v)
        case atStart => exact ⟨p1, L, 100, e1, HOff, e3, e4, HGp, HE, e5⟩
        case round =>
          clear e1 HOff e3 e4 HGp HE e5 d0 d1
          obtain ⟨p, L, m, hown, HOff, hp1, hq1, HGp, HE, hb⟩ := hrel
          by_cases he : p = q
          · subst he
            have hneq := fun w => run_neq_pt p p w
            simp only [decide_true, Bool.not_true] at hneq
            obtain ⟨d0, d1, _, _⟩ := hp1.cells
            obtain ⟨d2, d3, _, _⟩ := hq1.cells
            have HF : Hid (L ++ wlk p (cs.drop (j + 2)) = W) := by
              show _ = _
              have := HE.out.2
              rw [seg_same] at this
              exact this
            clear HE
            go_wp2
            go_roundw
            case rel => exact ⟨j + 1, L, by omega, by go_num, hown, by show _ = _; rw [HQ.out]; exact HF.out, by rw [HQ.out]; exact hp1, hb⟩
            case measure => simp [intOf]; omega
          · obtain ⟨m', hm', hc', hs'⟩ := seg_next he HE.out.1
            have HF : Hid (che (stp p q) q ≤ m' ∧ (L ++ [stp p q]) ++ (seg q m' (stp p q) ++ wlk q (cs.drop (j + 2))) = W) := by
              refine ⟨hc', ?_⟩
              have := HE.out.2
              rw [hs'] at this
              rw [← this]; simp
            have hLW : L.length < W.length := by
              rw [← HF.out.2]; simp only [List.length_append, List.length_cons, List.length_nil]; omega
            have HGs := Lib.hid (stp_grid HGp.out HGq.out)
            have hneq := fun w => run_neq_pt p q w
            simp only [he, decide_false, Bool.not_false] at hneq
            obtain ⟨d0, d1, f0, f1⟩ := hp1.cells
            obtain ⟨d2, d3, _, _⟩ := hq1.cells
            obtain ⟨⟨g0, g1⟩, g2, g3⟩ := isPt_iff.1 HGp.out
            have hb2 : Below w.heap.size w wr.drew := by (repeat (first | assumption | exact Below.refl _ _ | (refine bl_alloc ?_ _) | (refine Below.drew ?_) | (refine bl_drewN ?_ _) | (refine bl_set ?_ (by first | (simp; done) | omega | (simp; omega)) _) | (refine bl_trans ?_ (by assumption)) | (refine bl_step ?_ (by assumption) (by first | omega | exact Below.size (by assumption) | (simp; omega) | (simp; exact Below.size (by assumption))))))
            have hlt1 : w.heap.size < wr.heap.size := hp1.lt
            have hlt2 : bc < wr.heap.size := hq1.lt
            have hne : bc ≠ w.heap.size := by have := HBC.out; omega
            have o3 : OwnL ((wr.drew.setCell ⟨w.heap.size, 0, none⟩ (.int .i64 (p.1 + sg p.1 q.1))).setCell ⟨w.heap.size, 0 + 1, none⟩ (.int .i64 (p.2 + sg p.2 q.2))) (w.heap.size + 1) _ L := OwnL.setB (w := wr.drew) hown (hown.off_low (by omega)) _ _
            have p3 : PtB ((wr.drew.setCell ⟨w.heap.size, 0, none⟩ (.int .i64 (p.1 + sg p.1 q.1))).setCell ⟨w.heap.size, 0 + 1, none⟩ (.int .i64 (p.2 + sg p.2 q.2))) w.heap.size (stp p q) := PtB.set_ (w := wr.drew) hp1 _ _
            have q3 : PtB ((wr.drew.setCell ⟨w.heap.size, 0, none⟩ (.int .i64 (p.1 + sg p.1 q.1))).setCell ⟨w.heap.size, 0 + 1, none⟩ (.int .i64 (p.2 + sg p.2 q.2))) bc q := PtB.far (w := wr.drew) hq1 hne _ _
            have b3 : Below w.heap.size w ((wr.drew.setCell ⟨w.heap.size, 0, none⟩ (.int .i64 (p.1 + sg p.1 q.1))).setCell ⟨w.heap.size, 0 + 1, none⟩ (.int .i64 (p.2 + sg p.2 q.2))) := (hb2.setCell (p := ⟨w.heap.size, 0, none⟩) (Nat.le_refl _) _).setCell (p := ⟨w.heap.size, 0 + 1, none⟩) (Nat.le_refl _) _
            have hLl : L.length ≤ 1000000 := by omega
            have HOffp := Lib.hid (hown.off_low (g := w.heap.size) (by omega))
            have hlo := Lib.hid hown.lenOf_
            clear HE hs' hb hb2 hp1 hq1
            go_wp2
            refine wp_region_still_tail 11 (by kernel_rfl) (by kernel_rfl) ?_
            simp only [List.take_succ_cons, List.take_zero, List.drop_succ_cons, List.drop_zero]
            iterate 4
              refine wpStill_step (fun K hK => ?_)
              go_simp
              refine hK _ ?_
              clear hK K
            refine wpStill_step (fun K hK => ?_)
            go_simp
            refine ⟨_, quiet_l (stepTo_any _ _ _ g0 g1), hK _ ?_⟩
            clear hK K
            iterate 4
              refine wpStill_step (fun K hK => ?_)
              go_simp
              refine hK _ ?_
              clear hK K
            refine wpStill_step (fun K hK => ?_)
            go_simp
            refine ⟨_, quiet_l (stepTo_any _ _ _ g2 g3), hK _ ?_⟩
            clear hK K
            refine wpStill_step (fun K hK => ?_)
            go_simp
            refine hK _ ?_
            clear hK K
            refine wpStill_nil ?_
            change wpList _ _ _ _ _ wr.drew
            have d0' : wr.drew.cell? ⟨w.heap.size, 0, none⟩ = some (.int .i64 p.1) := d0
            have d1' : wr.drew.cell? ⟨w.heap.size, 0 + 1, none⟩ = some (.int .i64 p.2) := d1
            have f0' : wr.drew.frozen? ⟨w.heap.size, 0, none⟩ = false := f0
            have f1' : wr.drew.frozen? ⟨w.heap.size, 0 + 1, none⟩ = false := f1
            have hlt1' : w.heap.size < wr.drew.heap.size := hlt1
            clear d0 d1 d2 d3 f0 f1 hlt1 hlt2 hown
            generalize wr.drew = wy at *
            go_wp2_with (at_builtin; refine append_at rfl (.tmp 33) (.tmp 35) rfl _ (w.heap.size + 1) _ _ _ _ rfl o3 wy.heap.size (by simp) rfl hLl (by simp; omega) ?_; intro v6 w6 hown6 hbel6 hkeep6)
            obtain ⟨p6, _⟩ := hkeep6 _ _ p3 HOffp.out
            obtain ⟨q6, off6⟩ := hkeep6 _ _ q3 HOff.out
            go_roundw
            case rel => exact ⟨stp p q, L ++ [stp p q], m', hown6, off6, p6, q6, HGs, HF, hbel6 _ _ (by omega) b3⟩
            case measure => rw [hown6.lenOf_, hlo.out]; simp; omega
      · obtain rfl : j = cs.length - 1 := by omega
        have HF : Hid (L = W) := by
          show _ = _
          have := HL.out
          rw [wlk_end (by omega), List.append_nil] at this
          exact this
        go_wp2
        go_ret
        exact ⟨_, rfl, by rw [← HF.out]; exact own_base hown, hb⟩
end Go.Proofs.Ytdpamieheefhdaa
