/-
  Contracts: the text of points, both.
-/
import Derived.Test.YtfmkedmhbmcbiaaDoorJoin
import Derived.Test.YtfmkedmhbmcbiaaDoorSlices
namespace Go.Proofs.YtfmkedmhbmcbiaaDoor
set_option linter.unusedSimpArgs false
set_option linter.unusedVariables false
open Go.ChangeShapes Go.WideShapes Go.ChangeAt Go.RowKit

/-- The text of a point. -/
def ptT (x y : Int) : List UInt8 := Lib.itoa x ++ (46 :: Lib.itoa y)
def pwds (ps : List (Int × Int)) : List (List UInt8) := ps.map fun p => ptT p.1 p.2
/-- The text of points. -/
def ptsT (ps : List (Int × Int)) : ByteArray := if ps.length = 0 then ⟨#[110, 111, 110, 101]⟩ else ⟨(cmm (pwds ps) ps.length).toArray⟩
theorem pwds_at {ps : List (Int × Int)} {i : Nat} (h : i < ps.length) : (pwds ps).getD i [] = ptT (ps.getD i (0, 0)).1 (ps.getD i (0, 0)).2 := by
  simp [pwds, List.getD_eq_getElem?_getD, h]
theorem ptT_len {x y : Int} (h1 : 0 ≤ x ∧ x ≤ 99) (h2 : 0 ≤ y ∧ y ≤ 99) : (ptT x y).length ≤ 43 := by
  have a := Lib.itoa_length_le x (by omega) (by omega)
  have b := Lib.itoa_length_le y (by omega) (by omega)
  unfold ptT
  rw [List.length_append, List.length_cons]; omega
theorem pwds_len {ps : List (Int × Int)} (h : allPt ps = true) : ∀ i, i < (pwds ps).length → ((pwds ps).getD i []).length ≤ 43 := by
  intro i hi
  have hi' : i < ps.length := by simpa [pwds] using hi
  rw [pwds_at hi']
  obtain ⟨a, b⟩ := isPt_iff.1 (allPt_at h hi')
  exact ptT_len a b

theorem hold2 {N b o : Nat} {w wx wx' : World} {X Y : Value}
    (h : wx.cell? ⟨b, o, none⟩ = some X ∧ wx.cell? ⟨b, o + 1, none⟩ = some Y ∧ Below N w wx ∧ b < wx.heap.size ∧ N ≤ wx.heap.size) (hb : Below wx.heap.size wx wx') :
    wx'.cell? ⟨b, o, none⟩ = some X ∧ wx'.cell? ⟨b, o + 1, none⟩ = some Y ∧ Below N w wx' ∧ b < wx'.heap.size ∧ N ≤ wx'.heap.size := by
  obtain ⟨h1, h2, h3, h4, h5⟩ := h
  exact ⟨(hb.cell (p := ⟨b, _, none⟩) h4).trans h1, (hb.cell (p := ⟨b, _, none⟩) h4).trans h2, h3.trans (hb.mono h5), Nat.lt_of_lt_of_le h4 hb.size, Nat.le_trans h5 hb.size⟩
theorem hold_b {a b c d : Prop} {N : Nat} {w wr : World} (h : a ∧ b ∧ Below N w wr ∧ c ∧ d) : Below N w wr := h.2.2.1
theorem hold_tab {a b c d : Prop} {w wr : World} (htab : Lib.TabIs Tryd.prog w "internal/strconv.uint64pow10" .u64 Lib.pow10Tab) (h : a ∧ b ∧ Below w.heap.size w wr ∧ c ∧ d) : Lib.TabIs Tryd.prog wr "internal/strconv.uint64pow10" .u64 Lib.pow10Tab :=
  Go.Joins.tab_stays fnExactDecimal.gPow htab h.2.2.1 (Nat.le_refl _)

set_option maxHeartbeats 1600000 in
theorem pointText_any (x y : Int) (w : World) (h1 : 0 ≤ x ∧ x ≤ 99) (h2 : 0 ≤ y ∧ y ≤ 99) (htab : Lib.TabIs Tryd.prog w "internal/strconv.uint64pow10" .u64 Lib.pow10Tab) :
    Calls Tryd.prog 40 #[.agg #[.int .i64 x, .int .i64 y]] w fun e w' => e = .returned (.string ⟨(ptT x y).toArray⟩) ∧ Below w.heap.size w w' := by
  have F : Hid (ptT x y = Lib.itoa x ++ 46 :: Lib.itoa y) := rfl
  have a := Lib.itoa_length_le x (by omega) (by omega)
  have b := Lib.itoa_length_le y (by omega) (by omega)
  obtain ⟨lx, hlx⟩ : ∃ l, Lib.itoa x = l := ⟨_, rfl⟩
  obtain ⟨ly, hly⟩ : ∃ l, Lib.itoa y = l := ⟨_, rfl⟩
  have cx := fun w htab => fnExactDecimal.decI_any x w (by omega) (by omega) htab
  have cy := fun w htab => fnExactDecimal.decI_any y w (by omega) (by omega) htab
  rw [hlx] at cx F a
  rw [hly] at cy F b
  have CX := Lib.hid cx
  have CY := Lib.hid cy
  have s1 : ∀ w, (Op.stringOp .add ⟨lx.toArray⟩ ⟨#[46]⟩).run Tryd.prog w = .ok (.string ⟨(lx ++ [46]).toArray⟩) w := fun w => run_string_add_lists w lx [46] (by omega) (by simp)
  have s2 : ∀ w, (Op.stringOp .add ⟨(lx ++ [46]).toArray⟩ ⟨ly.toArray⟩).run Tryd.prog w = .ok (.string ⟨((lx ++ [46]) ++ ly).toArray⟩) w := fun w => run_string_add_lists w _ ly (by simp; omega) (by omega)
  clear hlx hly cx cy a b
  go_enter Tryd.func40, Tryd.ntmps40
  go_wp2
  go_region_held3 (fun wx => wx.cell? ⟨w.heap.size, 0, none⟩ = some (.int .i64 x) ∧ wx.cell? ⟨w.heap.size, 0 + 1, none⟩ = some (.int .i64 y) ∧ Below w.heap.size w wx ∧ w.heap.size < wx.heap.size ∧ w.heap.size ≤ wx.heap.size)
    (first | exact hold2 (by assumption) (by assumption) | exact ⟨by simp, by simp, by (repeat (first | assumption | exact Below.refl _ _ | (refine bl_alloc ?_ _) | (refine Below.drew ?_) | (refine bl_drewN ?_ _) | (refine bl_set ?_ (by simp) _) | (refine bl_trans ?_ (by assumption)) | (refine bl_step ?_ (by assumption) (by first | omega | exact Below.size (by assumption) | (simp; omega) | (simp; exact Below.size (by assumption)))))), by simp, by simp⟩)
    (first
      | (go_at_call_of 10 (Value.int .i64 x); refine (CX.out _ (hold_tab htab (by assumption))).mono ?_; rintro e w' ⟨rfl, hb'⟩)
      | (go_at_call_of 10 (Value.int .i64 y); refine (CY.out _ (hold_tab htab (by assumption))).mono ?_; rintro e w' ⟨rfl, hb'⟩))
  go_wp2
  go_ret
  exact ⟨by rw [F.out]; rfl, hold_b (by assumption)⟩

set_option maxHeartbeats 1600000 in
theorem joinPts_any (A : Option Addr) (ps : List (Int × Int)) (c : Nat) (w : World) (hp : PtsAt w w.heap.size A ps) (hl : ps.length ≤ 24) (hi : allPt ps = true) (htab : Lib.TabIs Tryd.prog w "internal/strconv.uint64pow10" .u64 Lib.pow10Tab) :
    Calls Tryd.prog 39 #[.slice A ps.length c, .func (.func 40) #[] #[]] w fun e w' => e = .returned (.string (ptsT ps)) ∧ Below w.heap.size w w' := by
  have hlI : (ps.length : Int) ≤ 24 := by omega
  by_cases h0 : ps.length = 0
  · have F : Hid (ptsT ps = ⟨#[110, 111, 110, 101]⟩) := by show _ = _; unfold ptsT; rw [if_pos h0]
    have hz : ((ps.length : Int) == 0) = true := by simp [h0]
    clear h0
    go_enter Tryd.func39, Tryd.ntmps39
    go_wp2
    go_ret
    exact ⟨by rw [F.out]; rfl, by (repeat (first | assumption | exact Below.refl _ _ | (refine bl_alloc ?_ _) | (refine Below.drew ?_) | (refine bl_drewN ?_ _) | (refine bl_set ?_ (by simp) _) | (refine bl_trans ?_ (by assumption)) | (refine bl_step ?_ (by assumption) (by first | omega | exact Below.size (by assumption) | (simp; omega) | (simp; exact Below.size (by assumption))))))⟩
  · have F : Hid (ptsT ps = ⟨(cmm (pwds ps) ps.length).toArray⟩) := by show _ = _; unfold ptsT; rw [if_neg h0]
    have hz : ((ps.length : Int) == 0) = false := by simp; exact fun e => h0 (by simp [e])
    obtain ⟨b, off, rfl, hbB, hc⟩ := hp (by omega)
    have hmk := run_mkstrs ps.length (by omega)
    have hWl : (pwds ps).length = ps.length := by simp [pwds]
    have hw0 := WBlk.new w (pwds ps)
    rw [hWl] at hw0
    go_enter Tryd.func39, Tryd.ntmps39
    go_wp2
    clear hmk
    go_loopw [6, 7, 16] (fun _ _ i wr => ∃ k : Nat, k ≤ ps.length ∧ i = .int .i64 k ∧ WBlk wr w.heap.size (pwds ps) k ∧ Below w.heap.size w wr) (fun _ _ i _ => ps.length - (intOf i).toNat)
    case atStart => exact ⟨0, Nat.zero_le _, rfl, hw0, by (repeat (first | assumption | exact Below.refl _ _ | (refine bl_alloc ?_ _) | (refine Below.drew ?_) | (refine bl_drewN ?_ _) | (refine bl_set ?_ (by simp) _) | (refine bl_trans ?_ (by assumption)) | (refine bl_step ?_ (by assumption) (by first | omega | exact Below.size (by assumption) | (simp; omega) | (simp; exact Below.size (by assumption))))))⟩
    case round =>
      clear hw0
      obtain ⟨k, hk, rfl, hB, hb⟩ := hrel
      have hk0 : 0 ≤ (k : Int) := by omega
      by_cases hlt : k < ps.length
      · obtain ⟨c0, c1⟩ := hc k hlt
        have d0 := (hb.cell (p := ⟨b, off + k * 2, none⟩) hbB).trans c0
        have d1 := (hb.cell (p := ⟨b, off + k * 2 + 1, none⟩) hbB).trans c1
        have hltI : (k : Int) < (ps.length : Int) := by omega
        obtain ⟨kx, ky⟩ := isPt_iff.1 (allPt_at hi hlt)
        have HW := Lib.hid (pwds_at hlt)
        generalize (ps.getD k (0, 0)).1 = x at *
        generalize (ps.getD k (0, 0)).2 = y at *
        have hB1 : WBlk (wr.alloc (.cells #[.int .i64 x, .int .i64 y] 55)) w.heap.size (pwds ps) k := hB.to ((Below.refl _ _).alloc (Nat.le_refl _) _)
        have hb1 : Below w.heap.size w (wr.alloc (.cells #[.int .i64 x, .int .i64 y] 55)) := by (repeat (first | assumption | exact Below.refl _ _ | (refine bl_alloc ?_ _) | (refine Below.drew ?_) | (refine bl_drewN ?_ _) | (refine bl_set ?_ (by simp) _) | (refine bl_trans ?_ (by assumption)) | (refine bl_step ?_ (by assumption) (by first | omega | exact Below.size (by assumption) | (simp; omega) | (simp; exact Below.size (by assumption))))))
        have htab' := Go.Joins.tab_stays fnExactDecimal.gPow htab hb1 (Nat.le_refl _)
        clear hc c0 c1
        go_wp2_with fail
        refine (pointText_any x y _ kx ky htab').mono ?_
        rintro e w2 ⟨rfl, hb2⟩
        have hB2 := hB1.to hb2
        have b2 := bl_trans hb1 hb2
        have f0 := hB2.frozen k
        obtain ⟨v0, t0⟩ := hB2.there (i := k) (by omega)
        have HS := hB2.set_ (k := k) (by omega)
        rw [HW.out] at HS
        clear hB hb hB1 hb1 hb2 d0 d1 htab'
        go_wp2
        go_roundw
        case rel => exact ⟨k + 1, by omega, by go_num, HS, by (repeat (first | assumption | exact Below.refl _ _ | (refine bl_alloc ?_ _) | (refine Below.drew ?_) | (refine bl_drewN ?_ _) | (refine bl_set ?_ (by simp) _) | (refine bl_trans ?_ (by assumption)) | (refine bl_step ?_ (by assumption) (by first | omega | exact Below.size (by assumption) | (simp; omega) | (simp; exact Below.size (by assumption))))))⟩
        case measure => simp [intOf]; omega
      · obtain rfl : k = ps.length := by omega
        rw [← hWl] at hB
        have cJ := hB.join ps.length hWl (by omega) (by omega) (fun i hi' => Nat.le_trans (pwds_len hi i hi') (by omega))
        go_wp2_with fail
        refine cJ.mono ?_
        rintro e w2 ⟨rfl, hb2⟩
        have b2 := bl_trans hb hb2
        go_wp2
        go_ret
        exact ⟨by rw [F.out]; rfl, b2⟩

set_option maxRecDepth 100000 in
set_option maxHeartbeats 1600000 in
theorem l01PText_any (A : Option Addr) (ps : List (Int × Int)) (c : Nat) (w : World) (hp : PtsAt w w.heap.size A ps) (hl : ps.length ≤ 24) (hi : allPt ps = true) :
    Calls Tryd.prog 36 #[.slice A ps.length c] w fun e w' => e = .returned (.string (ptsT ps)) ∧ Below w.heap.size w w' := by
  have hlI : (ps.length : Int) ≤ 24 := by omega
  by_cases h0 : ps.length = 0
  · have F : Hid (ptsT ps = ⟨#[110, 111, 110, 101]⟩) := by show _ = _; unfold ptsT; rw [if_pos h0]
    have hz : ((ps.length : Int) == 0) = true := by simp [h0]
    clear h0
    go_enter Tryd.func36, Tryd.ntmps36
    go_wp2
    go_ret
    exact ⟨by rw [F.out]; rfl, by (repeat (first | assumption | exact Below.refl _ _ | (refine bl_alloc ?_ _) | (refine Below.drew ?_) | (refine bl_drewN ?_ _) | (refine bl_set ?_ (by simp) _) | (refine bl_trans ?_ (by assumption)) | (refine bl_step ?_ (by assumption) (by first | omega | exact Below.size (by assumption) | (simp; omega) | (simp; exact Below.size (by assumption))))))⟩
  · have F : Hid (ptsT ps = ⟨(cmm (pwds ps) ps.length).toArray⟩) := by show _ = _; unfold ptsT; rw [if_neg h0]
    have hz : ((ps.length : Int) == 0) = false := by simp; exact fun e => h0 (by simp [e])
    obtain ⟨b, off, rfl, hbB, hc⟩ := hp (by omega)
    go_enter Tryd.func36, Tryd.ntmps36
    go_wp2
    go_loopw [3, 4] (fun s i wr => ∃ k : Nat, k ≤ ps.length ∧ i = .int .i64 k ∧ s = .string ⟨(cmm (pwds ps) k).toArray⟩ ∧ Below w.heap.size w wr) (fun _ i _ => ps.length - (intOf i).toNat)
    case atStart => exact ⟨0, Nat.zero_le _, rfl, rfl, by (repeat (first | assumption | exact Below.refl _ _ | (refine bl_alloc ?_ _) | (refine Below.drew ?_) | (refine bl_drewN ?_ _) | (refine bl_set ?_ (by simp) _) | (refine bl_trans ?_ (by assumption)) | (refine bl_step ?_ (by assumption) (by first | omega | exact Below.size (by assumption) | (simp; omega) | (simp; exact Below.size (by assumption))))))⟩
    case round =>
      obtain ⟨k, hk, rfl, rfl, hb⟩ := hrel
      have hk0 : 0 ≤ (k : Int) := by omega
      by_cases hlt : k < ps.length
      · obtain ⟨c0, c1⟩ := hc k hlt
        have d0 := (hb.cell (p := ⟨b, off + k * 2, none⟩) hbB).trans c0
        have d1 := (hb.cell (p := ⟨b, off + k * 2 + 1, none⟩) hbB).trans c1
        have hltI : (k : Int) < (ps.length : Int) := by omega
        have hbr : b < wr.heap.size := Nat.lt_of_lt_of_le hbB hb.size
        have hzr := hb.size
        obtain ⟨kx, ky⟩ := isPt_iff.1 (allPt_at hi hlt)
        have hW := pwds_at hlt
        have hL := cmm_len (pwds_len hi) k (by simp [pwds]; omega)
        generalize (ps.getD k (0, 0)).1 = x at *
        generalize (ps.getD k (0, 0)).2 = y at *
        have a := Lib.itoa_length_le x (by omega) (by omega)
        have b' := Lib.itoa_length_le y (by omega) (by omega)
        have cx := fun w => l01Dec_any x w (by omega) (by omega)
        have cy := fun w => l01Dec_any y w (by omega) (by omega)
        unfold ptT at hW
        obtain ⟨lx, hlx⟩ : ∃ l, Lib.itoa x = l := ⟨_, rfl⟩
        obtain ⟨ly, hly⟩ : ∃ l, Lib.itoa y = l := ⟨_, rfl⟩
        rw [hlx] at cx hW a
        rw [hly] at cy hW b'
        have CX := Lib.hid cx
        have CY := Lib.hid cy
        have HW := Lib.hid hW
        have hLk : k * (43 + 1) ≤ 24 * 44 := Nat.mul_le_mul (by omega) (by omega)
        obtain ⟨lo, hlo⟩ : ∃ l, cmm (pwds ps) k = l := ⟨_, rfl⟩
        rw [hlo] at hL
        have s1 : ∀ w, (Op.stringOp .add ⟨lx.toArray⟩ ⟨#[46]⟩).run Tryd.prog w = .ok (.string ⟨(lx ++ [46]).toArray⟩) w := fun w => run_string_add_lists w lx [46] (by omega) (by simp)
        have s2 : ∀ w, (Op.stringOp .add ⟨(lx ++ [46]).toArray⟩ ⟨ly.toArray⟩).run Tryd.prog w = .ok (.string ⟨(lx ++ [46] ++ ly).toArray⟩) w := fun w => run_string_add_lists w _ ly (by simp; omega) (by omega)
        by_cases hk1 : k = 0
        · subst hk1
          have hlo0 : lo = [] := hlo.symm
          subst hlo0
          have HN : Hid (cmm (pwds ps) (0 + 1) = lx ++ 46 :: ly) := by show _ = _; rw [show (0 + 1) = 1 from rfl, cmm_one, HW.out]
          have s3 : ∀ w, (Op.stringOp .add ⟨#[]⟩ ⟨(lx ++ 46 :: ly).toArray⟩).run Tryd.prog w = .ok (.string ⟨(lx ++ 46 :: ly).toArray⟩) w := fun w => by
            have := run_string_add_lists (P := Tryd.prog) w [] (lx ++ 46 :: ly) (by simp) (by simp; omega)
            simpa using this
          rw [hlo]
          rw [Nat.zero_mul, Nat.add_zero] at d0 d1
          clear hlx hly cx cy a b' hL hW hlo hc c0 c1
          go_wp2
          go_region_held3 (fun wx => wx.cell? ⟨b, off, none⟩ = some (.int .i64 x) ∧ wx.cell? ⟨b, off + 1, none⟩ = some (.int .i64 y) ∧ Below w.heap.size w wx ∧ b < wx.heap.size ∧ w.heap.size ≤ wx.heap.size)
            (first | exact hold2 (by assumption) (by assumption) | exact ⟨d0, d1, hb.drew, hbr, hzr⟩)
            (first
              | (go_at_call_of 30 (Value.int .i64 x); refine (CX.out _).mono ?_; rintro e w' ⟨rfl, hb'⟩)
              | (go_at_call_of 30 (Value.int .i64 y); refine (CY.out _).mono ?_; rintro e w' ⟨rfl, hb'⟩))
          go_wp2
          go_roundw
          case rel => exact ⟨0 + 1, by omega, by go_num, by rw [HN.out], hold_b (by assumption)⟩
          case measure => simp [intOf]; omega
        · have hkp : 0 < (k : Int) := by omega
          have hkd : decide (0 < k) = true := decide_eq_true (by omega)
          have HN : Hid (cmm (pwds ps) (k + 1) = lo ++ [44] ++ (lx ++ 46 :: ly)) := by show _ = _; rw [cmm_next (by omega), HW.out, hlo]; simp
          have s0 : ∀ w, (Op.stringOp .add ⟨lo.toArray⟩ ⟨#[44]⟩).run Tryd.prog w = .ok (.string ⟨(lo ++ [44]).toArray⟩) w := fun w => run_string_add_lists w lo [44] (by omega) (by simp)
          have s3 : ∀ w, (Op.stringOp .add ⟨(lo ++ [44]).toArray⟩ ⟨(lx ++ 46 :: ly).toArray⟩).run Tryd.prog w = .ok (.string ⟨(lo ++ [44] ++ (lx ++ 46 :: ly)).toArray⟩) w := fun w => run_string_add_lists w _ _ (by simp; omega) (by simp; omega)
          rw [hlo]
          clear hlx hly cx cy a b' hL hW hlo hc c0 c1
          go_wp2
          go_region_held3 (fun wx => wx.cell? ⟨b, off + k * 2, none⟩ = some (.int .i64 x) ∧ wx.cell? ⟨b, off + k * 2 + 1, none⟩ = some (.int .i64 y) ∧ Below w.heap.size w wx ∧ b < wx.heap.size ∧ w.heap.size ≤ wx.heap.size)
            (first | exact hold2 (by assumption) (by assumption) | exact ⟨d0, d1, hb.drew, hbr, hzr⟩)
            (first
              | (go_at_call_of 30 (Value.int .i64 x); refine (CX.out _).mono ?_; rintro e w' ⟨rfl, hb'⟩)
              | (go_at_call_of 30 (Value.int .i64 y); refine (CY.out _).mono ?_; rintro e w' ⟨rfl, hb'⟩))
          go_wp2
          go_roundw
          case rel => exact ⟨k + 1, by omega, by go_num, by rw [HN.out]; simp, hold_b (by assumption)⟩
          case measure => simp [intOf]; omega
      · obtain rfl : k = ps.length := by omega
        go_wp2
        go_ret
        exact ⟨by rw [F.out]; rfl, hb⟩
end Go.Proofs.YtfmkedmhbmcbiaaDoor
