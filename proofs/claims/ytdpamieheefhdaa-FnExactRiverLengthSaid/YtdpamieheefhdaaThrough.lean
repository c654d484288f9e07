/-
  Contracts: equality of lists of points, the program's PathThrough.
-/
import Derived.Test.YtdpamieheefhdaaWalkAlong
namespace Go.Proofs.Ytdpamieheefhdaa
set_option linter.unusedSimpArgs false
set_option linter.unusedVariables false
open Go.ChangeShapes Go.WideShapes Go.ChangeAt Go.RowKit

theorem take_next {l m : List Pt} {k : Nat} (h : l.take k = m.take k) (hl : k < l.length) (hm : k < m.length) (e : l.getD k (0, 0) = m.getD k (0, 0)) : l.take (k + 1) = m.take (k + 1) := by
  rw [take_snocP l k hl, take_snocP m k hm, h, e]
theorem ne_at {l m : List Pt} {k : Nat} (e : l.getD k (0, 0) ≠ m.getD k (0, 0)) : l ≠ m := fun h => e (by rw [h])

set_option maxHeartbeats 800000 in
theorem equalPts_any (A A' : Option Addr) (l m : List Pt) (c c' : Nat) (w : World) (hp : PtsAt w w.heap.size A l) (hq : PtsAt w w.heap.size A' m) (hl : l.length ≤ 1048576) (hl' : m.length ≤ 1048576) :
    Calls Try.prog 44 #[.slice A l.length c, .slice A' m.length c'] w fun e w' => e = .returned (.bool (decide (l = m))) ∧ Below w.heap.size w w' := by
  by_cases hlen : l.length = m.length
  · have hz : ((l.length : Int) != (m.length : Int)) = false := by simp [hlen]
    have HL := Lib.hid hlen
    clear hlen
    go_enter Try.func44, Try.ntmps44
    go_wp2
    go_loopw [5, 13] (fun _ i wr => ∃ k : Nat, k ≤ l.length ∧ i = .int .i64 k ∧ Hid (l.take k = m.take k) ∧ Below w.heap.size w wr) (fun _ i _ => l.length - (intOf i).toNat)
    case atStart => exact ⟨0, Nat.zero_le _, rfl, by show _ = _; simp, Below.refl _ _⟩
    case round =>
      obtain ⟨k, hk, rfl, HA, hb⟩ := hrel
      by_cases hlt : k < l.length
      · obtain ⟨b1, o1, rfl, hb1, hc1⟩ := hp (by omega)
        have hlt' : k < m.length := by rw [← HL.out]; exact hlt
        obtain ⟨b2, o2, rfl, hb2, hc2⟩ := hq (by omega)
        obtain ⟨c0, c1⟩ := hc1 k hlt
        obtain ⟨c2, c3⟩ := hc2 k hlt'
        have d0 := (hb.cell (p := ⟨b1, o1 + k * 2, none⟩) hb1).trans c0
        have d1 := (hb.cell (p := ⟨b1, o1 + k * 2 + 1, none⟩) hb1).trans c1
        have d2 := (hb.cell (p := ⟨b2, o2 + k * 2, none⟩) hb2).trans c2
        have d3 := (hb.cell (p := ⟨b2, o2 + k * 2 + 1, none⟩) hb2).trans c3
        have HN := fun e => Lib.hid (take_next HA.out hlt hlt' e)
        have HF := fun e => Lib.hid (ne_at (l := l) (m := m) (k := k) e)
        have hltI : (k : Int) < (l.length : Int) := by omega
        have hltI' : (k : Int) < (m.length : Int) := by omega
        obtain ⟨p, hp'⟩ : ∃ p, l.getD k (0, 0) = p := ⟨_, rfl⟩
        obtain ⟨q, hq'⟩ : ∃ q, m.getD k (0, 0) = q := ⟨_, rfl⟩
        rw [hp'] at d0 d1 HN HF
        rw [hq'] at d2 d3 HN HF
        have hneq := fun w => run_neq_pt p q w
        clear hp' hq' hc1 hc2 c0 c1 c2 c3 hp hq
        by_cases he : p = q
        · have HN' := HN he
          simp only [he, decide_true, Bool.not_true] at hneq
          subst he
          clear HN HF
          go_wp2
          go_quiet (fail)
          go_wp2
          go_roundw
          case rel => exact ⟨k + 1, by omega, by go_num, HN', by (repeat (first | assumption | exact Below.refl _ _ | (refine bl_alloc ?_ _) | (refine Below.drew ?_) | (refine bl_drewN ?_ _) | (refine bl_set ?_ (by first | (simp; done) | omega | (simp; omega)) _) | (refine bl_trans ?_ (by assumption)) | (refine bl_step ?_ (by assumption) (by first | omega | exact Below.size (by assumption) | (simp; omega) | (simp; exact Below.size (by assumption))))))⟩
          case measure => simp [intOf]; omega
        · have HF' := HF he
          simp only [he, decide_false, Bool.not_false] at hneq
          clear HN HF he
          go_wp2
          go_quiet (fail)
          go_wp2
          go_ret
          exact ⟨retB (by rw [decide_eq_false HF'.out]), by (repeat (first | assumption | exact Below.refl _ _ | (refine bl_alloc ?_ _) | (refine Below.drew ?_) | (refine bl_drewN ?_ _) | (refine bl_set ?_ (by first | (simp; done) | omega | (simp; omega)) _) | (refine bl_trans ?_ (by assumption)) | (refine bl_step ?_ (by assumption) (by first | omega | exact Below.size (by assumption) | (simp; omega) | (simp; exact Below.size (by assumption))))))⟩
      · have HE : Hid (l = m) := by
          show _ = _
          have := HA.out
          rwa [List.take_of_length_le (by omega), List.take_of_length_le (by rw [← HL.out]; omega)] at this
        go_wp2
        go_ret
        exact ⟨retB (by rw [decide_eq_true HE.out]), hb⟩
  · have hz : ((l.length : Int) != (m.length : Int)) = true := by simp; omega
    have HF : Hid (l ≠ m) := fun e => hlen (by rw [e])
    clear hlen
    go_enter Try.func44, Try.ntmps44
    go_wp2
    go_ret
    exact ⟨retB (by rw [decide_eq_false HF.out]), by (repeat (first | assumption | exact Below.refl _ _ | (refine bl_alloc ?_ _) | (refine Below.drew ?_) | (refine bl_drewN ?_ _) | (refine bl_set ?_ (by first | (simp; done) | omega | (simp; omega)) _) | (refine bl_trans ?_ (by assumption)) | (refine bl_step ?_ (by assumption) (by first | omega | exact Below.size (by assumption) | (simp; omega) | (simp; exact Below.size (by assumption))))))⟩

def thrL (cs : List Pt) : List Pt := if okT cs = true then wlkL cs else []
theorem thrL_f {cs : List Pt} (h : okT cs = false) : thrL cs = [] := by simp [thrL, h]
theorem thrL_t {cs : List Pt} (h : okT cs = true) : thrL cs = wlkL cs := by simp [thrL, h]
theorem thrL_le (cs : List Pt) : (thrL cs).length ≤ 1048576 := by
  unfold thrL; split
  · rename_i h
    unfold okT at h
    simp only [Bool.and_eq_true] at h
    have := (pathLen h.2.2.1).2
    omega
  · simp
/-- The answer of a function that fails. -/
def Fails (w : World) (e : Ending) (w' : World) : Prop := e = .returned (.tuple #[.slice none 0 0, .bool false]) ∧ Below w.heap.size w w'
theorem Fails.sres {w : World} {cs : List Pt} {e : Ending} {w' : World} (h : Fails w e w') (hk : okT cs = false) : SRes (thrL cs) (okT cs) w e w' := by
  rw [thrL_f hk, hk]
  exact ⟨none, 0, h.1, Own3.none_ _ _ _, h.2⟩

set_option maxRecDepth 100000 in
set_option maxHeartbeats 800000 in
theorem PathThroughI_any (A : Option Addr) (cs : List Pt) (c : Nat) (w : World) (hp : PtsAt w w.heap.size A cs) (hl : cs.length ≤ 1048576) (hlc : cs.length ≤ c) :
    Calls Try.prog 15 #[.slice A cs.length c] w (SRes (thrL cs) (okT cs) w) := by
  have hlI : (cs.length : Int) ≤ 1048576 := by omega
  by_cases h0 : cs.length = 0
  · have HK : Hid (okT cs = false) := by show _ = _; unfold okT sizeB; rw [decide_eq_false (by omega)]; rfl
    refine Calls.mono (R := Fails w) ?_ fun e w' h => Fails.sres h HK.out
    have hz : ((cs.length : Int) == 0) = true := by simp [h0]
    clear h0
    go_enter Try.func15, Try.ntmps15
    go_wp2
    go_ret2
    exact ⟨rfl, by (repeat (first | assumption | exact Below.refl _ _ | (refine bl_alloc ?_ _) | (refine Below.drew ?_) | (refine bl_drewN ?_ _) | (refine bl_set ?_ (by first | (simp; done) | omega | (simp; omega)) _) | (refine bl_trans ?_ (by assumption)) | (refine bl_step ?_ (by assumption) (by first | omega | exact Below.size (by assumption) | (simp; omega) | (simp; exact Below.size (by assumption))))))⟩
  have hz : ((cs.length : Int) == 0) = false := by simp; exact fun e => h0 (by simp [e])
  by_cases h5 : 576 < cs.length
  · have HK : Hid (okT cs = false) := by show _ = _; unfold okT sizeB; rw [decide_eq_false (by omega)]; rfl
    refine Calls.mono (R := Fails w) ?_ fun e w' h => Fails.sres h HK.out
    have h5I : 576 < (cs.length : Int) := by omega
    clear h0 h5
    go_enter Try.func15, Try.ntmps15
    go_wp2
    go_ret2
    exact ⟨rfl, by (repeat (first | assumption | exact Below.refl _ _ | (refine bl_alloc ?_ _) | (refine Below.drew ?_) | (refine bl_drewN ?_ _) | (refine bl_set ?_ (by first | (simp; done) | omega | (simp; omega)) _) | (refine bl_trans ?_ (by assumption)) | (refine bl_step ?_ (by assumption) (by first | omega | exact Below.size (by assumption) | (simp; omega) | (simp; exact Below.size (by assumption))))))⟩
  have h5I : ¬ 576 < (cs.length : Int) := by omega
  have h5d : decide (576 < cs.length) = false := decide_eq_false h5
  have hS : sizeB cs = true := decide_eq_true (by omega)
  cases hg : allPt cs
  · have HK : Hid (okT cs = false) := by show _ = _; unfold okT; rw [hg]; simp
    refine Calls.mono (R := Fails w) ?_ fun e w' h => Fails.sres h HK.out
    have HG := Lib.hid hg
    clear h0 h5 hg hS
    go_enter Try.func15, Try.ntmps15
    go_wp2_with (go_at_call 41; refine (areOnGrid_any _ _ _ _ hp hl).mono ?_; rintro e w' ⟨rfl, hb'⟩; rw [HG.out])
    go_ret2
    exact ⟨rfl, by (repeat (first | assumption | exact Below.refl _ _ | (refine bl_alloc ?_ _) | (refine Below.drew ?_) | (refine bl_drewN ?_ _) | (refine bl_set ?_ (by first | (simp; done) | omega | (simp; omega)) _) | (refine bl_trans ?_ (by assumption)) | (refine bl_step ?_ (by assumption) (by first | omega | exact Below.size (by assumption) | (simp; omega) | (simp; exact Below.size (by assumption))))))⟩
  have HG := Lib.hid hg
  have hWl : (wlkL cs).length ≤ 1048576 := by have := wlkL_len cs; omega
  cases hw : isPathB (wlkL cs)
  · have HK : Hid (okT cs = false) := by show _ = _; unfold okT; rw [hw]; simp
    refine Calls.mono (R := Fails w) ?_ fun e w' h => Fails.sres h HK.out
    have HW := Lib.hid hw
    have h1 : 1 ≤ cs.length := by omega
    have h576 : cs.length ≤ 576 := by omega
    clear h0 h5 hw hS hg
    go_enter Try.func15, Try.ntmps15
    go_wp2_with fail
    refine (areOnGrid_any _ _ _ _ hp hl).mono ?_
    rintro e w1 ⟨rfl, hb1⟩
    rw [HG.out]
    go_wp2_with fail
    refine (walkAlong_any _ _ _ _ (hp.to hb1) h1 h576 hlc HG.out).mono ?_
    rintro e w2 ⟨v, rfl, ho, hb2⟩
    obtain ⟨A', c', rfl, ho3⟩ := own3_of ho
    go_wp2_with fail
    refine (IsPathI_any _ _ _ _ ho3.pts hWl).mono ?_
    rintro e w3 ⟨rfl, hb3⟩
    rw [HW.out]
    have b3 := bl_trans (bl_trans hb1 hb2) hb3
    clear ho ho3 hb1 hb2 hb3
    go_wp2
    go_ret2
    exact ⟨rfl, b3⟩
  · have hW576 := (pathLen hw).2
    have HW := Lib.hid hw
    have h1 : 1 ≤ cs.length := by omega
    have h576 : cs.length ≤ 576 := by omega
    have hCl : (cornL (wlkL cs) (wlkL cs).length).length ≤ 1048576 := Nat.le_trans (cornL_le _ _) hWl
    by_cases hcn : cornL (wlkL cs) (wlkL cs).length = cs
    · have HK : Hid (okT cs = true) := by show _ = _; unfold okT; rw [hw, hg, hS, decide_eq_true hcn]; rfl
      rw [HK.out, thrL_t HK.out]
      have HC := Lib.hid (decide_eq_true hcn)
      clear h0 h5 hw hS hg hcn
      go_enter Try.func15, Try.ntmps15
      go_wp2_with fail
      refine (areOnGrid_any _ _ _ _ hp hl).mono ?_
      rintro e w1 ⟨rfl, hb1⟩
      rw [HG.out]
      go_wp2_with fail
      refine (walkAlong_any _ _ _ _ (hp.to hb1) h1 h576 hlc HG.out).mono ?_
      rintro e w2 ⟨v, rfl, ho, hb2⟩
      obtain ⟨A', c', rfl, ho3⟩ := own3_of ho
      have hz1 := hb1.size
      have b2 := bl_trans hb1 hb2
      clear ho hb1 hb2
      go_wp2_with fail
      refine (IsPathI_any _ _ _ _ ho3.pts hWl).mono ?_
      rintro e w3 ⟨rfl, hb3⟩
      rw [HW.out]
      have b3 := bl_trans b2 hb3
      have o3 := ho3.to hb3
      clear ho3 b2 hb3
      go_wp2_with fail
      refine (corners_own _ _ _ _ o3.pts hW576).mono ?_
      rintro e w4 ⟨v4, rfl, ho4, hb4⟩
      obtain ⟨A4, c4, rfl, p4⟩ := own3_of ho4
      have b4 := bl_trans b3 hb4
      have o4 := o3.to hb4
      clear o3 ho4 b3 hb4
      go_wp2_with fail
      refine (equalPts_any _ _ _ _ _ _ _ p4.pts (hp.to b4) hCl hl).mono ?_
      rintro e w5 ⟨rfl, hb5⟩
      rw [HC.out]
      have b5 := bl_trans b4 hb5
      have o5 := o4.to hb5
      clear o4 p4 b4 hb5
      go_wp2
      go_ret2
      exact ⟨A', c', rfl, fun h0 => by obtain ⟨g, e, hg, hP⟩ := o5 h0; exact ⟨g, e, by omega, hP⟩, b5⟩
    · have HK : Hid (okT cs = false) := by show _ = _; unfold okT; rw [decide_eq_false hcn]; simp
      refine Calls.mono (R := Fails w) ?_ fun e w' h => Fails.sres h HK.out
      have HC := Lib.hid (decide_eq_false hcn)
      clear h0 h5 hw hS hg hcn
      go_enter Try.func15, Try.ntmps15
      go_wp2_with fail
      refine (areOnGrid_any _ _ _ _ hp hl).mono ?_
      rintro e w1 ⟨rfl, hb1⟩
      rw [HG.out]
      go_wp2_with fail
      refine (walkAlong_any _ _ _ _ (hp.to hb1) h1 h576 hlc HG.out).mono ?_
      rintro e w2 ⟨v, rfl, ho, hb2⟩
      obtain ⟨A', c', rfl, ho3⟩ := own3_of ho
      have b2 := bl_trans hb1 hb2
      clear ho hb1 hb2
      go_wp2_with fail
      refine (IsPathI_any _ _ _ _ ho3.pts hWl).mono ?_
      rintro e w3 ⟨rfl, hb3⟩
      rw [HW.out]
      have b3 := bl_trans b2 hb3
      have o3 := ho3.to hb3
      clear ho3 b2 hb3
      go_wp2_with fail
      refine (corners_own _ _ _ _ o3.pts hW576).mono ?_
      rintro e w4 ⟨v4, rfl, ho4, hb4⟩
      obtain ⟨A4, c4, rfl, p4⟩ := own3_of ho4
      have b4 := bl_trans b3 hb4
      clear o3 ho4 b3 hb4
      go_wp2_with fail
      refine (equalPts_any _ _ _ _ _ _ _ p4.pts (hp.to b4) hCl hl).mono ?_
      rintro e w5 ⟨rfl, hb5⟩
      rw [HC.out]
      have b5 := bl_trans b4 hb5
      clear p4 b4 hb5
      go_wp2
      go_ret2
      exact ⟨rfl, b5⟩
end Go.Proofs.Ytdpamieheefhdaa
