/-
  Proved: for all inputs, FnPathCorners returns true: the drawn list is a path, it is the one through its corners, and its bends and its length are as many as its corners say. No condition.
-/
import Derived.Test.YtfmkedmhbmcbiaaCorMath
import Derived.Test.YtfmkedmhbmcbiaaB10
import Derived.Test.YtfmkedmhbmcbiaaB10Path
namespace Go.Proofs.Ytfmkedmhbmcbiaa.fnPathCorners
set_option linter.unusedSimpArgs false
set_option linter.unusedVariables false
open Go.ChangeShapes Go.WideShapes Go.ChangeAt Go.RowKit

def CornPost (ps : List Pt) (w : World) (e : Ending) (w' : World) : Prop :=
  ∃ A c, e = .returned (.tuple #[.slice A (cors ps).length c, .bool true]) ∧ PtsAt w' w'.heap.size A (cors ps) ∧ (cors ps).length ≤ c ∧ Below w.heap.size w w'
theorem CornersOfI_path (A : Option Addr) (ps : List Pt) (c : Nat) (w : World) (hp : PtsAt w w.heap.size A ps) (hv : isPathB ps = true) :
    Calls Try.prog 21 #[.slice A ps.length c] w (CornPost ps w) := by
  have H := Lib.hid hv
  have h576 := (pathLen hv).2
  have hl : ps.length ≤ 1048576 := by omega
  have R : Hid (cornL ps ps.length = cors ps) := rfl
  clear hv
  go_enter Try.func21, Try.ntmps21
  go_wp2_with fail
  refine (IsPathI_any _ _ _ _ hp hl).mono ?_
  rintro e w1 ⟨rfl, hb1⟩
  rw [H.out]
  go_wp2_with fail
  refine (corners_own _ _ _ _ (hp.to hb1) h576).mono ?_
  rw [R.out]
  rintro e w2 ⟨v, rfl, ho, hb2⟩
  obtain ⟨A', c', rfl, ho3, hc⟩ := ho.cap
  have hb12 := bl_trans hb1 hb2
  have hP := ho3.pts
  clear ho hb1 hb2 ho3
  go_wp2
  go_ret2
  exact ⟨A', c', rfl, hP, hc, hb12⟩
def BackPost (ps : List Pt) (w : World) (e : Ending) (w' : World) : Prop :=
  ∃ A c, e = .returned (.tuple #[.slice A ps.length c, .bool true]) ∧ PtsAt w' w'.heap.size A ps ∧ Below w.heap.size w w'
theorem PathThroughI_cors (A : Option Addr) (ps : List Pt) (c : Nat) (w : World) (hp : PtsAt w w.heap.size A (cors ps)) (hv : isPathB ps = true) (hlc : (cors ps).length ≤ c) :
    Calls Try.prog 22 #[.slice A (cors ps).length c] w (BackPost ps w) := by
  have h576 := (pathLen hv).2
  have hle : (cors ps).length ≤ ps.length := cornL_le ps ps.length
  have := PathThroughI_any A (cors ps) c w hp (by omega) hlc
  rw [cors_thr hv, cors_ok hv] at this
  refine this.mono ?_
  rintro e w' ⟨A', c', rfl, ho, hb⟩
  exact ⟨A', c', rfl, ho.pts, hb⟩
theorem LengthOfI_path (A : Option Addr) (ps : List Pt) (c : Nat) (w : World) (hp : PtsAt w w.heap.size A ps) (hv : isPathB ps = true) :
    Calls Try.prog 23 #[.slice A ps.length c] w fun e w' => e = .returned (.tuple #[.int .i64 ((ps.length : Int) - 1), .bool true]) ∧ Below w.heap.size w w' := by
  have h576 := (pathLen hv).2
  have := LengthOfI_any A ps c w hp (by omega)
  rwa [lenV_t hv] at this
theorem BendsOfI_path (A : Option Addr) (ps : List Pt) (c : Nat) (w : World) (hp : PtsAt w w.heap.size A ps) (hv : isPathB ps = true) :
    Calls Try.prog 24 #[.slice A ps.length c] w fun e w' => e = .returned (.tuple #[.int .i64 (cntB ps ps.length), .bool true]) ∧ Below w.heap.size w w' := by
  have h576 := (pathLen hv).2
  have := BendsOfI_any A ps c w hp (by omega)
  rwa [bendV_t hv] at this
theorem IsPathI_path (A : Option Addr) (ps : List Pt) (c : Nat) (w : World) (hp : PtsAt w w.heap.size A ps) (hv : isPathB ps = true) :
    Calls Try.prog 25 #[.slice A ps.length c] w fun e w' => e = .returned (.bool true) ∧ Below w.heap.size w w' := by
  have h576 := (pathLen hv).2
  have := IsPathI_any A ps c w hp (by omega)
  rwa [hv] at this
theorem b10Same_path (A A' : Option Addr) (ps : List Pt) (c c' : Nat) (w : World) (hp : PtsAt w w.heap.size A ps) (hq : PtsAt w w.heap.size A' ps) (hl : ps.length ≤ 14) :
    Calls Try.prog 26 #[.slice A ps.length c, .slice A' ps.length c'] w fun e w' => e = .returned (.bool true) ∧ Below w.heap.size w w' := by
  have := b10Same_any A A' ps ps c c' w hp hq (by omega) (by omega)
  rwa [decide_eq_true rfl] at this
theorem sumTo_bd {L : List Pt} (hL : ∀ i, i < L.length → isPt (L.getD i (0, 0)).1 (L.getD i (0, 0)).2 = true) : ∀ k, k + 1 ≤ L.length → 0 ≤ sumTo L k ∧ sumTo L k ≤ 198 * (k : Int)
  | 0, _ => by simp [sumTo]
  | k + 1, h => by
    have ih := sumTo_bd hL k (by omega)
    have a := isPt_iff.1 (hL k (by omega))
    have b := isPt_iff.1 (hL (k + 1) (by omega))
    have k1 := absI_le (n := (L.getD k (0, 0)).1 - (L.getD (k + 1) (0, 0)).1) (b := 99) (by omega) (by omega)
    have k2 := absI_le (n := (L.getD k (0, 0)).2 - (L.getD (k + 1) (0, 0)).2) (b := 99) (by omega) (by omega)
    unfold sumTo farI
    push_cast
    omega
theorem ret5 {N b off k K : Nat} {w wx wx' : World} {X Y X' Y' : Value}
    (h : wx.cell? ⟨b, off + k * 2, none⟩ = some X ∧ wx.cell? ⟨b, off + k * 2 + 1, none⟩ = some Y ∧ wx.cell? ⟨b, off + K * 2, none⟩ = some X' ∧ wx.cell? ⟨b, off + K * 2 + 1, none⟩ = some Y' ∧ Below N w wx ∧ b < wx.heap.size ∧ N ≤ wx.heap.size) (hb : Below wx.heap.size wx wx') :
    wx'.cell? ⟨b, off + k * 2, none⟩ = some X ∧ wx'.cell? ⟨b, off + k * 2 + 1, none⟩ = some Y ∧ wx'.cell? ⟨b, off + K * 2, none⟩ = some X' ∧ wx'.cell? ⟨b, off + K * 2 + 1, none⟩ = some Y' ∧ Below N w wx' ∧ b < wx'.heap.size ∧ N ≤ wx'.heap.size := by
  obtain ⟨h1, h2, h3, h4, h5, h6, h7⟩ := h
  exact ⟨(hb.cell (p := ⟨b, _, none⟩) h6).trans h1, (hb.cell (p := ⟨b, _, none⟩) h6).trans h2, (hb.cell (p := ⟨b, _, none⟩) h6).trans h3, (hb.cell (p := ⟨b, _, none⟩) h6).trans h4, h5.trans (hb.mono h7), Nat.lt_of_lt_of_le h6 hb.size, Nat.le_trans h7 hb.size⟩
theorem fif {a b c d e f : Prop} (h : a ∧ b ∧ c ∧ d ∧ e ∧ f) : e := h.2.2.2.2.1

set_option maxRecDepth 100000 in
set_option maxHeartbeats 3200000 in
theorem walk (A : Option Addr) (l : List Int) (c : Nat) (A' : Option Addr) (m : List Int) (c' : Nat) (w : World) (h : NumsAt .u8 w w.heap.size A l ∧ (∀ n ∈ l, (Lit.int .u8 n).wf = true) ∧ l.length ≤ c ∧ c ≤ maxLen) (h' : NumsAt .u8 w w.heap.size A' m ∧ (∀ n ∈ m, (Lit.int .u8 n).wf = true) ∧ m.length ≤ c' ∧ c' ≤ maxLen) :
    Calls Try.prog 3 #[.slice A l.length c, .slice A' m.length c'] w fun e w' => e = .returned (.bool true) ∧ Below w.heap.size w w' := by
  obtain ⟨hp, hw, _, _⟩ := h
  cases hlong : decide (1048576 < l.length) || decide (1048576 < m.length)
  · have hl : l.length ≤ 1048576 := by simp at hlong; omega
    have HL := Lib.hid hlong
    clear hlong h'
    go_enter Try.func3, Try.ntmps3
    go_wp2_with fail
    refine (b10Long_any _ _ _ _ _ _ _).mono ?_
    rintro e w1 ⟨rfl, rfl⟩
    rw [HL.out]
    go_wp2_with fail
    refine (B10Path_any _ _ _ _ hp hw hl).mono ?_
    rintro e w1 ⟨A1, ps, c1, rfl, hv, h14, hp1, hc1, hb1⟩
    have HV := Lib.hid hv
    have h1 := (pathLen hv).1
    clear hv hp hw hl HL
    go_wp2_with fail
    refine (CornersOfI_path _ _ _ _ hp1 HV.out).mono ?_
    rintro e w2 ⟨A2, c2, rfl, hq2, hc2, hb2⟩
    have p2 := hp1.to hb2
    have b2 := bl_trans hb1 hb2
    clear hp1 hb1 hb2
    go_wp2_with fail
    refine (PathThroughI_cors _ _ _ _ hq2 HV.out hc2).mono ?_
    rintro e w3 ⟨A3, c3, rfl, hr3, hb3⟩
    have p3 := p2.to hb3
    have q3 := hq2.to hb3
    have b3 := bl_trans b2 hb3
    clear p2 hq2 b2 hb3
    go_wp2_with fail
    refine (LengthOfI_path _ _ _ _ p3 HV.out).mono ?_
    rintro e w4 ⟨rfl, hb4⟩
    have p4 := p3.to hb4
    have q4 := q3.to hb4
    have r4 := hr3.to hb4
    have b4 := bl_trans b3 hb4
    clear p3 q3 hr3 b3 hb4
    go_wp2_with fail
    refine (BendsOfI_path _ _ _ _ p4 HV.out).mono ?_
    rintro e w5 ⟨rfl, hb5⟩
    have p5 := p4.to hb5
    have q5 := q4.to hb5
    have r5 := r4.to hb5
    have b5 := bl_trans b4 hb5
    clear p4 q4 r4 b4 hb5
    go_wp2_with fail
    refine (IsPathI_path _ _ _ _ p5 HV.out).mono ?_
    rintro e w6 ⟨rfl, hb6⟩
    have p6 := p5.to hb6
    have q6 := q5.to hb6
    have r6 := r5.to hb6
    have b6 := bl_trans b5 hb6
    clear p5 q5 r5 b5 hb6
    go_wp2_with fail
    refine (b10Same_path _ _ _ _ _ _ r6 p6 h14).mono ?_
    rintro e w7 ⟨rfl, hb7⟩
    have q7 := q6.to hb7
    have b7 := bl_trans b6 hb7
    clear p6 q6 r6 b6 hb7
    have hz7 := b7.size
    have hcl : (cors ps).length ≤ ps.length := cornL_le ps ps.length
    have hI14 : (ps.length : Int) ≤ 14 := by omega
    have hI1 : 1 ≤ (ps.length : Int) := by omega
    have e1 : IntKind.i64.wrap ((ps.length : Int) - 1) = (ps.length : Int) - 1 := IntWalk.i64_in _ (by omega)
    have hcp : 1 ≤ (cors ps).length := by
      have := cors_cnt ps ps.length (Nat.le_refl _)
      have h3 := cntB_bd ps ps.length
      rw [if_pos h1] at this
      have h2 : ((cors ps).length : Int) = _ := this
      split at h2 <;> omega
    have HS : Hid (sumTo (cors ps) ((cors ps).length - 1) = (ps.length : Int) - 1) := by show _ = _; rw [← sumF_to, cors_sum HV.out]
    have HGR : Hid (∀ i, i < (cors ps).length → isPt ((cors ps).getD i (0, 0)).1 ((cors ps).getD i (0, 0)).2 = true) := by
      intro i hi
      have hm : (cors ps).getD i (0, 0) ∈ cors ps := by simp [List.getD_eq_getElem?_getD, hi]
      exact path_pts HV.out _ (cornL_mem ps ps.length (Nat.le_refl _) _ hm)
    have HB2 : Hid (2 ≤ ps.length → cntB ps ps.length = ((cors ps).length : Int) - 2) := fun h => cors_bends h
    have HB1 : Hid (ps.length = 1 → cntB ps ps.length = 0 ∧ (cors ps).length = 1) := fun h => cors_bend1 h
    clear HV
    generalize cntB ps ps.length = bn at *
    generalize cors ps = cs at *
    generalize ps.length = n at *
    clear ps
    go_wp2_with fail
    go_loopw [14, 15] (fun s i wr => ∃ K k : Nat, Hid (K = k + 1) ∧ K ≤ cs.length ∧ i = .int .i64 (K : Int) ∧ s = .int .i64 (sumTo cs k) ∧ Below w.heap.size w wr ∧ Below w7.heap.size w7 wr) (fun _ i _ => cs.length - (intOf i).toNat)
    case atStart => exact ⟨1, 0, rfl, hcp, rfl, rfl, b7, Below.refl _ _⟩
    case round =>
      obtain ⟨K, k, HK, hK, rfl, rfl, hb, hb'⟩ := hrel
      have hk : k + 1 ≤ cs.length := by rw [← HK.out]; exact hK
      have hsub : IntKind.i64.wrap ((K : Int) - 1) = (k : Int) := by rw [HK.out, IntWalk.i64_in _ (by omega)]; omega
      have hK0 : 0 ≤ (K : Int) := by omega
      have hK14 : (K : Int) ≤ 14 := by omega
      have hk0 : 0 ≤ (k : Int) := by omega
      have hk14 : (k : Int) ≤ 14 := by omega
      have hc14 : (cs.length : Int) ≤ 14 := by omega
      have hzr := hb.size
      by_cases hltK : K < cs.length
      · have hlt : k + 1 < cs.length := by rw [← HK.out]; exact hltK
        obtain ⟨b, off, rfl, hbB, hc⟩ := q7 (by omega)
        obtain ⟨c0, c1'⟩ := hc k (by omega)
        obtain ⟨c2', c3'⟩ := hc K hltK
        rw [HK.out] at c2' c3'
        rw [← HK.out] at c2' c3'
        have d0 := (hb'.cell (p := ⟨b, off + k * 2, none⟩) hbB).trans c0
        have d1 := (hb'.cell (p := ⟨b, off + k * 2 + 1, none⟩) hbB).trans c1'
        have d2 := (hb'.cell (p := ⟨b, off + K * 2, none⟩) hbB).trans c2'
        have d3 := (hb'.cell (p := ⟨b, off + K * 2 + 1, none⟩) hbB).trans c3'
        have HG1 := HGR.out k (by omega)
        have HG2 := HGR.out (k + 1) hlt
        have hsb := sumTo_bd HGR.out k (by omega)
        have hsb2 := sumTo_bd HGR.out (k + 1) (by omega)
        have HN : Hid (sumTo cs (k + 1) = sumTo cs k + farI (cs.getD k (0, 0)).1 (cs.getD k (0, 0)).2 (cs.getD (k + 1) (0, 0)).1 (cs.getD (k + 1) (0, 0)).2) := rfl
        rw [HN.out] at hsb2
        have hlr : b < wr.heap.size := Nat.lt_of_lt_of_le hbB hb'.size
        rw [← HK.out] at HN HG2 hsb2
        generalize cs.getD k (0, 0) = p at *
        generalize cs.getD K (0, 0) = q at *
        generalize sumTo cs k = S at *
        have HG1' := Lib.hid HG1
        have HG2' := Lib.hid HG2
        obtain ⟨F, hF⟩ : ∃ F, farI p.1 p.2 q.1 q.2 = F := ⟨_, rfl⟩
        have HF := Lib.hid hF
        rw [hF] at HN hsb2
        clear hF hc c0 c1' c2' c3' q7 HG1 HG2
        have hltI : (K : Int) < (cs.length : Int) := by omega
        have hltI2 : (k : Int) < (cs.length : Int) := by omega
        go_wp2
        go_region_held3 (fun wx => wx.cell? ⟨b, off + k * 2, none⟩ = some (.int .i64 p.1) ∧ wx.cell? ⟨b, off + k * 2 + 1, none⟩ = some (.int .i64 p.2) ∧ wx.cell? ⟨b, off + K * 2, none⟩ = some (.int .i64 q.1) ∧ wx.cell? ⟨b, off + K * 2 + 1, none⟩ = some (.int .i64 q.2) ∧ Below w7.heap.size w7 wx ∧ b < wx.heap.size ∧ w7.heap.size ≤ wx.heap.size)
          (first | exact ret5 (by assumption) (by assumption) | exact ⟨d0, d1, d2, d3, hb'.drew, hlr, hb'.size⟩)
          ((go_at_call 27; refine (b10Far_any p q _ HG1'.out HG2'.out).mono ?_; rintro e w' ⟨rfl, hb''⟩; rw [HF.out]))
        go_wp2
        go_roundw
        case rel => exact ⟨K + 1, K, rfl, by omega, by go_num, by rw [HN.out, IntWalk.i64_in _ (by omega)], bl_step b7 (fif (by assumption)) hz7, fif (by assumption)⟩
        case measure => simp [intOf]; omega
      · have hke : k = cs.length - 1 := by have := HK.out; omega
        have hS : sumTo cs k = (n : Int) - 1 := by rw [hke]; exact HS.out
        rw [hS]
        have hltI : ¬ (K : Int) < (cs.length : Int) := by omega
        by_cases hn : n = 1
        · obtain ⟨rfl, hc1⟩ := HB1.out hn
          subst hn
          have hcI : ((cs.length : Int) == 1) = true := by simp; omega
          have hKK : (K : Int) = 1 := by omega
          go_wp2
          go_ret
          exact ⟨rfl, hb⟩
        · have hbn := HB2.out (by omega)
          have hnd : (n == 1) = false := by simp [hn]
          have hnI : ¬ (n : Int) = 1 := by omega
          subst hbn
          have e2 : IntKind.i64.wrap ((cs.length : Int) - 2) = (cs.length : Int) - 2 := IntWalk.i64_in _ (by omega)
          go_wp2
          go_ret
          exact ⟨rfl, hb⟩
  · have HL := Lib.hid hlong
    go_enter Try.func3, Try.ntmps3
    go_wp2_with fail
    refine (b10Long_any _ _ _ _ _ _ _).mono ?_
    rintro e w1 ⟨rfl, rfl⟩
    rw [HL.out]
    go_wp2
    go_ret
    exact ⟨rfl, Below.refl _ _⟩
end Go.Proofs.Ytfmkedmhbmcbiaa.fnPathCorners
