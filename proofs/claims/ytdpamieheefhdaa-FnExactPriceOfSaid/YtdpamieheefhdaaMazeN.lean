/-
  Contracts: a maze entered, as the program has it.
-/
import Derived.Test.YtdpamieheefhdaaMazeE
namespace Go.Proofs.Ytdpamieheefhdaa
set_option linter.unusedSimpArgs false
set_option linter.unusedVariables false
open Go.ChangeShapes Go.WideShapes Go.ChangeAt Go.RowKit

/-- A new function value that tells the prices of a maze. -/
def NewPr (A : Option Addr) (Ls : List SlI) (c : Nat) (w : World) (e : Ending) (w' : World) : Prop :=
  ∃ gw gh gc, e = .returned (prV gw gh gc) ∧ PrAt w' gw gh gc A Ls c ∧ Below w.heap.size w w'
set_option maxRecDepth 100000 in
set_option maxHeartbeats 1600000 in
theorem pricesOf_any (A : Option Addr) (Ls : List SlI) (c : Nat) (w : World) (hp : ISAt w w.heap.size A Ls) (hv : MzOk (heldI Ls)) :
    Calls Try.prog 88 #[.slice A Ls.length c] w (NewPr A Ls c w) := by
  have hx0 : Below w.heap.size w (w.alloc (.cells #[.slice A Ls.length c] 45)) := by (repeat (first | assumption | exact Below.refl _ _ | (refine bl_alloc ?_ _) | (refine Below.drew ?_) | (refine bl_drewN ?_ _) | (refine bl_set ?_ (by first | (simp; done) | omega | (simp; omega)) _) | (refine bl_trans ?_ (by assumption)) | (refine bl_step ?_ (by assumption) (by first | omega | exact Below.size (by assumption) | (simp; omega) | (simp; exact Below.size (by assumption))))))
  have hp0 := hp
  have hwid := heldI_wid Ls
  obtain ⟨h1, h12, w1, w12, hrow, _⟩ := hv
  rw [heldI_len] at h1 h12
  obtain ⟨b, off, rfl, hbB, hc⟩ := hp (by omega)
  obtain ⟨c0, _, _, _⟩ := hc 0 (by omega)
  rw [Nat.add_zero] at c0
  rw [← hwid] at c0
  have h0I : (0 : Int) < (Ls.length : Int) := by omega
  have h0N : 0 < Ls.length := by omega
  have HW := Lib.hid (hwid)
  have HR := Lib.hid hrow
  have HP := Lib.hid hp0
  clear hc hp hp0 hrow hwid
  obtain ⟨n0, hn0⟩ : ∃ n0, wid (heldI Ls) = n0 := ⟨_, rfl⟩
  have HN := Lib.hid hn0
  rw [hn0] at c0 w1 w12
  clear hn0
  have hq1 : b < w.heap.size + 1 := by omega
  have hq2 : b < w.heap.size + 1 + 1 := by omega
  have hq3 : b < w.heap.size + 1 + 1 + 1 := by omega
  go_enter Try.func88, Try.ntmps88
  go_wp2
  go_region
  all_goals
    go_wp2
    go_ret
    exact ⟨_, _, _, rfl, ⟨by rw [HN.out]; go_simp, by go_simp, by go_simp, by simp <;> omega, by simp <;> omega, by simp <;> omega, (HP.out.to (by (repeat (first | assumption | exact Below.refl _ _ | (refine bl_alloc ?_ _) | (refine Below.drew ?_) | (refine bl_drewN ?_ _) | (refine bl_set ?_ (by first | (simp; done) | omega | (simp; omega)) _) | (refine bl_trans ?_ (by assumption)) | (refine bl_step ?_ (by assumption) (by first | omega | exact Below.size (by assumption) | (simp; omega) | (simp; exact Below.size (by assumption))))))))⟩, by (repeat (first | assumption | exact Below.refl _ _ | (refine bl_alloc ?_ _) | (refine Below.drew ?_) | (refine bl_drewN ?_ _) | (refine bl_set ?_ (by first | (simp; done) | omega | (simp; omega)) _) | (refine bl_trans ?_ (by assumption)) | (refine bl_step ?_ (by assumption) (by first | omega | exact Below.size (by assumption) | (simp; omega) | (simp; exact Below.size (by assumption))))))⟩

def allOpen (M : Mz) (ps : List (Int × Int)) : Bool := okTo (fun i => openB M (ps.getD i (0, 0)).1 (ps.getD i (0, 0)).2) ps.length
def EntYes (A : Option Addr) (Ls : List SlI) (c : Nat) (w : World) (e : Ending) (w' : World) : Prop :=
  ∃ gw gh gc, e = .returned (.tuple #[prV gw gh gc, .bool true]) ∧ PrAt w' gw gh gc A Ls c ∧ Below w.heap.size w w'
def EntNo (w : World) (e : Ending) (w' : World) : Prop := e = .returned (.tuple #[.nilFunc, .bool false]) ∧ Below w.heap.size w w'

set_option maxRecDepth 100000 in
set_option maxHeartbeats 1600000 in
theorem enter_inv (A : Option Addr) (Ls : List SlI) (c : Nat) (P : Option Addr) (n d : Nat) (w : World) (hp : ISAt w w.heap.size A Ls) (hs : Short Ls) (hv : mzB (heldI Ls) = false) :
    Calls Try.prog 60 #[.agg #[.slice A Ls.length c], .slice P n d] w (EntNo w) := by
  obtain ⟨hn, hl⟩ := hs
  have hx0 : Below w.heap.size w (w.alloc (.cells #[.slice A Ls.length c] 51)) := by (repeat (first | assumption | exact Below.refl _ _ | (refine bl_alloc ?_ _) | (refine Below.drew ?_) | (refine bl_drewN ?_ _) | (refine bl_set ?_ (by first | (simp; done) | omega | (simp; omega)) _) | (refine bl_trans ?_ (by assumption)) | (refine bl_step ?_ (by assumption) (by first | omega | exact Below.size (by assumption) | (simp; omega) | (simp; exact Below.size (by assumption))))))
  have HV := Lib.hid hv
  have HL := Lib.hid hl
  clear hv hl
  go_enter Try.func60, Try.ntmps60
  go_wp2_with fail
  refine (ValidMazeI_any A Ls c _ (hp.to hx0) hn HL.out).mono ?_
  rintro e w1 ⟨rfl, hb1⟩
  rw [HV.out]
  go_wp2
  go_ret2
  exact ⟨rfl, by (repeat (first | assumption | exact Below.refl _ _ | (refine bl_alloc ?_ _) | (refine Below.drew ?_) | (refine bl_drewN ?_ _) | (refine bl_set ?_ (by first | (simp; done) | omega | (simp; omega)) _) | (refine bl_trans ?_ (by assumption)) | (refine bl_step ?_ (by assumption) (by first | omega | exact Below.size (by assumption) | (simp; omega) | (simp; exact Below.size (by assumption))))))⟩
set_option maxRecDepth 100000 in
set_option maxHeartbeats 1600000 in
theorem enter_yes (A : Option Addr) (Ls : List SlI) (c : Nat) (P : Option Addr) (ps : List (Int × Int)) (d : Nat) (w : World) (hp : ISAt w w.heap.size A Ls) (hs : Short Ls) (hv : mzB (heldI Ls) = true) (hP : PtsAt w w.heap.size P ps) (hl : ps.length ≤ 24) (ho : allOpen (heldI Ls) ps = true) :
    Calls Try.prog 60 #[.agg #[.slice A Ls.length c], .slice P ps.length d] w (EntYes A Ls c w) := by
  obtain ⟨hn, hll⟩ := hs
  have hx0 : Below w.heap.size w (w.alloc (.cells #[.slice A Ls.length c] 51)) := by (repeat (first | assumption | exact Below.refl _ _ | (refine bl_alloc ?_ _) | (refine Below.drew ?_) | (refine bl_drewN ?_ _) | (refine bl_set ?_ (by first | (simp; done) | omega | (simp; omega)) _) | (refine bl_trans ?_ (by assumption)) | (refine bl_step ?_ (by assumption) (by first | omega | exact Below.size (by assumption) | (simp; omega) | (simp; exact Below.size (by assumption))))))
  have HV := Lib.hid hv
  have HL := Lib.hid hll
  have HO := Lib.hid ho
  have HP := Lib.hid hP
  have hlI : (ps.length : Int) ≤ 24 := by omega
  clear hv hll ho hP
  go_enter Try.func60, Try.ntmps60
  go_wp2_with fail
  refine (ValidMazeI_any A Ls c _ (hp.to hx0) hn HL.out).mono ?_
  rintro e w1 ⟨rfl, hb1⟩
  rw [HV.out]
  obtain ⟨hc1, hf1, hz1⟩ := bcell hb1
  have hz1' : w.heap.size < w1.heap.size := by (simp at hz1; omega)
  have b1 : Below w.heap.size w w1 := bl_step hx0 hb1 (by simp)
  go_wp2_with fail
  refine (pricesOf_any A Ls c _ (hp.to b1) (mzOk_of HV.out)).mono ?_
  rintro e w2 ⟨gw, gh, gc, rfl, hPr, hb2⟩
  have b2 := bl_step b1 hb2 b1.size
  clear hc1 hf1 hz1 hb1 hb2 hx0
  go_wp2
  go_loopw [8, 17] (fun _ i wr => ∃ k : Nat, k ≤ ps.length ∧ i = .int .i64 k ∧ Below w.heap.size w wr ∧ PrAt wr gw gh gc A Ls c) (fun _ i _ => ps.length - (intOf i).toNat)
  case atStart => exact ⟨0, Nat.zero_le _, rfl, b2, hPr⟩
  case round =>
    obtain ⟨k, hk, rfl, hb, hr⟩ := hrel
    have hk0 : (0 : Int) ≤ (k : Int) := by omega
    by_cases hlt : k < ps.length
    · obtain ⟨b, off, rfl, hbB, hc⟩ := HP.out (by omega)
      obtain ⟨c0, c1⟩ := hc k hlt
      have d0 := (hb.cell (p := ⟨b, off + k * 2, none⟩) hbB).trans c0
      have d1 := (hb.cell (p := ⟨b, off + k * 2 + 1, none⟩) hbB).trans c1
      have HOk := Lib.hid (okTo_iff.1 HO.out k hlt)
      have hltI : (k : Int) < (ps.length : Int) := by omega
      have hzw : w.heap.size ≤ wr.heap.size := hb.size
      clear hc c0 c1
      generalize (ps.getD k (0, 0)).1 = x at *
      generalize (ps.getD k (0, 0)).2 = y at *
      have hx1 : Below wr.heap.size wr (wr.alloc (.cells #[.int .i64 x, .int .i64 y] 37)) := (Below.refl _ _).alloc (Nat.le_refl _) _
      have hr1 := hr.to hx1
      have b3 := bl_step hb hx1 hb.size
      clear hr hx1
      go_wp2_with fail
      refine (isOpen_any gw gh gc A Ls c x y _ hr1 (mzOk_of HV.out)).mono ?_
      rintro e w4 ⟨rfl, hb4⟩
      rw [HOk.out]
      have b4 := bl_step b3 hb4 b3.size
      have hr4 := hr1.to hb4
      clear hr1 hb4 b3 hb
      go_wp2
      go_roundw
      case rel => exact ⟨k + 1, by omega, by go_num, b4, hr4⟩
      case measure => simp [intOf]; omega
    · go_wp2
      go_ret2
      exact ⟨gw, gh, gc, rfl, hr, hb⟩
set_option maxRecDepth 100000 in
set_option maxHeartbeats 1600000 in
theorem enter_not (A : Option Addr) (Ls : List SlI) (c : Nat) (P : Option Addr) (ps : List (Int × Int)) (d : Nat) (w : World) (hp : ISAt w w.heap.size A Ls) (hs : Short Ls) (hv : mzB (heldI Ls) = true) (hP : PtsAt w w.heap.size P ps) (hl : ps.length ≤ 24) (ho : allOpen (heldI Ls) ps = false) :
    Calls Try.prog 60 #[.agg #[.slice A Ls.length c], .slice P ps.length d] w (EntNo w) := by
  obtain ⟨hn, hll⟩ := hs
  have hx0 : Below w.heap.size w (w.alloc (.cells #[.slice A Ls.length c] 51)) := by (repeat (first | assumption | exact Below.refl _ _ | (refine bl_alloc ?_ _) | (refine Below.drew ?_) | (refine bl_drewN ?_ _) | (refine bl_set ?_ (by first | (simp; done) | omega | (simp; omega)) _) | (refine bl_trans ?_ (by assumption)) | (refine bl_step ?_ (by assumption) (by first | omega | exact Below.size (by assumption) | (simp; omega) | (simp; exact Below.size (by assumption))))))
  have HV := Lib.hid hv
  have HL := Lib.hid hll
  have HO := Lib.hid ho
  have HP := Lib.hid hP
  have hlI : (ps.length : Int) ≤ 24 := by omega
  clear hv hll ho hP
  go_enter Try.func60, Try.ntmps60
  go_wp2_with fail
  refine (ValidMazeI_any A Ls c _ (hp.to hx0) hn HL.out).mono ?_
  rintro e w1 ⟨rfl, hb1⟩
  rw [HV.out]
  obtain ⟨hc1, hf1, hz1⟩ := bcell hb1
  have hz1' : w.heap.size < w1.heap.size := by (simp at hz1; omega)
  have b1 : Below w.heap.size w w1 := bl_step hx0 hb1 (by simp)
  go_wp2_with fail
  refine (pricesOf_any A Ls c _ (hp.to b1) (mzOk_of HV.out)).mono ?_
  rintro e w2 ⟨gw, gh, gc, rfl, hPr, hb2⟩
  have b2 := bl_step b1 hb2 b1.size
  clear hc1 hf1 hz1 hb1 hb2 hx0
  go_wp2
  go_loopw [8, 17] (fun _ i wr => ∃ k : Nat, k ≤ ps.length ∧ i = .int .i64 k ∧ Below w.heap.size w wr ∧ PrAt wr gw gh gc A Ls c ∧ Hid (okTo (fun i => openB (heldI Ls) (ps.getD i (0, 0)).1 (ps.getD i (0, 0)).2) k = true)) (fun _ i _ => ps.length - (intOf i).toNat)
  case atStart => exact ⟨0, Nat.zero_le _, rfl, b2, hPr, rfl⟩
  case round =>
    obtain ⟨k, hk, rfl, hb, hr, HT⟩ := hrel
    have hk0 : (0 : Int) ≤ (k : Int) := by omega
    by_cases hlt : k < ps.length
    · obtain ⟨b, off, rfl, hbB, hc⟩ := HP.out (by omega)
      obtain ⟨c0, c1⟩ := hc k hlt
      have d0 := (hb.cell (p := ⟨b, off + k * 2, none⟩) hbB).trans c0
      have d1 := (hb.cell (p := ⟨b, off + k * 2 + 1, none⟩) hbB).trans c1
      have HN := Lib.hid (fun h => okTo_next (k := k) HT.out h)
      have hltI : (k : Int) < (ps.length : Int) := by omega
      have hzw : w.heap.size ≤ wr.heap.size := hb.size
      clear hc c0 c1
      cases hop : openB (heldI Ls) (ps.getD k (0, 0)).1 (ps.getD k (0, 0)).2
      all_goals
        have HOp := Lib.hid hop
        clear hop
        have HNk : Hid (openB (heldI Ls) (ps.getD k (0, 0)).1 (ps.getD k (0, 0)).2 = true → okTo (fun i => openB (heldI Ls) (ps.getD i (0, 0)).1 (ps.getD i (0, 0)).2) (k + 1) = true) := HN.out
        clear HN
        generalize hX : (ps.getD k (0, 0)).1 = x at *
        generalize hY : (ps.getD k (0, 0)).2 = y at *
        clear hX hY
        have hx1 : Below wr.heap.size wr (wr.alloc (.cells #[.int .i64 x, .int .i64 y] 37)) := (Below.refl _ _).alloc (Nat.le_refl _) _
        have hr1 := hr.to hx1
        have b3 := bl_step hb hx1 hb.size
        clear hr hx1
        go_wp2_with fail
        refine (isOpen_any gw gh gc A Ls c x y _ hr1 (mzOk_of HV.out)).mono ?_
        rintro e w4 ⟨rfl, hb4⟩
        rw [HOp.out]
        have b4 := bl_step b3 hb4 b3.size
        have hr4 := hr1.to hb4
        clear hr1 hb4 b3 hb
        go_wp2
        first
          | (go_ret2
             exact ⟨rfl, b4⟩)
          | (go_roundw
             case rel => exact ⟨k + 1, by omega, by go_num, b4, hr4, HNk.out HOp.out⟩
             case measure => simp [intOf]; omega)
    · exfalso
      have := HT.out
      rw [show k = ps.length by omega] at this
      have h2 := HO.out
      unfold allOpen at h2
      rw [h2] at this
      cases this
end Go.Proofs.Ytdpamieheefhdaa
