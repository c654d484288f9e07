/-
  Contracts: PressShapes, as the program has it.
-/
import Derived.Test.YtgpcfkegbcpkpaaShpC
import Derived.Test.YtgpcfkegbcpkpaaLstI
import Derived.Test.YtgpcfkegbcpkpaaAttemptSh
namespace Go.Proofs.Ytgpcfkegbcpkpaa
set_option linter.unusedSimpArgs false
set_option linter.unusedVariables false
open Go.ChangeShapes Go.WideShapes Go.ChangeAt Go.RowKit Go.BigFrame

theorem mix_step {w : World} {g j : Nat} {ss : List R4} {P : List Int} (h : ShpBlk w g (mixX ss P j) ss.length) (hj : j < ss.length) : ShpBlk (w.setCell ⟨g, j * 4, none⟩ (.int .i64 (P.getD j 0))) g (mixX ss P (j + 1)) ss.length := by
  have hl := mixX_len ss P j
  have := ShpBlk.setX (L := mixX ss P j) (j := j) (w := w) (g := g) (by rw [hl]; exact h) (by rw [hl]; exact hj) (P.getD j 0)
  rw [hl] at this
  exact this
def lpO (ss : List R4) (L : List R3) : Option (List Int) := runR L (ss.length + 1) (zer ss.length)
/-- The shapes pressed. -/
def prsO (ss : List R4) (a : Int) : Option (List R4) := (shpO ss a).bind fun L => (lpO ss L).map fun ds => mixX ss ds ss.length
theorem lpO_len {ss : List R4} {L : List R3} {ds : List Int} (h : lpO ss L = some ds) : ds.length = ss.length := by
  have := (run_fix _ _ _ h).1
  rw [this]
  simp [zer]
theorem prsO_n {ss : List R4} {a : Int} (h : shpO ss a = none) : prsO ss a = none := by unfold prsO; rw [h]; rfl
theorem prsO_l {ss : List R4} {a : Int} {L : List R3} (h : shpO ss a = some L) (h2 : lpO ss L = none) : prsO ss a = none := by unfold prsO; rw [h, Option.bind_some, h2]; rfl
theorem prsO_s {ss : List R4} {a : Int} {L : List R3} {ds : List Int} (h : shpO ss a = some L) (h2 : lpO ss L = some ds) : prsO ss a = some (mixX ss ds ss.length) := by unfold prsO; rw [h, Option.bind_some, h2]; rfl
theorem shpO_facts {ss : List R4} {a : Int} {L : List R3} (h : shpO ss a = some L) : 0 < ss.length ∧ prB (ss.length : Int) L = true := by
  unfold shpO at h
  split at h
  · rename_i h1
    injection h with h
    subst h
    exact ⟨(arS_facts h1.1).1.1, h1.2.2⟩
  · cases h
/-- Shapes in a block of their own, from block B on. -/
def Own6 (w : World) (B : Nat) (A : Option Addr) (L : List R4) : Prop := 0 < L.length → ∃ g, A = some ⟨g, 0, none⟩ ∧ B ≤ g ∧ ShpBlk w g L L.length
theorem Own6.none_ (w : World) (B : Nat) (A : Option Addr) : Own6 w B A [] := fun h => by simp at h
theorem Own6.shp {w : World} {B : Nat} {A : Option Addr} {L : List R4} (h : Own6 w B A L) : ShpAt w w.heap.size A L := fun h0 => by
  obtain ⟨g, rfl, _, hP⟩ := h h0
  exact hP.rec_ h0
theorem Own6.to {w w1 : World} {B : Nat} {A : Option Addr} {L : List R4} (h : Own6 w B A L) (hb : Below w.heap.size w w1) : Own6 w1 B A L := fun h0 => by
  obtain ⟨g, e, hg, hP⟩ := h h0
  exact ⟨g, e, hg, hP.to hb⟩
/-- Shapes in memory of their own, and whether there are any. -/
def SpRes (L : List R4) (ok : Bool) (w : World) (e : Ending) (w' : World) : Prop :=
  ∃ A c, e = .returned (.tuple #[.slice A L.length c, .bool ok]) ∧ Own6 w' w.heap.size A L ∧ Below w.heap.size w w'
/-- The closure's answer. -/
def SpOwn (R : Option (List R4)) (w : World) (e : Ending) (w' : World) : Prop :=
  ((∃ (L : List R4) (g c : Nat), R = some L ∧ e = .returned (.slice (some ⟨g, 0, none⟩) L.length c) ∧ w.heap.size ≤ g ∧ ShpBlk w' g L L.length) ∨ (R = none ∧ Pan e)) ∧ Below w.heap.size w w'
set_option maxRecDepth 100000 in
set_option maxHeartbeats 3200000 in
theorem pshClo_any (A : Option Addr) (ss : List R4) (c Z Y : Nat) (a : Int) (w : World) (c0 : w.cell? ⟨Z, 0, none⟩ = some (.slice A ss.length c)) (c1 : w.cell? ⟨Y, 0, none⟩ = some (.int .i64 a)) (hp : ShpAt w w.heap.size A ss) (hl : ss.length ≤ 1048576) (hlc : ss.length ≤ c) :
    Calls Try.prog 95 #[.pointer (some ⟨Z, 0, none⟩), .pointer (some ⟨Y, 0, none⟩)] w (SpOwn (prsO ss a) w) := by
  have hZ : Z < w.heap.size := World.block_lt_of_cell? w _ c0
  have hY : Y < w.heap.size := World.block_lt_of_cell? w _ c1
  have cp := Lib.hid (pressOf_any A ss c a w hp hl hlc)
  have cq := Lib.hid (fun (wx : World) (B : Option Addr) (L : List R3) (d : Nat) (h : RulAt wx wx.heap.size B L) (hv : prB (ss.length : Int) L = true) => leastPlaces_any ss.length B L d wx h hv)
  have cl := Lib.hid (fun (wx : World) (hb : Below w.heap.size w wx) (h0 : 0 < ss.length) => cloneShp_any A ss c wx (hp.to hb) h0 hl)
  have HF := Lib.hid (fun (L : List R3) (h : shpO ss a = some L) => shpO_facts h)
  have P1 := Lib.hid (fun (h : shpO ss a = none) => prsO_n h)
  have P2 := Lib.hid (fun (L : List R3) (h : shpO ss a = some L) (h2 : lpO ss L = none) => prsO_l h h2)
  have P3 := Lib.hid (fun (L : List R3) (ds : List Int) (h : shpO ss a = some L) (h2 : lpO ss L = some ds) => prsO_s h h2)
  clear hp
  generalize prsO ss a = RR at *
  generalize shpO ss a = R at *
  go_enter Try.func95, Try.ntmps95
  go_wp2_with fail
  refine cp.out.mono ?_
  rintro e w1 ⟨⟨L, v, hR, rfl, ho⟩ | ⟨hR, u, pv, rfl⟩, hb1⟩
  case inr =>
    have HR := Lib.hid (P1.out hR)
    clear hR P1 P2 P3 HF
    go_wp2
    exact ⟨rfl, .inr ⟨HR.out, ⟨_, _, rfl⟩⟩, hb1⟩
  obtain ⟨h0, hv⟩ := HF.out L hR
  obtain ⟨A4, c4, rfl, hr⟩ := ho.rul
  have H0 := Lib.hid h0
  have CQ := Lib.hid (cq.out w1 A4 L c4 hr hv)
  have HR := Lib.hid hR
  clear hR ho hr hv cq h0 P1
  go_wp2_with fail
  refine CQ.out.mono ?_
  rintro e w2 ⟨⟨ds, G, hD, rfl, hG, hGz⟩ | ⟨hD, u, pv, rfl⟩, hb2⟩
  case inr =>
    have HD := Lib.hid (P2.out L HR.out hD)
    clear hD P2 P3 HF
    go_wp2
    exact ⟨rfl, .inr ⟨HD.out, ⟨_, _, rfl⟩⟩, bl_trans hb1 hb2⟩
  have HE := Lib.hid (P3.out L ds HR.out hD)
  have hdl := lpO_len hD
  have b2 := bl_trans hb1 hb2
  have s0 := (b2.cell (p := ⟨Z, 0, none⟩) hZ).trans c0
  have hwG : w.heap.size ≤ G := Nat.le_trans hb1.size hGz
  clear hD P2 P3 HF CQ hb1 hb2 hGz
  obtain ⟨N, hN⟩ : ∃ N, N = ds.length := ⟨_, rfl⟩
  rw [← hN]
  rw [← hN] at hG hdl
  have hNs : (N : Int) ≤ 1048576 := by omega
  have HN := Lib.hid hN
  have HDL := Lib.hid hdl
  clear hN hdl
  go_wp2_with fail
  refine (cl.out _ b2 H0.out).mono ?_
  rintro e w3 ⟨g, d, rfl, hg, hP, hb3⟩
  have hG3 := hG.to hb3
  have hGl := hG.lt
  have b3 := bl_trans b2 hb3
  have hgG : G ≠ g := by omega
  have hwg : w.heap.size ≤ g := by omega
  clear hG b2 hb3 cl s0 cp hg hGl
  go_wp2
  go_loopw [5, 6, 15] (fun _ _ i wr => ∃ j : Nat, j ≤ N ∧ i = .int .i64 j ∧ ShpBlk wr g (mixX ss ds j) ss.length ∧ NBlk wr G ds N ∧ Below w.heap.size w wr) (fun _ _ i _ => N - (intOf i).toNat)
  case atStart => exact ⟨0, Nat.zero_le _, rfl, hP, hG3, b3⟩
  case round =>
    clear hP hG3 b3
    obtain ⟨j, hj, rfl, hP, hG, hb⟩ := hrel
    by_cases hlt : j < N
    · have hjI : (j : Int) < (N : Int) := by omega
      have hj0 : (0 : Int) ≤ (j : Int) := by omega
      have hjs : j < ss.length := by rw [← HDL.out]; exact hlt
      have hjS : (j : Int) < (ss.length : Int) := by omega
      have t0 := hG.at_ (i := j) hlt (by rw [← HN.out]; exact hlt)
      have f0 := hP.frozen (j * 4)
      obtain ⟨v0, q0⟩ := hP.there (i := j * 4) (by rw [mixX_len]; omega)
      have hP' := mix_step hP hjs
      have hG' : NBlk (wr.setCell ⟨g, j * 4, none⟩ (.int .i64 (ds.getD j 0))) G ds N := hG.keep (Below.heap_setCell _ _ _ G (by show G ≠ g; exact hgG))
      have hb' : Below w.heap.size w (wr.setCell ⟨g, j * 4, none⟩ (.int .i64 (ds.getD j 0))) := hb.setCell (p := ⟨g, j * 4, none⟩) hwg _
      clear hP hG hb hjs
      go_wp2
      go_roundw
      case rel => exact ⟨j + 1, by omega, by go_num, hP', hG', hb'⟩
      case measure => simp [intOf]; omega
    · obtain rfl : j = N := by omega
      have HM : Hid (RR = some (mixX ss ds j)) := by show _ = _; rw [HE.out, HDL.out]
      have hln := mixX_len ss ds j
      clear HE HR hG HDL HN
      go_wp2
      go_ret
      exact ⟨.inl ⟨mixX ss ds j, g, d, HM.out, by rw [hln]; rfl, hwg, by rw [hln]; exact hP⟩, hb⟩
set_option maxRecDepth 100000 in
set_option maxHeartbeats 1600000 in
theorem PressShapesI_any (A : Option Addr) (ss : List R4) (c : Nat) (a : Int) (w : World) (hp : ShpAt w w.heap.size A ss) (hl : ss.length ≤ 1048576) (hlc : ss.length ≤ c) :
    Calls Try.prog 49 #[.slice A ss.length c, .int .i64 a] w (SpRes ((prsO ss a).getD []) (prsO ss a).isSome w) := by
  have hx : Below w.heap.size w ((w.alloc (.cells #[.slice A ss.length c] 41)).alloc (.cells #[.int .i64 a] 2)) := by (repeat (first | assumption | exact Below.refl _ _ | (refine bl_alloc ?_ _) | (refine Below.drew ?_) | (refine bl_drewN ?_ _) | (refine bl_set ?_ (by first | (simp; done) | omega | (simp; omega)) _) | (refine bl_trans ?_ (by assumption)) | (refine bl_step ?_ (by assumption) (by first | omega | exact Below.size (by assumption) | (simp; omega) | (simp; exact Below.size (by assumption))))))
  have ka : Blk ((w.alloc (.cells #[.slice A ss.length c] 41)).alloc (.cells #[.int .i64 a] 2)) w.heap.size #[.slice A ss.length c] 41 := (Blk.new _ _ _).alloc _
  have kb : Blk ((w.alloc (.cells #[.slice A ss.length c] 41)).alloc (.cells #[.int .i64 a] 2)) (w.heap.size + 1) #[.int .i64 a] 2 := by
    have := Blk.new (w.alloc (.cells #[.slice A ss.length c] 41)) #[.int .i64 a] 2
    rwa [World.size_alloc] at this
  have cc := Lib.hid (fun (wx : World) (hb : Below ((w.alloc (.cells #[.slice A ss.length c] 41)).alloc (.cells #[.int .i64 a] 2)).heap.size ((w.alloc (.cells #[.slice A ss.length c] 41)).alloc (.cells #[.int .i64 a] 2)) wx) => pshClo_any A ss c w.heap.size (w.heap.size + 1) a wx ((ka.to hb).cell 0 rfl) ((kb.to hb).cell 0 rfl) ((hp.to hx).to hb) hl hlc)
  clear hp ka kb
  generalize prsO ss a = R at *
  go_enter Try.func49, Try.ntmps49
  go_wp2_with fail
  generalize ((w.alloc (.cells #[.slice A ss.length c] 41)).alloc (.cells #[.int .i64 a] 2)) = w1 at *
  have hx1 : Below w1.heap.size w1 (w1.alloc (.cells #[.bool false] 4)) := by (repeat (first | assumption | exact Below.refl _ _ | (refine bl_alloc ?_ _) | (refine Below.drew ?_) | (refine bl_drewN ?_ _) | (refine bl_set ?_ (by first | (simp; done) | omega | (simp; omega)) _) | (refine bl_trans ?_ (by assumption)) | (refine bl_step ?_ (by assumption) (by first | omega | exact Below.size (by assumption) | (simp; omega) | (simp; exact Below.size (by assumption))))))
  refine (attemptSh_any 95 _ w1 (fun v w2 => ∃ (L : List R4) (g c4 : Nat), R = some L ∧ v = .slice (some ⟨g, 0, none⟩) L.length c4 ∧ w1.heap.size + 1 ≤ g ∧ ShpBlk w2 g L L.length) (R = none) (fun _ _ => by first | rfl | (simp [go_sem]; done)) ((cc.out _ hx1).mono ?_)).mono ?_
  · rintro e w2 ⟨h, hb⟩
    refine ⟨?_, hb⟩
    rcases h with ⟨L, g, c4, h1, rfl, h2, h3⟩ | ⟨h1, h2⟩
    · exact .inl ⟨_, rfl, L, g, c4, h1, rfl, by rw [World.size_alloc] at h2; exact h2, h3⟩
    · exact .inr ⟨h2, h1⟩
  rintro e w2 ⟨⟨v, wm, rfl, ⟨L, g, c4, rfl, rfl, hg, hP⟩, rfl⟩ | ⟨rfl, rfl⟩, hb1⟩
  · have hPF : ShpBlk ((wm.setCell ⟨w1.heap.size, 0, none⟩ (.bool true)).setCell ⟨w1.heap.size, 0, none⟩ (.bool true)) g L L.length := hP.keep ((Below.heap_setCell _ _ _ g (by show g ≠ w1.heap.size; omega)).trans (Below.heap_setCell _ _ _ g (by show g ≠ w1.heap.size; omega)))
    have xF := bl_step hx hb1 hx.size
    have hgw : w.heap.size ≤ g := by have := hx.size; omega
    clear hP hb1 hx hx1 cc hg
    generalize ((wm.setCell ⟨w1.heap.size, 0, none⟩ (.bool true)).setCell ⟨w1.heap.size, 0, none⟩ (.bool true)) = wE at *
    go_wp2
    go_ret2
    exact ⟨some ⟨g, 0, none⟩, c4, rfl, fun _ => ⟨g, rfl, hgw, hPF⟩, xF⟩
  · have xF := bl_step hx hb1 hx.size
    clear hb1 hx hx1 cc
    go_wp2
    go_ret2
    exact ⟨none, 0, rfl, Own6.none_ _ _ _, xF⟩
end Go.Proofs.Ytgpcfkegbcpkpaa
