/-
  Contracts: TightRules, as the program has it and as the model has it.
-/
import Derived.Test.YtgpcfkegbcpkpaaTigR
namespace Go.Proofs.Ytgpcfkegbcpkpaa
set_option linter.unusedSimpArgs false
set_option linter.unusedVariables false
open Go.ChangeShapes Go.WideShapes Go.ChangeAt Go.RowKit Go.BigFrame

set_option maxRecDepth 100000 in
set_option maxHeartbeats 3200000 in
theorem tightRules_any (n : Int) (A : Option Addr) (rs : List R3) (c : Nat) (B : Option Addr) (ps : List Int) (d : Nat) (w : World)
    (hp : RulAt w w.heap.size A rs) (hq : IntsAt w w.heap.size B ps) (hv : isPl n rs ps = true) :
    Calls Try.prog 70 #[.agg #[.int .i64 n, .slice A rs.length c], .slice B ps.length d] w (NOwn (tgL ps rs rs.length) w) := by
  obtain ⟨hpr, hpl⟩ := isPl_pr hv
  obtain ⟨⟨n1, n16⟩, h40, hru⟩ := pr_facts hpr
  obtain ⟨hn, ho⟩ := pl_facts hpl
  have h40I : (rs.length : Int) ≤ 40 := by omega
  have HN := Lib.hid hn
  have HF := Lib.hid ho
  have HRU := Lib.hid hru
  have hb1 : Below w.heap.size w (w.alloc (.cells #[.int .i64 n, .slice A rs.length c] 29)) := by (repeat (first | assumption | exact Below.refl _ _ | (refine bl_alloc ?_ _) | (refine Below.drew ?_) | (refine bl_drewN ?_ _) | (refine bl_set ?_ (by first | (simp; done) | omega | (simp; omega)) _) | (refine bl_trans ?_ (by assumption)) | (refine bl_step ?_ (by assumption) (by first | omega | exact Below.size (by assumption) | (simp; omega) | (simp; exact Below.size (by assumption))))))
  have ho1 : OwnI (w.alloc (.cells #[.int .i64 n, .slice A rs.length c] 29)) w.heap.size (.slice none 0 0) [] := ⟨rfl, .inl ⟨rfl, rfl⟩⟩
  clear hv hpr hpl hru ho hn
  go_enter Try.func70, Try.ntmps70
  go_wp2
  go_loopw [5, 6, 11] (fun v _ i wr => ∃ k : Nat, k ≤ rs.length ∧ i = .int .i64 k ∧ OwnI wr w.heap.size v (tgL ps rs k) ∧ Below w.heap.size w wr ∧ w.heap.size ≤ wr.heap.size) (fun _ _ i _ => rs.length - (intOf i).toNat)
  case atStart => exact ⟨0, Nat.zero_le _, rfl, ho1, hb1, hb1.size⟩
  case round =>
    clear ho1 hb1
    obtain ⟨k, hk, rfl, hown, hb, hzr⟩ := hrel
    have hk0 : (0 : Int) ≤ (k : Int) := by omega
    by_cases hlt : k < rs.length
    · obtain ⟨b, off, rfl, hbB, hc⟩ := hp (by omega)
      obtain ⟨e0, e1, e2⟩ := hc k hlt
      have f0 := (hb.cell (p := ⟨b, off + k * 3, none⟩) hbB).trans e0
      have f1 := (hb.cell (p := ⟨b, off + k * 3 + 1, none⟩) hbB).trans e1
      have f2 := (hb.cell (p := ⟨b, off + k * 3 + 2, none⟩) hbB).trans e2
      have hltI : (k : Int) < (rs.length : Int) := by omega
      obtain ⟨X, Y, hX, hY, hXn, hYn, _, z1, z2⟩ := ru_facts (HRU.out k hlt) n16
      have hXl : X < ps.length := by have := HN.out; omega
      have hYl : Y < ps.length := by have := HN.out; omega
      obtain ⟨b2, off2, rfl, hbB2, hc2⟩ := hq (by omega)
      have g0 := (hb.cell (p := ⟨b2, off2 + X, none⟩) hbB2).trans (hc2 X hXl)
      have g1 := (hb.cell (p := ⟨b2, off2 + Y, none⟩) hbB2).trans (hc2 Y hYl)
      have uX := plc_at HF.out hXl
      have uY := plc_at HF.out hYl
      have HK : Hid (tgB ps rs k = decide (ps.getD Y 0 - ps.getD X 0 - (rs.getD k r30).2.2 = 0)) := by
        show _ = _
        unfold tgB atP
        rw [hX, hY]
        simp only [Int.toNat_natCast, decide_eq_decide]
        omega
      have hLl : (tgL ps rs k).length ≤ 1000000 := by have := tgL_len ps rs k; omega
      have HT := Lib.hid (fun h => tgL_t (ps := ps) (rs := rs) (k := k) h)
      have HFF := Lib.hid (fun h => tgL_f (ps := ps) (rs := rs) (k := k) h)
      have hl16 : ps.length ≤ 16 := by have := HN.out; omega
      clear hc hc2 e0 e1 e2 hp hq
      rw [hX] at f0
      rw [hY] at f1
      generalize (rs.getD k r30).2.2 = z at *
      generalize ps.getD X 0 = px at *
      generalize ps.getD Y 0 = py at *
      have hbw2 : b2 < wr.heap.size := Nat.lt_of_lt_of_le hbB2 hb.size
      have hx0 : Below wr.heap.size wr (wr.alloc (.cells #[.int .i64 X, .int .i64 Y, .int .i64 z] 60)) := (Below.refl wr.heap.size wr).alloc (Nat.le_refl _) _
      have hbA := bl_step hb hx0 hb.size
      have q1 := (hx0.cell (p := ⟨b2, off2 + X, none⟩) hbw2).trans g0
      have q2 := (hx0.cell (p := ⟨b2, off2 + Y, none⟩) hbw2).trans g1
      have hownA := hown.to hx0
      have cc := Lib.hid (slack_any X Y z px py b2 off2 ps.length d (wr.alloc (.cells #[.int .i64 X, .int .i64 Y, .int .i64 z] 60)) q1 q2 hXl hYl hl16 ⟨by omega, by omega⟩ ⟨by omega, by omega⟩ ⟨z1, z2⟩)
      clear q1 q2 g0 g1 hown uX uY
      generalize py - px - z = v at *
      by_cases hz : v = 0
      · have R := Lib.hid (HT.out (by rw [HK.out, decide_eq_true hz]))
        clear HT HFF HK
        subst hz
        go_wp2_with fail
        refine cc.out.mono ?_
        rintro e w2 ⟨rfl, hb2⟩
        have hown2 := hownA.to hb2
        have bb2 := hbA.trans (hb2.mono hbA.size)
        have hz2 : w.heap.size ≤ w2.heap.size := bb2.size
        clear hownA hb2 hbA f0 f1 f2 cc hx0
        go_wp2_with (at_builtin; refine append_int rfl (.tmp 20) (.tmp 22) rfl w2 w.heap.size _ _ (k : Int) rfl hown2 _ rfl rfl hLl hz2 ?_; intro v6 w6 hown6 hbel6; refine Hid.out ?_)
        have hb6 := hbel6 _ bb2
        refine Lib.hid ?_
        go_wp2
        go_roundw
        case rel => exact ⟨k + 1, by omega, by go_num, by rw [R.out]; exact hown6, hb6, hb6.size⟩
        case measure => simp [intOf]; omega
      · have R := Lib.hid (HFF.out (by rw [HK.out, decide_eq_false hz]))
        have hd2 : (v == 0) = false := by simpa using hz
        clear HT HFF HK
        go_wp2_with fail
        refine cc.out.mono ?_
        rintro e w2 ⟨rfl, hb2⟩
        have hown2 := hownA.to hb2
        have bb2 := hbA.trans (hb2.mono hbA.size)
        clear hownA hb2 hbA f0 f1 f2 cc hx0
        go_wp2
        go_roundw
        case rel => exact ⟨k + 1, by omega, by go_num, by rw [R.out]; exact hown2, bb2, bb2.size⟩
        case measure => simp [intOf]; omega
    · obtain rfl : k = rs.length := by omega
      go_wp2
      go_ret
      exact ⟨⟨_, rfl, hown⟩, hb⟩
/-- TightRules. -/
def tgR (n : Int) (rs : List R3) (ps : List Int) : List Int := if isPl n rs ps = true then tgL ps rs rs.length else []
theorem tgR_len (n : Int) (rs : List R3) (ps : List Int) : (tgR n rs ps).length ≤ 1048576 := by
  unfold tgR
  split
  · rename_i h
    have := (pr_facts (isPl_pr h).1).2.1
    have := tgL_len ps rs rs.length
    omega
  · simp
set_option maxHeartbeats 800000 in
theorem TightRulesS_any (n : Int) (A : Option Addr) (rs : List R3) (c : Nat) (B : Option Addr) (ps : List Int) (d : Nat) (w : World) (hp : RulAt w w.heap.size A rs) (hq : IntsAt w w.heap.size B ps) (hlr : rs.length ≤ 1048576) (hl : ps.length ≤ 1048576) :
    Calls Try.prog 28 #[.agg #[.int .i64 n, .slice A rs.length c], .slice B ps.length d] w (NRes (tgR n rs ps) (isPl n rs ps) w) := by
  have hx : Below w.heap.size w (w.alloc (.cells #[.int .i64 n, .slice A rs.length c] 29)) := by (repeat (first | assumption | exact Below.refl _ _ | (refine bl_alloc ?_ _) | (refine Below.drew ?_) | (refine bl_drewN ?_ _) | (refine bl_set ?_ (by first | (simp; done) | omega | (simp; omega)) _) | (refine bl_trans ?_ (by assumption)) | (refine bl_step ?_ (by assumption) (by first | omega | exact Below.size (by assumption) | (simp; omega) | (simp; exact Below.size (by assumption))))))
  have kp := Blk.new w #[.int .i64 n, .slice A rs.length c] 29
  have c1 := Lib.hid (l09Is_any w.heap.size n A rs c _ (kp.cell 0 rfl) (kp.cell 1 rfl) (hp.to hx) hlr)
  cases hv : prB n rs
  · have R : Hid (isPl n rs ps = false) := by show _ = _; unfold isPl; rw [hv]; rfl
    have R2 : Hid (tgR n rs ps = []) := by show _ = _; unfold tgR; rw [R.out]; rfl
    rw [hv] at c1
    rw [R.out, R2.out]
    clear hp hq hv
    go_enter Try.func28, Try.ntmps28
    go_wp2_with fail
    refine c1.out.mono ?_
    rintro e w1 ⟨rfl, hb1⟩
    go_wp2
    go_ret2
    exact ⟨none, 0, rfl, Own4.none_ _ _ _, bl_step hx hb1 hx.size⟩
  · have c2 := Lib.hid (fun (wx : World) (hb : Below (w.alloc (.cells #[.int .i64 n, .slice A rs.length c] 29)).heap.size (w.alloc (.cells #[.int .i64 n, .slice A rs.length c] 29)) wx) => l09Placed_any w.heap.size n A rs c B ps d wx ((kp.to hb).cell 0 rfl) ((kp.to hb).cell 1 rfl) ((hp.to hx).to hb) ((hq.to hx).to hb) hl hv)
    have c3 := Lib.hid (fun (wx : World) (hi : isPl n rs ps = true) (hb : Below (w.alloc (.cells #[.int .i64 n, .slice A rs.length c] 29)).heap.size (w.alloc (.cells #[.int .i64 n, .slice A rs.length c] 29)) wx) => l09Tight_any w.heap.size n A rs c B ps d wx ((kp.to hb).cell 0 rfl) ((kp.to hb).cell 1 rfl) ((hp.to hx).to hb) ((hq.to hx).to hb) hi)
    rw [hv] at c1
    cases hpl : plB n rs ps
    · have R : Hid (isPl n rs ps = false) := by show _ = _; unfold isPl; rw [hv, hpl]; rfl
      have R2 : Hid (tgR n rs ps = []) := by show _ = _; unfold tgR; rw [R.out]; rfl
      rw [hpl] at c2
      rw [R.out, R2.out]
      clear hp hq hv hpl c3
      go_enter Try.func28, Try.ntmps28
      go_wp2_with fail
      refine c1.out.mono ?_
      rintro e w1 ⟨rfl, hb1⟩
      go_wp2_with fail
      refine (c2.out _ hb1).mono ?_
      rintro e w2 ⟨rfl, hb2⟩
      go_wp2
      go_ret2
      exact ⟨none, 0, rfl, Own4.none_ _ _ _, bl_trans (bl_step hx hb1 hx.size) hb2⟩
    · have hi : isPl n rs ps = true := by unfold isPl; rw [hv, hpl]; rfl
      have R := Lib.hid hi
      have R2 : Hid (tgR n rs ps = tgL ps rs rs.length) := by show _ = _; unfold tgR; rw [if_pos hi]
      rw [hpl] at c2
      rw [R.out, R2.out]
      clear hp hq hv hpl hi
      go_enter Try.func28, Try.ntmps28
      go_wp2_with fail
      refine c1.out.mono ?_
      rintro e w1 ⟨rfl, hb1⟩
      go_wp2_with fail
      refine (c2.out _ hb1).mono ?_
      rintro e w2 ⟨rfl, hb2⟩
      go_wp2_with fail
      refine (c3.out _ R.out (bl_trans hb1 hb2)).mono ?_
      rintro e w3 ⟨⟨v, rfl, hown⟩, hb3⟩
      have bb := bl_trans (bl_step hx hb1 hx.size) hb2
      obtain ⟨A4, c4, rfl, h4⟩ := own4_of (hown.mono (C := w.heap.size) bb.size)
      go_wp2
      go_ret2
      exact ⟨A4, c4, rfl, h4, bl_trans bb hb3⟩
theorem tightClo_any (n : Int) (A : Option Addr) (rs : List R3) (c : Nat) (B : Option Addr) (ps : List Int) (d : Nat) (Z Y : Nat) (w : World) (c0 : w.cell? ⟨Z, 0, none⟩ = some (.int .i64 n)) (c1 : w.cell? ⟨Z, 1, none⟩ = some (.slice A rs.length c)) (c2 : w.cell? ⟨Y, 0, none⟩ = some (.slice B ps.length d))
    (hp : RulAt w w.heap.size A rs) (hq : IntsAt w w.heap.size B ps) (hlr : rs.length ≤ 1048576) (hl : ps.length ≤ 1048576) :
    Calls Try.prog 68 #[.pointer (some ⟨Z, 0, none⟩), .pointer (some ⟨Y, 0, none⟩)] w fun e w' => ((∃ v, e = .returned v ∧ OwnI w' w.heap.size v (tgR n rs ps) ∧ isPl n rs ps = true) ∨ (Pan e ∧ isPl n rs ps = false)) ∧ Below w.heap.size w w' := by
  have hZ : Z < w.heap.size := World.block_lt_of_cell? w _ c0
  have hY : Y < w.heap.size := World.block_lt_of_cell? w _ c2
  have cI := Lib.hid (IsPlacedI_any n A rs c B ps d w hp hq hlr hl)
  cases hi : isPl n rs ps
  · rw [hi] at cI
    clear hp hq
    go_enter Try.func68, Try.ntmps68
    go_wp2_with fail
    refine cI.out.mono ?_
    rintro e w1 ⟨rfl, hb1⟩
    go_wp2_with fail
    refine (require_no _).mono ?_
    rintro e w2 ⟨⟨u, pv, rfl⟩, rfl⟩
    go_wp2
    exact ⟨rfl, .inr ⟨⟨_, _, rfl⟩, by simp⟩, hb1⟩
  · have cT := Lib.hid (fun (wx : World) (hb : Below w.heap.size w wx) => tightRules_any n A rs c B ps d wx (hp.to hb) (hq.to hb) hi)
    have R2 : Hid (tgR n rs ps = tgL ps rs rs.length) := by show _ = _; unfold tgR; rw [if_pos hi]
    rw [hi] at cI
    rw [R2.out]
    clear hp hq
    go_enter Try.func68, Try.ntmps68
    go_wp2_with fail
    refine cI.out.mono ?_
    rintro e w1 ⟨rfl, hb1⟩
    have s0 := (hb1.cell (p := ⟨Z, 0, none⟩) hZ).trans c0
    have s1 := (hb1.cell (p := ⟨Z, 1, none⟩) hZ).trans c1
    have s2 := (hb1.cell (p := ⟨Y, 0, none⟩) hY).trans c2
    go_wp2_with fail
    refine (require_yes _).mono ?_
    rintro e w2 ⟨rfl, rfl⟩
    go_wp2_with fail
    refine (cT.out _ hb1).mono ?_
    rintro e w3 ⟨⟨v, rfl, hown⟩, hb3⟩
    go_wp2
    go_ret
    exact ⟨.inl ⟨v, rfl, hown.mono hb1.size, by simp⟩, bl_trans hb1 hb3⟩
set_option maxRecDepth 100000 in
set_option maxHeartbeats 800000 in
theorem TightRulesI_any (n : Int) (A : Option Addr) (rs : List R3) (c : Nat) (B : Option Addr) (ps : List Int) (d : Nat) (w : World) (hp : RulAt w w.heap.size A rs) (hq : IntsAt w w.heap.size B ps) (hlr : rs.length ≤ 1048576) (hl : ps.length ≤ 1048576) :
    Calls Try.prog 29 #[.agg #[.int .i64 n, .slice A rs.length c], .slice B ps.length d] w (NRes (tgR n rs ps) (isPl n rs ps) w) := by
  have hx : Below w.heap.size w ((w.alloc (.cells #[.int .i64 n, .slice A rs.length c] 29)).alloc (.cells #[.slice B ps.length d] 33)) := by (repeat (first | assumption | exact Below.refl _ _ | (refine bl_alloc ?_ _) | (refine Below.drew ?_) | (refine bl_drewN ?_ _) | (refine bl_set ?_ (by first | (simp; done) | omega | (simp; omega)) _) | (refine bl_trans ?_ (by assumption)) | (refine bl_step ?_ (by assumption) (by first | omega | exact Below.size (by assumption) | (simp; omega) | (simp; exact Below.size (by assumption))))))
  have kp : Blk ((w.alloc (.cells #[.int .i64 n, .slice A rs.length c] 29)).alloc (.cells #[.slice B ps.length d] 33)) w.heap.size #[.int .i64 n, .slice A rs.length c] 29 := (Blk.new _ _ _).alloc _
  have kb : Blk ((w.alloc (.cells #[.int .i64 n, .slice A rs.length c] 29)).alloc (.cells #[.slice B ps.length d] 33)) (w.heap.size + 1) #[.slice B ps.length d] 33 := by
    have := Blk.new (w.alloc (.cells #[.int .i64 n, .slice A rs.length c] 29)) #[.slice B ps.length d] 33
    rwa [World.size_alloc] at this
  have cc := Lib.hid (fun (wx : World) (hb : Below ((w.alloc (.cells #[.int .i64 n, .slice A rs.length c] 29)).alloc (.cells #[.slice B ps.length d] 33)).heap.size ((w.alloc (.cells #[.int .i64 n, .slice A rs.length c] 29)).alloc (.cells #[.slice B ps.length d] 33)) wx) => tightClo_any n A rs c B ps d w.heap.size (w.heap.size + 1) wx ((kp.to hb).cell 0 rfl) ((kp.to hb).cell 1 rfl) ((kb.to hb).cell 0 rfl) ((hp.to hx).to hb) ((hq.to hx).to hb) hlr hl)
  have HNO : Hid (isPl n rs ps = false → tgR n rs ps = [] ∧ isPl n rs ps = false) := fun h => ⟨by unfold tgR; rw [h]; rfl, h⟩
  clear hp hq kp kb
  generalize tgR n rs ps = L at *
  generalize isPl n rs ps = ok at *
  go_enter Try.func29, Try.ntmps29
  go_wp2_with fail
  generalize ((w.alloc (.cells #[.int .i64 n, .slice A rs.length c] 29)).alloc (.cells #[.slice B ps.length d] 33)) = w1 at *
  have hx1 : Below w1.heap.size w1 (w1.alloc (.cells #[.bool false] 4)) := by (repeat (first | assumption | exact Below.refl _ _ | (refine bl_alloc ?_ _) | (refine Below.drew ?_) | (refine bl_drewN ?_ _) | (refine bl_set ?_ (by first | (simp; done) | omega | (simp; omega)) _) | (refine bl_trans ?_ (by assumption)) | (refine bl_step ?_ (by assumption) (by first | omega | exact Below.size (by assumption) | (simp; omega) | (simp; exact Below.size (by assumption))))))
  refine (attemptNs_any 68 _ w1 (fun v w2 => OwnI w2 (w1.heap.size + 1) v L ∧ ok = true) (ok = false) (fun _ _ => by first | rfl | (simp [go_sem]; done)) ((cc.out _ hx1).mono ?_)).mono ?_
  · rintro e w2 ⟨h, hb⟩
    refine ⟨?_, hb⟩
    rcases h with ⟨v, rfl, h1, h2⟩ | ⟨h1, h2⟩
    · exact .inl ⟨v, rfl, by rw [World.size_alloc] at h1; exact h1, h2⟩
    · exact .inr ⟨h1, h2⟩
  rintro e w2 h
  obtain ⟨A4, c4, rfl, h4, hb4⟩ := nres_att h HNO.out
  go_wp2
  go_ret2
  exact ⟨A4, c4, rfl, fun h0 => by obtain ⟨g, e1, hg, hI⟩ := h4 h0; exact ⟨g, e1, Nat.le_trans hx.size hg, hI⟩, bl_step hx hb4 hx.size⟩
end Go.Proofs.Ytgpcfkegbcpkpaa
