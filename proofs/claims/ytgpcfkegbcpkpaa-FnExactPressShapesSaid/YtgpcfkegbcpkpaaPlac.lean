/-
  Contracts: do places keep the rules of a valid press, as the model has it and as the program has it.
-/
import Derived.Test.YtgpcfkegbcpkpaaPresV
namespace Go.Proofs.Ytgpcfkegbcpkpaa
set_option linter.unusedSimpArgs false
set_option linter.unusedVariables false
open Go.ChangeShapes Go.WideShapes Go.ChangeAt Go.RowKit Go.BigFrame

def plcB (ps : List Int) (k : Nat) : Bool := inB (ps.getD k 0) 0 16000
def kptB (ps : List Int) (rs : List R3) (k : Nat) : Bool := !tst ps (rs.getD k r30)
/-- Places of a valid press. -/
def plB (n : Int) (rs : List R3) (ps : List Int) : Bool := decide ((ps.length : Int) = n) && (okTo (plcB ps) ps.length && okTo (kptB ps rs) rs.length)
theorem plB_n {n : Int} {rs : List R3} {ps : List Int} (h : ¬ (ps.length : Int) = n) : plB n rs ps = false := by unfold plB; rw [decide_eq_false h]; rfl
theorem plB_p {n : Int} {rs : List R3} {ps : List Int} (h : okTo (plcB ps) ps.length = false) : plB n rs ps = false := by unfold plB; rw [h]; simp
theorem plB_t {n : Int} {rs : List R3} {ps : List Int} (h : (ps.length : Int) = n) (h2 : okTo (plcB ps) ps.length = true) : plB n rs ps = okTo (kptB ps rs) rs.length := by unfold plB; rw [decide_eq_true h, h2]; rfl
/-- What a valid press says. -/
theorem pr_facts {n : Int} {rs : List R3} (h : prB n rs = true) : (1 ≤ n ∧ n ≤ 16) ∧ rs.length ≤ 40 ∧ ∀ k, k < rs.length → ruB n (rs.getD k r30) = true := by
  unfold prB at h
  simp only [Bool.and_eq_true, decide_eq_true_eq] at h
  obtain ⟨h1, h2, h3⟩ := h
  exact ⟨of_decide_eq_true h1, h2, fun k hk => okTo_iff.1 h3 k hk⟩
theorem ru_facts {n : Int} {r : R3} (h : ruB n r = true) (hn : n ≤ 16) : ∃ X Y : Nat, r.1 = (X : Int) ∧ r.2.1 = (Y : Int) ∧ (X : Int) < n ∧ (Y : Int) < n ∧ X ≠ Y ∧ -1000 ≤ r.2.2 ∧ r.2.2 ≤ 1000 := by
  unfold ruB inB at h
  simp only [Bool.and_eq_true, decide_eq_true_eq, Bool.not_eq_true', decide_eq_false_iff_not] at h
  obtain ⟨⟨a, b⟩, ⟨c, d⟩, e, f, g⟩ := h
  exact ⟨r.1.toNat, r.2.1.toNat, by omega, by omega, by omega, by omega, by omega, f, g⟩
theorem plc_at {ps : List Int} (h : okTo (plcB ps) ps.length = true) {k : Nat} (hk : k < ps.length) : 0 ≤ ps.getD k 0 ∧ ps.getD k 0 ≤ 16000 := of_decide_eq_true (okTo_iff.1 h k hk)

set_option maxRecDepth 100000 in
set_option maxHeartbeats 3200000 in
theorem l09Placed_any (g : Nat) (n : Int) (A : Option Addr) (rs : List R3) (c : Nat) (B : Option Addr) (ps : List Int) (d : Nat) (w : World) (c0 : w.cell? ⟨g, 0, none⟩ = some (.int .i64 n)) (c1 : w.cell? ⟨g, 1, none⟩ = some (.slice A rs.length c))
    (hp : RulAt w w.heap.size A rs) (hq : IntsAt w w.heap.size B ps) (hl : ps.length ≤ 1048576) (hv : prB n rs = true) :
    Calls Try.prog 58 #[.pointer (some ⟨g, 0, none⟩), .slice B ps.length d] w fun e w' => e = .returned (.bool (plB n rs ps)) ∧ Below w.heap.size w w' := by
  have hg : g < w.heap.size := World.block_lt_of_cell? w _ c0
  obtain ⟨⟨n1, n16⟩, h40, hru⟩ := pr_facts hv
  have h40I : (rs.length : Int) ≤ 40 := by omega
  have hlI : (ps.length : Int) ≤ 1048576 := by omega
  clear hv
  by_cases hn : (ps.length : Int) = n
  case neg =>
    have R : Hid (plB n rs ps = false) := plB_n hn
    have hne : ((ps.length : Int) != n) = true := by simpa using hn
    rw [R.out]
    clear hp hq hru hn
    go_enter Try.func58, Try.ntmps58
    go_wp2
    go_ret
    exact ⟨rfl, Below.refl _ _⟩
  have hne : ((ps.length : Int) != n) = false := by simpa using hn
  have HN := Lib.hid hn
  have HP := Lib.hid (fun h => plB_p (n := n) (rs := rs) (ps := ps) h)
  have HT := Lib.hid (fun h => plB_t (n := n) (rs := rs) (ps := ps) hn h)
  have HRU := Lib.hid hru
  clear hru hn
  go_enter Try.func58, Try.ntmps58
  go_wp2
  go_loop [5] (fun i => ∃ k : Nat, k ≤ ps.length ∧ i = .int .i64 k ∧ Hid (okTo (plcB ps) k = true)) (fun i => ps.length - (intOf i).toNat)
  case atStart => exact ⟨0, Nat.zero_le _, rfl, rfl⟩
  case round =>
    obtain ⟨k, hk, rfl, HX⟩ := hrel
    have hk0 : (0 : Int) ≤ (k : Int) := by omega
    by_cases hlt : k < ps.length
    · obtain ⟨b, off, rfl, hbB, hc⟩ := hq (by omega)
      have e0 := hc k hlt
      have hltI : (k : Int) < (ps.length : Int) := by omega
      cases hin : plcB ps k
      · have R := Lib.hid (HP.out (okTo_bad hlt hin))
        have HI : Hid (inB (ps.getD k 0) 0 16000 = false) := hin
        clear hc hin
        generalize ps.getD k 0 = x at *
        go_wp2_with (go_at_call 72; refine (l00In_at HI _).mono ?_; rintro e w' ⟨rfl, rfl⟩)
        go_ret
        exact ⟨retB R.out.symm, Below.refl _ _⟩
      · have HX2 : Hid (okTo (plcB ps) (k + 1) = true) := okTo_next HX.out hin
        have HI : Hid (inB (ps.getD k 0) 0 16000 = true) := hin
        clear hc hin
        generalize ps.getD k 0 = x at *
        go_wp2_with (go_at_call 72; refine (l00In_at HI _).mono ?_; rintro e w' ⟨rfl, rfl⟩)
        go_round
        case rel => exact ⟨k + 1, by omega, by go_num, HX2⟩
        case measure => simp [intOf]; omega
    · have HF : Hid (okTo (plcB ps) ps.length = true) := by
        have := HX.out
        rw [show k = ps.length by omega] at this
        exact this
      have HTT := Lib.hid (HT.out HF.out)
      clear HX HP HT
      go_wp2
      go_loopw [6] (fun i wr => ∃ k : Nat, k ≤ rs.length ∧ i = .int .i64 k ∧ Hid (okTo (kptB ps rs) k = true) ∧ Below w.heap.size w wr) (fun i _ => rs.length - (intOf i).toNat)
      case atStart => exact ⟨0, Nat.zero_le _, rfl, rfl, Below.refl _ _⟩
      case round =>
        obtain ⟨k, hk, rfl, HX, hb⟩ := hrel
        have d0 := (hb.cell (p := ⟨g, 0, none⟩) hg).trans c0
        have d1 := (hb.cell (p := ⟨g, 1, none⟩) hg).trans c1
        have hk0 : (0 : Int) ≤ (k : Int) := by omega
        by_cases hlt : k < rs.length
        · obtain ⟨b, off, rfl, hbB, hc⟩ := hp (by omega)
          obtain ⟨e0, e1, e2⟩ := hc k hlt
          have f0 := (hb.cell (p := ⟨b, off + k * 3, none⟩) hbB).trans e0
          have f1 := (hb.cell (p := ⟨b, off + k * 3 + 1, none⟩) hbB).trans e1
          have f2 := (hb.cell (p := ⟨b, off + k * 3 + 2, none⟩) hbB).trans e2
          have hltI : (k : Int) < (rs.length : Int) := by omega
          have hgw : g < wr.heap.size := Nat.lt_of_lt_of_le hg hb.size
          obtain ⟨X, Y, hX, hY, hXn, hYn, _, z1, z2⟩ := ru_facts (HRU.out k hlt) n16
          have hXl : X < ps.length := by have := HN.out; omega
          have hYl : Y < ps.length := by have := HN.out; omega
          obtain ⟨b2, off2, rfl, hbB2, hc2⟩ := hq (by omega)
          have g0 := (hb.cell (p := ⟨b2, off2 + X, none⟩) hbB2).trans (hc2 X hXl)
          have g1 := (hb.cell (p := ⟨b2, off2 + Y, none⟩) hbB2).trans (hc2 Y hYl)
          obtain ⟨u0, u1⟩ := plc_at HF.out hXl
          obtain ⟨v0, v1⟩ := plc_at HF.out hYl
          have HB := Lib.hid (fun (h : kptB ps rs k = false) => okTo_bad (f := kptB ps rs) hlt h)
          have HNX := Lib.hid (fun (h : kptB ps rs k = true) => okTo_next (f := kptB ps rs) HX.out h)
          have HK : Hid (kptB ps rs k = !decide (ps.getD Y 0 < ps.getD X 0 + (rs.getD k r30).2.2)) := by
            show _ = _
            unfold kptB tst atP
            rw [hX, hY]; rfl
          clear hc hc2 e0 e1 e2 hp hq c0 c1
          rw [hX] at f0
          rw [hY] at f1
          generalize (rs.getD k r30).2.2 = z at *
          generalize ps.getD X 0 = px at *
          generalize ps.getD Y 0 = py at *
          have hbw2 : b2 < wr.heap.size := Nat.lt_of_lt_of_le hbB2 hb.size
          have hXI : (X : Int) < (ps.length : Int) := by omega
          have hYI : (Y : Int) < (ps.length : Int) := by omega
          have kr := Blk.new wr #[.int .i64 X, .int .i64 Y, .int .i64 z] 60
          have hx0 : Below wr.heap.size wr (wr.alloc (.cells #[.int .i64 X, .int .i64 Y, .int .i64 z] 60)) := (Below.refl wr.heap.size wr).alloc (Nat.le_refl _) _
          have hbA := bl_step hb hx0 hb.size
          have q1 := (hx0.cell (p := ⟨b2, off2 + X, none⟩) hbw2).trans g0
          have q2 := (hx0.cell (p := ⟨b2, off2 + Y, none⟩) hbw2).trans g1
          have r0 := kr.cell 0 (v := .int .i64 X) rfl
          have r1 := kr.cell 1 (v := .int .i64 Y) rfl
          have r2 := kr.cell 2 (v := .int .i64 z) rfl
          have hrl := kr.lt
          have hA2 : b2 < (wr.alloc (.cells #[.int .i64 X, .int .i64 Y, .int .i64 z] 60)).heap.size := by simp; omega
          clear kr
          by_cases hz : py < px + z
          · have R := Lib.hid (HB.out (by rw [HK.out, decide_eq_true hz]; rfl))
            have hd : decide (py < px + z) = true := decide_eq_true hz
            clear HB HNX HK
            go_wp2_with fail
            clear d0 d1 f0 f1 f2 hb g0 g1 hx0 hz
            generalize (wr.alloc (.cells #[.int .i64 X, .int .i64 Y, .int .i64 z] 60)) = wA at *
            generalize wr.heap.size = N at *
            refine wp_region_over (by kernel_rfl) (by kernel_rfl) ?_
            have hov := over_cells wA
            repeat (go_big_quiet_step ((fail)))
            refine over_nil (fun w2 hb2 => ?_)
            clear hov
            go_wp2
            go_ret
            exact ⟨retB (by rw [HTT.out, R.out]), hbA.trans (hb2.mono hbA.size)⟩
          · have R := Lib.hid (HNX.out (by rw [HK.out, decide_eq_false hz]; rfl))
            have hd : decide (py < px + z) = false := decide_eq_false hz
            clear HB HNX HK
            go_wp2_with fail
            clear d0 d1 f0 f1 f2 hb g0 g1 hx0 hz
            generalize (wr.alloc (.cells #[.int .i64 X, .int .i64 Y, .int .i64 z] 60)) = wA at *
            generalize wr.heap.size = N at *
            refine wp_region_over (by kernel_rfl) (by kernel_rfl) ?_
            have hov := over_cells wA
            repeat (go_big_quiet_step ((fail)))
            refine over_nil (fun w2 hb2 => ?_)
            clear hov
            go_wp2
            go_roundw
            case rel => exact ⟨k + 1, by omega, by go_num, R, hbA.trans (hb2.mono hbA.size)⟩
            case measure => simp [intOf]; omega
        · have HG : Hid (okTo (kptB ps rs) rs.length = true) := by
            have := HX.out
            rw [show k = rs.length by omega] at this
            exact this
          go_wp2
          go_ret
          exact ⟨retB (by rw [HTT.out, HG.out]), hb⟩
theorem isNoPlace_any (n : Int) (b : Bool) (h : Hid (inB n 0 16000 = b)) (w : World) :
    Calls Try.prog 100 #[.int .i64 n] w fun e w' => e = .returned (.bool (!b)) ∧ w = w' := by
  by_cases h1 : n < 0
  · have H : Hid (b = false) := by
      show _ = _
      rw [← h.out]; exact inB_f (by omega)
    have hd : decide (n < 0) = true := decide_eq_true h1
    rw [H.out]
    clear h h1
    go_enter Try.func100, Try.ntmps100
    go_wp2
    go_ret
    exact ⟨rfl, rfl⟩
  · have H : Hid ((!b) = decide (16000 < n)) := by
      show _ = _
      rw [← h.out]; unfold inB
      by_cases h2 : 16000 < n
      · rw [decide_eq_true h2, decide_eq_false (by omega)]; rfl
      · rw [decide_eq_false h2, decide_eq_true (by omega)]; rfl
    have hd : decide (n < 0) = false := decide_eq_false h1
    clear h h1
    go_enter Try.func100, Try.ntmps100
    go_wp2
    go_ret
    exact ⟨retB H.out.symm, rfl⟩
/-- -1 where all hold, and an index where one does not. -/
def IdxL (b : Bool) (w : World) (e : Ending) (w' : World) : Prop :=
  ∃ r : Int, e = .returned (.int .i64 r) ∧ w = w' ∧ decide (0 ≤ r) = !b ∧ -1 ≤ r ∧ r ≤ 1048576
set_option maxHeartbeats 800000 in
theorem indexPlace_any (A : Option Addr) (R : List Int) (c : Nat) (w : World) (hp : IntsAt w w.heap.size A R) (hn : R.length ≤ 1048576) :
    Calls Try.prog 119 #[.slice A R.length c, .func (.func 100) #[] #[]] w (IdxL (okTo (plcB R) R.length) w) := by
  have hnI : (R.length : Int) ≤ 1048576 := by omega
  go_enter Try.func119, Try.ntmps119
  go_wp2
  go_loop [5, 8] (fun _ i => ∃ k : Nat, k ≤ R.length ∧ i = .int .i64 k ∧ Hid (okTo (plcB R) k = true)) (fun _ i => R.length - (intOf i).toNat)
  case atStart => exact ⟨0, Nat.zero_le _, rfl, rfl⟩
  case round =>
    obtain ⟨k, hk, rfl, HX⟩ := hrel
    have hk0 : (0 : Int) ≤ (k : Int) := by omega
    by_cases hlt : k < R.length
    · obtain ⟨b, off, rfl, hbB, hc⟩ := hp (by omega)
      have d0 := hc k hlt
      have hltI : (k : Int) < (R.length : Int) := by omega
      cases hin : plcB R k
      · have HF : Hid (okTo (plcB R) R.length = false) := okTo_bad hlt hin
        have HI : Hid (inB (R.getD k 0) 0 16000 = false) := hin
        clear hc hin hp
        generalize R.getD k 0 = v at *
        go_wp2_with (go_at_call 100; refine (isNoPlace_any _ _ HI _).mono ?_; rintro e w' ⟨rfl, rfl⟩)
        go_ret
        exact ⟨k, rfl, rfl, by rw [HF.out]; exact decide_eq_true (by omega), by omega, by omega⟩
      · have HX2 : Hid (okTo (plcB R) (k + 1) = true) := okTo_next HX.out hin
        have HI : Hid (inB (R.getD k 0) 0 16000 = true) := hin
        clear hc hin hp
        generalize R.getD k 0 = v at *
        go_wp2_with (go_at_call 100; refine (isNoPlace_any _ _ HI _).mono ?_; rintro e w' ⟨rfl, rfl⟩)
        go_round
        case rel => exact ⟨k + 1, by omega, by go_num, HX2⟩
        case measure => simp [intOf]; omega
    · have HF : Hid (okTo (plcB R) R.length = true) := by
        have := HX.out
        rw [show k = R.length by omega] at this
        exact this
      go_wp2
      go_ret
      exact ⟨-1, rfl, rfl, by rw [HF.out]; rfl, by omega, by omega⟩
theorem containsPlace_any (A : Option Addr) (R : List Int) (c : Nat) (w : World) (hp : IntsAt w w.heap.size A R) (hn : R.length ≤ 1048576) :
    Calls Try.prog 99 #[.slice A R.length c, .func (.func 100) #[] #[]] w fun e w' => e = .returned (.bool (!okTo (plcB R) R.length)) ∧ w = w' := by
  go_enter Try.func99, Try.ntmps99
  go_wp2_with fail
  refine (indexPlace_any _ _ _ _ hp hn).mono ?_
  rintro e w' ⟨r, rfl, rfl, hd, h1, h2⟩
  have HD := Lib.hid hd
  clear hd
  go_wp2
  go_ret
  exact ⟨retB HD.out, rfl⟩
set_option maxHeartbeats 1600000 in
theorem slack_any (X Y : Nat) (z px py : Int) (b off l c : Nat) (w : World) (g0 : w.cell? ⟨b, off + X, none⟩ = some (.int .i64 px)) (g1 : w.cell? ⟨b, off + Y, none⟩ = some (.int .i64 py)) (hX : X < l) (hY : Y < l) (hl : l ≤ 16) (u : 0 ≤ px ∧ px ≤ 1000000) (v : 0 ≤ py ∧ py ≤ 1000000) (hz : -1000 ≤ z ∧ z ≤ 1000) :
    Calls Try.prog 102 #[.agg #[.int .i64 X, .int .i64 Y, .int .i64 z], .slice (some ⟨b, off, none⟩) l c] w fun e w' => e = .returned (.int .i64 (py - px - z)) ∧ Below w.heap.size w w' := by
  have hb : b < w.heap.size := World.block_lt_of_cell? w _ g0
  have hXI : (X : Int) < (l : Int) := by omega
  have hYI : (Y : Int) < (l : Int) := by omega
  have hlI : (l : Int) ≤ 16 := by omega
  obtain ⟨u0, u1⟩ := u
  obtain ⟨v0, v1⟩ := v
  obtain ⟨z0, z1⟩ := hz
  have kr := Blk.new w #[.int .i64 X, .int .i64 Y, .int .i64 z] 60
  have hx0 : Below w.heap.size w (w.alloc (.cells #[.int .i64 X, .int .i64 Y, .int .i64 z] 60)) := (Below.refl w.heap.size w).alloc (Nat.le_refl _) _
  have q1 := (hx0.cell (p := ⟨b, off + X, none⟩) hb).trans g0
  have q2 := (hx0.cell (p := ⟨b, off + Y, none⟩) hb).trans g1
  have r0 := kr.cell 0 (v := .int .i64 X) rfl
  have r1 := kr.cell 1 (v := .int .i64 Y) rfl
  have r2 := kr.cell 2 (v := .int .i64 z) rfl
  have hrl := kr.lt
  have hA2 : b < (w.alloc (.cells #[.int .i64 X, .int .i64 Y, .int .i64 z] 60)).heap.size := by simp; omega
  clear kr g0 g1
  go_enter Try.func102, Try.ntmps102
  go_wp2_with fail
  generalize (w.alloc (.cells #[.int .i64 X, .int .i64 Y, .int .i64 z] 60)) = wA at *
  refine wp_region_over (by kernel_rfl) (by kernel_rfl) ?_
  have hov := over_cells wA
  repeat (go_big_quiet_step ((fail)))
  refine over_nil (fun w2 hb2 => ?_)
  clear hov
  go_wp2
  go_ret
  exact ⟨rfl, bl_step hx0 hb2 hx0.size⟩
theorem placClo_any (r : R3) (n : Int) (B : Option Addr) (ps : List Int) (d : Nat) (Z : Nat) (w : World) (c0 : w.cell? ⟨Z, 0, none⟩ = some (.slice B ps.length d)) (hq : IntsAt w w.heap.size B ps) (hr : ruB n r = true) (hn : n ≤ 16) (hl : (ps.length : Int) = n) (ho : okTo (plcB ps) ps.length = true) :
    Calls Try.prog 101 #[.agg #[.int .i64 r.1, .int .i64 r.2.1, .int .i64 r.2.2], .pointer (some ⟨Z, 0, none⟩)] w fun e w' => e = .returned (.bool (tst ps r)) ∧ Below w.heap.size w w' := by
  obtain ⟨X, Y, hX, hY, hXn, hYn, _, z1, z2⟩ := ru_facts hr hn
  have hXl : X < ps.length := by omega
  have hYl : Y < ps.length := by omega
  have hZ : Z < w.heap.size := World.block_lt_of_cell? w _ c0
  have hx : Below w.heap.size w (w.alloc (.cells #[.int .i64 r.1, .int .i64 r.2.1, .int .i64 r.2.2] 60)) := by (repeat (first | assumption | exact Below.refl _ _ | (refine bl_alloc ?_ _) | (refine Below.drew ?_) | (refine bl_drewN ?_ _) | (refine bl_set ?_ (by first | (simp; done) | omega | (simp; omega)) _) | (refine bl_trans ?_ (by assumption)) | (refine bl_step ?_ (by assumption) (by first | omega | exact Below.size (by assumption) | (simp; omega) | (simp; exact Below.size (by assumption))))))
  obtain ⟨b, off, rfl, hbB, hc⟩ := hq (by omega)
  have cc := Lib.hid (slack_any X Y r.2.2 (ps.getD X 0) (ps.getD Y 0) b off ps.length d _ ((hx.cell (p := ⟨b, off + X, none⟩) hbB).trans (hc X hXl)) ((hx.cell (p := ⟨b, off + Y, none⟩) hbB).trans (hc Y hYl)) hXl hYl (by omega) (by have := plc_at ho hXl; omega) (by have := plc_at ho hYl; omega) ⟨z1, z2⟩)
  have HK : Hid (tst ps r = decide (ps.getD Y 0 - ps.getD X 0 - r.2.2 < 0)) := by
    show _ = _
    unfold tst atP
    rw [hX, hY]
    simp only [Int.toNat_natCast, decide_eq_decide]
    omega
  obtain ⟨x, y, z⟩ := r
  simp only at hX hY cc HK hx
  subst hX hY
  clear hc hq hr ho
  generalize ps.getD X 0 = px at *
  generalize ps.getD Y 0 = py at *
  rw [HK.out]
  generalize py - px - z = v at *
  go_enter Try.func101, Try.ntmps101
  go_wp2_with fail
  refine cc.out.mono ?_
  rintro e w1 ⟨rfl, hb1⟩
  go_wp2
  go_ret
  exact ⟨rfl, bl_step hx hb1 hx.size⟩
set_option maxRecDepth 100000 in
set_option maxHeartbeats 1600000 in
theorem hasPlaces_any (n : Int) (A : Option Addr) (rs : List R3) (c : Nat) (B : Option Addr) (ps : List Int) (d : Nat) (w : World) (hp : RulAt w w.heap.size A rs) (hq : IntsAt w w.heap.size B ps) (hl : ps.length ≤ 1048576) (hv : prB n rs = true) :
    Calls Try.prog 59 #[.agg #[.int .i64 n, .slice A rs.length c], .slice B ps.length d] w fun e w' => e = .returned (.bool (plB n rs ps)) ∧ Below w.heap.size w w' := by
  obtain ⟨⟨n1, n16⟩, h40, hru⟩ := pr_facts hv
  have hx : Below w.heap.size w ((w.alloc (.cells #[.int .i64 n, .slice A rs.length c] 29)).alloc (.cells #[.slice B ps.length d] 33)) := by (repeat (first | assumption | exact Below.refl _ _ | (refine bl_alloc ?_ _) | (refine Below.drew ?_) | (refine bl_drewN ?_ _) | (refine bl_set ?_ (by first | (simp; done) | omega | (simp; omega)) _) | (refine bl_trans ?_ (by assumption)) | (refine bl_step ?_ (by assumption) (by first | omega | exact Below.size (by assumption) | (simp; omega) | (simp; exact Below.size (by assumption))))))
  clear hv
  by_cases hn : (ps.length : Int) = n
  case neg =>
    have R : Hid (plB n rs ps = false) := plB_n hn
    have hne : ((ps.length : Int) == n) = false := by simpa using hn
    rw [R.out]
    clear hp hq hru
    go_enter Try.func59, Try.ntmps59
    go_wp2
    go_ret
    exact ⟨rfl, hx⟩
  have hne : ((ps.length : Int) == n) = true := by simpa using hn
  cases ho : okTo (plcB ps) ps.length
  · have R : Hid (plB n rs ps = false) := plB_p ho
    have cp := Lib.hid (containsPlace_any B ps d _ (hq.to hx) hl)
    rw [R.out]
    rw [ho] at cp
    clear hp hq hru ho
    go_enter Try.func59, Try.ntmps59
    go_wp2_with fail
    refine cp.out.mono ?_
    rintro e w1 ⟨rfl, rfl⟩
    go_wp2
    go_ret
    exact ⟨rfl, hx⟩
  · have R : Hid (plB n rs ps = okTo (kptB ps rs) rs.length) := plB_t hn ho
    have cp := Lib.hid (containsPlace_any B ps d _ (hq.to hx) hl)
    have kb : Blk ((w.alloc (.cells #[.int .i64 n, .slice A rs.length c] 29)).alloc (.cells #[.slice B ps.length d] 33)) (w.heap.size + 1) #[.slice B ps.length d] 33 := by
      have := Blk.new (w.alloc (.cells #[.int .i64 n, .slice A rs.length c] 29)) #[.slice B ps.length d] 33
      rwa [World.size_alloc] at this
    have cc := Lib.hid (containsRule_any 101 (w.heap.size + 1) (kptB ps rs) A rs c _ (fun _ _ => by first | rfl | (simp [go_sem]; done)) (hp.to hx) (by omega)
      (fun k hk wx hb => by
        have := placClo_any (rs.getD k r30) n B ps d (w.heap.size + 1) wx ((kb.to hb).cell 0 rfl) ((hq.to hx).to hb) (hru k hk) n16 hn ho
        rw [show tst ps (rs.getD k r30) = !kptB ps rs k by unfold kptB; simp] at this
        exact this))
    rw [R.out]
    rw [ho] at cp
    clear hp hq hru ho kb
    generalize okTo (kptB ps rs) rs.length = b at *
    go_enter Try.func59, Try.ntmps59
    go_wp2_with fail
    refine cp.out.mono ?_
    rintro e w1 ⟨rfl, rfl⟩
    go_wp2_with fail
    refine cc.out.mono ?_
    rintro e w1 ⟨rfl, hb1⟩
    go_wp2
    go_ret
    exact ⟨by simp, bl_step hx hb1 hx.size⟩
/-- IsPlaced. -/
def isPl (n : Int) (rs : List R3) (ps : List Int) : Bool := prB n rs && plB n rs ps
theorem IsPlacedI_any (n : Int) (A : Option Addr) (rs : List R3) (c : Nat) (B : Option Addr) (ps : List Int) (d : Nat) (w : World) (hp : RulAt w w.heap.size A rs) (hq : IntsAt w w.heap.size B ps) (hlr : rs.length ≤ 1048576) (hl : ps.length ≤ 1048576) :
    Calls Try.prog 21 #[.agg #[.int .i64 n, .slice A rs.length c], .slice B ps.length d] w fun e w' => e = .returned (.bool (isPl n rs ps)) ∧ Below w.heap.size w w' := by
  have hx : Below w.heap.size w (w.alloc (.cells #[.int .i64 n, .slice A rs.length c] 29)) := by (repeat (first | assumption | exact Below.refl _ _ | (refine bl_alloc ?_ _) | (refine Below.drew ?_) | (refine bl_drewN ?_ _) | (refine bl_set ?_ (by first | (simp; done) | omega | (simp; omega)) _) | (refine bl_trans ?_ (by assumption)) | (refine bl_step ?_ (by assumption) (by first | omega | exact Below.size (by assumption) | (simp; omega) | (simp; exact Below.size (by assumption))))))
  have kp := Blk.new w #[.int .i64 n, .slice A rs.length c] 29
  have c1 := Lib.hid (ValidPressI_any n A rs c _ (hp.to hx) hlr)
  cases hv : prB n rs
  · have R : Hid (isPl n rs ps = false) := by show _ = _; unfold isPl; rw [hv]; rfl
    rw [hv] at c1
    rw [R.out]
    clear hp hq hv
    go_enter Try.func21, Try.ntmps21
    go_wp2_with fail
    refine c1.out.mono ?_
    rintro e w1 ⟨rfl, hb1⟩
    go_wp2
    go_ret
    exact ⟨rfl, bl_step hx hb1 hx.size⟩
  · have R : Hid (isPl n rs ps = plB n rs ps) := by show _ = _; unfold isPl; rw [hv]; rfl
    have c2 := Lib.hid (fun (wx : World) (hb : Below w.heap.size w wx) => hasPlaces_any n A rs c B ps d wx (hp.to hb) (hq.to hb) hl hv)
    rw [hv] at c1
    rw [R.out]
    generalize plB n rs ps = v at *
    clear hp hq hv
    go_enter Try.func21, Try.ntmps21
    go_wp2_with fail
    refine c1.out.mono ?_
    rintro e w1 ⟨rfl, hb1⟩
    have s0 := (kp.to hb1).cell 0 (v := .int .i64 n) rfl
    have s1 := (kp.to hb1).cell 1 (v := .slice A rs.length c) rfl
    have x1 := bl_step hx hb1 hx.size
    go_wp2_with fail
    refine (c2.out _ x1).mono ?_
    rintro e w2 ⟨rfl, hb2⟩
    go_wp2
    go_ret
    exact ⟨by simp, bl_trans x1 hb2⟩
theorem IsPlacedS_any (n : Int) (A : Option Addr) (rs : List R3) (c : Nat) (B : Option Addr) (ps : List Int) (d : Nat) (w : World) (hp : RulAt w w.heap.size A rs) (hq : IntsAt w w.heap.size B ps) (hlr : rs.length ≤ 1048576) (hl : ps.length ≤ 1048576) :
    Calls Try.prog 19 #[.agg #[.int .i64 n, .slice A rs.length c], .slice B ps.length d] w fun e w' => e = .returned (.bool (isPl n rs ps)) ∧ Below w.heap.size w w' := by
  have hx : Below w.heap.size w (w.alloc (.cells #[.int .i64 n, .slice A rs.length c] 29)) := by (repeat (first | assumption | exact Below.refl _ _ | (refine bl_alloc ?_ _) | (refine Below.drew ?_) | (refine bl_drewN ?_ _) | (refine bl_set ?_ (by first | (simp; done) | omega | (simp; omega)) _) | (refine bl_trans ?_ (by assumption)) | (refine bl_step ?_ (by assumption) (by first | omega | exact Below.size (by assumption) | (simp; omega) | (simp; exact Below.size (by assumption))))))
  have kp := Blk.new w #[.int .i64 n, .slice A rs.length c] 29
  have c1 := Lib.hid (l09Is_any w.heap.size n A rs c _ (kp.cell 0 rfl) (kp.cell 1 rfl) (hp.to hx) hlr)
  cases hv : prB n rs
  · have R : Hid (isPl n rs ps = false) := by show _ = _; unfold isPl; rw [hv]; rfl
    rw [hv] at c1
    rw [R.out]
    clear hp hq hv
    go_enter Try.func19, Try.ntmps19
    go_wp2_with fail
    refine c1.out.mono ?_
    rintro e w1 ⟨rfl, hb1⟩
    go_wp2
    go_ret
    exact ⟨rfl, bl_step hx hb1 hx.size⟩
  · have R : Hid (isPl n rs ps = plB n rs ps) := by show _ = _; unfold isPl; rw [hv]; rfl
    have c2 := Lib.hid (fun (wx : World) (hb : Below (w.alloc (.cells #[.int .i64 n, .slice A rs.length c] 29)).heap.size (w.alloc (.cells #[.int .i64 n, .slice A rs.length c] 29)) wx) => l09Placed_any w.heap.size n A rs c B ps d wx ((kp.to hb).cell 0 rfl) ((kp.to hb).cell 1 rfl) ((hp.to hx).to hb) ((hq.to hx).to hb) hl hv)
    rw [hv] at c1
    rw [R.out]
    generalize plB n rs ps = v at *
    clear hp hq hv
    go_enter Try.func19, Try.ntmps19
    go_wp2_with fail
    refine c1.out.mono ?_
    rintro e w1 ⟨rfl, hb1⟩
    go_wp2_with fail
    refine (c2.out _ hb1).mono ?_
    rintro e w2 ⟨rfl, hb2⟩
    go_wp2
    go_ret
    exact ⟨by simp, bl_trans (bl_step hx hb1 hx.size) hb2⟩
end Go.Proofs.Ytgpcfkegbcpkpaa
