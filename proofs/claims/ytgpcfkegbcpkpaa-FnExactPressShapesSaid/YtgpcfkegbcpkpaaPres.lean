/-
  Contracts: is a press valid, as the model has it and as the program has it.
-/
import Derived.Test.YtgpcfkegbcpkpaaRelaxP
import Derived.Test.YtgpcfkegbcpkpaaMazeP
import Derived.Test.YtgpcfkegbcpkpaaOver
namespace Go.Proofs.Ytgpcfkegbcpkpaa
set_option linter.unusedSimpArgs false
set_option linter.unusedVariables false
open Go.ChangeShapes Go.WideShapes Go.ChangeAt Go.RowKit Go.BigFrame

/-- A rule of n parts. -/
def ruB (n : Int) (r : R3) : Bool := inB r.1 0 (n - 1) && (inB r.2.1 0 (n - 1) && (!decide (r.1 = r.2.1) && inB r.2.2 (-1000) 1000))
def ruAt (n : Int) (rs : List R3) (k : Nat) : Bool := ruB n (rs.getD k r30)
/-- A valid press. -/
def prB (n : Int) (rs : List R3) : Bool := inB n 1 16 && (decide (rs.length ≤ 40) && okTo (ruAt n rs) rs.length)
theorem prB_n {n : Int} {rs : List R3} (h : inB n 1 16 = false) : prB n rs = false := by unfold prB; rw [h]; rfl
theorem prB_l {n : Int} {rs : List R3} (h : ¬ rs.length ≤ 40) : prB n rs = false := by unfold prB; rw [decide_eq_false h]; simp
theorem prB_b {n : Int} {rs : List R3} (h : okTo (ruAt n rs) rs.length = false) : prB n rs = false := by unfold prB; rw [h]; simp
theorem prB_t {n : Int} {rs : List R3} (h : inB n 1 16 = true) (h2 : rs.length ≤ 40) : prB n rs = okTo (ruAt n rs) rs.length := by unfold prB; rw [h, decide_eq_true h2]; simp
theorem l00In_p {n lo hi : Int} {b : Bool} (h : Hid (inB n lo hi = b)) (w : World) :
    Calls Try.prog 72 #[.int .i64 n, .int .i64 lo, .int .i64 hi] w fun e w' => e = .returned (.bool b) ∧ w' = w :=
  (l00In_any n lo hi w).mono fun _ _ ⟨he, hw⟩ => ⟨by rw [he, h.out], hw.symm⟩
set_option maxRecDepth 100000 in
set_option maxHeartbeats 3200000 in
theorem l09Is_any (g : Nat) (n : Int) (A : Option Addr) (rs : List R3) (c : Nat) (w : World) (c0 : w.cell? ⟨g, 0, none⟩ = some (.int .i64 n)) (c1 : w.cell? ⟨g, 1, none⟩ = some (.slice A rs.length c))
    (hp : RulAt w w.heap.size A rs) (hl : rs.length ≤ 1048576) :
    Calls Try.prog 52 #[.pointer (some ⟨g, 0, none⟩)] w fun e w' => e = .returned (.bool (prB n rs)) ∧ Below w.heap.size w w' := by
  have hg : g < w.heap.size := World.block_lt_of_cell? w _ c0
  have hlI : (rs.length : Int) ≤ 1048576 := by omega
  cases hn : inB n 1 16
  case false =>
    have R : Hid (prB n rs = false) := prB_n hn
    have H := Lib.hid hn
    rw [R.out]
    clear hn hp
    go_enter Try.func52, Try.ntmps52
    go_wp2_with (go_at_call 72; refine (l00In_at H _).mono ?_; rintro e w' ⟨rfl, rfl⟩)
    go_ret
    exact ⟨rfl, Below.refl _ _⟩
  have hn2 : 1 ≤ n ∧ n ≤ 16 := of_decide_eq_true hn
  obtain ⟨hn0, hn16⟩ := hn2
  have H := Lib.hid hn
  by_cases h40 : rs.length ≤ 40
  case neg =>
    have R : Hid (prB n rs = false) := prB_l h40
    have hd : decide (40 < (rs.length : Int)) = true := decide_eq_true (by omega)
    have hI : 40 < (rs.length : Int) := by omega
    rw [R.out]
    clear hn hp h40
    go_enter Try.func52, Try.ntmps52
    go_wp2_with (go_at_call 72; refine (l00In_at H _).mono ?_; rintro e w' ⟨rfl, rfl⟩)
    go_ret
    exact ⟨rfl, Below.refl _ _⟩
  have HT := Lib.hid (prB_t hn h40)
  rw [HT.out]
  have hd : decide (40 < (rs.length : Int)) = false := decide_eq_false (by omega)
  have h40I : (rs.length : Int) ≤ 40 := by omega
  clear hn
  go_enter Try.func52, Try.ntmps52
  go_wp2_with (go_at_call 72; refine (l00In_at H _).mono ?_; rintro e w' ⟨rfl, rfl⟩)
  go_loopw [3] (fun i wr => ∃ k : Nat, k ≤ rs.length ∧ i = .int .i64 k ∧ Hid (okTo (ruAt n rs) k = true) ∧ Below w.heap.size w wr) (fun i _ => rs.length - (intOf i).toNat)
  case atStart => exact ⟨0, Nat.zero_le _, rfl, rfl, Below.refl _ _⟩
  case round =>
    obtain ⟨k, hk, rfl, HX, hb⟩ := hrel
    have d0 := (hb.cell (p := ⟨g, 0, none⟩) hg).trans c0
    have d1 := (hb.cell (p := ⟨g, 1, none⟩) hg).trans c1
    have hk0 : (0 : Int) ≤ (k : Int) := by omega
    by_cases hlt : k < rs.length
    · obtain ⟨b, off, rfl, hbB, hc⟩ := hp (by omega)
      obtain ⟨e0, e1, e2⟩ := hc k hlt
      have f0 := (hb.cell (p := ⟨b, off + k * 3, none⟩) hbB).trans e0
      have f1 := (hb.cell (p := ⟨b, off + k * 3 + 1, none⟩) hbB).trans e1
      have f2 := (hb.cell (p := ⟨b, off + k * 3 + 2, none⟩) hbB).trans e2
      have hltI : (k : Int) < (rs.length : Int) := by omega
      have hgw : g < wr.heap.size := Nat.lt_of_lt_of_le hg hb.size
      have HB := Lib.hid (fun (h : ruB n (rs.getD k r30) = false) => okTo_bad (f := ruAt n rs) hlt h)
      have HN := Lib.hid (fun (h : ruB n (rs.getD k r30) = true) => okTo_next (f := ruAt n rs) HX.out h)
      clear hc e0 e1 e2 hp c0 c1
      generalize rs.getD k r30 = r at *
      obtain ⟨x, y, z⟩ := r
      simp only at f0 f1 f2
      have kr := Blk.new wr #[.int .i64 x, .int .i64 y, .int .i64 z] 60
      have hbA : Below w.heap.size w (wr.alloc (.cells #[.int .i64 x, .int .i64 y, .int .i64 z] 60)) := hb.alloc hb.size _
      have q0 := (Below.cell ((Below.refl wr.heap.size wr).alloc (Nat.le_refl _) (.cells #[.int .i64 x, .int .i64 y, .int .i64 z] 60)) (p := ⟨g, 0, none⟩) hgw).trans d0
      have r0 := kr.cell 0 (v := .int .i64 x) rfl
      have r1 := kr.cell 1 (v := .int .i64 y) rfl
      have r2 := kr.cell 2 (v := .int .i64 z) rfl
      have hrl := kr.lt
      have hgA : g < (wr.alloc (.cells #[.int .i64 x, .int .i64 y, .int .i64 z] 60)).heap.size := by simp; omega
      clear kr
      cases h1 : inB x 0 (n - 1)
      · have H1 := Lib.hid h1
        have R := Lib.hid (HB.out (by unfold ruB; simp only [h1]; rfl))
        clear h1 HB HN
        go_wp2_with fail
        clear d0 d1 f0 f1 f2 hb
        generalize (wr.alloc (.cells #[.int .i64 x, .int .i64 y, .int .i64 z] 60)) = wA at *
        generalize wr.heap.size = X at *
        refine wp_region_over (by kernel_rfl) (by kernel_rfl) ?_
        have hov := over_cells wA
        repeat (go_big_quiet_step ((first | (go_at_call_of 72 (Value.int .i64 x); exact overE (l00In_p H1 _)))))
        refine over_nil (fun w2 hb2 => ?_)
        clear hov
        go_wp2
        go_ret
        exact ⟨retB R.out.symm, hbA.trans (hb2.mono hbA.size)⟩
      cases h2 : inB y 0 (n - 1)
      · have H1 := Lib.hid h1
        have H2 := Lib.hid h2
        have R := Lib.hid (HB.out (by unfold ruB; simp only [h1, h2]; rfl))
        clear h1 h2 HB HN
        go_wp2_with fail
        clear d0 d1 f0 f1 f2 hb
        generalize (wr.alloc (.cells #[.int .i64 x, .int .i64 y, .int .i64 z] 60)) = wA at *
        generalize wr.heap.size = X at *
        refine wp_region_over (by kernel_rfl) (by kernel_rfl) ?_
        have hov := over_cells wA
        repeat (go_big_quiet_step ((first | (go_at_call_of 72 (Value.int .i64 x); exact overE (l00In_p H1 _)) | (go_at_call_of 72 (Value.int .i64 y); exact overE (l00In_p H2 _)))))
        refine over_nil (fun w2 hb2 => ?_)
        clear hov
        go_wp2
        go_ret
        exact ⟨retB R.out.symm, hbA.trans (hb2.mono hbA.size)⟩
      by_cases h3 : x = y
      · have H1 := Lib.hid h1
        have H2 := Lib.hid h2
        have R := Lib.hid (HB.out (by unfold ruB; simp only [h1, h2, decide_eq_true h3]; rfl))
        clear h1 h2 HB HN
        subst h3
        have h3d : (x == x) = true := by simp
        go_wp2_with fail
        clear d0 d1 f0 f1 f2 hb
        generalize (wr.alloc (.cells #[.int .i64 x, .int .i64 x, .int .i64 z] 60)) = wA at *
        generalize wr.heap.size = X at *
        refine wp_region_over (by kernel_rfl) (by kernel_rfl) ?_
        have hov := over_cells wA
        repeat (go_big_quiet_step ((first | (go_at_call_of 72 (Value.int .i64 x); exact overE (l00In_p H1 _)))))
        refine over_nil (fun w2 hb2 => ?_)
        clear hov
        go_wp2
        go_ret
        exact ⟨retB R.out.symm, hbA.trans (hb2.mono hbA.size)⟩
      have h3d : (x == y) = false := by simpa using h3
      have h3e : decide (x = y) = false := decide_eq_false h3
      cases h4 : inB z (-1000) 1000
      · have H1 := Lib.hid h1
        have H2 := Lib.hid h2
        have H4 := Lib.hid h4
        have R := Lib.hid (HB.out (by unfold ruB; simp only [h1, h2, decide_eq_false h3, h4]; rfl))
        clear h1 h2 h4 HB HN
        go_wp2_with fail
        clear d0 d1 f0 f1 f2 hb
        generalize (wr.alloc (.cells #[.int .i64 x, .int .i64 y, .int .i64 z] 60)) = wA at *
        generalize wr.heap.size = X at *
        refine wp_region_over (by kernel_rfl) (by kernel_rfl) ?_
        have hov := over_cells wA
        repeat (go_big_quiet_step ((first | (go_at_call_of 72 (Value.int .i64 x); exact overE (l00In_p H1 _)) | (go_at_call_of 72 (Value.int .i64 y); exact overE (l00In_p H2 _)) | (go_at_call_of 72 (Value.int .i64 z); exact overE (l00In_p H4 _)))))
        refine over_nil (fun w2 hb2 => ?_)
        clear hov
        go_wp2
        go_ret
        exact ⟨retB R.out.symm, hbA.trans (hb2.mono hbA.size)⟩
      · have H1 := Lib.hid h1
        have H2 := Lib.hid h2
        have H4 := Lib.hid h4
        have R := Lib.hid (HN.out (by unfold ruB; simp only [h1, h2, decide_eq_false h3, h4]; rfl))
        clear h1 h2 h4 HB HN
        go_wp2_with fail
        clear d0 d1 f0 f1 f2 hb
        generalize (wr.alloc (.cells #[.int .i64 x, .int .i64 y, .int .i64 z] 60)) = wA at *
        generalize wr.heap.size = X at *
        refine wp_region_over (by kernel_rfl) (by kernel_rfl) ?_
        have hov := over_cells wA
        repeat (go_big_quiet_step ((first | (go_at_call_of 72 (Value.int .i64 x); exact overE (l00In_p H1 _)) | (go_at_call_of 72 (Value.int .i64 y); exact overE (l00In_p H2 _)) | (go_at_call_of 72 (Value.int .i64 z); exact overE (l00In_p H4 _)))))
        refine over_nil (fun w2 hb2 => ?_)
        clear hov
        go_wp2
        go_roundw
        case rel => exact ⟨k + 1, by omega, by go_num, R, hbA.trans (hb2.mono hbA.size)⟩
        case measure => simp [intOf]; omega
    · have HF : Hid (okTo (ruAt n rs) rs.length = true) := by
        have := HX.out
        rw [show k = rs.length by omega] at this
        exact this
      go_wp2
      go_ret
      exact ⟨retB HF.out.symm, hb⟩
set_option maxHeartbeats 1600000 in
theorem isFor_any (x y z n : Int) (w : World) :
    Calls Try.prog 56 #[.agg #[.int .i64 x, .int .i64 y, .int .i64 z], .int .i64 n] w fun e w' => e = .returned (.bool (ruB n (x, y, z))) ∧ Below w.heap.size w w' := by
  have hmin : ∀ x y : Int, (if y < x then y else x) = min x y := fun x y => by omega
  have hmax : ∀ x y : Int, (if x < y then y else x) = max x y := fun x y => by omega
  have key : Hid (ruB n (x, y, z) = (!decide (x = y) && decide (0 ≤ min x y) && decide (max x y < n) && decide (-1000 ≤ z) && decide (z ≤ 1000))) := by
    show _ = _
    rw [Bool.eq_iff_iff]
    simp only [ruB, inB, Bool.and_eq_true, decide_eq_true_eq, Bool.not_eq_true', decide_eq_false_iff_not]
    omega
  rw [key.out]
  clear key
  by_cases h : x = y
  · subst h
    go_enter Try.func56, Try.ntmps56
    go_wp2
    all_goals go_ret
    all_goals exact ⟨retB (by simp [*]), by (repeat (first | assumption | exact Below.refl _ _ | (refine bl_alloc ?_ _) | (refine Below.drew ?_) | (refine bl_drewN ?_ _) | (refine bl_set ?_ (by first | (simp; done) | omega | (simp; omega)) _) | (refine bl_trans ?_ (by assumption)) | (refine bl_step ?_ (by assumption) (by first | omega | exact Below.size (by assumption) | (simp; omega) | (simp; exact Below.size (by assumption))))))⟩
  · go_enter Try.func56, Try.ntmps56
    go_wp2
    all_goals go_ret
    all_goals exact ⟨retB (by first | (simp [*]; done) | (simp [*]; intros; omega)), by (repeat (first | assumption | exact Below.refl _ _ | (refine bl_alloc ?_ _) | (refine Below.drew ?_) | (refine bl_drewN ?_ _) | (refine bl_set ?_ (by first | (simp; done) | omega | (simp; omega)) _) | (refine bl_trans ?_ (by assumption)) | (refine bl_step ?_ (by assumption) (by first | omega | exact Below.size (by assumption) | (simp; omega) | (simp; exact Below.size (by assumption))))))⟩
end Go.Proofs.Ytgpcfkegbcpkpaa
