/-
  Contracts: rows of a river.
-/
import Derived.Test.YtdpamieheefhdaaNums
namespace Go.Proofs.Ytdpamieheefhdaa
set_option linter.unusedSimpArgs false
set_option linter.unusedVariables false
open Go.ChangeShapes Go.WideShapes Go.ChangeAt Go.RowKit

set_option maxHeartbeats 800000 in
theorem isRow_any (A : Option Addr) (ns : List Int) (c : Nat) (w : World) (hp : IntsAt w w.heap.size A ns) (hl : ns.length ≤ 1048576) :
    Calls Try.prog 66 #[.slice A ns.length c] w fun e w' => e = .returned (.bool (rises ns 0 99)) ∧ Below w.heap.size w w' := by
  have hl' : (ns.length : Int) ≤ 1048576 := by omega
  go_enter Try.func66, Try.ntmps66
  go_wp2
  go_loopw [3, 4, 7] (fun _ _ i wr => ∃ k : Nat, k ≤ ns.length ∧ i = .int .i64 k ∧ Hid (riseTo ns 0 99 k = true) ∧ Below w.heap.size w wr) (fun _ _ i _ => ns.length - (intOf i).toNat)
  case atStart => exact ⟨0, Nat.zero_le _, rfl, rfl, Below.refl _ _⟩
  case round =>
    obtain ⟨k, hk, rfl, HA, hb⟩ := hrel
    by_cases hlt : k < ns.length
    · obtain ⟨b, off, rfl, hbB, hc⟩ := hp (by omega)
      have d0 := (hb.cell (p := ⟨b, off + k, none⟩) hbB).trans (hc k hlt)
      have HS : Hid (riseTo ns 0 99 (k + 1) = riseAt ns 0 99 k) := by show _ = _; unfold riseTo; rw [HA.out]; rfl
      have HB := fun h => Lib.hid (show rises ns 0 99 = false from riseTo_bad (k := k + 1) (by omega) h)
      have hltI : (k : Int) < (ns.length : Int) := by omega
      have hzle : w.heap.size ≤ wr.heap.size := hb.size
      cases hin : inB (ns.getD k 0) 0 99
      · have HF := HB (by rw [HS.out]; unfold riseAt; rw [hin]; rfl)
        have HI := Lib.hid hin
        generalize ns.getD k 0 = x at *
        clear hc hp hin HB
        go_wp2_with (go_at_call 91; refine (isCoord_at HI _).mono ?_; rintro e w' ⟨rfl, rfl⟩)
        go_ret
        exact ⟨retB (by rw [HF.out]), by (repeat (first | assumption | exact Below.refl _ _ | (refine bl_alloc ?_ _) | (refine Below.drew ?_) | (refine bl_drewN ?_ _) | (refine bl_set ?_ (by first | (simp; done) | omega | (simp; omega)) _) | (refine bl_trans ?_ (by assumption)) | (refine bl_step ?_ (by assumption) (by first | omega | exact Below.size (by assumption) | (simp; omega) | (simp; exact Below.size (by assumption))))))⟩
      · have HI := Lib.hid hin
        by_cases hk0 : k = 0
        · have HN : Hid (riseTo ns 0 99 (k + 1) = true) := by show _ = _; rw [HS.out]; unfold riseAt; rw [hin]; simp [hk0]
          have hkd : decide (0 < k) = false := decide_eq_false (by omega)
          generalize ns.getD k 0 = x at *
          have HK := Lib.hid hk0
          clear hc hp hin HB hk0
          go_wp2_with (go_at_call 91; refine (isCoord_at HI _).mono ?_; rintro e w' ⟨rfl, rfl⟩)
          go_roundw
          case rel => exact ⟨k + 1, by omega, by go_num, HN, by (repeat (first | assumption | exact Below.refl _ _ | (refine bl_alloc ?_ _) | (refine Below.drew ?_) | (refine bl_drewN ?_ _) | (refine bl_set ?_ (by first | (simp; done) | omega | (simp; omega)) _) | (refine bl_trans ?_ (by assumption)) | (refine bl_step ?_ (by assumption) (by first | omega | exact Below.size (by assumption) | (simp; omega) | (simp; exact Below.size (by assumption))))))⟩
          case measure => simp [intOf]; omega
        · have hk1 : ((k - 1 : Nat) : Int) = (k : Int) - 1 := by omega
          have d1 := (hb.cell (p := ⟨b, off + (k - 1), none⟩) hbB).trans (hc (k - 1) (by omega))
          have hkd : decide (0 < k) = true := decide_eq_true (by omega)
          have hkp : (0 : Int) < (k : Int) := by omega
          have hkp1 : (0 : Int) ≤ (k : Int) - 1 := by omega
          have hkt : ((k : Int) - 1).toNat = k - 1 := by omega
          by_cases hcmp : ns.getD (k - 1) 0 < ns.getD k 0
          · have HN : Hid (riseTo ns 0 99 (k + 1) = true) := by show _ = _; rw [HS.out]; unfold riseAt; rw [hin, decide_eq_true hcmp]; simp
            generalize ns.getD k 0 = x at *
            generalize ns.getD (k - 1) 0 = y at *
            have HK := Lib.hid hk1
            have hcd : ¬ x ≤ y := by omega
            clear hc hp hin HB hk0 hk1
            go_wp2_with (go_at_call 91; refine (isCoord_at HI _).mono ?_; rintro e w' ⟨rfl, rfl⟩)
            go_roundw
            case rel => exact ⟨k + 1, by omega, by go_num, HN, by (repeat (first | assumption | exact Below.refl _ _ | (refine bl_alloc ?_ _) | (refine Below.drew ?_) | (refine bl_drewN ?_ _) | (refine bl_set ?_ (by first | (simp; done) | omega | (simp; omega)) _) | (refine bl_trans ?_ (by assumption)) | (refine bl_step ?_ (by assumption) (by first | omega | exact Below.size (by assumption) | (simp; omega) | (simp; exact Below.size (by assumption))))))⟩
            case measure => simp [intOf]; omega
          · have HF := HB (by rw [HS.out]; unfold riseAt; rw [decide_eq_false hcmp, decide_eq_false hk0]; simp)
            generalize ns.getD k 0 = x at *
            generalize ns.getD (k - 1) 0 = y at *
            have HK := Lib.hid hk1
            have hcd : x ≤ y := by omega
            clear hc hp hin HB hk0 hk1
            go_wp2_with (go_at_call 91; refine (isCoord_at HI _).mono ?_; rintro e w' ⟨rfl, rfl⟩)
            go_ret
            exact ⟨retB (by rw [HF.out]), by (repeat (first | assumption | exact Below.refl _ _ | (refine bl_alloc ?_ _) | (refine Below.drew ?_) | (refine bl_drewN ?_ _) | (refine bl_set ?_ (by first | (simp; done) | omega | (simp; omega)) _) | (refine bl_trans ?_ (by assumption)) | (refine bl_step ?_ (by assumption) (by first | omega | exact Below.size (by assumption) | (simp; omega) | (simp; exact Below.size (by assumption))))))⟩
    · have HT : Hid (rises ns 0 99 = true) := by
        show _ = _
        have := HA.out
        rwa [show k = ns.length by omega] at this
      go_wp2
      go_ret
      exact ⟨retB (by rw [HT.out]), hb⟩

/-- Rows of a river. -/
def riverB (T B : List Int) : Bool := inB T.length 1 20 && (decide (T.length = B.length) && (rises T 0 99 && rises B 0 99))

theorem l02Is_any (A A' : Option Addr) (T B : List Int) (c c' : Nat) (w : World) (hp : IntsAt w w.heap.size A T) (hq : IntsAt w w.heap.size A' B) (hl : T.length ≤ 1048576) (hl' : B.length ≤ 1048576) :
    Calls Try.prog 75 #[.slice A T.length c, .slice A' B.length c'] w fun e w' => e = .returned (.bool (riverB T B)) ∧ Below w.heap.size w w' := by
  cases h1 : inB T.length 1 20
  · have R : Hid (riverB T B = false) := by show _ = _; unfold riverB; rw [h1]; rfl
    have H1 := Lib.hid h1
    clear h1
    go_enter Try.func75, Try.ntmps75
    go_wp2_with (go_at_call 50; refine (l00In_at H1 _).mono ?_; rintro e w' ⟨rfl, rfl⟩)
    go_ret
    exact ⟨retB (by rw [R.out]), Below.refl _ _⟩
  have H1 := Lib.hid h1
  by_cases h2 : T.length = B.length
  · cases h3 : rises T 0 99
    · have R : Hid (riverB T B = false) := by show _ = _; unfold riverB; rw [h3]; simp
      have H3 := Lib.hid h3
      have hz : ((T.length : Int) == (B.length : Int)) = true := by simp [h2]
      clear h1 h2 h3
      go_enter Try.func75, Try.ntmps75
      go_wp2_with (first
        | (go_at_call 50; refine (l00In_at H1 _).mono ?_; rintro e w' ⟨rfl, rfl⟩)
        | (go_at_call 99; refine (l00Rises_any _ _ _ _ _ _ hp hl).mono ?_; rintro e w' ⟨rfl, hb'⟩; rw [H3.out]))
      go_ret
      exact ⟨retB (by rw [R.out]), by (repeat (first | assumption | exact Below.refl _ _ | (refine bl_alloc ?_ _) | (refine Below.drew ?_) | (refine bl_drewN ?_ _) | (refine bl_set ?_ (by first | (simp; done) | omega | (simp; omega)) _) | (refine bl_trans ?_ (by assumption)) | (refine bl_step ?_ (by assumption) (by first | omega | exact Below.size (by assumption) | (simp; omega) | (simp; exact Below.size (by assumption))))))⟩
    · have R : Hid (riverB T B = rises B 0 99) := by show _ = _; unfold riverB; rw [h1, h3]; simp [h2]
      have H3 := Lib.hid h3
      have hz : ((T.length : Int) == (B.length : Int)) = true := by simp [h2]
      clear h1 h2 h3
      go_enter Try.func75, Try.ntmps75
      go_wp2_with fail
      refine (l00In_at H1 _).mono ?_
      rintro e w' ⟨rfl, rfl⟩
      go_wp2_with fail
      refine (l00Rises_any _ _ _ _ _ _ hp hl).mono ?_
      rintro e w1 ⟨rfl, hb1⟩
      rw [H3.out]
      have hq1 := hq.to hb1
      go_wp2_with fail
      refine (l00Rises_any _ _ _ _ _ _ hq1 hl').mono ?_
      rintro e w2 ⟨rfl, hb2⟩
      go_wp2
      go_ret
      exact ⟨retB (by rw [R.out]), by (repeat (first | assumption | exact Below.refl _ _ | (refine bl_alloc ?_ _) | (refine Below.drew ?_) | (refine bl_drewN ?_ _) | (refine bl_set ?_ (by first | (simp; done) | omega | (simp; omega)) _) | (refine bl_trans ?_ (by assumption)) | (refine bl_step ?_ (by assumption) (by first | omega | exact Below.size (by assumption) | (simp; omega) | (simp; exact Below.size (by assumption))))))⟩
  · have R : Hid (riverB T B = false) := by show _ = _; unfold riverB; rw [decide_eq_false h2]; simp
    have hz : ((T.length : Int) == (B.length : Int)) = false := by simp; omega
    clear h1 h2
    go_enter Try.func75, Try.ntmps75
    go_wp2_with (go_at_call 50; refine (l00In_at H1 _).mono ?_; rintro e w' ⟨rfl, rfl⟩)
    go_ret
    exact ⟨retB (by rw [R.out]), Below.refl _ _⟩

/-- A river by value. -/
abbrev rivV (A A' : Option Addr) (n n' c c' : Nat) : Value := .agg #[.slice A n c, .slice A' n' c']

theorem isValid_any (A A' : Option Addr) (T B : List Int) (c c' : Nat) (w : World) (hp : IntsAt w w.heap.size A T) (hq : IntsAt w w.heap.size A' B) (hl : T.length ≤ 1048576) (hl' : B.length ≤ 1048576) :
    Calls Try.prog 36 #[rivV A A' T.length B.length c c'] w fun e w' => e = .returned (.bool (riverB T B)) ∧ Below w.heap.size w w' := by
  have hp1 := hp.to (w1 := w.alloc (.cells #[.slice A T.length c, .slice A' B.length c'] 60)) ((Below.refl _ _).alloc (Nat.le_refl _) _)
  have hq1 := hq.to (w1 := w.alloc (.cells #[.slice A T.length c, .slice A' B.length c'] 60)) ((Below.refl _ _).alloc (Nat.le_refl _) _)
  have hT : (T.length : Int) ≤ 1048576 := by omega
  cases h1 : inB T.length 1 20
  · have R : Hid (riverB T B = false) := by show _ = _; unfold riverB; rw [h1]; rfl
    have hcase : T.length < 1 ∨ 20 < T.length := by simp [inB] at h1; omega
    clear h1
    rcases hcase with h | h
    · have h0 : decide (1 ≤ T.length) = false := decide_eq_false (by omega)
      go_enter Try.func36, Try.ntmps36
      go_wp2
      go_ret
      exact ⟨retB (by rw [R.out]), by (repeat (first | assumption | exact Below.refl _ _ | (refine bl_alloc ?_ _) | (refine Below.drew ?_) | (refine bl_drewN ?_ _) | (refine bl_set ?_ (by first | (simp; done) | omega | (simp; omega)) _) | (refine bl_trans ?_ (by assumption)) | (refine bl_step ?_ (by assumption) (by first | omega | exact Below.size (by assumption) | (simp; omega) | (simp; exact Below.size (by assumption))))))⟩
    · have h0 : 1 ≤ (T.length : Int) := by omega
      have h0' : ¬ (T.length : Int) ≤ 20 := by omega
      go_enter Try.func36, Try.ntmps36
      go_wp2
      go_ret
      exact ⟨retB (by rw [R.out]), by (repeat (first | assumption | exact Below.refl _ _ | (refine bl_alloc ?_ _) | (refine Below.drew ?_) | (refine bl_drewN ?_ _) | (refine bl_set ?_ (by first | (simp; done) | omega | (simp; omega)) _) | (refine bl_trans ?_ (by assumption)) | (refine bl_step ?_ (by assumption) (by first | omega | exact Below.size (by assumption) | (simp; omega) | (simp; exact Below.size (by assumption))))))⟩
  have h10 : 1 ≤ (T.length : Int) := by simp [inB] at h1; omega
  have h11 : (T.length : Int) ≤ 20 := by simp [inB] at h1; omega
  by_cases h2 : T.length = B.length
  · cases h3 : rises T 0 99
    · have R : Hid (riverB T B = false) := by show _ = _; unfold riverB; rw [h3]; simp
      have H3 := Lib.hid h3
      have hz : ((B.length : Int) == (T.length : Int)) = true := by simp [h2]
      clear h1 h2 h3
      go_enter Try.func36, Try.ntmps36
      go_wp2_with (go_at_call 66; refine (isRow_any _ _ _ _ hp1 hl).mono ?_; rintro e w' ⟨rfl, hb'⟩; rw [H3.out])
      go_ret
      exact ⟨retB (by rw [R.out]), by (repeat (first | assumption | exact Below.refl _ _ | (refine bl_alloc ?_ _) | (refine Below.drew ?_) | (refine bl_drewN ?_ _) | (refine bl_set ?_ (by first | (simp; done) | omega | (simp; omega)) _) | (refine bl_trans ?_ (by assumption)) | (refine bl_step ?_ (by assumption) (by first | omega | exact Below.size (by assumption) | (simp; omega) | (simp; exact Below.size (by assumption))))))⟩
    · have R : Hid (riverB T B = rises B 0 99) := by show _ = _; unfold riverB; rw [h1, h3]; simp [h2]
      have H3 := Lib.hid h3
      have hz : ((B.length : Int) == (T.length : Int)) = true := by simp [h2]
      clear h1 h2 h3
      go_enter Try.func36, Try.ntmps36
      go_wp2_with fail
      refine (isRow_any _ _ _ _ hp1 hl).mono ?_
      rintro e w1 ⟨rfl, hb⟩
      rw [H3.out]
      have hq2 := hq1.to hb
      obtain ⟨hc, hf, hz'⟩ := bcell hb
      have hzz : w.heap.size < w1.heap.size := by (simp at hz'; omega)
      go_wp2_with fail
      refine (isRow_any _ _ _ _ hq2 hl').mono ?_
      rintro e w2 ⟨rfl, hb2⟩
      go_wp2
      go_ret
      exact ⟨retB (by rw [R.out]), by (repeat (first | assumption | exact Below.refl _ _ | (refine bl_alloc ?_ _) | (refine Below.drew ?_) | (refine bl_drewN ?_ _) | (refine bl_set ?_ (by first | (simp; done) | omega | (simp; omega)) _) | (refine bl_trans ?_ (by assumption)) | (refine bl_step ?_ (by assumption) (by first | omega | exact Below.size (by assumption) | (simp; omega) | (simp; exact Below.size (by assumption))))))⟩
  · have R : Hid (riverB T B = false) := by show _ = _; unfold riverB; rw [decide_eq_false h2]; simp
    have hz : ((B.length : Int) == (T.length : Int)) = false := by simp; omega
    clear h1 h2
    go_enter Try.func36, Try.ntmps36
    go_wp2
    go_ret
    exact ⟨retB (by rw [R.out]), by (repeat (first | assumption | exact Below.refl _ _ | (refine bl_alloc ?_ _) | (refine Below.drew ?_) | (refine bl_drewN ?_ _) | (refine bl_set ?_ (by first | (simp; done) | omega | (simp; omega)) _) | (refine bl_trans ?_ (by assumption)) | (refine bl_step ?_ (by assumption) (by first | omega | exact Below.size (by assumption) | (simp; omega) | (simp; exact Below.size (by assumption))))))⟩

theorem ValidRiverI_any (A A' : Option Addr) (T B : List Int) (c c' : Nat) (w : World) (hp : IntsAt w w.heap.size A T) (hq : IntsAt w w.heap.size A' B) (hl : T.length ≤ 1048576) (hl' : B.length ≤ 1048576) :
    Calls Try.prog 12 #[.slice A T.length c, .slice A' B.length c'] w fun e w' => e = .returned (.bool (riverB T B)) ∧ Below w.heap.size w w' := by
  go_enter Try.func12, Try.ntmps12
  go_wp2_with (go_at_call 36; refine (isValid_any _ _ _ _ _ _ _ hp hq hl hl').mono ?_; rintro e w' ⟨rfl, hb'⟩)
  go_ret
  exact ⟨rfl, hb'⟩
end Go.Proofs.Ytdpamieheefhdaa
