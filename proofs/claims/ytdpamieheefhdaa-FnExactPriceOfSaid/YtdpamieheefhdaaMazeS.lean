/-
  Contracts: steps and their letters.
-/
import Derived.Test.YtdpamieheefhdaaMazeW
import Derived.Test.YtdpamieheefhdaaOwnP
namespace Go.Proofs.Ytdpamieheefhdaa
set_option linter.unusedSimpArgs false
set_option linter.unusedVariables false
open Go.ChangeShapes Go.WideShapes Go.ChangeAt Go.RowKit

/-- The direction of a letter. -/
def wayI (c : Int) : Int := if c = 100 then 0 else if c = 108 then 1 else if c = 114 then 2 else if c = 117 then 3 else -1
/-- A step into a direction. -/
def stepW (x y k : Int) : Int × Int := if k = 0 then (x, y - 1) else if k = 1 then (x - 1, y) else if k = 2 then (x + 1, y) else (x, y + 1)
theorem wayI_lo (c : Int) : -1 ≤ wayI c ∧ wayI c ≤ 3 := by unfold wayI; split <;> (try split) <;> (try split) <;> (try split) <;> omega

set_option maxHeartbeats 800000 in
theorem l04Way_any (c : Int) (w : World) : Calls Try.prog 85 #[.int .u8 c] w fun e w' => e = .returned (.int .i64 (wayI c)) ∧ w = w' := by
  go_enter Try.func85, Try.ntmps85
  go_wp2
  go_loop [3] (fun i => ∃ k : Int, i = .int .i64 k ∧ Hid ((k = 0) ∨ (k = 1 ∧ ¬ c = 100) ∨ (k = 2 ∧ ¬ c = 100 ∧ ¬ c = 108) ∨ (k = 3 ∧ ¬ c = 100 ∧ ¬ c = 108 ∧ ¬ c = 114) ∨ (k = 4 ∧ ¬ c = 100 ∧ ¬ c = 108 ∧ ¬ c = 114 ∧ ¬ c = 117))) (fun i => (4 - intOf i).toNat)
  case atStart => exact ⟨0, rfl, .inl rfl⟩
  case round =>
    obtain ⟨k, rfl, HK⟩ := hrel
    rcases HK.out with rfl | ⟨rfl, h0⟩ | ⟨rfl, h0, h1⟩ | ⟨rfl, h0, h1, h2⟩ | ⟨rfl, h0, h1, h2, h3⟩
    · by_cases hc : c = 100
      · have hb : (c == (({ data := #[100, 108, 114, 117] } : ByteArray)[0].toNat : Int)) = true := (by simpa using hc : (c == 100) = true)
        have HF : Hid (wayI c = 0) := by show _ = _; simp [wayI, hc]
        clear hc HK
        go_wp2
        go_ret
        exact ⟨retI (by rw [HF.out]), rfl⟩
      · have hb : (c == (({ data := #[100, 108, 114, 117] } : ByteArray)[0].toNat : Int)) = false := (by simpa using hc : (c == 100) = false)
        have H := Lib.hid hc
        clear hc HK
        go_wp2
        go_round
        case rel => exact ⟨1, rfl, .inr (.inl ⟨rfl, H.out⟩)⟩
        case measure => simp [intOf]
    · by_cases hc : c = 108
      · have hb : (c == (({ data := #[100, 108, 114, 117] } : ByteArray)[1].toNat : Int)) = true := (by simpa using hc : (c == 108) = true)
        have HF : Hid (wayI c = 1) := by show _ = _; simp [wayI, hc]
        clear hc HK h0
        go_wp2
        go_ret
        exact ⟨retI (by rw [HF.out]), rfl⟩
      · have hb : (c == (({ data := #[100, 108, 114, 117] } : ByteArray)[1].toNat : Int)) = false := (by simpa using hc : (c == 108) = false)
        have H := Lib.hid hc
        have H0 := Lib.hid h0
        clear hc HK h0
        go_wp2
        go_round
        case rel => exact ⟨2, rfl, .inr (.inr (.inl ⟨rfl, H0.out, H.out⟩))⟩
        case measure => simp [intOf]
    · by_cases hc : c = 114
      · have hb : (c == (({ data := #[100, 108, 114, 117] } : ByteArray)[2].toNat : Int)) = true := (by simpa using hc : (c == 114) = true)
        have HF : Hid (wayI c = 2) := by show _ = _; simp [wayI, hc]
        clear hc HK h0 h1
        go_wp2
        go_ret
        exact ⟨retI (by rw [HF.out]), rfl⟩
      · have hb : (c == (({ data := #[100, 108, 114, 117] } : ByteArray)[2].toNat : Int)) = false := (by simpa using hc : (c == 114) = false)
        have H : Hid (¬ c = 100 ∧ ¬ c = 108 ∧ ¬ c = 114) := ⟨h0, h1, hc⟩
        clear hc HK h0 h1
        go_wp2
        go_round
        case rel => exact ⟨3, rfl, .inr (.inr (.inr (.inl ⟨rfl, H.out⟩)))⟩
        case measure => simp [intOf]
    · by_cases hc : c = 117
      · have hb : (c == (({ data := #[100, 108, 114, 117] } : ByteArray)[3].toNat : Int)) = true := (by simpa using hc : (c == 117) = true)
        have HF : Hid (wayI c = 3) := by show _ = _; simp [wayI, hc]
        clear hc HK h0 h1 h2
        go_wp2
        go_ret
        exact ⟨retI (by rw [HF.out]), rfl⟩
      · have hb : (c == (({ data := #[100, 108, 114, 117] } : ByteArray)[3].toNat : Int)) = false := (by simpa using hc : (c == 117) = false)
        have H : Hid (¬ c = 100 ∧ ¬ c = 108 ∧ ¬ c = 114 ∧ ¬ c = 117) := ⟨h0, h1, h2, hc⟩
        clear hc HK h0 h1 h2
        go_wp2
        go_round
        case rel => exact ⟨4, rfl, .inr (.inr (.inr (.inr ⟨rfl, H.out⟩)))⟩
        case measure => simp [intOf]
    · have HF : Hid (wayI c = -1) := by show _ = _; simp [wayI, h0, h1, h2, h3]
      clear HK h0 h1 h2 h3
      go_wp2
      go_ret
      exact ⟨retI (by rw [HF.out]), rfl⟩

abbrev ptA (p : Int × Int) : Value := .agg #[.int .i64 p.1, .int .i64 p.2]
theorem retP {a b : Int × Int} (h : a = b) : Ending.returned (ptA a) = .returned (ptA b) := by rw [h]
set_option maxHeartbeats 800000 in
theorem l04Step_any (x y k : Int) (w : World) (hx : -1000 ≤ x ∧ x ≤ 1000) (hy : -1000 ≤ y ∧ y ≤ 1000) (hk : 0 ≤ k ∧ k ≤ 3) :
    Calls Try.prog 86 #[.agg #[.int .i64 x, .int .i64 y], .int .i64 k] w fun e w' => e = .returned (ptA (stepW x y k)) ∧ Below w.heap.size w w' := by
  obtain ⟨hx0, hx1⟩ := hx
  obtain ⟨hy0, hy1⟩ := hy
  rcases (show k = 0 ∨ k = 1 ∨ k = 2 ∨ k = 3 by omega) with rfl | rfl | rfl | rfl
  · go_enter Try.func86, Try.ntmps86
    go_wp2
    refine bodyPost_ret_by (v := ptA (x, y - 1)) ?_ rfl ⟨rfl, by (repeat (first | assumption | exact Below.refl _ _ | (refine bl_alloc ?_ _) | (refine Below.drew ?_) | (refine bl_drewN ?_ _) | (refine bl_set ?_ (by first | (simp; done) | omega | (simp; omega)) _) | (refine bl_trans ?_ (by assumption)) | (refine bl_step ?_ (by assumption) (by first | omega | exact Below.size (by assumption) | (simp; omega) | (simp; exact Below.size (by assumption))))))⟩
    simp [results, Try.results86, go_sem]
  · go_enter Try.func86, Try.ntmps86
    go_wp2
    refine bodyPost_ret_by (v := ptA (x - 1, y)) ?_ rfl ⟨rfl, by (repeat (first | assumption | exact Below.refl _ _ | (refine bl_alloc ?_ _) | (refine Below.drew ?_) | (refine bl_drewN ?_ _) | (refine bl_set ?_ (by first | (simp; done) | omega | (simp; omega)) _) | (refine bl_trans ?_ (by assumption)) | (refine bl_step ?_ (by assumption) (by first | omega | exact Below.size (by assumption) | (simp; omega) | (simp; exact Below.size (by assumption))))))⟩
    simp [results, Try.results86, go_sem]
  · go_enter Try.func86, Try.ntmps86
    go_wp2
    refine bodyPost_ret_by (v := ptA (x + 1, y)) ?_ rfl ⟨rfl, by (repeat (first | assumption | exact Below.refl _ _ | (refine bl_alloc ?_ _) | (refine Below.drew ?_) | (refine bl_drewN ?_ _) | (refine bl_set ?_ (by first | (simp; done) | omega | (simp; omega)) _) | (refine bl_trans ?_ (by assumption)) | (refine bl_step ?_ (by assumption) (by first | omega | exact Below.size (by assumption) | (simp; omega) | (simp; exact Below.size (by assumption))))))⟩
    simp [results, Try.results86, go_sem]
  · go_enter Try.func86, Try.ntmps86
    go_wp2
    refine bodyPost_ret_by (v := ptA (x, y + 1)) ?_ rfl ⟨rfl, by (repeat (first | assumption | exact Below.refl _ _ | (refine bl_alloc ?_ _) | (refine Below.drew ?_) | (refine bl_drewN ?_ _) | (refine bl_set ?_ (by first | (simp; done) | omega | (simp; omega)) _) | (refine bl_trans ?_ (by assumption)) | (refine bl_step ?_ (by assumption) (by first | omega | exact Below.size (by assumption) | (simp; omega) | (simp; exact Below.size (by assumption))))))⟩
    simp [results, Try.results86, go_sem]

/-- A step by a letter: the point itself where it is none. -/
def stepL (x y c : Int) : Int × Int := if wayI c < 0 then (x, y) else stepW x y (wayI c)
set_option maxHeartbeats 800000 in
theorem stepFrom_any (x y c : Int) (w : World) (hx : -1000 ≤ x ∧ x ≤ 1000) (hy : -1000 ≤ y ∧ y ≤ 1000) :
    Calls Try.prog 90 #[.agg #[.int .i64 x, .int .i64 y], .int .u8 c] w fun e w' => e = .returned (ptA (stepL x y c)) ∧ Below w.heap.size w w' := by
  obtain ⟨hx0, hx1⟩ := hx
  obtain ⟨hy0, hy1⟩ := hy
  by_cases h0 : c = 100
  · subst h0
    go_enter Try.func90, Try.ntmps90
    go_wp2
    refine bodyPost_ret_by (v := ptA (x, y - 1)) ?_ rfl ⟨rfl, by (repeat (first | assumption | exact Below.refl _ _ | (refine bl_alloc ?_ _) | (refine Below.drew ?_) | (refine bl_drewN ?_ _) | (refine bl_set ?_ (by first | (simp; done) | omega | (simp; omega)) _) | (refine bl_trans ?_ (by assumption)) | (refine bl_step ?_ (by assumption) (by first | omega | exact Below.size (by assumption) | (simp; omega) | (simp; exact Below.size (by assumption))))))⟩
    simp [results, Try.results90, go_sem]
  · have b0 : (c == 100) = false := by simpa using h0
    by_cases h1 : c = 108
    · subst h1
      go_enter Try.func90, Try.ntmps90
      go_wp2
      refine bodyPost_ret_by (v := ptA (x - 1, y)) ?_ rfl ⟨rfl, by (repeat (first | assumption | exact Below.refl _ _ | (refine bl_alloc ?_ _) | (refine Below.drew ?_) | (refine bl_drewN ?_ _) | (refine bl_set ?_ (by first | (simp; done) | omega | (simp; omega)) _) | (refine bl_trans ?_ (by assumption)) | (refine bl_step ?_ (by assumption) (by first | omega | exact Below.size (by assumption) | (simp; omega) | (simp; exact Below.size (by assumption))))))⟩
      simp [results, Try.results90, go_sem]
    · have b1 : (c == 108) = false := by simpa using h1
      by_cases h2 : c = 114
      · subst h2
        go_enter Try.func90, Try.ntmps90
        go_wp2
        refine bodyPost_ret_by (v := ptA (x + 1, y)) ?_ rfl ⟨rfl, by (repeat (first | assumption | exact Below.refl _ _ | (refine bl_alloc ?_ _) | (refine Below.drew ?_) | (refine bl_drewN ?_ _) | (refine bl_set ?_ (by first | (simp; done) | omega | (simp; omega)) _) | (refine bl_trans ?_ (by assumption)) | (refine bl_step ?_ (by assumption) (by first | omega | exact Below.size (by assumption) | (simp; omega) | (simp; exact Below.size (by assumption))))))⟩
        simp [results, Try.results90, go_sem]
      · have b2 : (c == 114) = false := by simpa using h2
        by_cases h3 : c = 117
        · subst h3
          go_enter Try.func90, Try.ntmps90
          go_wp2
          refine bodyPost_ret_by (v := ptA (x, y + 1)) ?_ rfl ⟨rfl, by (repeat (first | assumption | exact Below.refl _ _ | (refine bl_alloc ?_ _) | (refine Below.drew ?_) | (refine bl_drewN ?_ _) | (refine bl_set ?_ (by first | (simp; done) | omega | (simp; omega)) _) | (refine bl_trans ?_ (by assumption)) | (refine bl_step ?_ (by assumption) (by first | omega | exact Below.size (by assumption) | (simp; omega) | (simp; exact Below.size (by assumption))))))⟩
          simp [results, Try.results90, go_sem]
        · have b3 : (c == 117) = false := by simpa using h3
          have HF : Hid (stepL x y c = (x, y)) := by show _ = _; simp [stepL, wayI, h0, h1, h2, h3]
          clear h0 h1 h2 h3
          go_enter Try.func90, Try.ntmps90
          go_wp2
          refine bodyPost_ret_by (v := ptA (x, y)) ?_ rfl ⟨by rw [HF.out], by (repeat (first | assumption | exact Below.refl _ _ | (refine bl_alloc ?_ _) | (refine Below.drew ?_) | (refine bl_drewN ?_ _) | (refine bl_set ?_ (by first | (simp; done) | omega | (simp; omega)) _) | (refine bl_trans ?_ (by assumption)) | (refine bl_step ?_ (by assumption) (by first | omega | exact Below.size (by assumption) | (simp; omega) | (simp; exact Below.size (by assumption))))))⟩
          simp [results, Try.results90, go_sem]
end Go.Proofs.Ytdpamieheefhdaa
