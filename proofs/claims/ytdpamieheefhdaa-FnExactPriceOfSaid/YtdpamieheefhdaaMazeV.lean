/-
  Contracts: is a maze valid, as the program has it.
-/
import Derived.Test.YtdpamieheefhdaaMaze
namespace Go.Proofs.Ytdpamieheefhdaa
set_option linter.unusedSimpArgs false
set_option linter.unusedVariables false
open Go.ChangeShapes Go.WideShapes Go.ChangeAt Go.RowKit

theorem isNoPrice_at {n : Int} {b : Bool} (h : Hid (inB n 0 9 = b)) (w : World) :
    Calls Try.prog 104 #[.int .i64 n] w fun e w' => e = .returned (.bool (!b)) ∧ w = w' := by
  cases b
  · by_cases h1 : n < 0
    · clear h
      go_enter Try.func104, Try.ntmps104
      go_wp2
      go_ret
      exact ⟨rfl, rfl⟩
    · have h2 : 9 < n := by have := h.out; simp [inB] at this; omega
      have hd : decide (n < 0) = false := decide_eq_false h1
      clear h h1
      go_enter Try.func104, Try.ntmps104
      go_wp2
      go_ret
      exact ⟨rfl, rfl⟩
  · have h0 : 0 ≤ n ∧ n ≤ 9 := by have := h.out; simpa [inB] using this
    have h1 : decide (n < 0) = false := decide_eq_false (by omega)
    have h2 : decide (9 < n) = false := decide_eq_false (by omega)
    clear h h0
    go_enter Try.func104, Try.ntmps104
    go_wp2
    go_ret
    exact ⟨rfl, rfl⟩

/-- -1 where all hold, and an index where one does not. -/
def IdxOf (b : Bool) (w : World) (e : Ending) (w' : World) : Prop :=
  ∃ r : Int, e = .returned (.int .i64 r) ∧ w = w' ∧ decide (0 ≤ r) = !b ∧ -1 ≤ r ∧ r ≤ 1048576
set_option maxHeartbeats 800000 in
theorem indexNo_any (A : Option Addr) (R : List Int) (c : Nat) (w : World) (hp : IntsAt w w.heap.size A R) (hn : R.length ≤ 1048576) :
    Calls Try.prog 111 #[.slice A R.length c, .func (.func 104) #[] #[]] w (IdxOf (cellsOk R) w) := by
  have hnI : (R.length : Int) ≤ 1048576 := by omega
  go_enter Try.func111, Try.ntmps111
  go_wp2
  go_loop [5, 8] (fun _ i => ∃ k : Nat, k ≤ R.length ∧ i = .int .i64 k ∧ Hid (okTo (cellOk R) k = true)) (fun _ i => R.length - (intOf i).toNat)
  case atStart => exact ⟨0, Nat.zero_le _, rfl, rfl⟩
  case round =>
    obtain ⟨k, hk, rfl, HX⟩ := hrel
    have hk0 : (0 : Int) ≤ (k : Int) := by omega
    by_cases hlt : k < R.length
    · obtain ⟨b, off, rfl, hbB, hc⟩ := hp (by omega)
      have d0 := hc k hlt
      have hltI : (k : Int) < (R.length : Int) := by omega
      cases hin : inB (R.getD k 0) 0 9
      · have HF : Hid (cellsOk R = false) := okTo_bad hlt hin
        have HI := Lib.hid hin
        clear hc hin hp
        generalize R.getD k 0 = v at *
        go_wp2_with (go_at_call 104; refine (isNoPrice_at HI _).mono ?_; rintro e w' ⟨rfl, rfl⟩)
        go_ret
        exact ⟨k, rfl, rfl, by rw [HF.out]; exact decide_eq_true (by omega), by omega, by omega⟩
      · have HX2 : Hid (okTo (cellOk R) (k + 1) = true) := okTo_next HX.out hin
        have HI := Lib.hid hin
        clear hc hin hp
        generalize R.getD k 0 = v at *
        go_wp2_with (go_at_call 104; refine (isNoPrice_at HI _).mono ?_; rintro e w' ⟨rfl, rfl⟩)
        go_round
        case rel => exact ⟨k + 1, by omega, by go_num, HX2⟩
        case measure => simp [intOf]; omega
    · have HF : Hid (cellsOk R = true) := by
        have := HX.out
        rw [show k = R.length by omega] at this
        exact this
      go_wp2
      go_ret
      exact ⟨-1, rfl, rfl, by rw [HF.out]; rfl, by omega, by omega⟩
theorem containsNo_any (A : Option Addr) (R : List Int) (c : Nat) (w : World) (hp : IntsAt w w.heap.size A R) (hn : R.length ≤ 1048576) :
    Calls Try.prog 103 #[.slice A R.length c, .func (.func 104) #[] #[]] w fun e w' => e = .returned (.bool (!cellsOk R)) ∧ w = w' := by
  go_enter Try.func103, Try.ntmps103
  go_wp2_with fail
  refine (indexNo_any _ _ _ _ hp hn).mono ?_
  rintro e w' ⟨r, rfl, rfl, hd, h1, h2⟩
  have HD := Lib.hid hd
  clear hd
  go_wp2
  go_ret
  exact ⟨retB HD.out, rfl⟩

theorem badRow_any (A : Option Addr) (R : List Int) (c width gb : Nat) (w : World) (hp : IntsAt w w.heap.size A R) (hn : R.length ≤ 1048576) (hw : width ≤ 1048576) (hgb : w.cell? ⟨gb, 0, none⟩ = some (.int .i64 (width : Int))) :
    Calls Try.prog 102 #[.slice A R.length c, .pointer (some ⟨gb, 0, none⟩)] w fun e w' => e = .returned (.bool (!(decide (R.length = width) && cellsOk R))) ∧ w = w' := by
  by_cases h : R.length = width
  · have hd : (R.length != width) = false := by simpa using h
    have hdI : ((R.length : Int) != (width : Int)) = false := by simp; omega
    have hR : Hid ((!(decide (R.length = width) && cellsOk R)) = !cellsOk R) := by show _ = _; rw [decide_eq_true h]; rfl
    have cc := fun w1 => containsNo_any A R c w1
    generalize cellsOk R = b at *
    have H := Lib.hid h
    clear h
    go_enter Try.func102, Try.ntmps102
    go_wp2_with (go_at_call 103; refine (cc _ hp hn).mono ?_; rintro e w' ⟨rfl, rfl⟩)
    go_ret
    exact ⟨retB hR.out.symm, rfl⟩
  · have hd : (R.length != width) = true := by simpa using h
    have hdI : ((R.length : Int) != (width : Int)) = true := by simp; omega
    have hR : Hid ((!(decide (R.length = width) && cellsOk R)) = true) := by show _ = _; rw [decide_eq_false h]; rfl
    generalize cellsOk R = b at *
    have H := Lib.hid h
    clear h
    go_enter Try.func102, Try.ntmps102
    go_wp2
    go_ret
    exact ⟨retB hR.out.symm, rfl⟩

set_option maxHeartbeats 800000 in
theorem indexRow_any (A : Option Addr) (Ls : List SlI) (c gb : Nat) (w : World) (hp : ISAt w w.heap.size A Ls) (hn : Ls.length ≤ 1048576) (hl : ∀ i, i < Ls.length → (Ls.getD i si0).2.1.length ≤ 1048576) (h1 : 1 ≤ Ls.length) (hgb : w.cell? ⟨gb, 0, none⟩ = some (.int .i64 (wid (heldI Ls) : Int))) :
    Calls Try.prog 110 #[.slice A Ls.length c, .func (.func 102) #[] #[.pointer (some ⟨gb, 0, none⟩)]] w (IdxOf (okTo (rowOk (heldI Ls)) Ls.length) w) := by
  have hnI : (Ls.length : Int) ≤ 1048576 := by omega
  have hwid : wid (heldI Ls) ≤ 1048576 := by rw [heldI_wid]; exact hl 0 (by omega)
  go_enter Try.func110, Try.ntmps110
  go_wp2
  go_loop [5, 8] (fun _ i => ∃ k : Nat, k ≤ Ls.length ∧ i = .int .i64 k ∧ Hid (okTo (rowOk (heldI Ls)) k = true)) (fun _ i => Ls.length - (intOf i).toNat)
  case atStart => exact ⟨0, Nat.zero_le _, rfl, rfl⟩
  case round =>
    obtain ⟨k, hk, rfl, HX⟩ := hrel
    have hk0 : (0 : Int) ≤ (k : Int) := by omega
    by_cases hlt : k < Ls.length
    · obtain ⟨b, off, rfl, hbB, hc⟩ := hp (by omega)
      obtain ⟨d0, pk, _, _⟩ := hc k hlt
      have hlk := hl k hlt
      have cb := fun w1 => badRow_any (Ls.getD k si0).1 (Ls.getD k si0).2.1 (Ls.getD k si0).2.2 (wid (heldI Ls)) gb w1
      have hR : Hid ((decide ((Ls.getD k si0).2.1.length = wid (heldI Ls)) && cellsOk (Ls.getD k si0).2.1) = rowOk (heldI Ls) k) := by show _ = _; unfold rowOk; rw [heldI_row]
      have hltI : (k : Int) < (Ls.length : Int) := by omega
      cases hin : rowOk (heldI Ls) k
      · have HF : Hid (okTo (rowOk (heldI Ls)) Ls.length = false) := okTo_bad hlt hin
        have HI := Lib.hid hin
        clear hc hin hp
        generalize (Ls.getD k si0).2.1 = R at *
        generalize (Ls.getD k si0).1 = Ay at *
        generalize (Ls.getD k si0).2.2 = ky at *
        go_wp2_with (go_at_call 102; refine (cb _ pk hlk hwid hgb).mono ?_; rintro e w' ⟨rfl, rfl⟩; rw [hR.out, HI.out])
        go_ret
        exact ⟨k, rfl, rfl, by rw [HF.out]; exact decide_eq_true (by omega), by omega, by omega⟩
      · have HX2 : Hid (okTo (rowOk (heldI Ls)) (k + 1) = true) := okTo_next HX.out hin
        have HI := Lib.hid hin
        clear hc hin hp
        generalize (Ls.getD k si0).2.1 = R at *
        generalize (Ls.getD k si0).1 = Ay at *
        generalize (Ls.getD k si0).2.2 = ky at *
        go_wp2_with (go_at_call 102; refine (cb _ pk hlk hwid hgb).mono ?_; rintro e w' ⟨rfl, rfl⟩; rw [hR.out, HI.out])
        go_round
        case rel => exact ⟨k + 1, by omega, by go_num, HX2⟩
        case measure => simp [intOf]; omega
    · have HF : Hid (okTo (rowOk (heldI Ls)) Ls.length = true) := by
        have := HX.out
        rw [show k = Ls.length by omega] at this
        exact this
      go_wp2
      go_ret
      exact ⟨-1, rfl, rfl, by rw [HF.out]; rfl, by omega, by omega⟩
theorem containsRow_any (A : Option Addr) (Ls : List SlI) (c gb : Nat) (w : World) (hp : ISAt w w.heap.size A Ls) (hn : Ls.length ≤ 1048576) (hl : ∀ i, i < Ls.length → (Ls.getD i si0).2.1.length ≤ 1048576) (h1 : 1 ≤ Ls.length) (hgb : w.cell? ⟨gb, 0, none⟩ = some (.int .i64 (wid (heldI Ls) : Int))) :
    Calls Try.prog 101 #[.slice A Ls.length c, .func (.func 102) #[] #[.pointer (some ⟨gb, 0, none⟩)]] w fun e w' => e = .returned (.bool (!okTo (rowOk (heldI Ls)) Ls.length)) ∧ w = w' := by
  go_enter Try.func101, Try.ntmps101
  go_wp2_with fail
  refine (indexRow_any _ _ _ _ _ hp hn hl h1 hgb).mono ?_
  rintro e w' ⟨r, rfl, rfl, hd, h1, h2⟩
  have HD := Lib.hid hd
  clear hd
  go_wp2
  go_ret
  exact ⟨retB HD.out, rfl⟩

set_option maxRecDepth 100000 in
set_option maxHeartbeats 1600000 in
theorem ValidMazeI_any (A : Option Addr) (Ls : List SlI) (c : Nat) (w : World) (hp : ISAt w w.heap.size A Ls) (hn : Ls.length ≤ 1048576) (hl : ∀ i, i < Ls.length → (Ls.getD i si0).2.1.length ≤ 1048576) :
    Calls Try.prog 87 #[.agg #[.slice A Ls.length c]] w fun e w' => e = .returned (.bool (mzB (heldI Ls))) ∧ Below w.heap.size w w' := by
  cases h1 : inB (Ls.length : Int) 1 12
  · have HF : Hid (mzB (heldI Ls) = false) := mzB_f1 (by rw [heldI_len]; exact h1)
    have h1' : Ls.length < 1 ∨ 12 < Ls.length := by simp [inB] at h1; omega
    clear h1
    by_cases hz : Ls.length = 0
    · have hd : ((Ls.length : Int) < 1) := by omega
      have H := Lib.hid hz
      clear hz
      go_enter Try.func87, Try.ntmps87
      go_wp2
      go_ret
      exact ⟨retB (by rw [HF.out]), by (repeat (first | assumption | exact Below.refl _ _ | (refine bl_alloc ?_ _) | (refine Below.drew ?_) | (refine bl_drewN ?_ _) | (refine bl_set ?_ (by first | (simp; done) | omega | (simp; omega)) _) | (refine bl_trans ?_ (by assumption)) | (refine bl_step ?_ (by assumption) (by first | omega | exact Below.size (by assumption) | (simp; omega) | (simp; exact Below.size (by assumption))))))⟩
    · have hd : decide ((Ls.length : Int) < 1) = false := decide_eq_false (by omega)
      have hd2 : (12 : Int) < (Ls.length : Int) := by omega
      have H := Lib.hid hz
      clear hz
      go_enter Try.func87, Try.ntmps87
      go_wp2
      go_ret
      exact ⟨retB (by rw [HF.out]), by (repeat (first | assumption | exact Below.refl _ _ | (refine bl_alloc ?_ _) | (refine Below.drew ?_) | (refine bl_drewN ?_ _) | (refine bl_set ?_ (by first | (simp; done) | omega | (simp; omega)) _) | (refine bl_trans ?_ (by assumption)) | (refine bl_step ?_ (by assumption) (by first | omega | exact Below.size (by assumption) | (simp; omega) | (simp; exact Below.size (by assumption))))))⟩
  · have hb1 : 1 ≤ Ls.length ∧ Ls.length ≤ 12 := by simp [inB] at h1; omega
    obtain ⟨hb1, hb12⟩ := hb1
    have hd : decide ((Ls.length : Int) < 1) = false := decide_eq_false (by omega)
    have hd2 : decide ((12 : Int) < (Ls.length : Int)) = false := decide_eq_false (by omega)
    have hp' := hp
    obtain ⟨b, off, rfl, hbB, hc⟩ := hp' (by omega)
    obtain ⟨c0, _, _, _⟩ := hc 0 (by omega)
    rw [Nat.add_zero] at c0
    have h0I : (0 : Int) < (Ls.length : Int) := by omega
    have h0N : 0 < Ls.length := by omega
    have hl0 := hl 0 (by omega)
    have HW := Lib.hid (heldI_wid Ls)
    have hwF := @mzB_f2 (heldI Ls)
    rw [← heldI_wid] at c0 hl0
    have HI := Lib.hid h1
    have HLe := Lib.hid (heldI_len Ls)
    cases h2 : inB (wid (heldI Ls) : Int) 1 12
    · have HF := Lib.hid (hwF h2)
      have h2' : wid (heldI Ls) < 1 ∨ 12 < wid (heldI Ls) := by simp [inB] at h2; omega
      clear h1 h2 hc hp hl hwF HW
      generalize wid (heldI Ls) = n0 at *
      generalize (Ls.getD 0 si0).1 = A0 at *
      generalize (Ls.getD 0 si0).2.2 = k0 at *
      by_cases hz : n0 = 0
      · subst hz
        go_enter Try.func87, Try.ntmps87
        go_wp2
        go_ret
        exact ⟨retB (by rw [HF.out]), by (repeat (first | assumption | exact Below.refl _ _ | (refine bl_alloc ?_ _) | (refine Below.drew ?_) | (refine bl_drewN ?_ _) | (refine bl_set ?_ (by first | (simp; done) | omega | (simp; omega)) _) | (refine bl_trans ?_ (by assumption)) | (refine bl_step ?_ (by assumption) (by first | omega | exact Below.size (by assumption) | (simp; omega) | (simp; exact Below.size (by assumption))))))⟩
      · have hd3 : decide (1 ≤ (n0 : Int)) = true := decide_eq_true (by omega)
        have hd4 : decide ((n0 : Int) ≤ 12) = false := decide_eq_false (by omega)
        have H := Lib.hid hz
        clear hz
        go_enter Try.func87, Try.ntmps87
        go_wp2
        go_ret
        exact ⟨retB (by rw [HF.out]), by (repeat (first | assumption | exact Below.refl _ _ | (refine bl_alloc ?_ _) | (refine Below.drew ?_) | (refine bl_drewN ?_ _) | (refine bl_set ?_ (by first | (simp; done) | omega | (simp; omega)) _) | (refine bl_trans ?_ (by assumption)) | (refine bl_step ?_ (by assumption) (by first | omega | exact Below.size (by assumption) | (simp; omega) | (simp; exact Below.size (by assumption))))))⟩
    · have HF : Hid (mzB (heldI Ls) = okTo (rowOk (heldI Ls)) Ls.length) := by show _ = _; unfold mzB; rw [heldI_len, h1, h2]; rfl
      have h2' : 1 ≤ wid (heldI Ls) ∧ wid (heldI Ls) ≤ 12 := by simp [inB] at h2; omega
      obtain ⟨h21, h22⟩ := h2'
      have hd3 : decide (1 ≤ (wid (heldI Ls) : Int)) = true := decide_eq_true (by omega)
      have hd4 : decide ((wid (heldI Ls) : Int) ≤ 12) = true := decide_eq_true (by omega)
      have cr := fun w1 gb h hg => containsRow_any (some ⟨b, off, none⟩) Ls c gb w1 h hn hl h0N hg
      clear h1 h2 hc hl hwF
      generalize okTo (rowOk (heldI Ls)) Ls.length = bb at *
      generalize wid (heldI Ls) = n0 at *
      generalize (Ls.getD 0 si0).1 = A0 at *
      generalize (Ls.getD 0 si0).2.2 = k0 at *
      go_enter Try.func87, Try.ntmps87
      go_wp2_with fail
      refine (cr _ _ (hp.to (by (repeat (first | assumption | exact Below.refl _ _ | (refine bl_alloc ?_ _) | (refine Below.drew ?_) | (refine bl_drewN ?_ _) | (refine bl_set ?_ (by first | (simp; done) | omega | (simp; omega)) _) | (refine bl_trans ?_ (by assumption)) | (refine bl_step ?_ (by assumption) (by first | omega | exact Below.size (by assumption) | (simp; omega) | (simp; exact Below.size (by assumption)))))))) (by go_simp)).mono ?_
      rintro e w' ⟨rfl, rfl⟩
      go_wp2
      go_ret
      exact ⟨retB (by rw [HF.out]), by (repeat (first | assumption | exact Below.refl _ _ | (refine bl_alloc ?_ _) | (refine Below.drew ?_) | (refine bl_drewN ?_ _) | (refine bl_set ?_ (by first | (simp; done) | omega | (simp; omega)) _) | (refine bl_trans ?_ (by assumption)) | (refine bl_step ?_ (by assumption) (by first | omega | exact Below.size (by assumption) | (simp; omega) | (simp; exact Below.size (by assumption))))))⟩
end Go.Proofs.Ytdpamieheefhdaa
