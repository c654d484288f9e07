/-
  Contracts: both LeastTracks, both TightPins.
-/
import Derived.Test.YtfmkedmhbmcbiaaRivFits
import Derived.OwnWalk
namespace Go.Proofs.Ytfmkedmhbmcbiaa
set_option linter.unusedSimpArgs false
set_option linter.unusedVariables false
open Go.ChangeShapes Go.WideShapes Go.ChangeAt Go.RowKit

def leastV (T B : List Int) : Value := .tuple #[.int .i64 (if riverB T B = true then (leastT T B : Int) else 0), .bool (riverB T B)]
theorem leastV_f {T B : List Int} (h : riverB T B = false) : leastV T B = .tuple #[.int .i64 0, .bool false] := by simp [leastV, h]
theorem leastV_t {T B : List Int} (h : riverB T B = true) : leastV T B = .tuple #[.int .i64 (leastT T B : Int), .bool true] := by simp [leastV, h]

theorem LeastTracksS_any (A A' : Option Addr) (T B : List Int) (c c' : Nat) (w : World) (hp : IntsAt w w.heap.size A T) (hq : IntsAt w w.heap.size A' B) (hl : T.length ≤ 1048576) (hl' : B.length ≤ 1048576) :
    Calls Try.prog 53 #[.slice A T.length c, .slice A' B.length c'] w fun e w' => e = .returned (leastV T B) ∧ Below w.heap.size w w' := by
  cases hr : riverB T B
  · have HF := Lib.hid (leastV_f hr)
    have HR := Lib.hid hr
    clear hr
    go_enter Try.func53, Try.ntmps53
    go_wp2_with (go_at_call 98; refine (l02Is_any _ _ _ _ _ _ _ hp hq hl hl').mono ?_; rintro e w' ⟨rfl, hb'⟩; rw [HR.out])
    go_ret2
    exact ⟨by rw [HF.out]; rfl, by (repeat (first | assumption | exact Below.refl _ _ | (refine bl_alloc ?_ _) | (refine Below.drew ?_) | (refine bl_drewN ?_ _) | (refine bl_set ?_ (by simp) _) | (refine bl_trans ?_ (by assumption)) | (refine bl_step ?_ (by assumption) (by first | omega | exact Below.size (by assumption) | (simp; omega) | (simp; exact Below.size (by assumption))))))⟩
  · have HF := Lib.hid (leastV_t hr)
    obtain ⟨hL, h1, h20, hT, hB⟩ := riverB_of hr
    have HL := Lib.hid hL
    have HR := Lib.hid hr
    clear hr hL
    go_enter Try.func53, Try.ntmps53
    go_wp2_with fail
    refine (l02Is_any _ _ _ _ _ _ _ hp hq hl hl').mono ?_
    rintro e w1 ⟨rfl, hb1⟩
    rw [HR.out]
    go_wp2_with fail
    refine (l02Least_any _ _ _ _ _ _ _ (hp.to hb1) (hq.to hb1) HL h20 hT hB).mono ?_
    rintro e w2 ⟨rfl, hb2⟩
    go_wp2
    go_ret2
    exact ⟨by rw [HF.out]; rfl, by (repeat (first | assumption | exact Below.refl _ _ | (refine bl_alloc ?_ _) | (refine Below.drew ?_) | (refine bl_drewN ?_ _) | (refine bl_set ?_ (by simp) _) | (refine bl_trans ?_ (by assumption)) | (refine bl_step ?_ (by assumption) (by first | omega | exact Below.size (by assumption) | (simp; omega) | (simp; exact Below.size (by assumption))))))⟩

theorem keepB2 {N : Nat} {w wr wr' : World} {g : Nat} {X Y : Value} (h : wr.cell? ⟨g, 0, none⟩ = some X ∧ wr.cell? ⟨g, 0 + 1, none⟩ = some Y ∧ Below N w wr ∧ N ≤ g ∧ g < wr.heap.size) (hs : Below wr.heap.size wr wr') :
    wr'.cell? ⟨g, 0, none⟩ = some X ∧ wr'.cell? ⟨g, 0 + 1, none⟩ = some Y ∧ Below N w wr' ∧ N ≤ g ∧ g < wr'.heap.size := by
  obtain ⟨h0, h1, hb, hN, hz⟩ := h
  exact ⟨(hs.cell (p := ⟨g, 0, none⟩) hz).trans h0, (hs.cell (p := ⟨g, 0 + 1, none⟩) hz).trans h1, hb.trans (hs.mono (by omega)), hN, Nat.lt_of_lt_of_le hz hs.size⟩

set_option maxHeartbeats 800000 in
theorem LeastTracksI_any (A A' : Option Addr) (T B : List Int) (c c' : Nat) (w : World) (hp : IntsAt w w.heap.size A T) (hq : IntsAt w w.heap.size A' B) (hl : T.length ≤ 1048576) (hl' : B.length ≤ 1048576) (hlc : T.length ≤ c) (hlc' : B.length ≤ c') :
    Calls Try.prog 31 #[.slice A T.length c, .slice A' B.length c'] w fun e w' => e = .returned (leastV T B) ∧ Below w.heap.size w w' := by
  obtain ⟨n, hn⟩ : ∃ n, T.length = n := ⟨_, rfl⟩
  obtain ⟨n', hn'⟩ : ∃ n', B.length = n' := ⟨_, rfl⟩
  rw [hn] at hl hlc
  rw [hn'] at hl' hlc'
  rw [hn, hn']
  have HT := Lib.hid hn
  have HB := Lib.hid hn'
  have hp1 := hp.to (w1 := w.alloc (.cells #[.slice A n c, .slice A' n' c'] 74)) ((Below.refl _ _).alloc (Nat.le_refl _) _)
  have hq1 := hq.to (w1 := w.alloc (.cells #[.slice A n c, .slice A' n' c'] 74)) ((Below.refl _ _).alloc (Nat.le_refl _) _)
  cases hr : riverB T B
  · have HF := Lib.hid (leastV_f hr)
    have HR := Lib.hid hr
    clear hr hn hn'
    go_enter Try.func31, Try.ntmps31
    go_wp2_with (go_at_call 79; refine (isValid_n _ _ _ _ _ _ _ _ _ hp1 hq1 HT HB hl hl').mono ?_; rintro e w' ⟨rfl, hb'⟩; rw [HR.out])
    go_ret2
    exact ⟨by rw [HF.out]; rfl, by (repeat (first | assumption | exact Below.refl _ _ | (refine bl_alloc ?_ _) | (refine Below.drew ?_) | (refine bl_drewN ?_ _) | (refine bl_set ?_ (by simp) _) | (refine bl_trans ?_ (by assumption)) | (refine bl_step ?_ (by assumption) (by first | omega | exact Below.size (by assumption) | (simp; omega) | (simp; exact Below.size (by assumption))))))⟩
  · have HF := Lib.hid (leastV_t hr)
    obtain ⟨hL, h1, h20, hT, hB⟩ := riverB_of hr
    obtain rfl : n = n' := by omega
    rw [hn] at h1 h20
    have HR := Lib.hid hr
    clear hr hL hn hn'
    go_enter Try.func31, Try.ntmps31
    go_wp2_with fail
    refine (isValid_n _ _ _ _ _ _ _ _ _ hp1 hq1 HT HB hl hl').mono ?_
    rintro e w1 ⟨rfl, hb1⟩
    rw [HR.out]
    have hz : w.heap.size < w1.heap.size := by have := hb1.size; simp at this; omega
    have q0 : w1.cell? ⟨w.heap.size, 0, none⟩ = some (.slice A n c) := (hb1.cell (p := ⟨w.heap.size, 0, none⟩) (by simp)).trans (by simp)
    have q1 : w1.cell? ⟨w.heap.size, 0 + 1, none⟩ = some (.slice A' n c') := (hb1.cell (p := ⟨w.heap.size, 1, none⟩) (by simp)).trans (by simp)
    have bel : Below w.heap.size w w1 := by (repeat (first | assumption | exact Below.refl _ _ | (refine bl_alloc ?_ _) | (refine Below.drew ?_) | (refine bl_drewN ?_ _) | (refine bl_set ?_ (by simp) _) | (refine bl_trans ?_ (by assumption)) | (refine bl_step ?_ (by assumption) (by first | omega | exact Below.size (by assumption) | (simp; omega) | (simp; exact Below.size (by assumption))))))
    have hS : w1.cell? ⟨w.heap.size, 0, none⟩ = some (.slice A n c) ∧ w1.cell? ⟨w.heap.size, 0 + 1, none⟩ = some (.slice A' n c') ∧ Below w.heap.size w w1 ∧ w.heap.size ≤ w.heap.size ∧ w.heap.size < w1.heap.size := ⟨q0, q1, bel, Nat.le_refl _, hz⟩
    clear hb1 q0 q1 bel hz hp1 hq1
    go_wp2_with fail
    go_loopw [7, 14] (fun _ i wr => ∃ k : Nat, k ≤ 20 ∧ i = .int .i64 k ∧ Hid (NoFit T B k) ∧ wr.cell? ⟨w.heap.size, 0, none⟩ = some (.slice A n c) ∧ wr.cell? ⟨w.heap.size, 0 + 1, none⟩ = some (.slice A' n c') ∧ Below w.heap.size w wr ∧ w.heap.size ≤ w.heap.size ∧ w.heap.size < wr.heap.size) (fun _ i _ => 21 - (intOf i).toNat)
    case atStart => exact ⟨0, Nat.zero_le _, rfl, fun j hj => by omega, hS⟩
    case round =>
      clear hS
      obtain ⟨k, hk, rfl, HA, hS⟩ := hrel
      obtain ⟨q0, q1, hb, _, hz⟩ := id hS
      have hkI : (k : Int) < 21 := by omega
      have hp2 := hp.to hb
      have hq2 := hq.to hb
      cases hf : fitB T B k
      · have HN : Hid (NoFit T B (k + 1)) := HA.out.next hf
        have hlt : k < 20 := by
          rcases Nat.lt_or_ge k 20 with h | h
          · exact h
          · rw [fitB_20 (by rw [HT.out]; omega)] at hf; cases hf
        have HV := Lib.hid hf
        clear hf
        go_wp2_with fail
        refine (fits_any _ _ _ _ _ _ _ _ _ hp2 hq2 HT HB h1 h20 hlc hlc' hk hT hB).mono ?_
        rintro e w' ⟨rfl, hb'⟩
        rw [HV.out]
        have hS' := keepB2 hS hb'
        clear hS q0 q1 hb hz hp2 hq2
        go_wp2
        go_roundw
        case rel => exact ⟨k + 1, by omega, by go_num, HN, hS'⟩
        case measure => simp [intOf]; omega
      · have HN := Lib.hid (HA.out.least hf hk)
        have HV := Lib.hid hf
        clear hf
        go_wp2_with fail
        refine (fits_any _ _ _ _ _ _ _ _ _ hp2 hq2 HT HB h1 h20 hlc hlc' hk hT hB).mono ?_
        rintro e w' ⟨rfl, hb'⟩
        rw [HV.out]
        go_wp2
        go_ret2
        exact ⟨by rw [HF.out, HN.out]; rfl, by (repeat (first | assumption | exact Below.refl _ _ | (refine bl_alloc ?_ _) | (refine Below.drew ?_) | (refine bl_drewN ?_ _) | (refine bl_set ?_ (by simp) _) | (refine bl_trans ?_ (by assumption)) | (refine bl_step ?_ (by assumption) (by first | omega | exact Below.size (by assumption) | (simp; omega) | (simp; exact Below.size (by assumption))))))⟩

def tightPV (T B : List Int) (t : Int) : Value :=
  if (riverB T B && inB t 0 20 && !fitB T B t.toNat) = true then .tuple #[.int .i64 (idxO (firstR T B t.toNat)), .int .i64 (sideO T B t.toNat (firstR T B t.toNat)), .bool true] else .tuple #[.int .i64 0, .int .i64 0, .bool false]
theorem tightPV_all (T B : List Int) (t : Int) : ∃ n m b, tightPV T B t = .tuple #[.int .i64 n, .int .i64 m, .bool b] := by
  unfold tightPV; split <;> exact ⟨_, _, _, rfl⟩
theorem tightPV_f {T B : List Int} {t : Int} (h : (riverB T B && inB t 0 20 && !fitB T B t.toNat) = false) : tightPV T B t = .tuple #[.int .i64 0, .int .i64 0, .bool false] := by
  unfold tightPV; rw [h]; rfl
theorem tightPV_t {T B : List Int} {t i : Nat} (hr : riverB T B = true) (ht : inB (t : Int) 0 20 = true) (h : firstR T B t = some i) :
    tightPV T B t = .tuple #[.int .i64 (i : Int), .int .i64 (if gapB T B t i < t then 0 else 1), .bool true] := by
  unfold tightPV fitB; simp only [Int.toNat_natCast, hr, ht, h]; rfl

theorem TightPinsS_any (A A' : Option Addr) (T B : List Int) (c c' : Nat) (t : Int) (w : World) (hp : IntsAt w w.heap.size A T) (hq : IntsAt w w.heap.size A' B) (hl : T.length ≤ 1048576) (hl' : B.length ≤ 1048576) :
    Calls Try.prog 58 #[.slice A T.length c, .slice A' B.length c', .int .i64 t] w fun e w' => e = .returned (tightPV T B t) ∧ Below w.heap.size w w' := by
  cases hr : riverB T B
  · have HF := Lib.hid (tightPV_f (T := T) (B := B) (t := t) (by rw [hr]; rfl))
    have HR := Lib.hid hr
    clear hr
    go_enter Try.func58, Try.ntmps58
    go_wp2_with (go_at_call 98; refine (l02Is_any _ _ _ _ _ _ _ hp hq hl hl').mono ?_; rintro e w' ⟨rfl, hb'⟩; rw [HR.out])
    go_ret3
    exact ⟨by rw [HF.out]; rfl, by (repeat (first | assumption | exact Below.refl _ _ | (refine bl_alloc ?_ _) | (refine Below.drew ?_) | (refine bl_drewN ?_ _) | (refine bl_set ?_ (by simp) _) | (refine bl_trans ?_ (by assumption)) | (refine bl_step ?_ (by assumption) (by first | omega | exact Below.size (by assumption) | (simp; omega) | (simp; exact Below.size (by assumption))))))⟩
  · cases ht : inB t 0 20
    · have HF := Lib.hid (tightPV_f (T := T) (B := B) (t := t) (by rw [ht]; simp))
      have HR := Lib.hid hr
      have HI := Lib.hid ht
      clear hr ht
      go_enter Try.func58, Try.ntmps58
      go_wp2_with (first
        | (go_at_call 98; refine (l02Is_any _ _ _ _ _ _ _ hp hq hl hl').mono ?_; rintro e w' ⟨rfl, hb'⟩; rw [HR.out])
        | (go_at_call 99; refine (l02Tracks_any _ _).mono ?_; rintro e w2 ⟨rfl, rfl⟩; rw [HI.out]))
      go_ret3
      exact ⟨by rw [HF.out]; rfl, by (repeat (first | assumption | exact Below.refl _ _ | (refine bl_alloc ?_ _) | (refine Below.drew ?_) | (refine bl_drewN ?_ _) | (refine bl_set ?_ (by simp) _) | (refine bl_trans ?_ (by assumption)) | (refine bl_step ?_ (by assumption) (by first | omega | exact Below.size (by assumption) | (simp; omega) | (simp; exact Below.size (by assumption))))))⟩
    · obtain ⟨k, rfl, hk⟩ := tracks_nat ht
      obtain ⟨hL, h1, h20, hT, hB⟩ := riverB_of hr
      have HL := Lib.hid hL
      cases ho : firstR T B k with
      | none =>
        have HF := Lib.hid (tightPV_f (T := T) (B := B) (t := (k : Int)) (by rw [Int.toNat_natCast, (fitB_none ho).1]; simp))
        have HV := Lib.hid (fitB_none ho).2
        have HR := Lib.hid hr
        have HI := Lib.hid ht
        clear hr ht hL ho
        go_enter Try.func58, Try.ntmps58
        go_wp2_with fail
        refine (l02Is_any _ _ _ _ _ _ _ hp hq hl hl').mono ?_
        rintro e w1 ⟨rfl, hb1⟩
        rw [HR.out]
        go_wp2_with (go_at_call 99; refine (l02Tracks_any _ _).mono ?_; rintro e w2 ⟨rfl, rfl⟩; rw [HI.out])
        refine (l02Tight_any _ _ _ _ _ _ _ _ (hp.to hb1) (hq.to hb1) HL h20 hk hT hB).mono ?_
        rintro e w2 ⟨rfl, hb2⟩
        rw [HV.out]
        go_wp2
        go_ret3
        exact ⟨by rw [HF.out]; rfl, by (repeat (first | assumption | exact Below.refl _ _ | (refine bl_alloc ?_ _) | (refine Below.drew ?_) | (refine bl_drewN ?_ _) | (refine bl_set ?_ (by simp) _) | (refine bl_trans ?_ (by assumption)) | (refine bl_step ?_ (by assumption) (by first | omega | exact Below.size (by assumption) | (simp; omega) | (simp; exact Below.size (by assumption))))))⟩
      | some i =>
        have HF := Lib.hid (tightPV_t hr ht ho)
        have HV := Lib.hid (fitB_some ho).2
        have HR := Lib.hid hr
        have HI := Lib.hid ht
        have hi : ¬ (i : Int) < 0 := by omega
        clear hr ht hL ho
        go_enter Try.func58, Try.ntmps58
        go_wp2_with fail
        refine (l02Is_any _ _ _ _ _ _ _ hp hq hl hl').mono ?_
        rintro e w1 ⟨rfl, hb1⟩
        rw [HR.out]
        go_wp2_with (go_at_call 99; refine (l02Tracks_any _ _).mono ?_; rintro e w2 ⟨rfl, rfl⟩; rw [HI.out])
        refine (l02Tight_any _ _ _ _ _ _ _ _ (hp.to hb1) (hq.to hb1) HL h20 hk hT hB).mono ?_
        rintro e w2 ⟨rfl, hb2⟩
        rw [HV.out]
        go_wp2
        go_ret3
        exact ⟨by rw [HF.out]; rfl, by (repeat (first | assumption | exact Below.refl _ _ | (refine bl_alloc ?_ _) | (refine Below.drew ?_) | (refine bl_drewN ?_ _) | (refine bl_set ?_ (by simp) _) | (refine bl_trans ?_ (by assumption)) | (refine bl_step ?_ (by assumption) (by first | omega | exact Below.size (by assumption) | (simp; omega) | (simp; exact Below.size (by assumption))))))⟩

set_option maxRecDepth 100000 in
set_option maxHeartbeats 800000 in
theorem TightPinsI_any (A A' : Option Addr) (T B : List Int) (c c' : Nat) (t : Int) (w : World) (hp : IntsAt w w.heap.size A T) (hq : IntsAt w w.heap.size A' B) (hl : T.length ≤ 1048576) (hl' : B.length ≤ 1048576) (hlc : T.length ≤ c) (hlc' : B.length ≤ c') :
    Calls Try.prog 38 #[.slice A T.length c, .slice A' B.length c', .int .i64 t] w fun e w' => e = .returned (tightPV T B t) ∧ Below w.heap.size w w' := by
  obtain ⟨n, hn⟩ : ∃ n, T.length = n := ⟨_, rfl⟩
  obtain ⟨n', hn'⟩ : ∃ n', B.length = n' := ⟨_, rfl⟩
  rw [hn] at hl hlc
  rw [hn'] at hl' hlc'
  rw [hn, hn']
  have HT := Lib.hid hn
  have HB := Lib.hid hn'
  have hp1 := hp.to (w1 := w.alloc (.cells #[.slice A n c, .slice A' n' c'] 74)) ((Below.refl _ _).alloc (Nat.le_refl _) _)
  have hq1 := hq.to (w1 := w.alloc (.cells #[.slice A n c, .slice A' n' c'] 74)) ((Below.refl _ _).alloc (Nat.le_refl _) _)
  cases hr : riverB T B
  · have HF := Lib.hid (tightPV_f (T := T) (B := B) (t := t) (by rw [hr]; rfl))
    have HR := Lib.hid hr
    clear hr hn hn'
    go_enter Try.func38, Try.ntmps38
    go_wp2_with (go_at_call 79; refine (isValid_n _ _ _ _ _ _ _ _ _ hp1 hq1 HT HB hl hl').mono ?_; rintro e w' ⟨rfl, hb'⟩; rw [HR.out])
    go_ret3
    exact ⟨by rw [HF.out]; rfl, by (repeat (first | assumption | exact Below.refl _ _ | (refine bl_alloc ?_ _) | (refine Below.drew ?_) | (refine bl_drewN ?_ _) | (refine bl_set ?_ (by simp) _) | (refine bl_trans ?_ (by assumption)) | (refine bl_step ?_ (by assumption) (by first | omega | exact Below.size (by assumption) | (simp; omega) | (simp; exact Below.size (by assumption))))))⟩
  · cases ht : inB t 0 20
    · have HF := Lib.hid (tightPV_f (T := T) (B := B) (t := t) (by rw [ht]; simp))
      have HR := Lib.hid hr
      have HI := Lib.hid ht
      clear hr ht hn hn'
      go_enter Try.func38, Try.ntmps38
      go_wp2_with (first
        | (go_at_call 79; refine (isValid_n _ _ _ _ _ _ _ _ _ hp1 hq1 HT HB hl hl').mono ?_; rintro e w' ⟨rfl, hb'⟩; rw [HR.out])
        | (go_at_call 81; refine (areTracks_any _ _).mono ?_; rintro e w2 ⟨rfl, rfl⟩; rw [HI.out]))
      go_ret3
      exact ⟨by rw [HF.out]; rfl, by (repeat (first | assumption | exact Below.refl _ _ | (refine bl_alloc ?_ _) | (refine Below.drew ?_) | (refine bl_drewN ?_ _) | (refine bl_set ?_ (by simp) _) | (refine bl_trans ?_ (by assumption)) | (refine bl_step ?_ (by assumption) (by first | omega | exact Below.size (by assumption) | (simp; omega) | (simp; exact Below.size (by assumption))))))⟩
    · obtain ⟨k, rfl, hk⟩ := tracks_nat ht
      obtain ⟨hL, h1, h20, hT, hB⟩ := riverB_of hr
      obtain rfl : n = n' := by omega
      rw [hn] at h1 h20
      cases ho : firstR T B k with
      | none =>
        have HF := Lib.hid (tightPV_f (T := T) (B := B) (t := (k : Int)) (by rw [Int.toNat_natCast, (fitB_none ho).1]; simp))
        have HO : Hid (firstT T B k (n - k) = none) := by show _ = _; rw [← hn]; exact ho
        have HR := Lib.hid hr
        have HI := Lib.hid ht
        clear hr ht hL hn hn' ho
        go_enter Try.func38, Try.ntmps38
        go_wp2_with fail
        refine (isValid_n _ _ _ _ _ _ _ _ _ hp1 hq1 HT HB hl hl').mono ?_
        rintro e w1 ⟨rfl, hb1⟩
        rw [HR.out]
        obtain ⟨hc, hf, hz⟩ := bcell hb1
        have hz' : w.heap.size < w1.heap.size := by (simp at hz; omega)
        clear hz
        go_wp2_with (go_at_call 81; refine (areTracks_any _ _).mono ?_; rintro e w2 ⟨rfl, rfl⟩; rw [HI.out])
        refine (gaps_any _ _ _ _ _ _ _ _ _ (hp1.to hb1) (hq1.to hb1) HT HB h1 h20 hlc hlc' hk hT hB).mono ?_
        rintro e w2 ⟨g, rfl, hG, hb2, _⟩
        go_wp2_with fail
        refine (tightGap_any _ _ _ _ _ _ hG h20).mono ?_
        rintro e w3 ⟨rfl, hb3⟩
        rw [HO.out]
        simp only [idxO]
        go_wp2
        go_ret3
        exact ⟨by rw [HF.out]; rfl, by (repeat (first | assumption | exact Below.refl _ _ | (refine bl_alloc ?_ _) | (refine Below.drew ?_) | (refine bl_drewN ?_ _) | (refine bl_set ?_ (by simp) _) | (refine bl_trans ?_ (by assumption)) | (refine bl_step ?_ (by assumption) (by first | omega | exact Below.size (by assumption) | (simp; omega) | (simp; exact Below.size (by assumption))))))⟩
      | some i =>
        have HF := Lib.hid (tightPV_t hr ht ho)
        have HO : Hid (firstT T B k (n - k) = some i) := by show _ = _; rw [← hn]; exact ho
        have hik : i < n - k := (firstT_lt HO.out).1
        have HR := Lib.hid hr
        have HI := Lib.hid ht
        have hi : ¬ (i : Int) < 0 := by omega
        have hiI : (i : Int) < ((n - k : Nat) : Int) := by omega
        clear hr ht hL hn hn' ho
        by_cases hg : gapB T B k i < (k : Int)
        all_goals
          have HG := Lib.hid hg
          go_enter Try.func38, Try.ntmps38
          go_wp2_with fail
          refine (isValid_n _ _ _ _ _ _ _ _ _ hp1 hq1 HT HB hl hl').mono ?_
          rintro e w1 ⟨rfl, hb1⟩
          rw [HR.out]
          obtain ⟨hc, hf, hz⟩ := bcell hb1
          have hz' : w.heap.size < w1.heap.size := by (simp at hz; omega)
          clear hz
          go_wp2_with (go_at_call 81; refine (areTracks_any _ _).mono ?_; rintro e w2 ⟨rfl, rfl⟩; rw [HI.out])
          refine (gaps_any _ _ _ _ _ _ _ _ _ (hp1.to hb1) (hq1.to hb1) HT HB h1 h20 hlc hlc' hk hT hB).mono ?_
          rintro e w2 ⟨g, rfl, hG, hb2, _⟩
          go_wp2_with fail
          refine (tightGap_any _ _ _ _ _ _ hG h20).mono ?_
          rintro e w3 ⟨rfl, hb3⟩
          rw [HO.out]
          simp only [idxO]
          have d0 := ((hG.to hb3).at_ hik (by rw [gapsL_len]; exact hik)).1
          rw [gapsL_at hik] at d0
          simp only at d0
          clear hc hf hG
          go_wp2
          go_ret3
          exact ⟨by rw [HF.out]; (first | rw [if_pos HG.out] | rw [if_neg (by have := HG.out; omega)]); rfl, by (repeat (first | assumption | exact Below.refl _ _ | (refine bl_alloc ?_ _) | (refine Below.drew ?_) | (refine bl_drewN ?_ _) | (refine bl_set ?_ (by simp) _) | (refine bl_trans ?_ (by assumption)) | (refine bl_step ?_ (by assumption) (by first | omega | exact Below.size (by assumption) | (simp; omega) | (simp; exact Below.size (by assumption))))))⟩
end Go.Proofs.Ytfmkedmhbmcbiaa
