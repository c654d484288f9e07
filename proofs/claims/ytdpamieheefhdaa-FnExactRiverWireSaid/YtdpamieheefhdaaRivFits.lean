/-
  Contracts: whether a river fits, its least tracks, tight pins.
-/
import Derived.Test.YtdpamieheefhdaaRivGaps
namespace Go.Proofs.Ytdpamieheefhdaa
set_option linter.unusedSimpArgs false
set_option linter.unusedVariables false
open Go.ChangeShapes Go.WideShapes Go.ChangeAt Go.RowKit

theorem tightOne_any (a b : Int) (t g : Nat) (w : World) (hg : g < w.heap.size) (hc : w.cell? ⟨g, 0, none⟩ = some (.int .i64 (t : Int))) :
    Calls Try.prog 93 #[.agg #[.int .i64 a, .int .i64 b], .pointer (some ⟨g, 0, none⟩)] w fun e w' => e = .returned (.bool (decide (a < (t : Int)) || decide (b < (t : Int)))) ∧ Below w.heap.size w w' := by
  by_cases h1 : a < (t : Int)
  · have H := Lib.hid h1
    go_enter Try.func93, Try.ntmps93
    go_wp2
    go_ret
    exact ⟨retB (by rw [decide_eq_true H.out]; rfl), by (repeat (first | assumption | exact Below.refl _ _ | (refine bl_alloc ?_ _) | (refine Below.drew ?_) | (refine bl_drewN ?_ _) | (refine bl_set ?_ (by first | (simp; done) | omega | (simp; omega)) _) | (refine bl_trans ?_ (by assumption)) | (refine bl_step ?_ (by assumption) (by first | omega | exact Below.size (by assumption) | (simp; omega) | (simp; exact Below.size (by assumption))))))⟩
  · have hd : decide (a < (t : Int)) = false := decide_eq_false h1
    have H := Lib.hid hd
    clear h1
    go_enter Try.func93, Try.ntmps93
    go_wp2
    go_ret
    exact ⟨retB (by rw [H.out]; rfl), by (repeat (first | assumption | exact Below.refl _ _ | (refine bl_alloc ?_ _) | (refine Below.drew ?_) | (refine bl_drewN ?_ _) | (refine bl_set ?_ (by first | (simp; done) | omega | (simp; omega)) _) | (refine bl_trans ?_ (by assumption)) | (refine bl_step ?_ (by assumption) (by first | omega | exact Below.size (by assumption) | (simp; omega) | (simp; exact Below.size (by assumption))))))⟩

set_option maxRecDepth 100000 in
set_option maxHeartbeats 800000 in
theorem indexGap_any (T B : List Int) (n t g gb : Nat) (w : World) (hG : GBlk w g (gapsL T B n t) (n - t)) (hgb : gb < w.heap.size) (hc : w.cell? ⟨gb, 0, none⟩ = some (.int .i64 (t : Int))) (hl : n ≤ 20) :
    Calls Try.prog 92 #[.slice (some ⟨g, 0, none⟩) (n - t) (n - t), .func (.func 93) #[] #[.pointer (some ⟨gb, 0, none⟩)]] w fun e w' => e = .returned (.int .i64 (idxO (firstT T B t (n - t)))) ∧ Below w.heap.size w w' := by
  have hm : n - t ≤ 20 := by omega
  go_enter Try.func92, Try.ntmps92
  go_wp2
  go_loopw [5, 8] (fun _ i wr => ∃ k : Nat, k ≤ n - t ∧ i = .int .i64 k ∧ Hid (firstT T B t k = none) ∧ Below w.heap.size w wr) (fun _ i _ => (n - t) - (intOf i).toNat)
  case atStart => exact ⟨0, Nat.zero_le _, rfl, rfl, Below.refl _ _⟩
  case round =>
    obtain ⟨k, hk, rfl, HA, hb⟩ := hrel
    by_cases hlt : k < n - t
    · obtain ⟨c0, c1⟩ := hG.at_ hlt (by rw [gapsL_len]; exact hlt)
      rw [gapsL_at hlt] at c0 c1
      have d0 := (hb.cell (p := ⟨g, k * 2, none⟩) hG.lt).trans c0
      have d1 := (hb.cell (p := ⟨g, k * 2 + 1, none⟩) hG.lt).trans c1
      have d2 := (hb.cell (p := ⟨gb, 0, none⟩) hgb).trans hc
      have hgb' : gb < wr.heap.size := Nat.lt_of_lt_of_le hgb hb.size
      have HT : Hid (tightAt T B t k = (decide (gapB T B t k < t) || decide (gapT T B t k < t))) := rfl
      have hltI : (k : Int) < ((n - t : Nat) : Int) := by omega
      clear c0 c1 hG hc
      simp only at d0 d1
      cases ht : tightAt T B t k
      · have HN := Lib.hid (firstT_next HA.out ht)
        have HV := Lib.hid ht
        clear ht
        generalize gapB T B t k = a at *
        generalize gapT T B t k = b at *
        go_wp2_with (go_at_call 93; refine (tightOne_any _ _ _ _ _ hgb' d2).mono ?_; rintro e w' ⟨rfl, hb'⟩; rw [← HT.out, HV.out])
        go_roundw
        case rel => exact ⟨k + 1, by omega, by go_num, HN, by (repeat (first | assumption | exact Below.refl _ _ | (refine bl_alloc ?_ _) | (refine Below.drew ?_) | (refine bl_drewN ?_ _) | (refine bl_set ?_ (by first | (simp; done) | omega | (simp; omega)) _) | (refine bl_trans ?_ (by assumption)) | (refine bl_step ?_ (by assumption) (by first | omega | exact Below.size (by assumption) | (simp; omega) | (simp; exact Below.size (by assumption))))))⟩
        case measure => simp [intOf]; omega
      · have HN := Lib.hid (firstT_here HA.out ht hlt)
        have HV := Lib.hid ht
        clear ht
        generalize gapB T B t k = a at *
        generalize gapT T B t k = b at *
        go_wp2_with (go_at_call 93; refine (tightOne_any _ _ _ _ _ hgb' d2).mono ?_; rintro e w' ⟨rfl, hb'⟩; rw [← HT.out, HV.out])
        go_ret
        exact ⟨retI (by rw [HN.out]; rfl), by (repeat (first | assumption | exact Below.refl _ _ | (refine bl_alloc ?_ _) | (refine Below.drew ?_) | (refine bl_drewN ?_ _) | (refine bl_set ?_ (by first | (simp; done) | omega | (simp; omega)) _) | (refine bl_trans ?_ (by assumption)) | (refine bl_step ?_ (by assumption) (by first | omega | exact Below.size (by assumption) | (simp; omega) | (simp; exact Below.size (by assumption))))))⟩
    · obtain rfl : k = n - t := by omega
      go_wp2
      go_ret
      exact ⟨retI (by rw [HA.out]; rfl), hb⟩

theorem tightGap_any (T B : List Int) (n t g : Nat) (w : World) (hG : GBlk w g (gapsL T B n t) (n - t)) (hl : n ≤ 20) :
    Calls Try.prog 67 #[.slice (some ⟨g, 0, none⟩) (n - t) (n - t), .int .i64 (t : Int)] w fun e w' => e = .returned (.int .i64 (idxO (firstT T B t (n - t)))) ∧ Below w.heap.size w w' := by
  have hG1 := hG.to (w1 := w.alloc (.cells #[.int .i64 (t : Int)] 2)) ((Below.refl _ _).alloc (Nat.le_refl _) _)
  go_enter Try.func67, Try.ntmps67
  go_wp2_with fail
  refine (indexGap_any _ _ _ _ _ _ _ hG1 (by simp) (by simp) hl).mono ?_
  rintro e w' ⟨rfl, hb⟩
  go_wp2
  go_ret
  exact ⟨rfl, by (repeat (first | assumption | exact Below.refl _ _ | (refine bl_alloc ?_ _) | (refine Below.drew ?_) | (refine bl_drewN ?_ _) | (refine bl_set ?_ (by first | (simp; done) | omega | (simp; omega)) _) | (refine bl_trans ?_ (by assumption)) | (refine bl_step ?_ (by assumption) (by first | omega | exact Below.size (by assumption) | (simp; omega) | (simp; exact Below.size (by assumption))))))⟩

theorem isValid_n (A A' : Option Addr) (T B : List Int) (n n' c c' : Nat) (w : World) (hp : IntsAt w w.heap.size A T) (hq : IntsAt w w.heap.size A' B) (HT : Hid (T.length = n)) (HB : Hid (B.length = n')) (hl : n ≤ 1048576) (hl' : n' ≤ 1048576) :
    Calls Try.prog 36 #[rivV A A' n n' c c'] w fun e w' => e = .returned (.bool (riverB T B)) ∧ Below w.heap.size w w' := by
  have h1 := HT.out
  have h2 := HB.out
  subst h1; subst h2
  exact isValid_any A A' T B c c' w hp hq hl hl'
theorem l02Is_n (A A' : Option Addr) (T B : List Int) (n n' c c' : Nat) (w : World) (hp : IntsAt w w.heap.size A T) (hq : IntsAt w w.heap.size A' B) (HT : Hid (T.length = n)) (HB : Hid (B.length = n')) (hl : n ≤ 1048576) (hl' : n' ≤ 1048576) :
    Calls Try.prog 75 #[.slice A n c, .slice A' n' c'] w fun e w' => e = .returned (.bool (riverB T B)) ∧ Below w.heap.size w w' := by
  have h1 := HT.out
  have h2 := HB.out
  subst h1; subst h2
  exact l02Is_any A A' T B c c' w hp hq hl hl'

theorem fits_any (A A' : Option Addr) (T B : List Int) (n c c' t : Nat) (w : World) (hp : IntsAt w w.heap.size A T) (hq : IntsAt w w.heap.size A' B) (HT : Hid (T.length = n)) (HB : Hid (B.length = n)) (h1 : 1 ≤ n) (hl : n ≤ 20) (hlc : n ≤ c) (hlc' : n ≤ c') (ht : t ≤ 20) (hT : Places T) (hB : Places B) :
    Calls Try.prog 37 #[rivV A A' n n c c', .int .i64 (t : Int)] w fun e w' => e = .returned (.bool (fitB T B t)) ∧ Below w.heap.size w w' := by
  have hp1 := hp.to (w1 := w.alloc (.cells #[.slice A n c, .slice A' n c'] 60)) ((Below.refl _ _).alloc (Nat.le_refl _) _)
  have hq1 := hq.to (w1 := w.alloc (.cells #[.slice A n c, .slice A' n c'] 60)) ((Below.refl _ _).alloc (Nat.le_refl _) _)
  cases ho : firstT T B t (n - t) with
  | none =>
    have HF : Hid (fitB T B t = true) := by show _ = _; unfold fitB firstR; rw [HT.out, ho]; rfl
    have HO := Lib.hid ho
    clear ho
    go_enter Try.func37, Try.ntmps37
    go_wp2_with fail
    refine (gaps_any _ _ _ _ _ _ _ _ _ hp1 hq1 HT HB h1 hl hlc hlc' ht hT hB).mono ?_
    rintro e w1 ⟨g, rfl, hG, hb1, _⟩
    go_wp2_with fail
    refine (tightGap_any _ _ _ _ _ _ hG hl).mono ?_
    rintro e w2 ⟨rfl, hb2⟩
    rw [HO.out]
    go_wp2
    go_ret
    exact ⟨retB (by rw [HF.out]; rfl), by (repeat (first | assumption | exact Below.refl _ _ | (refine bl_alloc ?_ _) | (refine Below.drew ?_) | (refine bl_drewN ?_ _) | (refine bl_set ?_ (by first | (simp; done) | omega | (simp; omega)) _) | (refine bl_trans ?_ (by assumption)) | (refine bl_step ?_ (by assumption) (by first | omega | exact Below.size (by assumption) | (simp; omega) | (simp; exact Below.size (by assumption))))))⟩
  | some i =>
    have HF : Hid (fitB T B t = false) := by show _ = _; unfold fitB firstR; rw [HT.out, ho]; rfl
    have HO := Lib.hid ho
    clear ho
    go_enter Try.func37, Try.ntmps37
    go_wp2_with fail
    refine (gaps_any _ _ _ _ _ _ _ _ _ hp1 hq1 HT HB h1 hl hlc hlc' ht hT hB).mono ?_
    rintro e w1 ⟨g, rfl, hG, hb1, _⟩
    go_wp2_with fail
    refine (tightGap_any _ _ _ _ _ _ hG hl).mono ?_
    rintro e w2 ⟨rfl, hb2⟩
    rw [HO.out]
    simp only [idxO]
    go_wp2
    go_ret
    exact ⟨retB (by rw [HF.out]; exact decide_eq_false (by omega)), by (repeat (first | assumption | exact Below.refl _ _ | (refine bl_alloc ?_ _) | (refine Below.drew ?_) | (refine bl_drewN ?_ _) | (refine bl_set ?_ (by first | (simp; done) | omega | (simp; omega)) _) | (refine bl_trans ?_ (by assumption)) | (refine bl_step ?_ (by assumption) (by first | omega | exact Below.size (by assumption) | (simp; omega) | (simp; exact Below.size (by assumption))))))⟩

theorem areTracks_any (n : Int) (w : World) :
    Calls Try.prog 38 #[.int .i64 n] w fun e w' => e = .returned (.bool (inB n 0 20)) ∧ w = w' := by
  by_cases h1 : 0 ≤ n
  · by_cases h2 : n ≤ 20
    · have H := Lib.hid (inB_t h1 h2)
      go_enter Try.func38, Try.ntmps38
      go_wp2
      go_ret
      exact ⟨retB (by rw [H.out]; try simp [*]), rfl⟩
    · have H := Lib.hid (inB_f (lo := 0) (n := n) (hi := 20) (by omega))
      go_enter Try.func38, Try.ntmps38
      go_wp2
      go_ret
      exact ⟨retB (by rw [H.out]; try simp [*]), rfl⟩
  · have H := Lib.hid (inB_f (lo := 0) (n := n) (hi := 20) (by omega))
    go_enter Try.func38, Try.ntmps38
    go_wp2
    go_ret
    exact ⟨retB (by rw [H.out]; try simp [*]), rfl⟩
theorem l02Tracks_any (n : Int) (w : World) :
    Calls Try.prog 76 #[.int .i64 n] w fun e w' => e = .returned (.bool (inB n 0 20)) ∧ w = w' := by
  go_enter Try.func76, Try.ntmps76
  go_wp2_with (go_at_call 50; refine (l00In_any _ _ _ _).mono ?_; rintro e w' ⟨rfl, rfl⟩)
  go_ret
  exact ⟨rfl, rfl⟩

def fitsB (T B : List Int) (t : Int) : Bool := riverB T B && (inB t 0 20 && fitB T B t.toNat)
theorem tracks_nat {t : Int} (h : inB t 0 20 = true) : ∃ k : Nat, t = k ∧ k ≤ 20 := by
  simp [inB] at h
  exact ⟨t.toNat, by omega, by omega⟩

theorem FitsRiverI_any (A A' : Option Addr) (T B : List Int) (c c' : Nat) (t : Int) (w : World) (hp : IntsAt w w.heap.size A T) (hq : IntsAt w w.heap.size A' B) (hl : T.length ≤ 1048576) (hl' : B.length ≤ 1048576) (hlc : T.length ≤ c) (hlc' : B.length ≤ c') :
    Calls Try.prog 13 #[.slice A T.length c, .slice A' B.length c', .int .i64 t] w fun e w' => e = .returned (.bool (fitsB T B t)) ∧ Below w.heap.size w w' := by
  obtain ⟨n, hn⟩ : ∃ n, T.length = n := ⟨_, rfl⟩
  obtain ⟨n', hn'⟩ : ∃ n', B.length = n' := ⟨_, rfl⟩
  rw [hn] at hl hlc
  rw [hn'] at hl' hlc'
  rw [hn, hn']
  have HT := Lib.hid hn
  have HB := Lib.hid hn'
  have hp1 := hp.to (w1 := w.alloc (.cells #[.slice A n c, .slice A' n' c'] 60)) ((Below.refl _ _).alloc (Nat.le_refl _) _)
  have hq1 := hq.to (w1 := w.alloc (.cells #[.slice A n c, .slice A' n' c'] 60)) ((Below.refl _ _).alloc (Nat.le_refl _) _)
  cases hr : riverB T B
  · have HF : Hid (fitsB T B t = false) := by show _ = _; unfold fitsB; rw [hr]; rfl
    have HR := Lib.hid hr
    clear hr hn hn'
    go_enter Try.func13, Try.ntmps13
    go_wp2_with (go_at_call 36; refine (isValid_n _ _ _ _ _ _ _ _ _ hp1 hq1 HT HB hl hl').mono ?_; rintro e w' ⟨rfl, hb'⟩; rw [HR.out])
    go_ret
    exact ⟨retB (by rw [HF.out]), by (repeat (first | assumption | exact Below.refl _ _ | (refine bl_alloc ?_ _) | (refine Below.drew ?_) | (refine bl_drewN ?_ _) | (refine bl_set ?_ (by first | (simp; done) | omega | (simp; omega)) _) | (refine bl_trans ?_ (by assumption)) | (refine bl_step ?_ (by assumption) (by first | omega | exact Below.size (by assumption) | (simp; omega) | (simp; exact Below.size (by assumption))))))⟩
  · cases ht : inB t 0 20
    · have HF : Hid (fitsB T B t = false) := by show _ = _; unfold fitsB; rw [ht]; simp
      have HR := Lib.hid hr
      have HI := Lib.hid ht
      clear hr ht hn hn'
      go_enter Try.func13, Try.ntmps13
      go_wp2_with (first
        | (go_at_call 36; refine (isValid_n _ _ _ _ _ _ _ _ _ hp1 hq1 HT HB hl hl').mono ?_; rintro e w' ⟨rfl, hb'⟩; rw [HR.out])
        | (go_at_call 38; refine (areTracks_any _ _).mono ?_; rintro e w2 ⟨rfl, rfl⟩; rw [HI.out]))
      go_ret
      exact ⟨retB (by rw [HF.out]), by (repeat (first | assumption | exact Below.refl _ _ | (refine bl_alloc ?_ _) | (refine Below.drew ?_) | (refine bl_drewN ?_ _) | (refine bl_set ?_ (by first | (simp; done) | omega | (simp; omega)) _) | (refine bl_trans ?_ (by assumption)) | (refine bl_step ?_ (by assumption) (by first | omega | exact Below.size (by assumption) | (simp; omega) | (simp; exact Below.size (by assumption))))))⟩
    · obtain ⟨k, rfl, hk⟩ := tracks_nat ht
      have HF : Hid (fitsB T B k = fitB T B k) := by show _ = _; unfold fitsB; rw [hr, ht]; simp
      obtain ⟨hL, h1, h20, hT, hB⟩ := riverB_of hr
      obtain rfl : n = n' := by omega
      rw [hn] at h1 h20
      have HR := Lib.hid hr
      have HI := Lib.hid ht
      clear hr ht hL hn hn'
      go_enter Try.func13, Try.ntmps13
      go_wp2_with fail
      refine (isValid_n _ _ _ _ _ _ _ _ _ hp1 hq1 HT HB hl hl').mono ?_
      rintro e w1 ⟨rfl, hb1⟩
      rw [HR.out]
      obtain ⟨hc, hf, hz⟩ := bcell hb1
      have hz' : w.heap.size < w1.heap.size := by (simp at hz; omega)
      clear hz
      go_wp2_with (go_at_call 38; refine (areTracks_any _ _).mono ?_; rintro e w2 ⟨rfl, rfl⟩; rw [HI.out])
      refine (fits_any _ _ _ _ _ _ _ _ _ (hp1.to hb1) (hq1.to hb1) HT HB h1 h20 hlc hlc' hk hT hB).mono ?_
      rintro e w2 ⟨rfl, hb2⟩
      go_wp2
      go_ret
      exact ⟨retB (by rw [HF.out]), by (repeat (first | assumption | exact Below.refl _ _ | (refine bl_alloc ?_ _) | (refine Below.drew ?_) | (refine bl_drewN ?_ _) | (refine bl_set ?_ (by first | (simp; done) | omega | (simp; omega)) _) | (refine bl_trans ?_ (by assumption)) | (refine bl_step ?_ (by assumption) (by first | omega | exact Below.size (by assumption) | (simp; omega) | (simp; exact Below.size (by assumption))))))⟩
end Go.Proofs.Ytdpamieheefhdaa
