/-
  Contracts: both ShiftRange, both BestShift.
-/
import Derived.Test.YtfmkedmhbmcbiaaRivLeast
namespace Go.Proofs.Ytfmkedmhbmcbiaa
set_option linter.unusedSimpArgs false
set_option linter.unusedVariables false
open Go.ChangeShapes Go.WideShapes Go.ChangeAt Go.RowKit

/-- A quiet call where draws have been joined. -/
theorem quietAgain {f : FuncId} {args : Array Value} {u : World} {i j : Nat} {x : Value}
    (c : Calls Try.prog f args (u.drewN (i + j)) fun e z => e = .returned x ∧ u.drewN (i + j) = z) :
    Calls Try.prog f args (u.drewN (i + j)) fun e z => e = .returned x ∧ ∃ m, z = u.drewN (i + m) := by
  refine c.mono ?_
  rintro e z ⟨he, hz⟩
  exact ⟨he, j, hz.symm⟩

def lowK (T B : List Int) (t : Nat) : Nat → Int
  | 0 => -200
  | k + 1 => max (lowK T B t k) ((t : Int) - gapT T B t k)
def highK (T B : List Int) (t : Nat) : Nat → Int
  | 0 => 200
  | k + 1 => min (highK T B t k) (gapB T B t k - (t : Int))
theorem gap_in {T B : List Int} (hT : Places T) (hB : Places B) (t k : Nat) : -99 ≤ gapB T B t k ∧ gapB T B t k ≤ 99 ∧ -99 ≤ gapT T B t k ∧ gapT T B t k ≤ 99 := by
  have := hT k; have := hT (k + t); have := hB k; have := hB (k + t)
  unfold gapB gapT
  omega
theorem lowK_in {T B : List Int} {t : Nat} (hT : Places T) (hB : Places B) (ht : t ≤ 20) : ∀ k, -200 ≤ lowK T B t k ∧ lowK T B t k ≤ 200
  | 0 => by unfold lowK; omega
  | k + 1 => by have := lowK_in hT hB ht k; have := gap_in hT hB t k; unfold lowK; omega
theorem highK_in {T B : List Int} {t : Nat} (hT : Places T) (hB : Places B) (ht : t ≤ 20) : ∀ k, -200 ≤ highK T B t k ∧ highK T B t k ≤ 200
  | 0 => by unfold highK; omega
  | k + 1 => by have := highK_in hT hB ht k; have := gap_in hT hB t k; unfold highK; omega
def lowR (T B : List Int) (t : Nat) : Int := lowK T B t (T.length - t)
def highR (T B : List Int) (t : Nat) : Int := highK T B t (T.length - t)

theorem vint {a b : Int} (h : a = b) : Value.int .i64 a = .int .i64 b := by rw [h]

set_option maxRecDepth 100000 in
set_option maxHeartbeats 1600000 in
theorem l02Range_any (A A' : Option Addr) (T B : List Int) (c c' t : Nat) (w : World) (hp : IntsAt w w.heap.size A T) (hq : IntsAt w w.heap.size A' B) (HL : Hid (T.length = B.length)) (hl : T.length ≤ 20) (ht : t ≤ 20) (hT : Places T) (hB : Places B) :
    Calls Try.prog 107 #[.slice A T.length c, .slice A' B.length c', .int .i64 (t : Int)] w fun e w' => e = .returned (.tuple #[.int .i64 (lowR T B t), .int .i64 (highR T B t)]) ∧ Below w.heap.size w w' := by
  have hlI : (T.length : Int) ≤ 20 := by omega
  have htI : (t : Int) ≤ 20 := by omega
  have ht0 : 0 ≤ (t : Int) := by omega
  go_enter Try.func107, Try.ntmps107
  go_wp2
  go_loopw [8, 9, 10] (fun lo hi i wr => ∃ k : Nat, k ≤ T.length - t ∧ i = .int .i64 k ∧ lo = .int .i64 (lowK T B t k) ∧ hi = .int .i64 (highK T B t k) ∧ Below w.heap.size w wr) (fun _ _ i _ => T.length - (intOf i).toNat)
  case atStart => exact ⟨0, Nat.zero_le _, rfl, rfl, rfl, Below.refl _ _⟩
  case round =>
    obtain ⟨k, hk, rfl, rfl, rfl, hb⟩ := hrel
    have hk20 : (k : Int) ≤ 20 := by omega
    have hk0 : 0 ≤ (k : Int) := by omega
    by_cases hlt : k + t < T.length
    · obtain ⟨b, off, rfl, hbB, hc⟩ := hp (by omega)
      obtain ⟨b', off', rfl, hbB', hc'⟩ := hq (by rw [← HL.out]; omega)
      have hL := HL.out
      have d0 := (hb.cell (p := ⟨b, off + k, none⟩) hbB).trans (hc k (by omega))
      have d1 := (hb.cell (p := ⟨b, off + (k + t), none⟩) hbB).trans (hc (k + t) hlt)
      have d2 := (hb.cell (p := ⟨b', off' + k, none⟩) hbB').trans (hc' k (by omega))
      have d3 := (hb.cell (p := ⟨b', off' + (k + t), none⟩) hbB').trans (hc' (k + t) (by omega))
      have HN : Hid (lowK T B t (k + 1) = max (lowK T B t k) ((t : Int) - (T.getD (k + t) 0 - B.getD k 0))) := rfl
      have HN' : Hid (highK T B t (k + 1) = min (highK T B t k) (B.getD (k + t) 0 - T.getD k 0 - (t : Int))) := rfl
      obtain ⟨x0, x0'⟩ := hT k
      obtain ⟨x1, x1'⟩ := hT (k + t)
      obtain ⟨y0, y0'⟩ := hB k
      obtain ⟨y1, y1'⟩ := hB (k + t)
      have hltI : (k : Int) + (t : Int) < (T.length : Int) := by omega
      have hltI' : (k : Int) + (t : Int) < (B.length : Int) := by omega
      have hkI : (k : Int) < (T.length : Int) := by omega
      have hkI' : (k : Int) < (B.length : Int) := by omega
      have hzle : w.heap.size ≤ wr.heap.size := hb.size
      generalize T.getD k 0 = p0 at *
      generalize T.getD (k + t) 0 = p1 at *
      generalize B.getD k 0 = q0 at *
      generalize B.getD (k + t) 0 = q1 at *
      generalize lowK T B t k = lo at *
      generalize highK T B t k = hi at *
      clear hc hc' hp hq hT hB hL
      have e1 : IntKind.i64.wrap ((k : Int) + t) = ((k + t : Nat) : Int) := by rw [IntWalk.i64_in _ (by omega)]; omega
      have e2 : IntKind.i64.wrap (q0 + t) = q0 + t := IntWalk.i64_in _ (by omega)
      have e3 : IntKind.i64.wrap (q0 + t - p1) = q0 + t - p1 := IntWalk.i64_in _ (by omega)
      have e4 : IntKind.i64.wrap (q1 - p0) = q1 - p0 := IntWalk.i64_in _ (by omega)
      have e5 : IntKind.i64.wrap (q1 - p0 - t) = q1 - p0 - t := IntWalk.i64_in _ (by omega)
      go_wp2
      go_quiet ((go_at_call 129; exact Calls.quiet_of_same (quiet_l (l00Max_any _ _ _))))
      go_wp2
      go_quiet ((go_at_call 128; exact quietAgain (l00Min_any _ _ _)))
      clear e1 e2 e3 e4 e5
      go_wp2
      go_roundw
      case rel => exact ⟨k + 1, by omega, by go_num, vint (by rw [HN.out]; congr 1; omega), vint (by rw [HN'.out]), by (repeat (first | assumption | exact Below.refl _ _ | (refine bl_alloc ?_ _) | (refine Below.drew ?_) | (refine bl_drewN ?_ _) | (refine bl_set ?_ (by simp) _) | (refine bl_trans ?_ (by assumption)) | (refine bl_step ?_ (by assumption) (by first | omega | exact Below.size (by assumption) | (simp; omega) | (simp; exact Below.size (by assumption))))))⟩
      case measure => simp [intOf]; omega
    · have HE : Hid (lowR T B t = lowK T B t k ∧ highR T B t = highK T B t k) := by
        show _ ∧ _
        unfold lowR highR
        rw [show T.length - t = k by omega]; exact ⟨rfl, rfl⟩
      have hltI : ¬ (k : Int) + (t : Int) < (T.length : Int) := by omega
      go_wp2
      go_ret2
      exact ⟨by rw [HE.out.1, HE.out.2]; rfl, hb⟩

def rngOk (T B : List Int) (t : Nat) : Bool := decide (lowR T B t ≤ highR T B t)
def rngV (T B : List Int) (t : Nat) : Value :=
  if rngOk T B t = true then .tuple #[.int .i64 (lowR T B t), .int .i64 (highR T B t), .bool true] else .tuple #[.int .i64 0, .int .i64 0, .bool false]

set_option maxRecDepth 100000 in
set_option maxHeartbeats 1600000 in
theorem shifts_any (A A' : Option Addr) (T B : List Int) (n c c' t : Nat) (w : World) (hp : IntsAt w w.heap.size A T) (hq : IntsAt w w.heap.size A' B) (HT : Hid (T.length = n)) (HB : Hid (B.length = n)) (h1 : 1 ≤ n) (hl : n ≤ 20) (hlc : n ≤ c) (hlc' : n ≤ c') (ht : t ≤ 20) (hT : Places T) (hB : Places B) :
    Calls Try.prog 87 #[rivV A A' n n c c', .int .i64 (t : Int)] w fun e w' => e = .returned (rngV T B t) ∧ Below w.heap.size w w' := by
  have hp1 := hp.to (w1 := w.alloc (.cells #[.slice A n c, .slice A' n c'] 74)) ((Below.refl _ _).alloc (Nat.le_refl _) _)
  have hq1 := hq.to (w1 := w.alloc (.cells #[.slice A n c, .slice A' n c'] 74)) ((Below.refl _ _).alloc (Nat.le_refl _) _)
  have hmin : ∀ x y : Int, (if y < x then y else x) = min x y := fun x y => by omega
  have hmax : ∀ x y : Int, (if x < y then y else x) = max x y := fun x y => by omega
  have htI : (t : Int) ≤ 20 := by omega
  have ht0 : 0 ≤ (t : Int) := by omega
  have hG20 : n - t ≤ 20 := by omega
  go_enter Try.func87, Try.ntmps87
  go_wp2_with fail
  refine (gaps_any _ _ _ _ _ _ _ _ _ hp1 hq1 HT HB h1 hl hlc hlc' ht hT hB).mono ?_
  rintro e w1 ⟨g, rfl, hG, hb1, hgl⟩
  have bel : Below w.heap.size w w1 := by (repeat (first | assumption | exact Below.refl _ _ | (refine bl_alloc ?_ _) | (refine Below.drew ?_) | (refine bl_drewN ?_ _) | (refine bl_set ?_ (by simp) _) | (refine bl_trans ?_ (by assumption)) | (refine bl_step ?_ (by assumption) (by first | omega | exact Below.size (by assumption) | (simp; omega) | (simp; exact Below.size (by assumption))))))
  clear hb1 hp1 hq1
  go_wp2_with fail
  go_loopw [7, 8, 10, 15] (fun lo hi _ i wr => ∃ k : Nat, k ≤ n - t ∧ i = .int .i64 k ∧ lo = .int .i64 (lowK T B t k) ∧ hi = .int .i64 (highK T B t k) ∧ Below w1.heap.size w1 wr) (fun _ _ _ i _ => (n - t) - (intOf i).toNat)
  case atStart => exact ⟨0, Nat.zero_le _, rfl, rfl, rfl, Below.refl _ _⟩
  case round =>
    obtain ⟨k, hk, rfl, rfl, rfl, hb⟩ := hrel
    have hk0 : 0 ≤ (k : Int) := by omega
    by_cases hlt : k < n - t
    · obtain ⟨c0, c1⟩ := hG.at_ hlt (by rw [gapsL_len]; exact hlt)
      rw [gapsL_at hlt] at c0 c1
      have d0 := (hb.cell (p := ⟨g, k * 2, none⟩) hG.lt).trans c0
      have d1 := (hb.cell (p := ⟨g, k * 2 + 1, none⟩) hG.lt).trans c1
      simp only at d0 d1
      have HN : Hid (lowK T B t (k + 1) = max (lowK T B t k) ((t : Int) - gapT T B t k)) := rfl
      have HN' : Hid (highK T B t (k + 1) = min (highK T B t k) (gapB T B t k - (t : Int))) := rfl
      obtain ⟨x0, x0', y0, y0'⟩ := gap_in hT hB t k
      obtain ⟨l0, l0'⟩ := lowK_in hT hB ht k
      obtain ⟨u0, u0'⟩ := highK_in hT hB ht k
      have hltI : (k : Int) < ((n - t : Nat) : Int) := by omega
      generalize gapB T B t k = ga at *
      generalize gapT T B t k = gb at *
      generalize lowK T B t k = lo at *
      generalize highK T B t k = hi at *
      clear c0 c1 hG
      go_wp2
      go_roundw
      case rel => exact ⟨k + 1, by omega, by go_num, vint (by rw [HN.out]), vint (by rw [HN'.out]), by (repeat (first | assumption | exact Below.refl _ _ | (refine bl_alloc ?_ _) | (refine Below.drew ?_) | (refine bl_drewN ?_ _) | (refine bl_set ?_ (by simp) _) | (refine bl_trans ?_ (by assumption)) | (refine bl_step ?_ (by assumption) (by first | omega | exact Below.size (by assumption) | (simp; omega) | (simp; exact Below.size (by assumption))))))⟩
      case measure => simp [intOf]; omega
    · have HE : Hid (lowR T B t = lowK T B t k ∧ highR T B t = highK T B t k) := by
        show _ ∧ _
        unfold lowR highR
        rw [HT.out, show n - t = k by omega]; exact ⟨rfl, rfl⟩
      have hltI : ¬ (k : Int) < ((n - t : Nat) : Int) := by omega
      have HV : lowK T B t k ≤ highK T B t k → Hid (rngV T B t = .tuple #[.int .i64 (lowK T B t k), .int .i64 (highK T B t k), .bool true]) := fun h => by
        show _ = _
        have : rngOk T B t = true := by unfold rngOk; rw [HE.out.1, HE.out.2]; exact decide_eq_true h
        unfold rngV; rw [if_pos this, HE.out.1, HE.out.2]
      have HV' : ¬ lowK T B t k ≤ highK T B t k → Hid (rngV T B t = .tuple #[.int .i64 0, .int .i64 0, .bool false]) := fun h => by
        show _ = _
        have : rngOk T B t = false := by unfold rngOk; rw [HE.out.1, HE.out.2]; exact decide_eq_false h
        unfold rngV; rw [this]; rfl
      by_cases hr : lowK T B t k ≤ highK T B t k
      · have HR := HV hr
        clear HV HV' hmin hmax
        generalize lowK T B t k = lo at *
        generalize highK T B t k = hi at *
        go_wp2
        go_ret3
        exact ⟨by rw [HR.out]; rfl, by (repeat (first | assumption | exact Below.refl _ _ | (refine bl_alloc ?_ _) | (refine Below.drew ?_) | (refine bl_drewN ?_ _) | (refine bl_set ?_ (by simp) _) | (refine bl_trans ?_ (by assumption)) | (refine bl_step ?_ (by assumption) (by first | omega | exact Below.size (by assumption) | (simp; omega) | (simp; exact Below.size (by assumption))))))⟩
      · have HR := HV' hr
        clear HV HV' hmin hmax
        generalize lowK T B t k = lo at *
        generalize highK T B t k = hi at *
        go_wp2
        go_ret3
        exact ⟨by rw [HR.out]; rfl, by (repeat (first | assumption | exact Below.refl _ _ | (refine bl_alloc ?_ _) | (refine Below.drew ?_) | (refine bl_drewN ?_ _) | (refine bl_set ?_ (by simp) _) | (refine bl_trans ?_ (by assumption)) | (refine bl_step ?_ (by assumption) (by first | omega | exact Below.size (by assumption) | (simp; omega) | (simp; exact Below.size (by assumption))))))⟩

theorem rngV_all (T B : List Int) (t : Nat) : ∃ n m b, rngV T B t = .tuple #[.int .i64 n, .int .i64 m, .bool b] := by
  unfold rngV; split <;> exact ⟨_, _, _, rfl⟩
def rangeV (T B : List Int) (t : Int) : Value :=
  if (riverB T B && inB t 0 20) = true then rngV T B t.toNat else .tuple #[.int .i64 0, .int .i64 0, .bool false]
theorem rangeV_all (T B : List Int) (t : Int) : ∃ n m b, rangeV T B t = .tuple #[.int .i64 n, .int .i64 m, .bool b] := by
  unfold rangeV; split
  · exact rngV_all _ _ _
  · exact ⟨_, _, _, rfl⟩
theorem rangeV_f {T B : List Int} {t : Int} (h : (riverB T B && inB t 0 20) = false) : rangeV T B t = .tuple #[.int .i64 0, .int .i64 0, .bool false] := by
  unfold rangeV; rw [h]; rfl
theorem rangeV_t {T B : List Int} {t : Nat} (h : riverB T B = true) (ht : inB (t : Int) 0 20 = true) : rangeV T B t = rngV T B t := by
  unfold rangeV; rw [h, ht]; rfl

theorem ShiftRangeS_any (A A' : Option Addr) (T B : List Int) (c c' : Nat) (t : Int) (w : World) (hp : IntsAt w w.heap.size A T) (hq : IntsAt w w.heap.size A' B) (hl : T.length ≤ 1048576) (hl' : B.length ≤ 1048576) :
    Calls Try.prog 59 #[.slice A T.length c, .slice A' B.length c', .int .i64 t] w fun e w' => e = .returned (rangeV T B t) ∧ Below w.heap.size w w' := by
  cases hr : riverB T B
  · have HF := Lib.hid (rangeV_f (T := T) (B := B) (t := t) (by rw [hr]; rfl))
    have HR := Lib.hid hr
    clear hr
    go_enter Try.func59, Try.ntmps59
    go_wp2_with (go_at_call 98; refine (l02Is_any _ _ _ _ _ _ _ hp hq hl hl').mono ?_; rintro e w' ⟨rfl, hb'⟩; rw [HR.out])
    go_ret3
    exact ⟨by rw [HF.out]; rfl, by (repeat (first | assumption | exact Below.refl _ _ | (refine bl_alloc ?_ _) | (refine Below.drew ?_) | (refine bl_drewN ?_ _) | (refine bl_set ?_ (by simp) _) | (refine bl_trans ?_ (by assumption)) | (refine bl_step ?_ (by assumption) (by first | omega | exact Below.size (by assumption) | (simp; omega) | (simp; exact Below.size (by assumption))))))⟩
  · cases ht : inB t 0 20
    · have HF := Lib.hid (rangeV_f (T := T) (B := B) (t := t) (by rw [ht]; simp))
      have HR := Lib.hid hr
      have HI := Lib.hid ht
      clear hr ht
      go_enter Try.func59, Try.ntmps59
      go_wp2_with (first
        | (go_at_call 98; refine (l02Is_any _ _ _ _ _ _ _ hp hq hl hl').mono ?_; rintro e w' ⟨rfl, hb'⟩; rw [HR.out])
        | (go_at_call 99; refine (l02Tracks_any _ _).mono ?_; rintro e w2 ⟨rfl, rfl⟩; rw [HI.out]))
      go_ret3
      exact ⟨by rw [HF.out]; rfl, by (repeat (first | assumption | exact Below.refl _ _ | (refine bl_alloc ?_ _) | (refine Below.drew ?_) | (refine bl_drewN ?_ _) | (refine bl_set ?_ (by simp) _) | (refine bl_trans ?_ (by assumption)) | (refine bl_step ?_ (by assumption) (by first | omega | exact Below.size (by assumption) | (simp; omega) | (simp; exact Below.size (by assumption))))))⟩
    · obtain ⟨k, rfl, hk⟩ := tracks_nat ht
      obtain ⟨hL, h1, h20, hT, hB⟩ := riverB_of hr
      have HL := Lib.hid hL
      have HF := Lib.hid (rangeV_t hr ht)
      have HR := Lib.hid hr
      have HI := Lib.hid ht
      clear hr ht hL
      by_cases ho : lowR T B k ≤ highR T B k
      · have HV : Hid (rngV T B k = .tuple #[.int .i64 (lowR T B k), .int .i64 (highR T B k), .bool true]) := by
          show _ = _; unfold rngV rngOk; rw [decide_eq_true ho]; rfl
        go_enter Try.func59, Try.ntmps59
        go_wp2_with fail
        refine (l02Is_any _ _ _ _ _ _ _ hp hq hl hl').mono ?_
        rintro e w1 ⟨rfl, hb1⟩
        rw [HR.out]
        go_wp2_with (go_at_call 99; refine (l02Tracks_any _ _).mono ?_; rintro e w2 ⟨rfl, rfl⟩; rw [HI.out])
        refine (l02Range_any _ _ _ _ _ _ _ _ (hp.to hb1) (hq.to hb1) HL h20 hk hT hB).mono ?_
        rintro e w2 ⟨rfl, hb2⟩
        go_wp2
        go_ret3
        exact ⟨by rw [HF.out, HV.out]; rfl, by (repeat (first | assumption | exact Below.refl _ _ | (refine bl_alloc ?_ _) | (refine Below.drew ?_) | (refine bl_drewN ?_ _) | (refine bl_set ?_ (by simp) _) | (refine bl_trans ?_ (by assumption)) | (refine bl_step ?_ (by assumption) (by first | omega | exact Below.size (by assumption) | (simp; omega) | (simp; exact Below.size (by assumption))))))⟩
      · have HV : Hid (rngV T B k = .tuple #[.int .i64 0, .int .i64 0, .bool false]) := by
          show _ = _; unfold rngV rngOk; rw [decide_eq_false ho]; rfl
        go_enter Try.func59, Try.ntmps59
        go_wp2_with fail
        refine (l02Is_any _ _ _ _ _ _ _ hp hq hl hl').mono ?_
        rintro e w1 ⟨rfl, hb1⟩
        rw [HR.out]
        go_wp2_with (go_at_call 99; refine (l02Tracks_any _ _).mono ?_; rintro e w2 ⟨rfl, rfl⟩; rw [HI.out])
        refine (l02Range_any _ _ _ _ _ _ _ _ (hp.to hb1) (hq.to hb1) HL h20 hk hT hB).mono ?_
        rintro e w2 ⟨rfl, hb2⟩
        go_wp2
        go_ret3
        exact ⟨by rw [HF.out, HV.out]; rfl, by (repeat (first | assumption | exact Below.refl _ _ | (refine bl_alloc ?_ _) | (refine Below.drew ?_) | (refine bl_drewN ?_ _) | (refine bl_set ?_ (by simp) _) | (refine bl_trans ?_ (by assumption)) | (refine bl_step ?_ (by assumption) (by first | omega | exact Below.size (by assumption) | (simp; omega) | (simp; exact Below.size (by assumption))))))⟩

theorem ShiftRangeI_any (A A' : Option Addr) (T B : List Int) (c c' : Nat) (t : Int) (w : World) (hp : IntsAt w w.heap.size A T) (hq : IntsAt w w.heap.size A' B) (hl : T.length ≤ 1048576) (hl' : B.length ≤ 1048576) (hlc : T.length ≤ c) (hlc' : B.length ≤ c') :
    Calls Try.prog 39 #[.slice A T.length c, .slice A' B.length c', .int .i64 t] w fun e w' => e = .returned (rangeV T B t) ∧ Below w.heap.size w w' := by
  obtain ⟨n, hn⟩ : ∃ n, T.length = n := ⟨_, rfl⟩
  obtain ⟨n', hn'⟩ : ∃ n', B.length = n' := ⟨_, rfl⟩
  rw [hn] at hl hlc
  rw [hn'] at hl' hlc'
  rw [hn, hn']
  have HT := Lib.hid hn
  have HB := Lib.hid hn'
  have hp1 := hp.to (w1 := w.alloc (.cells #[.slice A n c, .slice A' n' c'] 74)) ((Below.refl _ _).alloc (Nat.le_refl _) _)
  have hq1 := hq.to (w1 := w.alloc (.cells #[.slice A n c, .slice A' n' c'] 74)) ((Below.refl _ _).alloc (Nat.le_refl _) _)
  cases hr : riverB T B
  · have HF := Lib.hid (rangeV_f (T := T) (B := B) (t := t) (by rw [hr]; rfl))
    have HR := Lib.hid hr
    clear hr hn hn'
    go_enter Try.func39, Try.ntmps39
    go_wp2_with (go_at_call 79; refine (isValid_n _ _ _ _ _ _ _ _ _ hp1 hq1 HT HB hl hl').mono ?_; rintro e w' ⟨rfl, hb'⟩; rw [HR.out])
    go_ret3
    exact ⟨by rw [HF.out]; rfl, by (repeat (first | assumption | exact Below.refl _ _ | (refine bl_alloc ?_ _) | (refine Below.drew ?_) | (refine bl_drewN ?_ _) | (refine bl_set ?_ (by simp) _) | (refine bl_trans ?_ (by assumption)) | (refine bl_step ?_ (by assumption) (by first | omega | exact Below.size (by assumption) | (simp; omega) | (simp; exact Below.size (by assumption))))))⟩
  · cases ht : inB t 0 20
    · have HF := Lib.hid (rangeV_f (T := T) (B := B) (t := t) (by rw [ht]; simp))
      have HR := Lib.hid hr
      have HI := Lib.hid ht
      clear hr ht hn hn'
      go_enter Try.func39, Try.ntmps39
      go_wp2_with (first
        | (go_at_call 79; refine (isValid_n _ _ _ _ _ _ _ _ _ hp1 hq1 HT HB hl hl').mono ?_; rintro e w' ⟨rfl, hb'⟩; rw [HR.out])
        | (go_at_call 81; refine (areTracks_any _ _).mono ?_; rintro e w2 ⟨rfl, rfl⟩; rw [HI.out]))
      go_ret3
      exact ⟨by rw [HF.out]; rfl, by (repeat (first | assumption | exact Below.refl _ _ | (refine bl_alloc ?_ _) | (refine Below.drew ?_) | (refine bl_drewN ?_ _) | (refine bl_set ?_ (by simp) _) | (refine bl_trans ?_ (by assumption)) | (refine bl_step ?_ (by assumption) (by first | omega | exact Below.size (by assumption) | (simp; omega) | (simp; exact Below.size (by assumption))))))⟩
    · obtain ⟨k, rfl, hk⟩ := tracks_nat ht
      obtain ⟨hL, h1, h20, hT, hB⟩ := riverB_of hr
      obtain rfl : n = n' := by omega
      rw [hn] at h1 h20
      have HF := Lib.hid (rangeV_t hr ht)
      obtain ⟨x, y, z, hv⟩ := rngV_all T B k
      have HV := Lib.hid hv
      have HR := Lib.hid hr
      have HI := Lib.hid ht
      clear hr ht hL hn hn' hv
      go_enter Try.func39, Try.ntmps39
      go_wp2_with fail
      refine (isValid_n _ _ _ _ _ _ _ _ _ hp1 hq1 HT HB hl hl').mono ?_
      rintro e w1 ⟨rfl, hb1⟩
      rw [HR.out]
      obtain ⟨hc, hf, hz⟩ := bcell hb1
      have hz' : w.heap.size < w1.heap.size := by (simp at hz; omega)
      clear hz
      go_wp2_with (go_at_call 81; refine (areTracks_any _ _).mono ?_; rintro e w2 ⟨rfl, rfl⟩; rw [HI.out])
      refine (shifts_any _ _ _ _ _ _ _ _ _ (hp1.to hb1) (hq1.to hb1) HT HB h1 h20 hlc hlc' hk hT hB).mono ?_
      rintro e w2 ⟨rfl, hb2⟩
      rw [HV.out]
      go_wp2
      go_ret3
      exact ⟨by rw [HF.out, HV.out]; rfl, by (repeat (first | assumption | exact Below.refl _ _ | (refine bl_alloc ?_ _) | (refine Below.drew ?_) | (refine bl_drewN ?_ _) | (refine bl_set ?_ (by simp) _) | (refine bl_trans ?_ (by assumption)) | (refine bl_step ?_ (by assumption) (by first | omega | exact Below.size (by assumption) | (simp; omega) | (simp; exact Below.size (by assumption))))))⟩

/-! ### The best shift -/
def NoB (p : Nat → Bool) (k : Nat) : Prop := ∀ j, j < k → p j = false
theorem NoB.next {p : Nat → Bool} {k : Nat} (h : NoB p k) (hk : p k = false) : NoB p (k + 1) := fun j hj => by
  by_cases e : j = k
  · subst e; exact hk
  · exact h j (by omega)
theorem NoB.least {p : Nat → Bool} {k : Nat} (h : NoB p k) (hk : p k = true) (hk20 : k ≤ 20) : leastUp p 20 0 = k :=
  leastUp_eq _ _ _ _ (fun j _ hj => h j hj) hk (by omega) (by omega)
theorem rngOk_20 {T B : List Int} {t : Nat} (h : T.length ≤ t) : rngOk T B t = true := by
  have e : T.length - t = 0 := by omega
  unfold rngOk lowR highR; rw [e]; rfl
def bestT (T B : List Int) : Nat := leastUp (rngOk T B) 20 0
def mid (lo hi : Int) : Int := if 0 < lo then lo else if hi < 0 then hi else 0
def bestV (T B : List Int) : Value :=
  .tuple #[.int .i64 (if riverB T B = true then mid (lowR T B (bestT T B)) (highR T B (bestT T B)) else 0), .int .i64 (if riverB T B = true then (bestT T B : Int) else 0), .bool (riverB T B)]
theorem bestV_f {T B : List Int} (h : riverB T B = false) : bestV T B = .tuple #[.int .i64 0, .int .i64 0, .bool false] := by simp [bestV, h]
theorem bestV_t {T B : List Int} {k : Nat} (h : riverB T B = true) (hk : leastUp (rngOk T B) 20 0 = k) : bestV T B = .tuple #[.int .i64 (mid (lowR T B k) (highR T B k)), .int .i64 (k : Int), .bool true] := by
  simp [bestV, h, bestT, hk]

set_option maxRecDepth 100000 in
set_option maxHeartbeats 800000 in
theorem BestShiftS_any (A A' : Option Addr) (T B : List Int) (c c' : Nat) (w : World) (hp : IntsAt w w.heap.size A T) (hq : IntsAt w w.heap.size A' B) (hl : T.length ≤ 1048576) (hl' : B.length ≤ 1048576) :
    Calls Try.prog 60 #[.slice A T.length c, .slice A' B.length c'] w fun e w' => e = .returned (bestV T B) ∧ Below w.heap.size w w' := by
  cases hr : riverB T B
  · have HF := Lib.hid (bestV_f hr)
    have HR := Lib.hid hr
    clear hr
    go_enter Try.func60, Try.ntmps60
    go_wp2_with (go_at_call 98; refine (l02Is_any _ _ _ _ _ _ _ hp hq hl hl').mono ?_; rintro e w' ⟨rfl, hb'⟩; rw [HR.out])
    go_ret3
    exact ⟨by rw [HF.out]; rfl, by (repeat (first | assumption | exact Below.refl _ _ | (refine bl_alloc ?_ _) | (refine Below.drew ?_) | (refine bl_drewN ?_ _) | (refine bl_set ?_ (by simp) _) | (refine bl_trans ?_ (by assumption)) | (refine bl_step ?_ (by assumption) (by first | omega | exact Below.size (by assumption) | (simp; omega) | (simp; exact Below.size (by assumption))))))⟩
  · have HF := fun k h => Lib.hid (bestV_t (k := k) hr h)
    obtain ⟨hL, h1, h20, hT, hB⟩ := riverB_of hr
    have HL := Lib.hid hL
    have HR := Lib.hid hr
    have HFF := Lib.hid HF
    clear hr hL HF
    go_enter Try.func60, Try.ntmps60
    go_wp2_with fail
    refine (l02Is_any _ _ _ _ _ _ _ hp hq hl hl').mono ?_
    rintro e w1 ⟨rfl, hb1⟩
    rw [HR.out]
    go_wp2_with fail
    refine (l02Range_any _ _ _ _ _ _ 0 _ (hp.to hb1) (hq.to hb1) HL h20 (by omega) hT hB).mono ?_
    rintro e w2 ⟨rfl, hb2⟩
    have bel : Below w.heap.size w w2 := by (repeat (first | assumption | exact Below.refl _ _ | (refine bl_alloc ?_ _) | (refine Below.drew ?_) | (refine bl_drewN ?_ _) | (refine bl_set ?_ (by simp) _) | (refine bl_trans ?_ (by assumption)) | (refine bl_step ?_ (by assumption) (by first | omega | exact Below.size (by assumption) | (simp; omega) | (simp; exact Below.size (by assumption))))))
    clear hb1 hb2
    go_wp2_with fail
    go_loopw [7, 8, 9] (fun i lo hi wr => ∃ k : Nat, k ≤ 20 ∧ i = .int .i64 k ∧ lo = .int .i64 (lowR T B k) ∧ hi = .int .i64 (highR T B k) ∧ Hid (NoB (rngOk T B) k) ∧ Below w.heap.size w wr) (fun i _ _ _ => 20 - (intOf i).toNat)
    case atStart => exact ⟨0, Nat.zero_le _, rfl, rfl, rfl, fun j hj => by omega, bel⟩
    case round =>
      clear bel
      obtain ⟨k, hk, rfl, rfl, rfl, HA, hb⟩ := hrel
      have hk20 : (k : Int) ≤ 20 := by omega
      by_cases ho : lowR T B k ≤ highR T B k
      · have HV := HFF.out k (HA.out.least (decide_eq_true ho) hk)
        have HM : Hid (mid (lowR T B k) (highR T B k) = if 0 < lowR T B k then lowR T B k else if highR T B k < 0 then highR T B k else 0) := rfl
        generalize lowR T B k = lo at *
        generalize highR T B k = hi at *
        by_cases h0 : 0 < lo
        · have HQ : Hid (mid lo hi = lo) := by show _ = _; rw [HM.out, if_pos h0]
          clear HM
          go_wp2
          go_ret3
          exact ⟨by rw [HV.out, HQ.out]; rfl, hb⟩
        · by_cases h2 : hi < 0
          · have HQ : Hid (mid lo hi = hi) := by show _ = _; rw [HM.out, if_neg h0, if_pos h2]
            clear HM
            go_wp2
            go_ret3
            exact ⟨by rw [HV.out, HQ.out]; rfl, hb⟩
          · have HQ : Hid (mid lo hi = 0) := by show _ = _; rw [HM.out, if_neg h0, if_neg h2]
            clear HM
            go_wp2
            go_ret3
            exact ⟨by rw [HV.out, HQ.out]; rfl, hb⟩
      · have HN : Hid (NoB (rngOk T B) (k + 1)) := HA.out.next (decide_eq_false ho)
        have hlt : k < 20 := by
          rcases Nat.lt_or_ge k 20 with h | h
          · exact h
          · have h2 : rngOk T B k = true := rngOk_20 (by omega)
            exact absurd (of_decide_eq_true h2) ho
        have hp1 := hp.to hb
        have hq1 := hq.to hb
        have ek : ((k + 1 : Nat) : Int) = (k : Int) + 1 := by omega
        have CR := Lib.hid (l02Range_any A A' T B c c' (k + 1) wr hp1 hq1 HL h20 (by omega) hT hB)
        rw [ek] at CR
        clear ek
        go_wp2_with fail
        refine CR.out.mono ?_
        rintro e w3 ⟨rfl, hb3⟩
        have hb4 := bl_trans hb hb3
        clear CR hb hb3
        go_wp2
        go_roundw
        case rel => exact ⟨k + 1, by omega, by go_num, rfl, rfl, HN, hb4⟩
        case measure => simp [intOf]; omega

theorem mid_eq {lo hi : Int} (h : lo ≤ hi) : max lo (min hi 0) = mid lo hi := by unfold mid; split <;> omega

set_option maxRecDepth 100000 in
set_option maxHeartbeats 800000 in
theorem BestShiftI_any (A A' : Option Addr) (T B : List Int) (c c' : Nat) (w : World) (hp : IntsAt w w.heap.size A T) (hq : IntsAt w w.heap.size A' B) (hl : T.length ≤ 1048576) (hl' : B.length ≤ 1048576) (hlc : T.length ≤ c) (hlc' : B.length ≤ c') :
    Calls Try.prog 40 #[.slice A T.length c, .slice A' B.length c'] w fun e w' => e = .returned (bestV T B) ∧ Below w.heap.size w w' := by
  obtain ⟨n, hn⟩ : ∃ n, T.length = n := ⟨_, rfl⟩
  obtain ⟨n', hn'⟩ : ∃ n', B.length = n' := ⟨_, rfl⟩
  rw [hn] at hl hlc
  rw [hn'] at hl' hlc'
  rw [hn, hn']
  have HT := Lib.hid hn
  have HB := Lib.hid hn'
  have hp1 := hp.to (w1 := w.alloc (.cells #[.slice A n c, .slice A' n' c'] 74)) ((Below.refl _ _).alloc (Nat.le_refl _) _)
  have hq1 := hq.to (w1 := w.alloc (.cells #[.slice A n c, .slice A' n' c'] 74)) ((Below.refl _ _).alloc (Nat.le_refl _) _)
  have hmin : ∀ x y : Int, (if y < x then y else x) = min x y := fun x y => by omega
  have hmax : ∀ x y : Int, (if x < y then y else x) = max x y := fun x y => by omega
  cases hr : riverB T B
  · have HF := Lib.hid (bestV_f hr)
    have HR := Lib.hid hr
    clear hr hn hn'
    go_enter Try.func40, Try.ntmps40
    go_wp2_with (go_at_call 79; refine (isValid_n _ _ _ _ _ _ _ _ _ hp1 hq1 HT HB hl hl').mono ?_; rintro e w' ⟨rfl, hb'⟩; rw [HR.out])
    go_ret3
    exact ⟨by rw [HF.out]; rfl, by (repeat (first | assumption | exact Below.refl _ _ | (refine bl_alloc ?_ _) | (refine Below.drew ?_) | (refine bl_drewN ?_ _) | (refine bl_set ?_ (by simp) _) | (refine bl_trans ?_ (by assumption)) | (refine bl_step ?_ (by assumption) (by first | omega | exact Below.size (by assumption) | (simp; omega) | (simp; exact Below.size (by assumption))))))⟩
  · have HFF := Lib.hid (fun k h => bestV_t (k := k) hr h)
    obtain ⟨hL, h1, h20, hT, hB⟩ := riverB_of hr
    obtain rfl : n = n' := by omega
    rw [hn] at h1 h20
    have HR := Lib.hid hr
    clear hr hL hn hn'
    go_enter Try.func40, Try.ntmps40
    go_wp2_with fail
    refine (isValid_n _ _ _ _ _ _ _ _ _ hp1 hq1 HT HB hl hl').mono ?_
    rintro e w1 ⟨rfl, hb1⟩
    rw [HR.out]
    have hz : w.heap.size < w1.heap.size := by have := hb1.size; simp at this; omega
    have q0 : w1.cell? ⟨w.heap.size, 0, none⟩ = some (.slice A n c) := (hb1.cell (p := ⟨w.heap.size, 0, none⟩) (by simp)).trans (by simp)
    have q1 : w1.cell? ⟨w.heap.size, 0 + 1, none⟩ = some (.slice A' n c') := (hb1.cell (p := ⟨w.heap.size, 1, none⟩) (by simp)).trans (by simp)
    have bel : Below w.heap.size w w1 := by (repeat (first | assumption | exact Below.refl _ _ | (refine bl_alloc ?_ _) | (refine Below.drew ?_) | (refine bl_drewN ?_ _) | (refine bl_set ?_ (by simp) _) | (refine bl_trans ?_ (by assumption)) | (refine bl_step ?_ (by assumption) (by first | omega | exact Below.size (by assumption) | (simp; omega) | (simp; exact Below.size (by assumption))))))
    have hS : w1.cell? ⟨w.heap.size, 0, none⟩ = some (.slice A n c) ∧ w1.cell? ⟨w.heap.size, 0 + 1, none⟩ = some (.slice A' n c') ∧ Below w.heap.size w w1 ∧ w.heap.size ≤ w.heap.size ∧ w.heap.size < w1.heap.size := ⟨q0, q1, bel, Nat.le_refl _, hz⟩
    clear hb1 q0 q1 bel hz hp1 hq1
    go_wp2_with fail
    go_loopw [8, 9, 10, 11, 18] (fun _ _ _ _ i wr => ∃ k : Nat, k ≤ 20 ∧ i = .int .i64 k ∧ Hid (NoB (rngOk T B) k) ∧ wr.cell? ⟨w.heap.size, 0, none⟩ = some (.slice A n c) ∧ wr.cell? ⟨w.heap.size, 0 + 1, none⟩ = some (.slice A' n c') ∧ Below w.heap.size w wr ∧ w.heap.size ≤ w.heap.size ∧ w.heap.size < wr.heap.size) (fun _ _ _ _ i _ => 21 - (intOf i).toNat)
    case atStart => exact ⟨0, Nat.zero_le _, rfl, fun j hj => by omega, hS⟩
    case round =>
      clear hS
      obtain ⟨k, hk, rfl, HA, hS⟩ := hrel
      obtain ⟨q0, q1, hb, _, hz⟩ := id hS
      have hkI : (k : Int) < 21 := by omega
      have hp2 := hp.to hb
      have hq2 := hq.to hb
      by_cases ho : lowR T B k ≤ highR T B k
      · have HV := Lib.hid (HFF.out k (HA.out.least (decide_eq_true ho) hk))
        have HM := Lib.hid (mid_eq ho)
        have HG : Hid (rngV T B k = .tuple #[.int .i64 (lowR T B k), .int .i64 (highR T B k), .bool true]) := by
          show _ = _; unfold rngV rngOk; rw [decide_eq_true ho]; rfl
        clear ho
        go_wp2_with fail
        refine (shifts_any _ _ _ _ _ _ _ _ _ hp2 hq2 HT HB h1 h20 hlc hlc' hk hT hB).mono ?_
        rintro e w' ⟨rfl, hb'⟩
        rw [HG.out]
        have hb4 := bl_trans hb hb'
        go_wp2
        go_ret3
        exact ⟨by rw [HV.out, ← HM.out]; rfl, by (repeat (first | assumption | exact Below.refl _ _ | (refine bl_alloc ?_ _) | (refine Below.drew ?_) | (refine bl_drewN ?_ _) | (refine bl_set ?_ (by simp) _) | (refine bl_trans ?_ (by assumption)) | (refine bl_step ?_ (by assumption) (by first | omega | exact Below.size (by assumption) | (simp; omega) | (simp; exact Below.size (by assumption))))))⟩
      · have HN : Hid (NoB (rngOk T B) (k + 1)) := HA.out.next (decide_eq_false ho)
        have hlt : k < 20 := by
          rcases Nat.lt_or_ge k 20 with h | h
          · exact h
          · have h2 : rngOk T B k = true := rngOk_20 (by rw [HT.out]; omega)
            exact absurd (of_decide_eq_true h2) ho
        have HG : Hid (rngV T B k = .tuple #[.int .i64 0, .int .i64 0, .bool false]) := by
          show _ = _; unfold rngV rngOk; rw [decide_eq_false ho]; rfl
        clear ho
        go_wp2_with fail
        refine (shifts_any _ _ _ _ _ _ _ _ _ hp2 hq2 HT HB h1 h20 hlc hlc' hk hT hB).mono ?_
        rintro e w' ⟨rfl, hb'⟩
        rw [HG.out]
        have hS' := keepB2 hS hb'
        clear hS q0 q1 hb hz hp2 hq2
        go_wp2
        go_roundw
        case rel => exact ⟨k + 1, by omega, by go_num, HN, hS'⟩
        case measure => simp [intOf]; omega
end Go.Proofs.Ytfmkedmhbmcbiaa
