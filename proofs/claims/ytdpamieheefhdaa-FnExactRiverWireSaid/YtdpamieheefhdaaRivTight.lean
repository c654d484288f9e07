/-
  Contracts: pins that are too near, as the model finds them.
-/
import Derived.Test.YtdpamieheefhdaaRiver
namespace Go.Proofs.Ytdpamieheefhdaa
set_option linter.unusedSimpArgs false
set_option linter.unusedVariables false
open Go.ChangeShapes Go.WideShapes Go.ChangeAt Go.RowKit

def gapB (T B : List Int) (t i : Nat) : Int := B.getD (i + t) 0 - T.getD i 0
def gapT (T B : List Int) (t i : Nat) : Int := T.getD (i + t) 0 - B.getD i 0
def tightAt (T B : List Int) (t i : Nat) : Bool := decide (gapB T B t i < t) || decide (gapT T B t i < t)
/-- The first of the first k pins that is too near. -/
def firstT (T B : List Int) (t : Nat) : Nat → Option Nat
  | 0 => none
  | k + 1 => (firstT T B t k).or (if tightAt T B t k then some k else none)
theorem firstT_some {T B : List Int} {t k i : Nat} (h : firstT T B t k = some i) : ∀ n, k ≤ n → firstT T B t n = some i := by
  intro n hn
  induction n with
  | zero => obtain rfl : k = 0 := by omega
            exact h
  | succ n ih =>
    by_cases e : k = n + 1
    · subst e; exact h
    · unfold firstT; rw [ih (by omega)]; rfl
theorem firstT_here {T B : List Int} {t k : Nat} (h : firstT T B t k = none) (ht : tightAt T B t k = true) {n : Nat} (hn : k < n) : firstT T B t n = some k :=
  firstT_some (k := k + 1) (by unfold firstT; rw [h, ht]; rfl) n hn
theorem firstT_next {T B : List Int} {t k : Nat} (h : firstT T B t k = none) (ht : tightAt T B t k = false) : firstT T B t (k + 1) = none := by
  unfold firstT; rw [h, ht]; rfl
theorem firstT_lt {T B : List Int} {t i : Nat} : ∀ {k}, firstT T B t k = some i → i < k ∧ tightAt T B t i = true
  | 0, h => by cases h
  | k + 1, h => by
    unfold firstT at h
    cases hk : firstT T B t k with
    | some j =>
      rw [hk] at h
      obtain rfl : j = i := by simpa using h
      have := firstT_lt hk
      exact ⟨by omega, this.2⟩
    | none =>
      rw [hk] at h
      cases ht : tightAt T B t k
      · rw [ht] at h; cases h
      · rw [ht] at h
        obtain rfl : k = i := by simpa using h
        exact ⟨by omega, ht⟩
def idxO : Option Nat → Int
  | none => -1
  | some i => i
def sideO (T B : List Int) (t : Nat) : Option Nat → Int
  | none => 0
  | some i => if gapB T B t i < t then 0 else 1
def firstR (T B : List Int) (t : Nat) : Option Nat := firstT T B t (T.length - t)
def tightV (T B : List Int) (t : Nat) : Value := .tuple #[.int .i64 (idxO (firstR T B t)), .int .i64 (sideO T B t (firstR T B t))]
def fitB (T B : List Int) (t : Nat) : Bool := (firstR T B t).isNone

/-- All numbers of a list are places. -/
def Places (l : List Int) : Prop := ∀ i, 0 ≤ l.getD i 0 ∧ l.getD i 0 ≤ 99
theorem places_of {l : List Int} (h : rises l 0 99 = true) : Places l := fun i => by
  by_cases hi : i < l.length
  · exact rises_in h hi
  · have : l.getD i 0 = 0 := by simp [List.getD_eq_getElem?_getD, Nat.le_of_not_lt hi]
    omega
theorem riverB_of {T B : List Int} (h : riverB T B = true) : T.length = B.length ∧ 1 ≤ T.length ∧ T.length ≤ 20 ∧ Places T ∧ Places B := by
  unfold riverB at h
  simp only [Bool.and_eq_true, decide_eq_true_eq] at h
  obtain ⟨h1, h2, h3, h4⟩ := h
  simp [inB] at h1
  exact ⟨h2, by omega, by omega, places_of h3, places_of h4⟩

set_option maxRecDepth 100000 in
set_option maxHeartbeats 1600000 in
theorem l02Tight_any (A A' : Option Addr) (T B : List Int) (c c' t : Nat) (w : World) (hp : IntsAt w w.heap.size A T) (hq : IntsAt w w.heap.size A' B) (HL : Hid (T.length = B.length)) (hl : T.length ≤ 20) (ht : t ≤ 20) (hT : Places T) (hB : Places B) :
    Calls Try.prog 100 #[.slice A T.length c, .slice A' B.length c', .int .i64 (t : Int), .int .i64 0] w fun e w' => e = .returned (tightV T B t) ∧ Below w.heap.size w w' := by
  have hlI : (T.length : Int) ≤ 20 := by omega
  have htI : (t : Int) ≤ 20 := by omega
  have ht0 : 0 ≤ (t : Int) := by omega
  go_enter Try.func100, Try.ntmps100
  go_wp2
  go_loopw [10] (fun i wr => ∃ k : Nat, k ≤ T.length - t ∧ i = .int .i64 k ∧ Hid (firstT T B t k = none) ∧ Below w.heap.size w wr) (fun i _ => T.length - (intOf i).toNat)
  case atStart => exact ⟨0, Nat.zero_le _, rfl, rfl, Below.refl _ _⟩
  case round =>
    obtain ⟨k, hk, rfl, HA, hb⟩ := hrel
    have hk20 : (k : Int) ≤ 20 := by omega
    have hk0 : 0 ≤ (k : Int) := by omega
    by_cases hlt : k + t < T.length
    · obtain ⟨b, off, rfl, hbB, hc⟩ := hp (by omega)
      obtain ⟨b', off', rfl, hbB', hc'⟩ := hq (by rw [← HL.out]; omega)
      have hL := HL.out
      have d0 := (hb.cell (p := ⟨b, off + k, none⟩) hbB).trans (hc k (by omega))
      have d1 := (hb.cell (p := ⟨b, off + (k + t), none⟩) hbB).trans (hc (k + t) hlt)
      have d2 := (hb.cell (p := ⟨b', off' + k, none⟩) hbB').trans (hc' k (by omega))
      have d3 := (hb.cell (p := ⟨b', off' + (k + t), none⟩) hbB').trans (hc' (k + t) (by omega))
      have HG : Hid (gapB T B t k = B.getD (k + t) 0 - T.getD k 0) := rfl
      have HG' : Hid (gapT T B t k = T.getD (k + t) 0 - B.getD k 0) := rfl
      obtain ⟨x0, x0'⟩ := hT k
      obtain ⟨x1, x1'⟩ := hT (k + t)
      obtain ⟨y0, y0'⟩ := hB k
      obtain ⟨y1, y1'⟩ := hB (k + t)
      have HD : Hid (tightAt T B t k = (decide (gapB T B t k < t) || decide (gapT T B t k < t))) := rfl
      have HF : tightAt T B t k = true → Hid (firstR T B t = some k) := fun h => firstT_here HA.out h (by omega)
      have HN : tightAt T B t k = false → Hid (firstT T B t (k + 1) = none) := fun h => firstT_next HA.out h
      have hltI : (k : Int) + (t : Int) < (T.length : Int) := by omega
      have hltI' : (k : Int) + (t : Int) < (B.length : Int) := by omega
      have hkI : (k : Int) < (T.length : Int) := by omega
      have hkI' : (k : Int) < (B.length : Int) := by omega
      have hzle : w.heap.size ≤ wr.heap.size := hb.size
      generalize T.getD k 0 = p0 at *
      generalize T.getD (k + t) 0 = p1 at *
      generalize B.getD k 0 = q0 at *
      generalize B.getD (k + t) 0 = q1 at *
      clear hc hc' hp hq hT hB hL
      by_cases c1 : q1 - p0 < t
      · have HV : Hid (tightV T B t = .tuple #[.int .i64 k, .int .i64 0]) := by
          show _ = _
          have := (HF (by rw [HD.out, HG.out, decide_eq_true c1]; rfl)).out
          unfold tightV; rw [this]
          simp only [idxO, sideO]; rw [HG.out, if_pos c1]
        have e1 : IntKind.i64.wrap ((k : Int) + t) = ((k + t : Nat) : Int) := by rw [IntWalk.i64_in _ (by omega)]; omega
        have e2 : IntKind.i64.wrap (q1 - p0) = q1 - p0 := IntWalk.i64_in _ (by omega)
        clear HF HN HG HG' HD
        go_wp2
        go_quiet (fail)
        go_wp2
        go_ret2
        exact ⟨by rw [HV.out]; rfl, by (repeat (first | assumption | exact Below.refl _ _ | (refine bl_alloc ?_ _) | (refine Below.drew ?_) | (refine bl_drewN ?_ _) | (refine bl_set ?_ (by first | (simp; done) | omega | (simp; omega)) _) | (refine bl_trans ?_ (by assumption)) | (refine bl_step ?_ (by assumption) (by first | omega | exact Below.size (by assumption) | (simp; omega) | (simp; exact Below.size (by assumption))))))⟩
      · by_cases c2 : p1 - q0 < t
        · have HV : Hid (tightV T B t = .tuple #[.int .i64 k, .int .i64 1]) := by
            show _ = _
            have := (HF (by rw [HD.out, HG'.out, decide_eq_true c2]; simp)).out
            unfold tightV; rw [this]
            simp only [idxO, sideO]; rw [HG.out, if_neg c1]
          have e1 : IntKind.i64.wrap ((k : Int) + t) = ((k + t : Nat) : Int) := by rw [IntWalk.i64_in _ (by omega)]; omega
          have e2 : IntKind.i64.wrap (q1 - p0) = q1 - p0 := IntWalk.i64_in _ (by omega)
          have e3 : IntKind.i64.wrap (p1 - q0) = p1 - q0 := IntWalk.i64_in _ (by omega)
          have e4 : IntKind.i64.wrap p1 = p1 := IntWalk.i64_in _ (by omega)
          clear HF HN HG HG' HD
          go_wp2
          go_quiet (fail)
          go_wp2
          go_quiet (fail)
          go_wp2
          go_ret2
          exact ⟨by rw [HV.out]; rfl, by (repeat (first | assumption | exact Below.refl _ _ | (refine bl_alloc ?_ _) | (refine Below.drew ?_) | (refine bl_drewN ?_ _) | (refine bl_set ?_ (by first | (simp; done) | omega | (simp; omega)) _) | (refine bl_trans ?_ (by assumption)) | (refine bl_step ?_ (by assumption) (by first | omega | exact Below.size (by assumption) | (simp; omega) | (simp; exact Below.size (by assumption))))))⟩
        · have HN' := HN (by rw [HD.out, HG.out, HG'.out, decide_eq_false c1, decide_eq_false c2]; rfl)
          have e1 : IntKind.i64.wrap ((k : Int) + t) = ((k + t : Nat) : Int) := by rw [IntWalk.i64_in _ (by omega)]; omega
          have e2 : IntKind.i64.wrap (q1 - p0) = q1 - p0 := IntWalk.i64_in _ (by omega)
          have e3 : IntKind.i64.wrap (p1 - q0) = p1 - q0 := IntWalk.i64_in _ (by omega)
          have e4 : IntKind.i64.wrap p1 = p1 := IntWalk.i64_in _ (by omega)
          clear HF HN HG HG' HD
          go_wp2
          go_quiet (fail)
          go_wp2
          go_quiet (fail)
          clear e1 e2 e3 e4
          go_wp2
          go_roundw
          case rel => exact ⟨k + 1, by omega, by go_num, HN', by (repeat (first | assumption | exact Below.refl _ _ | (refine bl_alloc ?_ _) | (refine Below.drew ?_) | (refine bl_drewN ?_ _) | (refine bl_set ?_ (by first | (simp; done) | omega | (simp; omega)) _) | (refine bl_trans ?_ (by assumption)) | (refine bl_step ?_ (by assumption) (by first | omega | exact Below.size (by assumption) | (simp; omega) | (simp; exact Below.size (by assumption))))))⟩
          case measure => simp [intOf]; omega
    · have HV : Hid (tightV T B t = .tuple #[.int .i64 (-1), .int .i64 0]) := by
        show _ = _
        have h1 : firstR T B t = none := by
          unfold firstR
          rw [show T.length - t = k by omega]
          exact HA.out
        unfold tightV; rw [h1]; rfl
      have hltI : ¬ (k : Int) + (t : Int) < (T.length : Int) := by omega
      go_wp2
      go_ret2
      exact ⟨by rw [HV.out]; rfl, hb⟩

theorem fitB_some {T B : List Int} {t i : Nat} (h : firstR T B t = some i) : fitB T B t = false ∧ tightV T B t = .tuple #[.int .i64 (i : Int), .int .i64 (sideO T B t (some i))] := by
  unfold fitB tightV; rw [h]; exact ⟨rfl, rfl⟩
theorem fitB_none {T B : List Int} {t : Nat} (h : firstR T B t = none) : fitB T B t = true ∧ tightV T B t = .tuple #[.int .i64 (-1), .int .i64 0] := by
  unfold fitB tightV; rw [h]; exact ⟨rfl, rfl⟩

theorem l02Fits_any (A A' : Option Addr) (T B : List Int) (c c' t : Nat) (w : World) (hp : IntsAt w w.heap.size A T) (hq : IntsAt w w.heap.size A' B) (HL : Hid (T.length = B.length)) (hl : T.length ≤ 20) (ht : t ≤ 20) (hT : Places T) (hB : Places B) :
    Calls Try.prog 77 #[.slice A T.length c, .slice A' B.length c', .int .i64 (t : Int), .int .i64 0] w fun e w' => e = .returned (.bool (fitB T B t)) ∧ Below w.heap.size w w' := by
  cases h : firstR T B t with
  | some i =>
    obtain ⟨h1, h2⟩ := fitB_some h
    have H1 := Lib.hid h1
    have H2 := Lib.hid h2
    have hi : ¬ (i : Int) < 0 := by omega
    clear h h1 h2
    go_enter Try.func77, Try.ntmps77
    go_wp2_with (go_at_call 100; refine (l02Tight_any _ _ _ _ _ _ _ _ hp hq HL hl ht hT hB).mono ?_; rintro e w' ⟨rfl, hb⟩; rw [H2.out])
    go_ret
    exact ⟨retB (by rw [H1.out]; exact decide_eq_false (by omega)), hb⟩
  | none =>
    obtain ⟨h1, h2⟩ := fitB_none h
    have H1 := Lib.hid h1
    have H2 := Lib.hid h2
    clear h h1 h2
    go_enter Try.func77, Try.ntmps77
    go_wp2_with (go_at_call 100; refine (l02Tight_any _ _ _ _ _ _ _ _ hp hq HL hl ht hT hB).mono ?_; rintro e w' ⟨rfl, hb⟩; rw [H2.out])
    go_ret
    exact ⟨retB (by rw [H1.out]), hb⟩

/-- The least number from t on, up to f more, of which p is true. -/
def leastUp (p : Nat → Bool) : Nat → Nat → Nat
  | 0, t => t
  | f + 1, t => if p t then t else leastUp p f (t + 1)
theorem leastUp_eq (p : Nat → Bool) : ∀ (f t m : Nat), (∀ j, t ≤ j → j < m → p j = false) → p m = true → t ≤ m → m ≤ t + f → leastUp p f t = m
  | 0, t, m, _, _, h1, h2 => by unfold leastUp; omega
  | f + 1, t, m, h, hm, h1, h2 => by
    unfold leastUp
    by_cases e : t = m
    · subst e; rw [hm]; rfl
    · rw [h t (Nat.le_refl _) (by omega)]
      exact leastUp_eq p f (t + 1) m (fun j hj => h j (by omega)) hm (by omega) (by omega)
theorem fitB_20 {T B : List Int} {t : Nat} (h : T.length ≤ t) : fitB T B t = true := by
  have : T.length - t = 0 := by omega
  unfold fitB firstR; rw [this]; rfl
def leastT (T B : List Int) : Nat := leastUp (fitB T B) 20 0

def NoFit (T B : List Int) (k : Nat) : Prop := ∀ j, j < k → fitB T B j = false
theorem NoFit.next {T B : List Int} {k : Nat} (h : NoFit T B k) (hk : fitB T B k = false) : NoFit T B (k + 1) := fun j hj => by
  by_cases e : j = k
  · subst e; exact hk
  · exact h j (by omega)
theorem NoFit.least {T B : List Int} {k : Nat} (h : NoFit T B k) (hk : fitB T B k = true) (hk20 : k ≤ 20) : leastT T B = k :=
  leastUp_eq _ _ _ _ (fun j _ hj => h j hj) hk (by omega) (by omega)

end Go.Proofs.Ytdpamieheefhdaa
