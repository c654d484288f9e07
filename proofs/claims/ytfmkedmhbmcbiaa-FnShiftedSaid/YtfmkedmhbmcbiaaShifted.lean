/-
  Proved: for all inputs, FnShifted returns true: shifts in the range fit, those next to it don't, and the best shift needs no more tracks. No condition.
-/
import Derived.Test.YtfmkedmhbmcbiaaRivShift
import Derived.Test.YtfmkedmhbmcbiaaTight
import Derived.Deep.DeepCutAuto
namespace Go.Proofs.Ytfmkedmhbmcbiaa
set_option linter.unusedSimpArgs false
set_option linter.unusedVariables false
open Go.ChangeShapes Go.WideShapes Go.ChangeAt Go.RowKit

theorem ShiftRangeI_n (A A' : Option Addr) (T B : List Int) (n c c' : Nat) (t : Int) (w : World) (hp : IntsAt w w.heap.size A T) (hq : IntsAt w w.heap.size A' B) (HT : Hid (T.length = n)) (HB : Hid (B.length = n)) (hl : n ≤ 1048576) (hlc : n ≤ c) (hlc' : n ≤ c') :
    Calls Try.prog 39 #[.slice A n c, .slice A' n c', .int .i64 t] w fun e w' => e = .returned (rangeV T B t) ∧ Below w.heap.size w w' := by
  have h1 := HT.out
  have h2 := HB.out
  have := ShiftRangeI_any A A' T B c c' t w hp hq (by omega) (by omega) (by omega) (by omega)
  rwa [h1, h2] at this
theorem BestShiftI_n (A A' : Option Addr) (T B : List Int) (n c c' : Nat) (w : World) (hp : IntsAt w w.heap.size A T) (hq : IntsAt w w.heap.size A' B) (HT : Hid (T.length = n)) (HB : Hid (B.length = n)) (hl : n ≤ 1048576) (hlc : n ≤ c) (hlc' : n ≤ c') :
    Calls Try.prog 40 #[.slice A n c, .slice A' n c'] w fun e w' => e = .returned (bestV T B) ∧ Below w.heap.size w w' := by
  have h1 := HT.out
  have h2 := HB.out
  have := BestShiftI_any A A' T B c c' w hp hq (by omega) (by omega) (by omega) (by omega)
  rwa [h1, h2] at this
theorem LeastTracksI_n (A A' : Option Addr) (T B : List Int) (n c c' : Nat) (w : World) (hp : IntsAt w w.heap.size A T) (hq : IntsAt w w.heap.size A' B) (HT : Hid (T.length = n)) (HB : Hid (B.length = n)) (hl : n ≤ 1048576) (hlc : n ≤ c) (hlc' : n ≤ c') :
    Calls Try.prog 31 #[.slice A n c, .slice A' n c'] w fun e w' => e = .returned (leastV T B) ∧ Below w.heap.size w w' := by
  have h1 := HT.out
  have h2 := HB.out
  have := LeastTracksI_any A A' T B c c' w hp hq (by omega) (by omega) (by omega) (by omega)
  rwa [h1, h2] at this

theorem leastUp_spec (p : Nat → Bool) : ∀ (f t : Nat), (∃ j, t ≤ j ∧ j ≤ t + f ∧ p j = true) → p (leastUp p f t) = true ∧ t ≤ leastUp p f t ∧ leastUp p f t ≤ t + f ∧ ∀ j, t ≤ j → j < leastUp p f t → p j = false
  | 0, t, ⟨j, h1, h2, h3⟩ => by
    obtain rfl : j = t := by omega
    unfold leastUp
    exact ⟨h3, by omega, by omega, fun i hi hj => by omega⟩
  | f + 1, t, ⟨j, h1, h2, h3⟩ => by
    unfold leastUp
    cases ht : p t
    · have hj : t + 1 ≤ j := by
        rcases Nat.lt_or_ge t j with h | h
        · exact h
        · obtain rfl : j = t := by omega
          rw [h3] at ht; cases ht
      obtain ⟨a, b, c, d⟩ := leastUp_spec p f (t + 1) ⟨j, hj, by omega, h3⟩
      refine ⟨a, by simp; omega, by simp; omega, fun i hi hj => ?_⟩
      by_cases e : i = t
      · subst e; exact ht
      · exact d i (by omega) (by simpa using hj)
    · exact ⟨ht, by simp, by simp, fun i hi hj => by simp at hj; omega⟩

def fitS (T B : List Int) (t : Nat) (s : Int) : Nat → Bool
  | 0 => true
  | k + 1 => fitS T B t s k && (decide ((t : Int) ≤ gapB T B t k - s) && decide ((t : Int) ≤ gapT T B t k + s))
theorem fitS_next (T B : List Int) (t : Nat) (s : Int) (k : Nat) : fitS T B t s (k + 1) = (fitS T B t s k && (decide ((t : Int) ≤ B.getD (k + t) 0 - T.getD k 0 - s) && decide ((t : Int) ≤ T.getD (k + t) 0 + s - B.getD k 0))) := by
  have e : gapT T B t k + s = T.getD (k + t) 0 + s - B.getD k 0 := by unfold gapT; omega
  rw [← e]; rfl
theorem fitS_eq (T B : List Int) (t : Nat) (s : Int) (h1 : -200 ≤ s) (h2 : s ≤ 200) : ∀ k, fitS T B t s k = (decide (lowK T B t k ≤ s) && decide (s ≤ highK T B t k))
  | 0 => by unfold fitS lowK highK; rw [decide_eq_true h1, decide_eq_true h2]; rfl
  | k + 1 => by
    unfold fitS lowK highK
    rw [fitS_eq T B t s h1 h2 k]
    generalize lowK T B t k = a
    generalize highK T B t k = b
    generalize gapB T B t k = c
    generalize gapT T B t k = d
    rw [Bool.eq_iff_iff]
    simp only [Bool.and_eq_true, decide_eq_true_eq]
    omega
theorem lowK_mono (T B : List Int) (t : Nat) : ∀ {k m}, k ≤ m → lowK T B t k ≤ lowK T B t m
  | k, 0, h => by obtain rfl : k = 0 := by omega
                  exact Int.le_refl _
  | k, m + 1, h => by
    by_cases e : k = m + 1
    · subst e; exact Int.le_refl _
    · have := lowK_mono T B t (k := k) (m := m) (by omega)
      show _ ≤ max (lowK T B t m) _
      omega
theorem highK_mono (T B : List Int) (t : Nat) : ∀ {k m}, k ≤ m → highK T B t m ≤ highK T B t k
  | k, 0, h => by obtain rfl : k = 0 := by omega
                  exact Int.le_refl _
  | k, m + 1, h => by
    by_cases e : k = m + 1
    · subst e; exact Int.le_refl _
    · have := highK_mono T B t (k := k) (m := m) (by omega)
      show min (highK T B t m) _ ≤ _
      omega
theorem rises_lt {l : List Int} {lo hi : Int} (h : rises l lo hi = true) {i : Nat} (hi' : i + 1 < l.length) : l.getD i 0 < l.getD (i + 1) 0 := by
  have := riseTo_at h hi'
  unfold riseAt at this
  simp only [Bool.and_eq_true, Bool.or_eq_true, decide_eq_true_eq] at this
  rcases this.2 with h | h
  · omega
  · simpa using h
theorem range_next {T B : List Int} (hT : rises T 0 99 = true) (hB : rises B 0 99 = true) (hL : T.length = B.length) (t : Nat) : lowR T B (t + 1) ≤ lowR T B t ∧ highR T B t ≤ highR T B (t + 1) := by
  have key : ∀ k, k ≤ T.length - (t + 1) → lowK T B (t + 1) k ≤ lowK T B t k ∧ highK T B t k ≤ highK T B (t + 1) k := by
    intro k
    induction k with
    | zero => intro _; exact ⟨Int.le_refl _, Int.le_refl _⟩
    | succ k ih =>
      intro hk
      obtain ⟨a, b⟩ := ih (by omega)
      have c := rises_lt hT (i := k + t) (by omega)
      have d := rises_lt hB (i := k + t) (by omega)
      rw [show k + t + 1 = k + (t + 1) by omega] at c d
      show max (lowK T B (t + 1) k) _ ≤ max (lowK T B t k) _ ∧ min (highK T B t k) _ ≤ min (highK T B (t + 1) k) _
      unfold gapT gapB
      omega
  obtain ⟨a, b⟩ := key _ (Nat.le_refl _)
  have c := lowK_mono T B t (k := T.length - (t + 1)) (m := T.length - t) (by omega)
  have d := highK_mono T B t (k := T.length - (t + 1)) (m := T.length - t) (by omega)
  unfold lowR highR
  omega
theorem rngOk_next {T B : List Int} (hT : rises T 0 99 = true) (hB : rises B 0 99 = true) (hL : T.length = B.length) {t : Nat} (h : rngOk T B t = true) : rngOk T B (t + 1) = true := by
  have := range_next hT hB hL t
  unfold rngOk at h ⊢
  exact decide_eq_true (by have := of_decide_eq_true h; omega)
theorem rngOk_up {T B : List Int} (hT : rises T 0 99 = true) (hB : rises B 0 99 = true) (hL : T.length = B.length) {t : Nat} (h : rngOk T B t = true) : ∀ d, rngOk T B (t + d) = true
  | 0 => h
  | d + 1 => rngOk_next hT hB hL (rngOk_up hT hB hL h d)
theorem fit_zero {T B : List Int} {t : Nat} : ∀ k, firstT T B t k = none → lowK T B t k ≤ 0 ∧ 0 ≤ highK T B t k
  | 0, _ => by unfold lowK highK; omega
  | k + 1, h => by
    have hk : firstT T B t k = none := by
      cases hk : firstT T B t k with
      | none => rfl
      | some i => rw [firstT_some hk (k + 1) (by omega)] at h; cases h
    obtain ⟨a, b⟩ := fit_zero k hk
    obtain ⟨c, d⟩ := loose (firstT_before h (by omega : k < k + 1))
    show max (lowK T B t k) _ ≤ 0 ∧ 0 ≤ min (highK T B t k) _
    omega
theorem fit_rng {T B : List Int} {t : Nat} (h : fitB T B t = true) : rngOk T B t = true := by
  have h0 : firstT T B t (T.length - t) = none := by
    unfold fitB firstR at h
    exact Option.isNone_iff_eq_none.1 h
  have := fit_zero _ h0
  unfold rngOk lowR highR
  exact decide_eq_true (by omega)
/-- What the best shift is. -/
theorem best_facts {T B : List Int} (hT : rises T 0 99 = true) (hB : rises B 0 99 = true) (hL : T.length = B.length) (h20 : T.length ≤ 20) :
    rngOk T B (bestT T B) = true ∧ bestT T B ≤ 20 ∧ bestT T B ≤ leastT T B ∧ ∀ t, rngOk T B t = decide (bestT T B ≤ t) := by
  obtain ⟨a, _, b, c⟩ := leastUp_spec (rngOk T B) 20 0 ⟨20, by omega, by omega, rngOk_20 h20⟩
  obtain ⟨a', _, b', c'⟩ := leastUp_spec (fitB T B) 20 0 ⟨20, by omega, by omega, fitB_20 h20⟩
  refine ⟨a, by unfold bestT; omega, ?_, fun t => ?_⟩
  · rcases Nat.lt_or_ge (leastT T B) (bestT T B) with h | h
    · have h1 := c (leastT T B) (by omega) h
      have h2 : rngOk T B (leastT T B) = true := fit_rng a'
      rw [h2] at h1; cases h1
    · exact h
  · by_cases h : bestT T B ≤ t
    · rw [decide_eq_true h]
      have := rngOk_up hT hB hL a (t - leastUp (rngOk T B) 20 0)
      rwa [show leastUp (rngOk T B) 20 0 + (t - leastUp (rngOk T B) 20 0) = t by unfold bestT at h; omega] at this
    · rw [decide_eq_false h]
      exact c t (by omega) (by unfold bestT at h; omega)
theorem mid_facts {lo hi : Int} (h : lo ≤ hi) : lo ≤ mid lo hi ∧ mid lo hi ≤ hi ∧ (0 < mid lo hi → mid lo hi = lo) ∧ (mid lo hi < 0 → mid lo hi = hi) := by
  unfold mid
  split
  · exact ⟨by omega, by omega, fun _ => rfl, fun h => by omega⟩
  · split
    · exact ⟨by omega, by omega, fun h => by omega, fun _ => rfl⟩
    · exact ⟨by omega, by omega, fun h => by omega, fun h => by omega⟩
end Go.Proofs.Ytfmkedmhbmcbiaa
namespace Go.Proofs.Ytfmkedmhbmcbiaa.fnShifted
open Go.ChangeShapes Go.WideShapes Go.ChangeAt Go.RowKit

set_option maxRecDepth 100000 in
set_option maxHeartbeats 6400000 in
theorem walk (A : Option Addr) (l : List Int) (c : Nat) (A' : Option Addr) (m : List Int) (c' : Nat) (w : World) (h : NumsAt .u8 w w.heap.size A l ∧ (∀ n ∈ l, (Lit.int .u8 n).wf = true) ∧ l.length ≤ c ∧ c ≤ maxLen) (h' : NumsAt .u8 w w.heap.size A' m ∧ (∀ n ∈ m, (Lit.int .u8 n).wf = true) ∧ m.length ≤ c' ∧ c' ≤ maxLen) :
    Calls Try.prog 6 #[.slice A l.length c, .slice A' m.length c'] w fun e w' => e = .returned (.bool true) ∧ Below w.heap.size w w' := by
  obtain ⟨hp, hw, _, _⟩ := h
  obtain ⟨hq, hw', _, _⟩ := h'
  cases hlong : decide (48 < l.length) || decide (48 < m.length)
  · have hl : l.length ≤ 1048576 := by simp at hlong; omega
    have hl' : m.length ≤ 1048576 := by simp at hlong; omega
    have HL := Lib.hid hlong
    clear hlong
    go_enter Try.func6, Try.ntmps6
    go_wp2_with fail
    refine (r8Long_any _ _ _ _ _ _ _).mono ?_
    rintro e w1 ⟨rfl, rfl⟩
    rw [HL.out]
    go_wp2_with fail
    refine (r8At_any _ _ _ 40 _ _ hp hw hl (by omega) (by omega)).mono ?_
    rintro e w1 ⟨p, ⟨p0, p1⟩, rfl, hb1⟩
    obtain ⟨n, hn⟩ : ∃ n : Nat, 1 + p = n := ⟨(1 + p).toNat, by omega⟩
    have hn1 : 1 ≤ n := by omega
    have hn7 : n ≤ 7 := by omega
    have HN := Lib.hid hn
    clear hn
    go_wp2_with fail
    rw [HN.out]
    refine (R8Row_any _ _ _ _ _ (hp.to hb1) hw hl hn7).mono ?_
    rintro e w2 ⟨AT, T, cT, rfl, hTl, hTr, hT2, hTc, hb2⟩
    have b2 := bl_trans hb1 hb2
    have HTl := Lib.hid hTl
    clear hTl hb1 hb2
    go_wp2_with fail
    refine (R8Row_any _ _ _ _ _ (hq.to b2) hw' hl' hn7).mono ?_
    rintro e w3 ⟨AB, B, cB, rfl, hBl, hBr, hB3, hBc, hb3⟩
    have b3 := bl_trans b2 hb3
    have hT3 := hT2.to hb3
    have HBl := Lib.hid hBl
    have HR := Lib.hid (river_mk HTl.out hBl hn1 (by omega) hTr hBr)
    obtain ⟨f1, f2, f3, f4⟩ := best_facts hTr hBr (by rw [HTl.out, hBl]) (by rw [HTl.out]; omega)
    have hPT := places_of hTr
    have hPB := places_of hBr
    clear hBl hTr hBr b2 hT2 hb3
    go_wp2_with fail
    refine (r8At_any _ _ _ 41 _ _ (hp.to b3) hw hl (by omega) (by omega)).mono ?_
    rintro e w4 ⟨t', ⟨t0, t1⟩, rfl, hb4⟩
    obtain ⟨t, rfl⟩ : ∃ t : Nat, t' = t := ⟨t'.toNat, by omega⟩
    have b4 := bl_trans b3 hb4
    have hT4 := hT3.to hb4
    have hB4 := hB3.to hb4
    have HI : Hid (inB (t : Int) 0 20 = true) := inB_t (by omega) (by omega)
    have HV1 := Lib.hid (rangeV_t HR.out HI.out)
    have HV2 := Lib.hid (bestV_t (k := bestT T B) HR.out rfl)
    have HV3 := Lib.hid (leastV_t HR.out)
    have HV4 : Hid (rangeV T B (bestT T B : Nat) = .tuple #[.int .i64 (lowR T B (bestT T B)), .int .i64 (highR T B (bestT T B)), .bool true]) := by
      show _ = _
      rw [rangeV_t HR.out (inB_t (by omega) (by omega))]
      unfold rngV; rw [if_pos f1]
    have HF4 := Lib.hid (f4 t)
    have hmid := mid_facts (of_decide_eq_true f1)
    obtain ⟨m1, m2, m3, m4⟩ := hmid
    have HRV := Lib.hid (rngV_all T B t)
    have HRT : rngOk T B t = true → Hid (rngV T B t = .tuple #[.int .i64 (lowR T B t), .int .i64 (highR T B t), .bool true]) := fun h => by show _ = _; unfold rngV; rw [if_pos h]
    have HRF : rngOk T B t = false → Hid (rngV T B t = .tuple #[.int .i64 0, .int .i64 0, .bool false]) := fun h => by show _ = _; unfold rngV; rw [h]; rfl
    have HK : Hid (∀ s, -200 ≤ s → s ≤ 200 → fitS T B t s (n - t) = (decide (lowR T B t ≤ s) && decide (s ≤ highR T B t))) := by
      intro s h1 h2
      rw [fitS_eq T B t s h1 h2]
      unfold lowR highR; rw [HTl.out]
    have ht20 : t ≤ 20 := by omega
    obtain ⟨l1, l2⟩ := lowK_in hPT hPB ht20 (T.length - t)
    obtain ⟨u1, u2⟩ := highK_in hPT hPB ht20 (T.length - t)
    have hlo : -200 ≤ lowR T B t ∧ lowR T B t ≤ 200 := ⟨l1, l2⟩
    have hhi : -200 ≤ highR T B t ∧ highR T B t ≤ 200 := ⟨u1, u2⟩
    have f1' := of_decide_eq_true f1
    clear b3 hT3 hB3 hb4 t0 f1 f4 l1 l2 u1 u2 HRV
    generalize bestT T B = few at *
    generalize leastT T B = least at *
    generalize mid (lowR T B few) (highR T B few) = sh at *
    obtain ⟨lo', hlo'⟩ : ∃ x, lowR T B few = x := ⟨_, rfl⟩
    obtain ⟨hi', hhi'⟩ : ∃ x, highR T B few = x := ⟨_, rfl⟩
    rw [hlo', hhi'] at HV4
    rw [hlo'] at m1 m3 f1'
    rw [hhi'] at m2 m4 f1'
    clear hlo' hhi'
    obtain ⟨lo, hlo2⟩ : ∃ x, lowR T B t = x := ⟨_, rfl⟩
    obtain ⟨hi, hhi2⟩ : ∃ x, highR T B t = x := ⟨_, rfl⟩
    rw [hlo2] at hlo HRT HK
    rw [hhi2] at hhi HRT HK
    have hok : rngOk T B t = decide (lo ≤ hi) := by unfold rngOk; rw [hlo2, hhi2]
    rw [HF4.out] at hok HRT HRF
    clear hlo2 hhi2 HF4
    obtain ⟨lo0, lo1⟩ := hlo
    obtain ⟨hi0, hi1⟩ := hhi
    have hfd : decide (least < few) = false := decide_eq_false (by omega)
    have hfdI : ¬ (least : Int) < (few : Int) := by omega
    have hs1 : ¬ sh < lo' := by omega
    have hs1d : decide (sh < lo') = false := decide_eq_false hs1
    have hs2 : ¬ hi' < sh := by omega
    have hs2d : decide (hi' < sh) = false := decide_eq_false hs2
    clear hp hq hw hw' hl hl' HL p0 p1 HN
    go_wp2_with fail
    refine (ShiftRangeI_n _ _ _ _ _ _ _ _ _ hT4 hB4 HTl HBl (by omega) hTc hBc).mono ?_
    rintro e w5 ⟨rfl, hb5⟩
    rw [HV1.out]
    have b5 := bl_trans b4 hb5
    have hT5 := hT4.to hb5
    have hB5 := hB4.to hb5
    clear b4 hT4 hB4 hb5 HV1
    obtain ⟨on, hon⟩ : ∃ on, decide (few ≤ t) = on := ⟨_, rfl⟩
    have HV5 : Hid (rngV T B t = .tuple #[.int .i64 (if on = true then lo else 0), .int .i64 (if on = true then hi else 0), .bool on]) := by
      show _ = _
      cases on
      · exact (HRF hon).out
      · exact (HRT hon).out
    obtain ⟨r1, hr1⟩ : ∃ r1 : Int, (if on = true then lo else 0) = r1 := ⟨_, rfl⟩
    obtain ⟨r2, hr2⟩ : ∃ r2 : Int, (if on = true then hi else 0) = r2 := ⟨_, rfl⟩
    rw [HV5.out, hr1, hr2]
    have HR1 := Lib.hid hr1
    have HR2 := Lib.hid hr2
    have HON := Lib.hid hon
    have HOK := Lib.hid hok
    clear hr1 hr2 hon hok HRT HRF HV5
    go_wp2_with fail
    refine (BestShiftI_n _ _ _ _ _ _ _ _ hT5 hB5 HTl HBl (by omega) hTc hBc).mono ?_
    rintro e w6 ⟨rfl, hb6⟩
    rw [HV2.out]
    have b6 := bl_trans b5 hb6
    have hT6 := hT5.to hb6
    have hB6 := hB5.to hb6
    clear b5 hT5 hB5 hb6 HV2
    go_wp2_with fail
    refine (LeastTracksI_n _ _ _ _ _ _ _ _ hT6 hB6 HTl HBl (by omega) hTc hBc).mono ?_
    rintro e w7 ⟨rfl, hb7⟩
    rw [HV3.out]
    have b7 := bl_trans b6 hb7
    have hT7 := hT6.to hb7
    have hB7 := hB6.to hb7
    clear b6 hT6 hB6 hb7 HV3
    go_wp2_with fail
    refine (ShiftRangeI_n _ _ _ _ _ _ _ _ _ hT7 hB7 HTl HBl (by omega) hTc hBc).mono ?_
    rintro e w9 ⟨rfl, hb9⟩
    rw [HV4.out]
    have b9 := bl_trans b7 hb9
    have hT9 := hT7.to hb9
    have hB9 := hB7.to hb9
    clear b7 hT7 hB7 hb9 HV4
    have hn7I : (n : Int) ≤ 7 := by omega
    have ht0 : 0 ≤ (t : Int) := by omega
    have ht5 : (t : Int) < 6 := t1
    cases on
    · have hft : ¬ (few : Int) ≤ (t : Int) := by have := of_decide_eq_false HON.out; omega
      have hftd : decide (few ≤ t) = false := HON.out
      rcases Int.lt_trichotomy sh 0 with hz | hz | hz
      · obtain rfl := m4 hz
        have hz' : ¬ 0 < sh := by omega
        have hz1 : decide (0 < sh) = false := decide_eq_false hz'
        have hz2 : decide (sh < 0) = true := decide_eq_true hz
        clear m3 m4 HK
        go_wp2
        go_ret
        exact ⟨rfl, b9⟩
      · subst hz
        clear m3 m4 HK
        go_wp2
        go_ret
        exact ⟨rfl, b9⟩
      · obtain rfl := m3 hz
        have hz' : ¬ sh < 0 := by omega
        have hz1 : decide (0 < sh) = true := decide_eq_true hz
        have hz2 : decide (sh < 0) = false := decide_eq_false hz'
        clear m3 m4 HK
        go_wp2
        go_ret
        exact ⟨rfl, b9⟩
    have hft : (few : Int) ≤ (t : Int) := by have := of_decide_eq_true HON.out; omega
    have hftd : decide (few ≤ t) = true := HON.out
    have hlohi : lo ≤ hi := by
      have := HOK.out
      rw [HON.out] at this
      exact of_decide_eq_true this.symm
    obtain rfl : lo = r1 := HR1.out
    obtain rfl : hi = r2 := HR2.out
    have D : (decide (0 < sh) = false ∧ decide (sh < 0) = true ∧ (sh != hi') = false) ∨ (decide (0 < sh) = false ∧ decide (sh < 0) = false ∧ (sh != sh) = false) ∨ (decide (0 < sh) = true ∧ decide (sh < 0) = false ∧ (sh != lo') = false) := by
      rcases Int.lt_trichotomy sh 0 with hz | hz | hz
      · exact .inl ⟨decide_eq_false (by omega), decide_eq_true hz, by simp [m4 hz]⟩
      · exact .inr (.inl ⟨decide_eq_false (by omega), decide_eq_false (by omega), by simp⟩)
      · exact .inr (.inr ⟨decide_eq_true hz, decide_eq_false (by omega), by simp [m3 hz]⟩)
    clear m3 m4 HOK HON HR1 HR2
    go_upto_region 11 with (fail)
    go_cut [115] (fun v wx => v = .bool false ∧ w9 = wx)
    case first =>
      rcases D with ⟨hz1, hz2, hz3⟩ | ⟨hz1, hz2, hz3⟩ | ⟨hz1, hz2, hz3⟩
      all_goals
        go_wp2
        go_meet
        exact ⟨rfl, rfl⟩
    case rest =>
      obtain ⟨rfl, rfl⟩ := hcut
      clear D
      go_wp2_with fail
      go_loopw [20, 21, 22] (fun sv _ _ wr => ∃ s : Int, sv = .int .i64 s ∧ lo - 1 ≤ s ∧ s ≤ hi + 2 ∧ Below w9.heap.size w9 wr) (fun sv _ _ _ => (hi + 2 - intOf sv).toNat)
      case atStart => exact ⟨lo - 1, rfl, by omega, by omega, Below.refl _ _⟩
      case round =>
        obtain ⟨s, rfl, hs0, hs2, hb⟩ := hrel
        by_cases hsI : s ≤ hi + 1
        · have hsJ : s ≤ 201 := by omega
          have hsK : -201 ≤ s := by omega
          by_cases a1 : lo + 2 < s
          · have d1 : decide (lo + 2 < s) = true := decide_eq_true a1
            by_cases a2 : s < hi - 2
            · have d2 : decide (s < hi - 2) = true := decide_eq_true a2
              clear HK
              go_wp2
              go_roundw
              case rel => exact ⟨s + 1, rfl, by omega, by omega, hb⟩
              case measure => simp [intOf]; omega
            · have d2 : decide (s < hi - 2) = false := decide_eq_false a2
              by_cases a3 : s < -200
              · have d3 : decide (s < -200) = true := decide_eq_true a3
                clear HK
                go_wp2
                go_roundw
                case rel => exact ⟨s + 1, rfl, by omega, by omega, hb⟩
                case measure => simp [intOf]; omega
              · have d3 : decide (s < -200) = false := decide_eq_false a3
                by_cases a4 : 200 < s
                · have d4 : decide (200 < s) = true := decide_eq_true a4
                  clear HK
                  go_wp2
                  go_roundw
                  case rel => exact ⟨s + 1, rfl, by omega, by omega, hb⟩
                  case measure => simp [intOf]; omega
                · have d4 : decide (200 < s) = false := decide_eq_false a4
                  go_wp2_with fail
                  go_loopw [21, 22] (fun f i wr2 => ∃ (k : Nat) (x : Bool), k ≤ n - t ∧ i = .int .i64 k ∧ f = .bool x ∧ Hid (x = fitS T B t s k) ∧ Below w9.heap.size w9 wr2) (fun _ i _ => n - (intOf i).toNat)
                  case atStart => exact ⟨0, true, Nat.zero_le _, rfl, rfl, rfl, hb⟩
                  case round =>
                    clear hb
                    obtain ⟨k, x, hk, rfl, rfl, HX, hb⟩ := hrel
                    have hk0 : 0 ≤ (k : Int) := by omega
                    have hk7 : (k : Int) ≤ 7 := by omega
                    by_cases hlt : k + t < n
                    · have eT := HTl.out
                      have eB := HBl.out
                      obtain ⟨b, off, rfl, hbB, hc⟩ := hT9 (by omega)
                      obtain ⟨b', off', rfl, hbB', hc'⟩ := hB9 (by omega)
                      have d0 := (hb.cell (p := ⟨b, off + k, none⟩) hbB).trans (hc k (by omega))
                      have d1 := (hb.cell (p := ⟨b, off + (k + t), none⟩) hbB).trans (hc (k + t) (by omega))
                      have d2 := (hb.cell (p := ⟨b', off' + k, none⟩) hbB').trans (hc' k (by omega))
                      have d3 := (hb.cell (p := ⟨b', off' + (k + t), none⟩) hbB').trans (hc' (k + t) (by omega))
                      obtain ⟨x0, x0'⟩ := hPT k
                      obtain ⟨x1, x1'⟩ := hPT (k + t)
                      obtain ⟨y0, y0'⟩ := hPB k
                      obtain ⟨y1, y1'⟩ := hPB (k + t)
                      have hltI : (k : Int) + (t : Int) < (n : Int) := by omega
                      have hkI : (k : Int) < (n : Int) := by omega
                      have HN : Hid (fitS T B t s (k + 1) = (x && (decide ((t : Int) ≤ B.getD (k + t) 0 - T.getD k 0 - s) && decide ((t : Int) ≤ T.getD (k + t) 0 + s - B.getD k 0)))) := by show _ = _; rw [HX.out]; exact fitS_next T B t s k
                      clear hc hc' hT9 hB9 eT eB hPT hPB HX HK
                      generalize T.getD k 0 = p0 at *
                      generalize T.getD (k + t) 0 = p1 at *
                      generalize B.getD k 0 = q0 at *
                      generalize B.getD (k + t) 0 = q1 at *
                      have e1 : IntKind.i64.wrap ((k : Int) + t) = ((k + t : Nat) : Int) := by rw [IntWalk.i64_in _ (by omega)]; omega
                      have E1 := Lib.hid e1
                      have E2 : Hid (IntKind.i64.wrap (q1 - p0) = q1 - p0) := IntWalk.i64_in _ (by omega)
                      have E3 : Hid (IntKind.i64.wrap (q1 - p0 - s) = q1 - p0 - s) := IntWalk.i64_in _ (by omega)
                      have E4 : Hid (IntKind.i64.wrap (p1 + s) = p1 + s) := IntWalk.i64_in _ (by omega)
                      have E5 : Hid (IntKind.i64.wrap (p1 + s - q0) = p1 + s - q0) := IntWalk.i64_in _ (by omega)
                      clear e1
                      cases x
                      · have HR2 : Hid (fitS T B t s (k + 1) = false) := by show _ = _; rw [HN.out]; rfl
                        clear HN
                        go_wp2
                        have e1 := E1.out
                        have e2 := E2.out
                        have e3 := E3.out
                        have e4 := E4.out
                        have e5 := E5.out
                        go_quiet (fail)
                        clear e1 e2 e3 e4 e5
                        go_wp2
                        go_roundw
                        case rel => exact ⟨k + 1, false, by omega, by go_num, rfl, HR2.out.symm, by (repeat (first | assumption | exact Below.refl _ _ | (refine bl_alloc ?_ _) | (refine Below.drew ?_) | (refine bl_drewN ?_ _) | (refine bl_set ?_ (by simp) _) | (refine bl_trans ?_ (by assumption)) | (refine bl_step ?_ (by assumption) (by first | omega | exact Below.size (by assumption) | (simp; omega) | (simp; exact Below.size (by assumption))))))⟩
                        case measure => simp [intOf]; omega
                      · by_cases c1 : (t : Int) ≤ q1 - p0 - s
                        · have hd1 : decide ((t : Int) ≤ q1 - p0 - s) = true := decide_eq_true c1
                          by_cases c2 : (t : Int) ≤ p1 + s - q0
                          · have hd2 : decide ((t : Int) ≤ p1 + s - q0) = true := decide_eq_true c2
                            have HR2 : Hid (fitS T B t s (k + 1) = true) := by show _ = _; rw [HN.out, hd1, hd2]; rfl
                            clear HN
                            go_wp2
                            have e1 := E1.out
                            have e2 := E2.out
                            have e3 := E3.out
                            have e4 := E4.out
                            have e5 := E5.out
                            go_quiet (fail)
                            clear e1 e2 e3 e4 e5
                            go_wp2
                            go_roundw
                            case rel => exact ⟨k + 1, true, by omega, by go_num, rfl, HR2.out.symm, by (repeat (first | assumption | exact Below.refl _ _ | (refine bl_alloc ?_ _) | (refine Below.drew ?_) | (refine bl_drewN ?_ _) | (refine bl_set ?_ (by simp) _) | (refine bl_trans ?_ (by assumption)) | (refine bl_step ?_ (by assumption) (by first | omega | exact Below.size (by assumption) | (simp; omega) | (simp; exact Below.size (by assumption))))))⟩
                            case measure => simp [intOf]; omega
                          · have hd2 : decide ((t : Int) ≤ p1 + s - q0) = false := decide_eq_false c2
                            have HR2 : Hid (fitS T B t s (k + 1) = false) := by show _ = _; rw [HN.out, hd1, hd2]; rfl
                            clear HN
                            go_wp2
                            have e1 := E1.out
                            have e2 := E2.out
                            have e3 := E3.out
                            have e4 := E4.out
                            have e5 := E5.out
                            go_quiet (fail)
                            clear e1 e2 e3 e4 e5
                            go_wp2
                            go_roundw
                            case rel => exact ⟨k + 1, false, by omega, by go_num, rfl, HR2.out.symm, by (repeat (first | assumption | exact Below.refl _ _ | (refine bl_alloc ?_ _) | (refine Below.drew ?_) | (refine bl_drewN ?_ _) | (refine bl_set ?_ (by simp) _) | (refine bl_trans ?_ (by assumption)) | (refine bl_step ?_ (by assumption) (by first | omega | exact Below.size (by assumption) | (simp; omega) | (simp; exact Below.size (by assumption))))))⟩
                            case measure => simp [intOf]; omega
                        · have hd1 : decide ((t : Int) ≤ q1 - p0 - s) = false := decide_eq_false c1
                          have HR2 : Hid (fitS T B t s (k + 1) = false) := by show _ = _; rw [HN.out, hd1]; rfl
                          clear HN
                          go_wp2
                          have e1 := E1.out
                          have e2 := E2.out
                          have e3 := E3.out
                          have e4 := E4.out
                          have e5 := E5.out
                          go_quiet (fail)
                          clear e1 e2 e3 e4 e5
                          go_wp2
                          go_roundw
                          case rel => exact ⟨k + 1, false, by omega, by go_num, rfl, HR2.out.symm, by (repeat (first | assumption | exact Below.refl _ _ | (refine bl_alloc ?_ _) | (refine Below.drew ?_) | (refine bl_drewN ?_ _) | (refine bl_set ?_ (by simp) _) | (refine bl_trans ?_ (by assumption)) | (refine bl_step ?_ (by assumption) (by first | omega | exact Below.size (by assumption) | (simp; omega) | (simp; exact Below.size (by assumption))))))⟩
                          case measure => simp [intOf]; omega
                    · have hltI : ¬ (k : Int) + (t : Int) < (n : Int) := by omega
                      have hkn : k = n - t := by omega
                      have hx : x = (decide (lo ≤ s) && decide (s ≤ hi)) := by rw [HX.out, hkn]; exact HK.out s (by omega) (by omega)
                      clear HX HK hkn
                      by_cases f1 : lo ≤ s
                      · have g1 : decide (lo ≤ s) = true := decide_eq_true f1
                        by_cases f2 : s ≤ hi
                        · have g2 : decide (s ≤ hi) = true := decide_eq_true f2
                          obtain rfl : x = true := by rw [hx, g1, g2]; rfl
                          clear hx
                          go_wp2
                          go_roundw
                          case rel => exact ⟨s + 1, rfl, by omega, by omega, hb⟩
                          case measure => simp [intOf]; omega
                        · have g2 : decide (s ≤ hi) = false := decide_eq_false f2
                          obtain rfl : x = false := by rw [hx, g1, g2]; rfl
                          clear hx
                          go_wp2
                          go_roundw
                          case rel => exact ⟨s + 1, rfl, by omega, by omega, hb⟩
                          case measure => simp [intOf]; omega
                      · have g1 : decide (lo ≤ s) = false := decide_eq_false f1
                        obtain rfl : x = false := by rw [hx, g1]; rfl
                        clear hx
                        go_wp2
                        go_roundw
                        case rel => exact ⟨s + 1, rfl, by omega, by omega, hb⟩
                        case measure => simp [intOf]; omega
          · have d1 : decide (lo + 2 < s) = false := decide_eq_false a1
            by_cases a3 : s < -200
            · have d3 : decide (s < -200) = true := decide_eq_true a3
              clear HK
              go_wp2
              go_roundw
              case rel => exact ⟨s + 1, rfl, by omega, by omega, hb⟩
              case measure => simp [intOf]; omega
            · have d3 : decide (s < -200) = false := decide_eq_false a3
              by_cases a4 : 200 < s
              · have d4 : decide (200 < s) = true := decide_eq_true a4
                clear HK
                go_wp2
                go_roundw
                case rel => exact ⟨s + 1, rfl, by omega, by omega, hb⟩
                case measure => simp [intOf]; omega
              · have d4 : decide (200 < s) = false := decide_eq_false a4
                go_wp2_with fail
                go_loopw [21, 22] (fun f i wr2 => ∃ (k : Nat) (x : Bool), k ≤ n - t ∧ i = .int .i64 k ∧ f = .bool x ∧ Hid (x = fitS T B t s k) ∧ Below w9.heap.size w9 wr2) (fun _ i _ => n - (intOf i).toNat)
                case atStart => exact ⟨0, true, Nat.zero_le _, rfl, rfl, rfl, hb⟩
                case round =>
                  clear hb
                  obtain ⟨k, x, hk, rfl, rfl, HX, hb⟩ := hrel
                  have hk0 : 0 ≤ (k : Int) := by omega
                  have hk7 : (k : Int) ≤ 7 := by omega
                  by_cases hlt : k + t < n
                  · have eT := HTl.out
                    have eB := HBl.out
                    obtain ⟨b, off, rfl, hbB, hc⟩ := hT9 (by omega)
                    obtain ⟨b', off', rfl, hbB', hc'⟩ := hB9 (by omega)
                    have d0 := (hb.cell (p := ⟨b, off + k, none⟩) hbB).trans (hc k (by omega))
                    have d1 := (hb.cell (p := ⟨b, off + (k + t), none⟩) hbB).trans (hc (k + t) (by omega))
                    have d2 := (hb.cell (p := ⟨b', off' + k, none⟩) hbB').trans (hc' k (by omega))
                    have d3 := (hb.cell (p := ⟨b', off' + (k + t), none⟩) hbB').trans (hc' (k + t) (by omega))
                    obtain ⟨x0, x0'⟩ := hPT k
                    obtain ⟨x1, x1'⟩ := hPT (k + t)
                    obtain ⟨y0, y0'⟩ := hPB k
                    obtain ⟨y1, y1'⟩ := hPB (k + t)
                    have hltI : (k : Int) + (t : Int) < (n : Int) := by omega
                    have hkI : (k : Int) < (n : Int) := by omega
                    have HN : Hid (fitS T B t s (k + 1) = (x && (decide ((t : Int) ≤ B.getD (k + t) 0 - T.getD k 0 - s) && decide ((t : Int) ≤ T.getD (k + t) 0 + s - B.getD k 0)))) := by show _ = _; rw [HX.out]; exact fitS_next T B t s k
                    clear hc hc' hT9 hB9 eT eB hPT hPB HX HK
                    generalize T.getD k 0 = p0 at *
                    generalize T.getD (k + t) 0 = p1 at *
                    generalize B.getD k 0 = q0 at *
                    generalize B.getD (k + t) 0 = q1 at *
                    have e1 : IntKind.i64.wrap ((k : Int) + t) = ((k + t : Nat) : Int) := by rw [IntWalk.i64_in _ (by omega)]; omega
                    have E1 := Lib.hid e1
                    have E2 : Hid (IntKind.i64.wrap (q1 - p0) = q1 - p0) := IntWalk.i64_in _ (by omega)
                    have E3 : Hid (IntKind.i64.wrap (q1 - p0 - s) = q1 - p0 - s) := IntWalk.i64_in _ (by omega)
                    have E4 : Hid (IntKind.i64.wrap (p1 + s) = p1 + s) := IntWalk.i64_in _ (by omega)
                    have E5 : Hid (IntKind.i64.wrap (p1 + s - q0) = p1 + s - q0) := IntWalk.i64_in _ (by omega)
                    clear e1
                    cases x
                    · have HR2 : Hid (fitS T B t s (k + 1) = false) := by show _ = _; rw [HN.out]; rfl
                      clear HN
                      go_wp2
                      have e1 := E1.out
                      have e2 := E2.out
                      have e3 := E3.out
                      have e4 := E4.out
                      have e5 := E5.out
                      go_quiet (fail)
                      clear e1 e2 e3 e4 e5
                      go_wp2
                      go_roundw
                      case rel => exact ⟨k + 1, false, by omega, by go_num, rfl, HR2.out.symm, by (repeat (first | assumption | exact Below.refl _ _ | (refine bl_alloc ?_ _) | (refine Below.drew ?_) | (refine bl_drewN ?_ _) | (refine bl_set ?_ (by simp) _) | (refine bl_trans ?_ (by assumption)) | (refine bl_step ?_ (by assumption) (by first | omega | exact Below.size (by assumption) | (simp; omega) | (simp; exact Below.size (by assumption))))))⟩
                      case measure => simp [intOf]; omega
                    · by_cases c1 : (t : Int) ≤ q1 - p0 - s
                      · have hd1 : decide ((t : Int) ≤ q1 - p0 - s) = true := decide_eq_true c1
                        by_cases c2 : (t : Int) ≤ p1 + s - q0
                        · have hd2 : decide ((t : Int) ≤ p1 + s - q0) = true := decide_eq_true c2
                          have HR2 : Hid (fitS T B t s (k + 1) = true) := by show _ = _; rw [HN.out, hd1, hd2]; rfl
                          clear HN
                          go_wp2
                          have e1 := E1.out
                          have e2 := E2.out
                          have e3 := E3.out
                          have e4 := E4.out
                          have e5 := E5.out
                          go_quiet (fail)
                          clear e1 e2 e3 e4 e5
                          go_wp2
                          go_roundw
                          case rel => exact ⟨k + 1, true, by omega, by go_num, rfl, HR2.out.symm, by (repeat (first | assumption | exact Below.refl _ _ | (refine bl_alloc ?_ _) | (refine Below.drew ?_) | (refine bl_drewN ?_ _) | (refine bl_set ?_ (by simp) _) | (refine bl_trans ?_ (by assumption)) | (refine bl_step ?_ (by assumption) (by first | omega | exact Below.size (by assumption) | (simp; omega) | (simp; exact Below.size (by assumption))))))⟩
                          case measure => simp [intOf]; omega
                        · have hd2 : decide ((t : Int) ≤ p1 + s - q0) = false := decide_eq_false c2
                          have HR2 : Hid (fitS T B t s (k + 1) = false) := by show _ = _; rw [HN.out, hd1, hd2]; rfl
                          clear HN
                          go_wp2
                          have e1 := E1.out
                          have e2 := E2.out
                          have e3 := E3.out
                          have e4 := E4.out
                          have e5 := E5.out
                          go_quiet (fail)
                          clear e1 e2 e3 e4 e5
                          go_wp2
                          go_roundw
                          case rel => exact ⟨k + 1, false, by omega, by go_num, rfl, HR2.out.symm, by (repeat (first | assumption | exact Below.refl _ _ | (refine bl_alloc ?_ _) | (refine Below.drew ?_) | (refine bl_drewN ?_ _) | (refine bl_set ?_ (by simp) _) | (refine bl_trans ?_ (by assumption)) | (refine bl_step ?_ (by assumption) (by first | omega | exact Below.size (by assumption) | (simp; omega) | (simp; exact Below.size (by assumption))))))⟩
                          case measure => simp [intOf]; omega
                      · have hd1 : decide ((t : Int) ≤ q1 - p0 - s) = false := decide_eq_false c1
                        have HR2 : Hid (fitS T B t s (k + 1) = false) := by show _ = _; rw [HN.out, hd1]; rfl
                        clear HN
                        go_wp2
                        have e1 := E1.out
                        have e2 := E2.out
                        have e3 := E3.out
                        have e4 := E4.out
                        have e5 := E5.out
                        go_quiet (fail)
                        clear e1 e2 e3 e4 e5
                        go_wp2
                        go_roundw
                        case rel => exact ⟨k + 1, false, by omega, by go_num, rfl, HR2.out.symm, by (repeat (first | assumption | exact Below.refl _ _ | (refine bl_alloc ?_ _) | (refine Below.drew ?_) | (refine bl_drewN ?_ _) | (refine bl_set ?_ (by simp) _) | (refine bl_trans ?_ (by assumption)) | (refine bl_step ?_ (by assumption) (by first | omega | exact Below.size (by assumption) | (simp; omega) | (simp; exact Below.size (by assumption))))))⟩
                        case measure => simp [intOf]; omega
                  · have hltI : ¬ (k : Int) + (t : Int) < (n : Int) := by omega
                    have hkn : k = n - t := by omega
                    have hx : x = (decide (lo ≤ s) && decide (s ≤ hi)) := by rw [HX.out, hkn]; exact HK.out s (by omega) (by omega)
                    clear HX HK hkn
                    by_cases f1 : lo ≤ s
                    · have g1 : decide (lo ≤ s) = true := decide_eq_true f1
                      by_cases f2 : s ≤ hi
                      · have g2 : decide (s ≤ hi) = true := decide_eq_true f2
                        obtain rfl : x = true := by rw [hx, g1, g2]; rfl
                        clear hx
                        go_wp2
                        go_roundw
                        case rel => exact ⟨s + 1, rfl, by omega, by omega, hb⟩
                        case measure => simp [intOf]; omega
                      · have g2 : decide (s ≤ hi) = false := decide_eq_false f2
                        obtain rfl : x = false := by rw [hx, g1, g2]; rfl
                        clear hx
                        go_wp2
                        go_roundw
                        case rel => exact ⟨s + 1, rfl, by omega, by omega, hb⟩
                        case measure => simp [intOf]; omega
                    · have g1 : decide (lo ≤ s) = false := decide_eq_false f1
                      obtain rfl : x = false := by rw [hx, g1]; rfl
                      clear hx
                      go_wp2
                      go_roundw
                      case rel => exact ⟨s + 1, rfl, by omega, by omega, hb⟩
                      case measure => simp [intOf]; omega
        · have hsN : ¬ s ≤ hi + 1 := hsI
          go_wp2
          go_ret
          exact ⟨rfl, bl_trans b9 hb⟩
  · have HL := Lib.hid hlong
    clear hlong
    go_enter Try.func6, Try.ntmps6
    go_wp2_with fail
    refine (r8Long_any _ _ _ _ _ _ _).mono ?_
    rintro e w1 ⟨rfl, rfl⟩
    rw [HL.out]
    go_wp2
    go_ret
    exact ⟨rfl, Below.refl _ _⟩
end Go.Proofs.Ytfmkedmhbmcbiaa.fnShifted
