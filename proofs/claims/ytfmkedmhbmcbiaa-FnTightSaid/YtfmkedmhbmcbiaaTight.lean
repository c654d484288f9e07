/-
  Proved: for all inputs, FnTight returns true: a river that does not fit has tight pins, with none before them. No condition.
-/
import Derived.Test.YtfmkedmhbmcbiaaRivLeast
import Derived.Test.YtfmkedmhbmcbiaaRow
namespace Go.Proofs.Ytfmkedmhbmcbiaa
set_option linter.unusedSimpArgs false
set_option linter.unusedVariables false
open Go.ChangeShapes Go.WideShapes Go.ChangeAt Go.RowKit

theorem TightPinsI_n (A A' : Option Addr) (T B : List Int) (n c c' : Nat) (t : Int) (w : World) (hp : IntsAt w w.heap.size A T) (hq : IntsAt w w.heap.size A' B) (HT : Hid (T.length = n)) (HB : Hid (B.length = n)) (hl : n ≤ 1048576) (hlc : n ≤ c) (hlc' : n ≤ c') :
    Calls Try.prog 38 #[.slice A n c, .slice A' n c', .int .i64 t] w fun e w' => e = .returned (tightPV T B t) ∧ Below w.heap.size w w' := by
  have h1 := HT.out
  have h2 := HB.out
  have := TightPinsI_any A A' T B c c' t w hp hq (by omega) (by omega) (by omega) (by omega)
  rwa [h1, h2] at this
theorem FitsRiverI_n (A A' : Option Addr) (T B : List Int) (n c c' : Nat) (t : Int) (w : World) (hp : IntsAt w w.heap.size A T) (hq : IntsAt w w.heap.size A' B) (HT : Hid (T.length = n)) (HB : Hid (B.length = n)) (hl : n ≤ 1048576) (hlc : n ≤ c) (hlc' : n ≤ c') :
    Calls Try.prog 33 #[.slice A n c, .slice A' n c', .int .i64 t] w fun e w' => e = .returned (.bool (fitsB T B t)) ∧ Below w.heap.size w w' := by
  have h1 := HT.out
  have h2 := HB.out
  have := FitsRiverI_any A A' T B c c' t w hp hq (by omega) (by omega) (by omega) (by omega)
  rwa [h1, h2] at this
theorem ValidRiverI_n (A A' : Option Addr) (T B : List Int) (n c c' : Nat) (w : World) (hp : IntsAt w w.heap.size A T) (hq : IntsAt w w.heap.size A' B) (HT : Hid (T.length = n)) (HB : Hid (B.length = n)) (hl : n ≤ 1048576) :
    Calls Try.prog 32 #[.slice A n c, .slice A' n c'] w fun e w' => e = .returned (.bool (riverB T B)) ∧ Below w.heap.size w w' := by
  have h1 := HT.out
  have h2 := HB.out
  have := ValidRiverI_any A A' T B c c' w hp hq (by omega) (by omega)
  rwa [h1, h2] at this
theorem R8Row_int (A : Option Addr) (cs : List Int) (c : Nat) (m : Int) (n : Nat) (w : World) (e : m = n) (hp : NumsAt .u8 w w.heap.size A cs) (hw : ∀ n ∈ cs, (Lit.int .u8 n).wf = true) (hl : cs.length ≤ 1048576) (hn : n ≤ 7) :
    Calls Try.prog 30 #[.slice A cs.length c, .int .i64 m] w (RowPost n w) := by
  subst e; exact R8Row_any A cs c n w hp hw hl hn
theorem river_mk {T B : List Int} {n : Nat} (hT : T.length = n) (hB : B.length = n) (h1 : 1 ≤ n) (h2 : n ≤ 20) (h3 : rises T 0 99 = true) (h4 : rises B 0 99 = true) : riverB T B = true := by
  unfold riverB
  rw [h3, h4, inB_t (n := (T.length : Int)) (by omega) (by omega), decide_eq_true (by omega : T.length = B.length)]; rfl
theorem firstT_before {T B : List Int} {t k j : Nat} (h : firstT T B t k = none) (hj : j < k) : tightAt T B t j = false := by
  cases ht : tightAt T B t j
  · rfl
  · have h1 : firstT T B t (j + 1) ≠ none := by
      unfold firstT; rw [ht]; cases firstT T B t j <;> simp
    cases h2 : firstT T B t (j + 1) with
    | none => exact absurd h2 h1
    | some i => rw [firstT_some h2 k (by omega)] at h; cases h
theorem firstT_least {T B : List Int} {t k f j : Nat} (h : firstT T B t k = some f) (hj : j < f) : tightAt T B t j = false := by
  have hf := (firstT_lt h).1
  cases h1 : firstT T B t f with
  | none => exact firstT_before h1 hj
  | some i =>
    have h2 := firstT_some h1 k (by omega)
    have := (firstT_lt h1).1
    rw [h] at h2; injection h2 with h2; omega
theorem loose {T B : List Int} {t j : Nat} (h : tightAt T B t j = false) : ¬ gapB T B t j < t ∧ ¬ gapT T B t j < t := by
  unfold tightAt at h
  rw [Bool.or_eq_false_iff] at h
  exact ⟨of_decide_eq_false h.1, of_decide_eq_false h.2⟩

end Go.Proofs.Ytfmkedmhbmcbiaa
namespace Go.Proofs.Ytfmkedmhbmcbiaa.fnTight
open Go.ChangeShapes Go.WideShapes Go.ChangeAt Go.RowKit

set_option maxRecDepth 100000 in
set_option maxHeartbeats 3200000 in
theorem walk (A : Option Addr) (l : List Int) (c : Nat) (A' : Option Addr) (m : List Int) (c' : Nat) (w : World) (h : NumsAt .u8 w w.heap.size A l ∧ (∀ n ∈ l, (Lit.int .u8 n).wf = true) ∧ l.length ≤ c ∧ c ≤ maxLen) (h' : NumsAt .u8 w w.heap.size A' m ∧ (∀ n ∈ m, (Lit.int .u8 n).wf = true) ∧ m.length ≤ c' ∧ c' ≤ maxLen) :
    Calls Try.prog 5 #[.slice A l.length c, .slice A' m.length c'] w fun e w' => e = .returned (.bool true) ∧ Below w.heap.size w w' := by
  obtain ⟨hp, hw, _, _⟩ := h
  obtain ⟨hq, hw', _, _⟩ := h'
  cases hlong : decide (48 < l.length) || decide (48 < m.length)
  · have hl : l.length ≤ 1048576 := by simp at hlong; omega
    have hl' : m.length ≤ 1048576 := by simp at hlong; omega
    have HL := Lib.hid hlong
    clear hlong
    go_enter Try.func5, Try.ntmps5
    go_wp2_with fail
    refine (r8Long_any _ _ _ _ _ _ _).mono ?_
    rintro e w1 ⟨rfl, rfl⟩
    rw [HL.out]
    go_wp2_with fail
    refine (r8At_any _ _ _ 40 _ _ hp hw hl (by omega) (by omega)).mono ?_
    rintro e w1 ⟨p, ⟨p0, p1⟩, rfl, hb1⟩
    obtain ⟨n, hn⟩ : ∃ n : Nat, 1 + p = n := ⟨(1 + p).toNat, by omega⟩
    have hn1 : 1 ≤ n := by omega
    have hn7 : n ≤ 7 := by omega
    have HN := Lib.hid hn
    clear hn
    go_wp2_with fail
    rw [HN.out]
    refine (R8Row_any _ _ _ _ _ (hp.to hb1) hw hl hn7).mono ?_
    rintro e w2 ⟨AT, T, cT, rfl, hTl, hTr, hT2, hTc, hb2⟩
    have b2 := bl_trans hb1 hb2
    have HTl := Lib.hid hTl
    clear hTl hb1 hb2
    go_wp2_with fail
    refine (R8Row_any _ _ _ _ _ (hq.to b2) hw' hl' hn7).mono ?_
    rintro e w3 ⟨AB, B, cB, rfl, hBl, hBr, hB3, hBc, hb3⟩
    have b3 := bl_trans b2 hb3
    have hT3 := hT2.to hb3
    have HBl := Lib.hid hBl
    have HR := Lib.hid (river_mk HTl.out hBl hn1 (by omega) hTr hBr)
    have hPT := places_of hTr
    have hPB := places_of hBr
    clear hBl hTr hBr b2 hT2 hb3
    go_wp2_with fail
    refine (r8At_any _ _ _ 41 _ _ (hp.to b3) hw hl (by omega) (by omega)).mono ?_
    rintro e w4 ⟨t', ⟨t0, t1⟩, rfl, hb4⟩
    obtain ⟨t, rfl⟩ : ∃ t : Nat, t' = t := ⟨t'.toNat, by omega⟩
    have b4 := bl_trans b3 hb4
    have hT4 := hT3.to hb4
    have hB4 := hB3.to hb4
    have HI : Hid (inB (t : Int) 0 20 = true) := inB_t (by omega) (by omega)
    clear b3 hT3 hB3 hb4 t0
    go_wp2_with fail
    refine (TightPinsI_n _ _ _ _ _ _ _ _ _ hT4 hB4 HTl HBl (by omega) hTc hBc).mono ?_
    rintro e w5 ⟨rfl, hb5⟩
    have b5 := bl_trans b4 hb5
    have hT5 := hT4.to hb5
    have hB5 := hB4.to hb5
    clear b4 hT4 hB4 hb5 hp hq hw hw' hl hl' HL p0 p1 HN
    have ht0 : 0 ≤ (t : Int) := by omega
    have hn7I : (n : Int) ≤ 7 := by omega
    cases ho : firstR T B t with
    | none =>
      have HV := Lib.hid (tightPV_f (T := T) (B := B) (t := (t : Int)) (by rw [Int.toNat_natCast, (fitB_none ho).1]; simp))
      have HF : Hid (fitsB T B t = true) := by show _ = _; unfold fitsB; rw [HR.out, HI.out, Int.toNat_natCast, (fitB_none ho).1]; rfl
      have HO : Hid (firstT T B t (n - t) = none) := by show _ = _; rw [← HTl.out]; exact ho
      clear ho
      rw [HV.out]
      go_wp2_with fail
      go_loopw [12, 13, 14, 15] (fun f i _ _ wr => ∃ k : Nat, k ≤ n - t ∧ i = .int .i64 k ∧ f = .bool true ∧ Below w5.heap.size w5 wr) (fun _ i _ _ _ => n - (intOf i).toNat)
      case atStart => exact ⟨0, Nat.zero_le _, rfl, rfl, Below.refl _ _⟩
      case round =>
        obtain ⟨k, hk, rfl, rfl, hb⟩ := hrel
        have hk0 : 0 ≤ (k : Int) := by omega
        have hk7 : (k : Int) ≤ 7 := by omega
        by_cases hlt : k + t < n
        · have eT := HTl.out
          have eB := HBl.out
          obtain ⟨b, off, rfl, hbB, hc⟩ := hT5 (by omega)
          obtain ⟨b', off', rfl, hbB', hc'⟩ := hB5 (by omega)
          have d0 := (hb.cell (p := ⟨b, off + k, none⟩) hbB).trans (hc k (by omega))
          have d1 := (hb.cell (p := ⟨b, off + (k + t), none⟩) hbB).trans (hc (k + t) (by omega))
          have d2 := (hb.cell (p := ⟨b', off' + k, none⟩) hbB').trans (hc' k (by omega))
          have d3 := (hb.cell (p := ⟨b', off' + (k + t), none⟩) hbB').trans (hc' (k + t) (by omega))
          obtain ⟨c1, c2⟩ := loose (firstT_before HO.out (by omega : k < n - t))
          unfold gapB at c1
          unfold gapT at c2
          obtain ⟨x0, x0'⟩ := hPT k
          obtain ⟨x1, x1'⟩ := hPT (k + t)
          obtain ⟨y0, y0'⟩ := hPB k
          obtain ⟨y1, y1'⟩ := hPB (k + t)
          have hltI : (k : Int) + (t : Int) < (n : Int) := by omega
          have hkI : (k : Int) < (n : Int) := by omega
          generalize T.getD k 0 = p0 at *
          generalize T.getD (k + t) 0 = p1 at *
          generalize B.getD k 0 = q0 at *
          generalize B.getD (k + t) 0 = q1 at *
          have hd1 : decide (q1 - p0 < (t : Int)) = false := decide_eq_false c1
          have hd2 : decide (p1 - q0 < (t : Int)) = false := decide_eq_false c2
          clear hc hc' hT5 hB5 eT eB hPT hPB
          have e1 : IntKind.i64.wrap ((k : Int) + t) = ((k + t : Nat) : Int) := by rw [IntWalk.i64_in _ (by omega)]; omega
          have e2 : IntKind.i64.wrap (q1 - p0) = q1 - p0 := IntWalk.i64_in _ (by omega)
          have e3 : IntKind.i64.wrap (p1 - q0) = p1 - q0 := IntWalk.i64_in _ (by omega)
          go_wp2
          go_quiet (fail)
          go_wp2
          go_quiet (fail)
          clear e1 e2 e3
          go_wp2
          go_roundw
          case rel => exact ⟨k + 1, by omega, by go_num, rfl, by (repeat (first | assumption | exact Below.refl _ _ | (refine bl_alloc ?_ _) | (refine Below.drew ?_) | (refine bl_drewN ?_ _) | (refine bl_set ?_ (by simp) _) | (refine bl_trans ?_ (by assumption)) | (refine bl_step ?_ (by assumption) (by first | omega | exact Below.size (by assumption) | (simp; omega) | (simp; exact Below.size (by assumption))))))⟩
          case measure => simp [intOf]; omega
        · have hltI : ¬ (k : Int) + (t : Int) < (n : Int) := by omega
          have hltd : decide ((k : Int) + (t : Int) < (n : Int)) = false := decide_eq_false hltI
          have hT6 := hT5.to hb
          have hB6 := hB5.to hb
          have b6 := bl_trans b5 hb
          clear hT5 hB5 b5 hb
          go_wp2_with fail
          refine (FitsRiverI_n _ _ _ _ _ _ _ _ _ hT6 hB6 HTl HBl (by omega) hTc hBc).mono ?_
          rintro e w7 ⟨rfl, hb7⟩
          rw [HF.out]
          go_wp2_with fail
          refine (ValidRiverI_n _ _ _ _ _ _ _ _ (hT6.to hb7) (hB6.to hb7) HTl HBl (by omega)).mono ?_
          rintro e w8 ⟨rfl, hb8⟩
          rw [HR.out]
          have b8 := bl_trans (bl_trans b6 hb7) hb8
          clear b6 hb7 hb8
          go_wp2
          go_ret
          exact ⟨rfl, b8⟩
    | some f =>
      have HV := Lib.hid (tightPV_t HR.out HI.out ho)
      have HF : Hid (fitsB T B t = false) := by show _ = _; unfold fitsB; rw [HR.out, HI.out, Int.toNat_natCast, (fitB_some ho).1]; rfl
      have HO : Hid (firstT T B t (n - t) = some f) := by show _ = _; rw [← HTl.out]; exact ho
      have hfn : f < n - t := (firstT_lt HO.out).1
      have hft : tightAt T B t f = true := (firstT_lt HO.out).2
      have HFT := Lib.hid hft
      clear ho hft
      obtain ⟨sd, hsd⟩ : ∃ sd : Int, (if gapB T B t f < (t : Int) then (0 : Int) else 1) = sd := ⟨_, rfl⟩
      rw [HV.out, hsd]
      have HSD := Lib.hid hsd
      have hsd0 : 0 ≤ sd := by rw [← hsd]; split <;> omega
      have hsd1 : sd ≤ 1 := by rw [← hsd]; split <;> omega
      clear hsd
      go_wp2_with fail
      go_loopw [12, 13, 14, 15] (fun b i _ _ wr => ∃ (k : Nat) (x : Bool), k ≤ f + 1 ∧ i = .int .i64 k ∧ b = .bool x ∧ Hid (x = decide (k ≤ f)) ∧ Below w5.heap.size w5 wr) (fun _ i _ _ _ => n - (intOf i).toNat)
      case atStart => exact ⟨0, true, Nat.zero_le _, rfl, rfl, by show _ = _; simp, Below.refl _ _⟩
      case round =>
        obtain ⟨k, x, hk, rfl, rfl, HX, hb⟩ := hrel
        have hk0 : 0 ≤ (k : Int) := by omega
        have hk7 : (k : Int) ≤ 7 := by omega
        by_cases hle : k ≤ f
        · obtain rfl : x = true := HX.out.trans (decide_eq_true hle)
          have eT := HTl.out
          have eB := HBl.out
          have hlt : k + t < n := by omega
          obtain ⟨b, off, rfl, hbB, hc⟩ := hT5 (by omega)
          obtain ⟨b', off', rfl, hbB', hc'⟩ := hB5 (by omega)
          have d0 := (hb.cell (p := ⟨b, off + k, none⟩) hbB).trans (hc k (by omega))
          have d1 := (hb.cell (p := ⟨b, off + (k + t), none⟩) hbB).trans (hc (k + t) (by omega))
          have d2 := (hb.cell (p := ⟨b', off' + k, none⟩) hbB').trans (hc' k (by omega))
          have d3 := (hb.cell (p := ⟨b', off' + (k + t), none⟩) hbB').trans (hc' (k + t) (by omega))
          obtain ⟨x0, x0'⟩ := hPT k
          obtain ⟨x1, x1'⟩ := hPT (k + t)
          obtain ⟨y0, y0'⟩ := hPB k
          obtain ⟨y1, y1'⟩ := hPB (k + t)
          have hltI : (k : Int) + (t : Int) < (n : Int) := by omega
          have hkI : (k : Int) < (n : Int) := by omega
          have e1 : IntKind.i64.wrap ((k : Int) + t) = ((k + t : Nat) : Int) := by rw [IntWalk.i64_in _ (by omega)]; omega
          have E1 := Lib.hid e1
          have E2 : Hid (IntKind.i64.wrap (B.getD (k + t) 0 - T.getD k 0) = B.getD (k + t) 0 - T.getD k 0) := IntWalk.i64_in _ (by omega)
          have E3 : Hid (IntKind.i64.wrap (T.getD (k + t) 0 - B.getD k 0) = T.getD (k + t) 0 - B.getD k 0) := IntWalk.i64_in _ (by omega)
          clear e1 hc hc' hT5 hB5 eT eB hPT hPB HX
          by_cases hlt2 : k < f
          · obtain ⟨c1, c2⟩ := loose (firstT_least HO.out hlt2)
            unfold gapB at c1
            unfold gapT at c2
            clear HFT HSD HV HF HO
            generalize T.getD k 0 = p0 at *
            generalize T.getD (k + t) 0 = p1 at *
            generalize B.getD k 0 = q0 at *
            generalize B.getD (k + t) 0 = q1 at *
            have hd1 : decide (q1 - p0 < (t : Int)) = false := decide_eq_false c1
            have hd2 : decide (p1 - q0 < (t : Int)) = false := decide_eq_false c2
            have e1 := E1.out
            have e2 := E2.out
            have e3 := E3.out
            go_wp2
            go_quiet (fail)
            go_wp2
            go_quiet (fail)
            clear e1 e2 e3
            go_wp2
            go_roundw
            case rel => exact ⟨k + 1, true, by omega, by go_num, rfl, by show _ = _; symm; exact decide_eq_true (by omega), by (repeat (first | assumption | exact Below.refl _ _ | (refine bl_alloc ?_ _) | (refine Below.drew ?_) | (refine bl_drewN ?_ _) | (refine bl_set ?_ (by simp) _) | (refine bl_trans ?_ (by assumption)) | (refine bl_step ?_ (by assumption) (by first | omega | exact Below.size (by assumption) | (simp; omega) | (simp; exact Below.size (by assumption))))))⟩
            case measure => simp [intOf]; omega
          · obtain rfl : k = f := by omega
            have hT' : tightAt T B t k = true := HFT.out
            unfold tightAt gapB gapT at hT'
            have hS' := HSD.out
            unfold gapB at hS'
            clear HFT HSD HV HF HO
            generalize T.getD k 0 = p0 at *
            generalize T.getD (k + t) 0 = p1 at *
            generalize B.getD k 0 = q0 at *
            generalize B.getD (k + t) 0 = q1 at *
            by_cases c1 : q1 - p0 < (t : Int)
            · obtain rfl : sd = 0 := by rw [← hS', if_pos c1]
              have hd1 : decide (q1 - p0 < (t : Int)) = true := decide_eq_true c1
              clear hT' hS'
              have e1 := E1.out
              have e2 := E2.out
              have e3 := E3.out
              go_wp2
              go_quiet (fail)
              go_wp2
              go_quiet (fail)
              clear e1 e2 e3
              go_wp2
              go_roundw
              case rel => exact ⟨k + 1, false, by omega, by go_num, rfl, by show _ = _; symm; exact decide_eq_false (by omega), by (repeat (first | assumption | exact Below.refl _ _ | (refine bl_alloc ?_ _) | (refine Below.drew ?_) | (refine bl_drewN ?_ _) | (refine bl_set ?_ (by simp) _) | (refine bl_trans ?_ (by assumption)) | (refine bl_step ?_ (by assumption) (by first | omega | exact Below.size (by assumption) | (simp; omega) | (simp; exact Below.size (by assumption))))))⟩
              case measure => simp [intOf]; omega
            · have c2 : p1 - q0 < (t : Int) := by
                rw [decide_eq_false c1] at hT'
                simpa using hT'
              obtain rfl : sd = 1 := by rw [← hS', if_neg c1]
              have hd1 : decide (q1 - p0 < (t : Int)) = false := decide_eq_false c1
              have hd2 : decide (p1 - q0 < (t : Int)) = true := decide_eq_true c2
              clear hT' hS'
              have e1 := E1.out
              have e2 := E2.out
              have e3 := E3.out
              go_wp2
              go_quiet (fail)
              go_wp2
              go_quiet (fail)
              clear e1 e2 e3
              go_wp2
              go_roundw
              case rel => exact ⟨k + 1, false, by omega, by go_num, rfl, by show _ = _; symm; exact decide_eq_false (by omega), by (repeat (first | assumption | exact Below.refl _ _ | (refine bl_alloc ?_ _) | (refine Below.drew ?_) | (refine bl_drewN ?_ _) | (refine bl_set ?_ (by simp) _) | (refine bl_trans ?_ (by assumption)) | (refine bl_step ?_ (by assumption) (by first | omega | exact Below.size (by assumption) | (simp; omega) | (simp; exact Below.size (by assumption))))))⟩
              case measure => simp [intOf]; omega
        · obtain rfl : k = f + 1 := by omega
          obtain rfl : x = false := HX.out.trans (decide_eq_false hle)
          have hT6 := hT5.to hb
          have hB6 := hB5.to hb
          have b6 := bl_trans b5 hb
          clear hT5 hB5 b5 hb
          by_cases hlt : f + 1 + t < n
          · have hltI : ((f + 1 : Nat) : Int) + (t : Int) < (n : Int) := by omega
            have hltd : decide (((f + 1 : Nat) : Int) + (t : Int) < (n : Int)) = true := decide_eq_true hltI
            go_wp2_with fail
            refine (FitsRiverI_n _ _ _ _ _ _ _ _ _ hT6 hB6 HTl HBl (by omega) hTc hBc).mono ?_
            rintro e w7 ⟨rfl, hb7⟩
            rw [HF.out]
            go_wp2_with fail
            refine (ValidRiverI_n _ _ _ _ _ _ _ _ (hT6.to hb7) (hB6.to hb7) HTl HBl (by omega)).mono ?_
            rintro e w8 ⟨rfl, hb8⟩
            rw [HR.out]
            have b8 := bl_trans (bl_trans b6 hb7) hb8
            clear b6 hb7 hb8
            go_wp2
            go_ret
            exact ⟨rfl, b8⟩
          · have hltI : ¬ ((f + 1 : Nat) : Int) + (t : Int) < (n : Int) := by omega
            have hltd : decide (((f + 1 : Nat) : Int) + (t : Int) < (n : Int)) = false := decide_eq_false hltI
            go_wp2_with fail
            refine (FitsRiverI_n _ _ _ _ _ _ _ _ _ hT6 hB6 HTl HBl (by omega) hTc hBc).mono ?_
            rintro e w7 ⟨rfl, hb7⟩
            rw [HF.out]
            go_wp2_with fail
            refine (ValidRiverI_n _ _ _ _ _ _ _ _ (hT6.to hb7) (hB6.to hb7) HTl HBl (by omega)).mono ?_
            rintro e w8 ⟨rfl, hb8⟩
            rw [HR.out]
            have b8 := bl_trans (bl_trans b6 hb7) hb8
            clear b6 hb7 hb8
            go_wp2
            go_ret
            exact ⟨rfl, b8⟩
  · have HL := Lib.hid hlong
    clear hlong
    go_enter Try.func5, Try.ntmps5
    go_wp2_with fail
    refine (r8Long_any _ _ _ _ _ _ _).mono ?_
    rintro e w1 ⟨rfl, rfl⟩
    rw [HL.out]
    go_wp2
    go_ret
    exact ⟨rfl, Below.refl _ _⟩
end Go.Proofs.Ytfmkedmhbmcbiaa.fnTight
