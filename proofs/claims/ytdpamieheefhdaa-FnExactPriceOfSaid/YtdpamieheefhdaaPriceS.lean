/-
  Contracts: the price of a way, as the model has it.
-/
import Derived.Test.YtdpamieheefhdaaWalkP
import Derived.Test.YtdpamieheefhdaaAmt
namespace Go.Proofs.Ytdpamieheefhdaa
set_option linter.unusedSimpArgs false
set_option linter.unusedVariables false
open Go.ChangeShapes Go.WideShapes Go.ChangeAt Go.RowKit

/-- Is the step with an index a bend? -/
def bendAt (s : ByteArray) (k : Nat) : Bool := decide (0 < k) && decide (ltr s k ≠ ltr s (k - 1))
/-- The prices of the bends among the first steps. -/
def bendTo (s : ByteArray) (bend : Int) : Nat → Int
  | 0 => 0
  | k + 1 => bendTo s bend k + if bendAt s k then bend else 0
theorem bendTo_lo {s : ByteArray} {bend : Int} (h0 : 0 ≤ bend) (h1 : bend ≤ 1000000000) (k : Nat) : 0 ≤ bendTo s bend k ∧ bendTo s bend k ≤ 1000000000 * k := by
  induction k with
  | zero => simp [bendTo]
  | succ k ih => simp only [bendTo]; split <;> omega
theorem bendTo_t {s : ByteArray} {bend : Int} {k : Nat} (h : bendAt s k = true) : bendTo s bend (k + 1) = bendTo s bend k + bend := by simp [bendTo, h]
theorem bendTo_f {s : ByteArray} {bend : Int} {k : Nat} (h : bendAt s k = false) : bendTo s bend (k + 1) = bendTo s bend k := by simp [bendTo, h]
def costTo (M : Mz) (p : Int × Int) (s : ByteArray) (bend : Int) (k : Nat) : Int := sumTo M p s k + bendTo s bend k

theorem l04Bend_any (n : Int) (w : World) :
    Calls Try.prog 56 #[.int .i64 n] w fun e w' => e = .returned (.bool (inB n 0 1000000000)) ∧ w = w' := by
  go_enter Try.func56, Try.ntmps56
  go_wp2_with (go_at_call 50; refine (l00In_any _ _ _ _).mono ?_; rintro e w' ⟨rfl, rfl⟩)
  go_ret
  exact ⟨rfl, rfl⟩
set_option maxRecDepth 100000 in
set_option maxHeartbeats 3200000 in
theorem l04Price_any (g : Nat) (A : Option Addr) (Ls : List SlI) (c : Nat) (Q : Option Addr) (n d : Nat) (p q : Int × Int) (s : ByteArray) (bend : Int) (w : World) (hm : MzAt w g A Ls c) (hv : MzOk (heldI Ls)) (ho : openB (heldI Ls) p.1 p.2 = true)
    (hP : PtsAt w w.heap.size Q (cellsL (heldI Ls) p s s.size)) (hN : Hid (n = s.size + 1)) (hq : posTo (heldI Ls) p s s.size = some q) (hs : s.size ≤ 1000) (h0 : 0 ≤ bend) (h1 : bend ≤ 1000000000) :
    Calls Try.prog 58 #[.pointer (some ⟨g, 0, none⟩), .slice Q n d, .string s, .int .i64 bend] w fun e w' => e = .returned (.int .i64 (costTo (heldI Ls) p s bend s.size)) ∧ Below w.heap.size w w' := by
  obtain ⟨M, hM⟩ : ∃ M, heldI Ls = M := ⟨_, rfl⟩
  obtain ⟨hg, hgl, hp⟩ := hm
  have hlen := heldI_len Ls
  have hrows := heldI_row Ls
  rw [hM] at ho hv hP hq hlen hrows ⊢
  have HV := Lib.hid hv
  have HO := Lib.hid ho
  have HP := Lib.hid hP
  have HQ := Lib.hid hq
  have HLen := Lib.hid hlen
  have HRow := Lib.hid hrows
  have HIS := Lib.hid hp
  have HB := Lib.hid (fun k => bendTo_lo (s := s) h0 h1 k)
  have HSu := Lib.hid (fun k => sumTo_lo hv p s k)
  have hsI : (s.size : Int) ≤ 1000 := by omega
  have hL0 : Hid (costTo M p s bend 0 = 0) := rfl
  clear hM hv ho hP hq hlen hrows hp
  go_enter Try.func58, Try.ntmps58
  go_wp2
  go_loopw [9, 10] (fun t i wr => ∃ k : Nat, k ≤ s.size ∧ i = .int .i64 k ∧ t = .int .i64 (costTo M p s bend k) ∧ Below w.heap.size w wr) (fun _ i _ => s.size - (intOf i).toNat)
  case atStart => exact ⟨0, Nat.zero_le _, rfl, by rw [hL0.out], Below.refl _ _⟩
  case round =>
    obtain ⟨k, hk, rfl, rfl, hb⟩ := hrel
    have hk0 : (0 : Int) ≤ (k : Int) := by omega
    have dg := (hb.cell (p := ⟨g, 0, none⟩) hgl).trans hg
    by_cases hlt : k < s.size
    · have hltI : (k : Int) < (s.size : Int) := by omega
      obtain ⟨⟨px, py⟩, hpk⟩ := posTo_le HQ.out (k := k + 1) (by omega)
      have hop := posTo_open HO.out hpk
      obtain ⟨i, j, hxi, hyj, hi, hj, _⟩ := openB_pt hop
      simp only at hxi hyj
      subst hxi; subst hyj
      have hpr := priceI_in hi hj
      have hst := sumTo_step hpk
      obtain ⟨bq, oq, rfl, hbq, hcq⟩ := HP.out (by rw [cellsL_len]; omega)
      obtain ⟨x0, x1⟩ := hcq (k + 1) (by rw [cellsL_len]; omega)
      have hpd : (cellsL M p s s.size).getD (k + 1) (0, 0) = ((i : Int), (j : Int)) := by rw [cellsL_at (by omega)]; simp [posD, hpk]
      rw [hpd] at x0 x1
      have d0 := (hb.cell (p := ⟨bq, oq + (k + 1) * 2, none⟩) hbq).trans x0
      have d1 := (hb.cell (p := ⟨bq, oq + (k + 1) * 2 + 1, none⟩) hbq).trans x1
      rw [HLen.out] at hj
      obtain ⟨b, off, rfl, hbB, hc⟩ := HIS.out (by omega)
      obtain ⟨cj, pj, _, _⟩ := hc j hj
      have hrj := HV.out.row j (by rw [HLen.out]; exact hj)
      rw [HRow.out] at hrj
      rw [hrj] at cj
      obtain ⟨b', off', hA', hbB', hc'⟩ := pj (by rw [hrj]; omega)
      rw [hA'] at cj
      have ci := hc' i (by omega)
      rw [HRow.out] at hpr
      rw [← hpr] at ci
      have e0 := (hb.cell (p := ⟨b, off + j, none⟩) hbB).trans cj
      have e1 := (hb.cell (p := ⟨b', off' + i, none⟩) hbB').trans ci
      have hlo := priceI_lo HV.out (i : Int) (j : Int)
      have hsu := HSu.out k
      have hbe := HB.out k
      have hct : costTo M p s bend k = sumTo M p s k + bendTo s bend k := rfl
      have HC1 : Hid (bendAt s k = true → costTo M p s bend (k + 1) = costTo M p s bend k + priceI M i j + bend) := fun h => by unfold costTo; rw [hst, bendTo_t h]; simp only; omega
      have HC2 : Hid (bendAt s k = false → costTo M p s bend (k + 1) = costTo M p s bend k + priceI M i j) := fun h => by unfold costTo; rw [hst, bendTo_f h]; simp only; omega
      have hjI : (j : Int) < (Ls.length : Int) := by omega
      have hiI : (i : Int) < (wid M : Int) := by omega
      have hj0 : (0 : Int) ≤ (j : Int) := by omega
      have hi0 : (0 : Int) ≤ (i : Int) := by omega
      obtain ⟨C, hC⟩ : ∃ C, costTo M p s bend k = C := ⟨_, rfl⟩
      obtain ⟨v, hvv⟩ : ∃ v, priceI M (i : Int) (j : Int) = v := ⟨_, rfl⟩
      rw [hvv] at e1 hlo HC1 HC2
      rw [hC] at HC1 HC2 hct
      have hC0 : -1000 ≤ C ∧ C ≤ 1000000010000 := by omega
      obtain ⟨hC0, hC1⟩ := hC0
      obtain ⟨hv0, hv1⟩ := hlo
      have w1 : IntKind.i64.wrap (C + v) = C + v := IntWalk.i64_in _ (by omega)
      have w2 : IntKind.i64.wrap ((k : Int) + 1) = (k : Int) + 1 := IntWalk.i64_in _ (by omega)
      have w3 : ((k : Int) + 1).toNat = k + 1 := by omega
      have w4 : (0 : Int) ≤ (k : Int) + 1 := by omega
      have hn := hN.out
      have w5 : (k : Int) + 1 < (n : Int) := by omega
      clear hcq x0 x1 hpd hc hc' cj ci pj hrj hA' hpr hst hsu hbe hct hop hpk hn
      rw [hC]
      generalize wid M = n0 at *
      generalize (Ls.getD j si0).2.2 = kj at *
      clear hC hvv
      go_wp2
      go_quiet (fail)
      clear w1 w2 w3 w4 w5 d0 d1 e0 e1
      have hCv0 : -1001 ≤ C + v := by omega
      have hCv1 : C + v ≤ 1000000010009 := by omega
      by_cases hkz : k = 0
      · have hbf : bendAt s k = false := by simp [bendAt, hkz]
        have HCx := Lib.hid (HC2.out hbf)
        have hkd : decide (0 < k) = false := decide_eq_false (by omega)
        have HK := Lib.hid hkz
        clear hkz hbf
        go_wp2
        go_quiet (fail)
        go_wp2
        go_roundw
        case rel => exact ⟨k + 1, by omega, by go_num, by rw [HCx.out], by (repeat (first | assumption | exact Below.refl _ _ | (refine bl_alloc ?_ _) | (refine Below.drew ?_) | (refine bl_drewN ?_ _) | (refine bl_set ?_ (by first | (simp; done) | omega | (simp; omega)) _) | (refine bl_trans ?_ (by assumption)) | (refine bl_step ?_ (by assumption) (by first | omega | exact Below.size (by assumption) | (simp; omega) | (simp; exact Below.size (by assumption))))))⟩
        case measure => simp [intOf]; omega
      · obtain ⟨m, rfl⟩ : ∃ m, k = m + 1 := ⟨k - 1, by omega⟩
        have hkd : decide (0 < m + 1) = true := decide_eq_true (by omega)
        have L0 := ltr_at hlt
        have L1 := ltr_at (s := s) (k := m) (by omega)
        have hm0 : (0 : Int) ≤ (m : Int) := by omega
        have hk3 : m < s.size := by omega
        have hk4 : (m : Int) < (s.size : Int) := by omega
        have hq1 : (m : Int) + 1 < (s.size : Int) := by omega
        have hq2 : (0 : Int) ≤ (m : Int) + 1 := by omega
        have hq3 : ((m : Int) + 1).toNat = m + 1 := by omega
        have w6 : IntKind.i64.wrap ((m : Int) + 1 - 1) = (m : Int) := by rw [IntWalk.i64_in _ (by omega)]; omega
        have hbA : bendAt s (m + 1) = decide (ltr s (m + 1) ≠ ltr s m) := by simp [bendAt]
        by_cases hbd : ltr s (m + 1) = ltr s m
        · have HCx := Lib.hid (HC2.out (by rw [hbA]; exact decide_eq_false (fun h => h hbd)))
          rw [L0, L1] at hbd
          have hb1 : ((s[m + 1].toNat : Int) != (s[m].toNat : Int)) = false := by simpa using hbd
          have HBD := Lib.hid hbd
          clear hkz hbd L0 L1 hbA
          go_wp2
          go_quiet (fail)
          clear w6 hb1
          go_wp2
          go_roundw
          case rel => exact ⟨m + 1 + 1, by omega, by go_num, by rw [HCx.out], by (repeat (first | assumption | exact Below.refl _ _ | (refine bl_alloc ?_ _) | (refine Below.drew ?_) | (refine bl_drewN ?_ _) | (refine bl_set ?_ (by first | (simp; done) | omega | (simp; omega)) _) | (refine bl_trans ?_ (by assumption)) | (refine bl_step ?_ (by assumption) (by first | omega | exact Below.size (by assumption) | (simp; omega) | (simp; exact Below.size (by assumption))))))⟩
          case measure => simp [intOf]; omega
        · have HCx := Lib.hid (HC1.out (by rw [hbA]; exact decide_eq_true hbd))
          rw [L0, L1] at hbd
          have hb1 : ((s[m + 1].toNat : Int) != (s[m].toNat : Int)) = true := by simpa using hbd
          have HBD := Lib.hid hbd
          clear hkz hbd L0 L1 hbA
          go_wp2
          go_quiet (fail)
          clear w6 hb1
          go_wp2
          go_roundw
          case rel => exact ⟨m + 1 + 1, by omega, by go_num, by rw [HCx.out], by (repeat (first | assumption | exact Below.refl _ _ | (refine bl_alloc ?_ _) | (refine Below.drew ?_) | (refine bl_drewN ?_ _) | (refine bl_set ?_ (by first | (simp; done) | omega | (simp; omega)) _) | (refine bl_trans ?_ (by assumption)) | (refine bl_step ?_ (by assumption) (by first | omega | exact Below.size (by assumption) | (simp; omega) | (simp; exact Below.size (by assumption))))))⟩
          case measure => simp [intOf]; omega
    · obtain rfl : k = s.size := by omega
      go_wp2
      go_ret
      exact ⟨rfl, hb⟩
end Go.Proofs.Ytdpamieheefhdaa
