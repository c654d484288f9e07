/-
  Contract: spec's l03Is: is a channel valid?
-/
import Derived.Test.YtpcilpcinbamcaaDoorChan
import Derived.Deep.DeepCutAuto
namespace Go.Proofs.YtpcilpcinbamcaaDoor
set_option linter.unusedSimpArgs false
set_option linter.unusedVariables false
open Go.ChangeShapes Go.WideShapes Go.ChangeAt Go.RowKit

/-- The box of a channel. -/
structure ChAt (w : World) (b : Nat) (A A' : Option Addr) (n n' c c' : Nat) : Prop where
  lt : b < w.heap.size
  c0 : w.cell? ⟨b, 0, none⟩ = some (.slice A n c)
  c1 : w.cell? ⟨b, 1, none⟩ = some (.slice A' n' c')
theorem ChAt.to {w w1 : World} {b : Nat} {A A' : Option Addr} {n n' c c' : Nat} (h : ChAt w b A A' n n' c c') (hb : Below w.heap.size w w1) : ChAt w1 b A A' n n' c c' :=
  ⟨Nat.lt_of_lt_of_le h.lt hb.size, (hb.cell (p := ⟨b, 0, none⟩) h.lt).trans h.c0, (hb.cell (p := ⟨b, 1, none⟩) h.lt).trans h.c1⟩
theorem CntAt.new (w : World) (cs : Array Value) (t : TypeId) (hz : cs.size = 13) (h0 : ∀ j, j < 13 → cs[j]? = some (.int .i64 0)) : CntAt (w.alloc (.cells cs t)) w.heap.size t [] :=
  ⟨cs, heap_alloc_new w _, hz, fun j hj => by rw [h0 j hj]; rfl⟩
theorem zero13 : ∀ j, j < 13 → (blankN 13)[j]? = some (.int .i64 0) := by
  intro j hj
  simp [blankN, madeCells, hj, Nat.mod_one]
theorem cnt_le (L : List Int) (n : Int) (hL : L.length ≤ 48) : 0 ≤ (L.count n : Int) ∧ (L.count n : Int) ≤ 48 := by
  have := List.count_le_length (a := n) (l := L)
  omega
theorem formB_f {T B : List Int} (h : ¬ (1 ≤ T.length ∧ T.length ≤ 24 ∧ B.length = T.length)) : chanB T B = false := by
  unfold chanB formB; rw [decide_eq_false h]; rfl
theorem chanB_in {T B : List Int} (h : (pinsTo T B T.length).all inNet = false) : chanB T B = false := by
  unfold chanB; rw [h]; simp
theorem chanB_one {T B : List Int} (h : single (pinsTo T B T.length) = true) : chanB T B = false := by
  unfold chanB; rw [h]; simp
theorem chanB_t {T B : List Int} (h : 1 ≤ T.length ∧ T.length ≤ 24 ∧ B.length = T.length) (h1 : (pinsTo T B T.length).all inNet = true) (h2 : single (pinsTo T B T.length) = false) : chanB T B = true := by
  unfold chanB formB; rw [decide_eq_true h, h1, h2]; rfl
theorem inNet_nat {n : Int} (h : inNet n = true) : ∃ j : Nat, j < 13 ∧ n = (j : Int) := by
  unfold inNet inB at h
  have := of_decide_eq_true h
  exact ⟨n.toNat, by omega, by omega⟩
theorem single_at {L : List Int} {j : Nat} (h1 : 1 ≤ j) (h13 : j < 13) (h : L.count (j : Int) = 1) : single L = true := by
  unfold single
  rw [List.any_eq_true]
  exact ⟨j - 1, by simp; omega, by rw [show j - 1 + 1 = j by omega, h]; rfl⟩
theorem single_no {L : List Int} (h : ∀ j : Nat, 1 ≤ j → j < 13 → L.count (j : Int) ≠ 1) : single L = false := by
  unfold single
  rw [List.any_eq_false]
  intro k hk
  simp at hk
  simpa using h (k + 1) (by omega) (by omega)
/-- No one of the numbers 1 .. k - 1 is in L once. -/
def NoOne (L : List Int) (k : Nat) : Prop := ∀ j : Nat, 1 ≤ j → j < k → L.count (j : Int) ≠ 1

set_option maxRecDepth 100000 in
set_option maxHeartbeats 1600000 in
theorem l03Is_any (b : Nat) (A A' : Option Addr) (T B : List Int) (c c' : Nat) (w : World) (hb : ChAt w b A A' T.length B.length c c') (hp : IntsAt w w.heap.size A T) (hq : IntsAt w w.heap.size A' B) :
    Calls Tryd.prog 14 #[.pointer (some ⟨b, 0, none⟩)] w fun e w' => e = .returned (.bool (chanB T B)) ∧ Below w.heap.size w w' := by
  obtain ⟨hlt, hc0, hc1⟩ := hb
  by_cases hF : 1 ≤ T.length ∧ T.length ≤ 24 ∧ B.length = T.length
  · have HF := Lib.hid hF
    obtain ⟨h1, h24, hBT⟩ := hF
    have HBT := Lib.hid hBT
    rw [hBT] at hc1
    obtain ⟨n, hn⟩ : ∃ n, T.length = n := ⟨_, rfl⟩
    have HN := Lib.hid hn
    rw [hn] at h1 h24 hc0 hc1
    clear hn hBT
    have h1I : ¬ (n : Int) < 1 := by omega
    have h24I : ¬ (24 : Int) < n := by omega
    have h0n : ¬ n = 0 := by omega
    have h24d : decide (24 < n) = false := decide_eq_false (by omega)
    have hmk : ∀ w, (Instr.makeSlice 22 (.int .i64 13) (.int .i64 13)).run Tryd.prog w = .ok (.slice (some ⟨w.heap.size, 0, none⟩) 13 13) (w.alloc (.cells (blankN 13) 2)) := run_mknums 13 (by omega)
    have hnew := CntAt.new w (blankN 13) 2 (by simp [blankN, size_madeCells]) zero13
    go_enter Tryd.func14, Tryd.ntmps14
    go_wp2
    clear hmk
    go_loopw [5] (fun i wr => ∃ k : Nat, k ≤ n ∧ i = .int .i64 k ∧ CntAt wr w.heap.size 2 (pinsTo T B k) ∧ Hid ((pinsTo T B k).all inNet = true) ∧ Below w.heap.size w wr) (fun i _ => n - (intOf i).toNat)
    case atStart => exact ⟨0, Nat.zero_le _, rfl, hnew, rfl, by (repeat (first | assumption | exact Below.refl _ _ | (refine bl_alloc ?_ _) | (refine Below.drew ?_) | (refine bl_drewN ?_ _) | (refine bl_set ?_ (by first | (simp; done) | omega | (simp; omega)) _) | (refine bl_trans ?_ (by assumption)) | (refine bl_step ?_ (by assumption) (by first | omega | exact Below.size (by assumption) | (simp; omega) | (simp; exact Below.size (by assumption))))))⟩
    case round =>
      clear hnew
      obtain ⟨k, hk, rfl, hC, HA, hb⟩ := hrel
      have e0 := (hb.cell (p := ⟨b, 0, none⟩) hlt).trans hc0
      have e1 := (hb.cell (p := ⟨b, 1, none⟩) hlt).trans hc1
      by_cases hkn : k < n
      · obtain ⟨b1, o1, rfl, z1, k1⟩ := hp (by rw [HN.out]; omega)
        obtain ⟨b2, o2, rfl, z2, k2⟩ := hq (by rw [HBT.out, HN.out]; omega)
        have d1 := (hb.cell (p := ⟨b1, o1 + k, none⟩) z1).trans (k1 k (by rw [HN.out]; exact hkn))
        have D2 : ∀ w1, Below w.heap.size w w1 → w1.cell? ⟨b2, o2 + k, none⟩ = some (.int .i64 (B.getD k 0)) := fun w1 h1 => (h1.cell (p := ⟨b2, o2 + k, none⟩) z2).trans (k2 k (by rw [HBT.out, HN.out]; exact hkn))
        have d2 := D2 wr hb
        have hknI : (k : Int) < n := by omega
        have hk0 : (0 : Int) ≤ k := by omega
        have HS : Hid (pinsTo T B (k + 1) = pinsTo T B k ++ [T.getD k 0, B.getD k 0]) := rfl
        have HL : Hid ((pinsTo T B (k + 1)).all inNet = (inNet (T.getD k 0) && inNet (B.getD k 0))) := by show _ = _; rw [HS.out, all_snoc2 HA.out]
        have HBad : (pinsTo T B (k + 1)).all inNet = false → Hid (chanB T B = false) := fun h => chanB_in (pinsTo_bad (i := k + 1) (by rw [HN.out]; omega) h)
        have hP48 : (pinsTo T B k).length ≤ 46 := by rw [pinsTo_len]; omega
        generalize T.getD k 0 = x at *
        generalize B.getD k 0 = y at *
        clear k1 k2 hp hq
        cases hx : inNet x
        · have HX := Lib.hid hx
          have HR := HBad (by rw [HL.out, hx]; rfl)
          clear hx HBad
          go_wp2_with (go_at_call 22; refine (l00In_at HX _).mono ?_; rintro e w' ⟨rfl, rfl⟩)
          go_ret
          exact ⟨retB (by rw [HR.out]), by (repeat (first | assumption | exact Below.refl _ _ | (refine bl_alloc ?_ _) | (refine Below.drew ?_) | (refine bl_drewN ?_ _) | (refine bl_set ?_ (by first | (simp; done) | omega | (simp; omega)) _) | (refine bl_trans ?_ (by assumption)) | (refine bl_step ?_ (by assumption) (by first | omega | exact Below.size (by assumption) | (simp; omega) | (simp; exact Below.size (by assumption))))))⟩
        · cases hy : inNet y
          · have HX := Lib.hid hx
            have HY := Lib.hid hy
            have HR := HBad (by rw [HL.out, hx, hy]; rfl)
            clear hx hy HBad
            go_wp2_with (first | (go_at_call_of 22 (Value.int .i64 x); refine (l00In_at HX _).mono ?_; rintro e w' ⟨rfl, rfl⟩) | (go_at_call_of 22 (Value.int .i64 y); refine (l00In_at HY _).mono ?_; rintro e w' ⟨rfl, rfl⟩))
            go_ret
            exact ⟨retB (by rw [HR.out]), by (repeat (first | assumption | exact Below.refl _ _ | (refine bl_alloc ?_ _) | (refine Below.drew ?_) | (refine bl_drewN ?_ _) | (refine bl_set ?_ (by first | (simp; done) | omega | (simp; omega)) _) | (refine bl_trans ?_ (by assumption)) | (refine bl_step ?_ (by assumption) (by first | omega | exact Below.size (by assumption) | (simp; omega) | (simp; exact Below.size (by assumption))))))⟩
          · have HX := Lib.hid hx
            have HY := Lib.hid hy
            have HLt : Hid ((pinsTo T B (k + 1)).all inNet = true) := by show _ = _; rw [HL.out, hx, hy]; rfl
            obtain ⟨jx, hjx, ex⟩ := inNet_nat hx
            obtain ⟨jy, hjy, ey⟩ := inNet_nat hy
            have EX := Lib.hid ex
            have EY := Lib.hid ey
            clear hx hy HBad
            have c1 := hC.at_ hjx
            have f1 := hC.frozen jx
            obtain ⟨m0, m48⟩ := cnt_le (pinsTo T B k) (jx : Int) (by omega)
            have hC2 := hC.inc hjx
            have hjxI : (jx : Int) < 13 := by omega
            have hjyI : (jy : Int) < 13 := by omega
            have hjx0 : (0 : Int) ≤ jx := by omega
            have hjy0 : (0 : Int) ≤ jy := by omega
            generalize ((pinsTo T B k).count (jx : Int) : Int) = cx at *
            clear ex ey
            go_upto_region 10 with (first | (go_at_call_of 22 (Value.int .i64 x); refine (l00In_at HX _).mono ?_; rintro e w' ⟨rfl, rfl⟩) | (go_at_call_of 22 (Value.int .i64 y); refine (l00In_at HY _).mono ?_; rintro e w' ⟨rfl, rfl⟩))
            have ex := EX.out
            have ey := EY.out
            subst ex; subst ey
            go_upto_region 11 with (fail)
            have bl2 : Below w.heap.size w (wr.setCell ⟨w.heap.size, jx, none⟩ (.int .i64 (cx + 1))) := by (repeat (first | assumption | exact Below.refl _ _ | (refine bl_alloc ?_ _) | (refine Below.drew ?_) | (refine bl_drewN ?_ _) | (refine bl_set ?_ (by first | (simp; done) | omega | (simp; omega)) _) | (refine bl_trans ?_ (by assumption)) | (refine bl_step ?_ (by assumption) (by first | omega | exact Below.size (by assumption) | (simp; omega) | (simp; exact Below.size (by assumption))))))
            generalize wr.setCell ⟨w.heap.size, jx, none⟩ (.int .i64 (cx + 1)) = w1 at *
            have e0' := (bl2.cell (p := ⟨b, 0, none⟩) hlt).trans hc0
            have e1' := (bl2.cell (p := ⟨b, 1, none⟩) hlt).trans hc1
            have d2' := D2 w1 bl2
            have c2 := hC2.at_ hjy
            have f2 := hC2.frozen jy
            obtain ⟨q0, q48⟩ := cnt_le (pinsTo T B k ++ [(jx : Int)]) (jy : Int) (by simp; omega)
            have hC3 := hC2.inc hjy
            have HC3 : Hid (pinsTo T B k ++ [(jx : Int)] ++ [(jy : Int)] = pinsTo T B (k + 1)) := by show _ = _; rw [HS.out]; simp
            generalize ((pinsTo T B k ++ [(jx : Int)]).count (jy : Int) : Int) = cy at *
            have HC := Lib.hid hC3
            clear hC hC2 hC3 c1 f1 e0 e1 d1 d2 D2 hb
            go_wp2
            go_roundw
            case rel => exact ⟨k + 1, by omega, by go_num, by rw [← HC3.out]; exact HC.out, HLt, by (repeat (first | assumption | exact Below.refl _ _ | (refine bl_alloc ?_ _) | (refine Below.drew ?_) | (refine bl_drewN ?_ _) | (refine bl_set ?_ (by first | (simp; done) | omega | (simp; omega)) _) | (refine bl_trans ?_ (by assumption)) | (refine bl_step ?_ (by assumption) (by first | omega | exact Below.size (by assumption) | (simp; omega) | (simp; exact Below.size (by assumption))))))⟩
            case measure => simp [intOf]; omega
      · obtain rfl : k = n := by omega
        have HA' : Hid ((pinsTo T B T.length).all inNet = true) := by show _ = _; rw [HN.out]; exact HA.out
        have HP : Hid (pinsTo T B T.length = pinsTo T B k) := by show _ = _; rw [HN.out]
        have hl48 : (pinsTo T B k).length ≤ 48 := by rw [pinsTo_len]; omega
        generalize pinsTo T B k = L at *
        clear e0 e1 hp hq hc0 hc1 hlt
        go_wp2
        go_loop [6] (fun i => ∃ j : Nat, 1 ≤ j ∧ j ≤ 13 ∧ i = .int .i64 j ∧ Hid (NoOne L j)) (fun i => 13 - (intOf i).toNat)
        case atStart => exact ⟨1, Nat.le_refl _, by omega, rfl, fun j h1 h2 => by omega⟩
        case round =>
          obtain ⟨j, hj1, hj13, rfl, HNo⟩ := hrel
          by_cases hlt : j < 13
          · have hjI : (j : Int) < 13 := by omega
            have hj0 : (0 : Int) ≤ j := by omega
            have t0 := hC.at_ hlt
            obtain ⟨q0, q48⟩ := cnt_le L (j : Int) hl48
            by_cases hone : L.count (j : Int) = 1
            · have HR : Hid (chanB T B = false) := chanB_one (by rw [HP.out]; exact single_at hj1 hlt hone)
              rw [hone] at t0
              clear hone
              go_wp2
              go_ret
              exact ⟨retB (by rw [HR.out]), by (repeat (first | assumption | exact Below.refl _ _ | (refine bl_alloc ?_ _) | (refine Below.drew ?_) | (refine bl_drewN ?_ _) | (refine bl_set ?_ (by first | (simp; done) | omega | (simp; omega)) _) | (refine bl_trans ?_ (by assumption)) | (refine bl_step ?_ (by assumption) (by first | omega | exact Below.size (by assumption) | (simp; omega) | (simp; exact Below.size (by assumption))))))⟩
            · have HNo' : Hid (NoOne L (j + 1)) := fun i h1 h2 => by
                by_cases e : i = j
                · subst e; exact hone
                · exact HNo.out i h1 (by omega)
              have hne : ((L.count (j : Int) : Int) == 1) = false := by simp; omega
              have hne2 : ¬ (L.count (j : Int) : Int) = 1 := by omega
              generalize (L.count (j : Int) : Int) = cx at *
              clear hone
              go_wp2
              go_round
              case rel => exact ⟨j + 1, by omega, by omega, by go_num, HNo'⟩
              case measure => simp [intOf]; omega
          · obtain rfl : j = 13 := by omega
            have HR : Hid (chanB T B = true) := chanB_t HF.out HA'.out (by rw [HP.out]; exact single_no HNo.out)
            go_wp2
            go_ret
            exact ⟨retB (by rw [HR.out]), by (repeat (first | assumption | exact Below.refl _ _ | (refine bl_alloc ?_ _) | (refine Below.drew ?_) | (refine bl_drewN ?_ _) | (refine bl_set ?_ (by first | (simp; done) | omega | (simp; omega)) _) | (refine bl_trans ?_ (by assumption)) | (refine bl_step ?_ (by assumption) (by first | omega | exact Below.size (by assumption) | (simp; omega) | (simp; exact Below.size (by assumption))))))⟩
  · have HR : Hid (chanB T B = false) := formB_f hF
    by_cases h1 : T.length < 1
    · have h1I : (T.length : Int) < 1 := by omega
      have h0n : T.length = 0 := by omega
      have h0d : decide (T.length < 1) = true := decide_eq_true h1
      clear hF
      go_enter Tryd.func14, Tryd.ntmps14
      go_wp2
      go_ret
      exact ⟨retB (by rw [HR.out]), by (repeat (first | assumption | exact Below.refl _ _ | (refine bl_alloc ?_ _) | (refine Below.drew ?_) | (refine bl_drewN ?_ _) | (refine bl_set ?_ (by first | (simp; done) | omega | (simp; omega)) _) | (refine bl_trans ?_ (by assumption)) | (refine bl_step ?_ (by assumption) (by first | omega | exact Below.size (by assumption) | (simp; omega) | (simp; exact Below.size (by assumption))))))⟩
    · have h1I : ¬ (T.length : Int) < 1 := by omega
      have h0n : ¬ T.length = 0 := by omega
      by_cases h24 : 24 < T.length
      · have h24I : (24 : Int) < T.length := by omega
        have h24d : decide (24 < T.length) = true := decide_eq_true h24
        clear hF
        go_enter Tryd.func14, Tryd.ntmps14
        go_wp2
        go_ret
        exact ⟨retB (by rw [HR.out]), by (repeat (first | assumption | exact Below.refl _ _ | (refine bl_alloc ?_ _) | (refine Below.drew ?_) | (refine bl_drewN ?_ _) | (refine bl_set ?_ (by first | (simp; done) | omega | (simp; omega)) _) | (refine bl_trans ?_ (by assumption)) | (refine bl_step ?_ (by assumption) (by first | omega | exact Below.size (by assumption) | (simp; omega) | (simp; exact Below.size (by assumption))))))⟩
      · have h24I : ¬ (24 : Int) < T.length := by omega
        have h24d : decide (24 < T.length) = false := decide_eq_false h24
        have hne : ((B.length : Int) == (T.length : Int)) = false := by simp; omega
        have hne2 : ¬ B.length = T.length := by omega
        clear hF
        go_enter Tryd.func14, Tryd.ntmps14
        go_wp2
        go_ret
        exact ⟨retB (by rw [HR.out]), by (repeat (first | assumption | exact Below.refl _ _ | (refine bl_alloc ?_ _) | (refine Below.drew ?_) | (refine bl_drewN ?_ _) | (refine bl_set ?_ (by first | (simp; done) | omega | (simp; omega)) _) | (refine bl_trans ?_ (by assumption)) | (refine bl_step ?_ (by assumption) (by first | omega | exact Below.size (by assumption) | (simp; omega) | (simp; exact Below.size (by assumption))))))⟩
end Go.Proofs.YtpcilpcinbamcaaDoor
