/-
  Contracts: AreShapes, as the program has it and as the model has it.
-/
import Derived.Test.YtgpcfkegbcpkpaaShpV
import Derived.Test.YtgpcfkegbcpkpaaOver
namespace Go.Proofs.Ytgpcfkegbcpkpaa
set_option linter.unusedSimpArgs false
set_option linter.unusedVariables false
open Go.ChangeShapes Go.WideShapes Go.ChangeAt Go.RowKit Go.BigFrame

theorem arS_len {ss : List R4} (h : ¬ (1 ≤ ss.length ∧ ss.length ≤ 12)) : arS ss = false := by unfold arS; rw [decide_eq_false h]; simp
theorem arS_bad {ss : List R4} {i : Nat} (hi : i < ss.length) (h : shsB ss i = false) : arS ss = false := by unfold arS; rw [okTo_bad hi h]; rfl
theorem arS_ok {ss : List R4} (h : okTo (shsB ss) ss.length = true) : arS ss = decide (1 ≤ ss.length ∧ ss.length ≤ 12) := by unfold arS; rw [h]; rfl
theorem shs_v {ss : List R4} {i : Nat} (h : okTo (shsB ss) i = true) : ∀ k, k < i → shB (ss.getD k r40) = true := fun k hk => by
  have := okTo_iff.1 h k hk
  unfold shsB at this
  simp only [Bool.and_eq_true] at this
  exact this.1
set_option maxRecDepth 100000 in
set_option maxHeartbeats 3200000 in
theorem AreShapesI_any (A : Option Addr) (ss : List R4) (c : Nat) (w : World) (hp : ShpAt w w.heap.size A ss) (hl : ss.length ≤ 1048576) (hlc : ss.length ≤ c) :
    Calls Try.prog 26 #[.slice A ss.length c] w fun e w' => e = .returned (.bool (arS ss)) ∧ Below w.heap.size w w' := by
  by_cases h12 : 1 ≤ ss.length ∧ ss.length ≤ 12
  case neg =>
    have R : Hid (arS ss = false) := arS_len h12
    rw [R.out]
    by_cases h1 : (ss.length : Int) < 1
    · have hd : decide ((ss.length : Int) < 1) = true := decide_eq_true h1
      clear hp h12
      go_enter Try.func26, Try.ntmps26
      go_wp2
      go_ret
      exact ⟨rfl, Below.refl _ _⟩
    · have hd : decide ((ss.length : Int) < 1) = false := decide_eq_false h1
      have h2 : 12 < (ss.length : Int) := by omega
      have hd2 : decide (12 < (ss.length : Int)) = true := decide_eq_true h2
      clear hp h12
      go_enter Try.func26, Try.ntmps26
      go_wp2
      go_ret
      exact ⟨rfl, Below.refl _ _⟩
  have hd : decide ((ss.length : Int) < 1) = false := decide_eq_false (by omega)
  have hd2 : decide (12 < (ss.length : Int)) = false := decide_eq_false (by omega)
  have h12I : (ss.length : Int) ≤ 12 := by omega
  have h1I : ¬ (ss.length : Int) < 1 := by omega
  have HAB := Lib.hid (fun i (hi : i < ss.length) (h : shsB ss i = false) => arS_bad hi h)
  have HAO := Lib.hid (fun (h : okTo (shsB ss) ss.length = true) => (arS_ok h).trans (decide_eq_true h12))
  clear h12
  go_enter Try.func26, Try.ntmps26
  go_wp2
  go_loopw [3, 15] (fun _ i wr => ∃ k : Nat, k ≤ ss.length ∧ i = .int .i64 k ∧ Hid (okTo (shsB ss) k = true) ∧ Below w.heap.size w wr) (fun _ i _ => ss.length - (intOf i).toNat)
  case atStart => exact ⟨0, Nat.zero_le _, rfl, rfl, Below.refl _ _⟩
  case round =>
    obtain ⟨i, hi, rfl, HX, hb⟩ := hrel
    have hi0 : (0 : Int) ≤ (i : Int) := by omega
    by_cases hlt : i < ss.length
    case neg =>
      have HF := Lib.hid (HAO.out (by have := HX.out; rwa [show i = ss.length by omega] at this))
      go_wp2
      go_ret
      exact ⟨retB HF.out.symm, hb⟩
    obtain ⟨b, off, rfl, hbB, hc⟩ := hp (by omega)
    obtain ⟨e0, e1, e2, e3⟩ := hc i hlt
    have f0 := (hb.cell (p := ⟨b, off + i * 4, none⟩) hbB).trans e0
    have f1 := (hb.cell (p := ⟨b, off + i * 4 + 1, none⟩) hbB).trans e1
    have f2 := (hb.cell (p := ⟨b, off + i * 4 + 2, none⟩) hbB).trans e2
    have f3 := (hb.cell (p := ⟨b, off + i * 4 + 3, none⟩) hbB).trans e3
    have hltI : (i : Int) < (ss.length : Int) := by omega
    have hic : (i : Int) ≤ (c : Int) := by omega
    have hicN : i ≤ c := by omega
    have HBD := Lib.hid (HAB.out i hlt)
    have HNX := Lib.hid (fun (h : shsB ss i = true) => okTo_next (f := shsB ss) HX.out h)
    have HSV := Lib.hid (shs_v HX.out)
    clear hc e0 e1 e2 e3
    have HSH : Hid (shsB ss i = (shB (ss.getD i r40) && okTo (fun k => !ovS (ss.getD i r40) (ss.getD k r40)) i)) := rfl
    obtain ⟨q, hq⟩ : ∃ q, ss.getD i r40 = q := ⟨_, rfl⟩
    rw [hq] at f0 f1 f2 f3 HSH
    clear hq
    obtain ⟨x, y, u, v⟩ := q
    simp only at f0 f1 f2 f3
    have kr := Blk.new wr #[.int .i64 x, .int .i64 y, .int .i64 u, .int .i64 v] 78
    have hx0 : Below wr.heap.size wr (wr.alloc (.cells #[.int .i64 x, .int .i64 y, .int .i64 u, .int .i64 v] 78)) := (Below.refl wr.heap.size wr).alloc (Nat.le_refl _) _
    have hbA := bl_step hb hx0 hb.size
    have r0 := kr.cell 0 (v := .int .i64 x) rfl
    have r1 := kr.cell 1 (v := .int .i64 y) rfl
    have r2 := kr.cell 2 (v := .int .i64 u) rfl
    have r3 := kr.cell 3 (v := .int .i64 v) rfl
    have hrl := kr.lt
    have CV := Lib.hid (fun wx => shValid_any x y u v wx)
    clear kr hx0
    cases hs : shB (x, y, u, v)
    · have R := Lib.hid (HBD.out (by rw [HSH.out, hs]; rfl))
      rw [hs] at CV
      clear HSH HNX HBD hs
      go_wp2_with fail
      clear f0 f1 f2 f3 hb
      generalize (wr.alloc (.cells #[.int .i64 x, .int .i64 y, .int .i64 u, .int .i64 v] 78)) = wA at *
      generalize wr.heap.size = M at *
      refine wp_region_over (by kernel_rfl) (by kernel_rfl) ?_
      have hov := over_cells wA
      repeat (go_big_quiet_step ((go_at_call 62; exact overC (CV.out _))))
      refine over_nil (fun w2 hb2 => ?_)
      clear hov
      go_wp2
      go_ret
      exact ⟨retB R.out.symm, hbA.trans (hb2.mono hbA.size)⟩
    · have CC := Lib.hid (fun (wx : World) (hbx : Below w.heap.size w wx) => containsShape_any x y u v i (some ⟨b, off, none⟩) ss c wx hs (hp.to hbx) (by omega) (by omega) HSV.out)
      rw [hs] at CV
      cases ho : okTo (fun k => !ovS (x, y, u, v) (ss.getD k r40)) i
      · have R := Lib.hid (HBD.out (by rw [HSH.out, hs, ho]; rfl))
        rw [ho] at CC
        clear HSH HNX HBD hs ho hp
        go_wp2_with fail
        clear f0 f1 f2 f3 hb
        generalize (wr.alloc (.cells #[.int .i64 x, .int .i64 y, .int .i64 u, .int .i64 v] 78)) = wA at *
        generalize wr.heap.size = M at *
        refine wp_region_over (by kernel_rfl) (by kernel_rfl) ?_
        have hov := over_cells wA
        repeat (go_big_quiet_step ((first | (go_at_call 62; exact overC (CV.out _)) | (go_at_call 63; exact overC (CC.out _ (hbA.trans ((over_below _ _).mono hbA.size)))))))
        refine over_nil (fun w2 hb2 => ?_)
        clear hov
        go_wp2
        go_ret
        exact ⟨retB R.out.symm, hbA.trans (hb2.mono hbA.size)⟩
      · have R := Lib.hid (HNX.out (by rw [HSH.out, hs, ho]; rfl))
        rw [ho] at CC
        clear HSH HNX HBD hs ho hp
        go_wp2_with fail
        clear f0 f1 f2 f3 hb
        generalize (wr.alloc (.cells #[.int .i64 x, .int .i64 y, .int .i64 u, .int .i64 v] 78)) = wA at *
        generalize wr.heap.size = M at *
        refine wp_region_over (by kernel_rfl) (by kernel_rfl) ?_
        have hov := over_cells wA
        repeat (go_big_quiet_step ((first | (go_at_call 62; exact overC (CV.out _)) | (go_at_call 63; exact overC (CC.out _ (hbA.trans ((over_below _ _).mono hbA.size)))))))
        refine over_nil (fun w2 hb2 => ?_)
        clear hov
        go_wp2
        go_roundw
        case rel => exact ⟨i + 1, by omega, by go_num, R, hbA.trans (hb2.mono hbA.size)⟩
        case measure => simp [intOf]; omega
set_option maxRecDepth 100000 in
set_option maxHeartbeats 3200000 in
theorem l09Shapes_any (A : Option Addr) (ss : List R4) (c : Nat) (w : World) (hp : ShpAt w w.heap.size A ss) (hl : ss.length ≤ 1048576) :
    Calls Try.prog 60 #[.slice A ss.length c] w fun e w' => e = .returned (.bool (arS ss)) ∧ Below w.heap.size w w' := by
  have hlI : (ss.length : Int) ≤ 1048576 := by omega
  have HAB := Lib.hid (fun i (hi : i < ss.length) (h : shsB ss i = false) => arS_bad hi h)
  have HAO := Lib.hid (fun (h : okTo (shsB ss) ss.length = true) => arS_ok h)
  go_enter Try.func60, Try.ntmps60
  go_wp2
  go_loopw [3, 4] (fun i _ wr => ∃ k : Nat, k ≤ ss.length ∧ i = .int .i64 k ∧ Hid (okTo (shsB ss) k = true) ∧ Below w.heap.size w wr) (fun i _ _ => ss.length - (intOf i).toNat)
  case atStart => exact ⟨0, Nat.zero_le _, rfl, rfl, Below.refl _ _⟩
  case round =>
    obtain ⟨i, hi, rfl, HX, hb⟩ := hrel
    have hi0 : (0 : Int) ≤ (i : Int) := by omega
    by_cases hlt : i < ss.length
    case neg =>
      have HF := Lib.hid (HAO.out (by have := HX.out; rwa [show i = ss.length by omega] at this))
      have hni : ¬ (i : Int) < (ss.length : Int) := by omega
      by_cases h1 : 1 ≤ ss.length
      · by_cases h2 : ss.length ≤ 12
        · have hR : Hid (arS ss = true) := HF.out.trans (decide_eq_true ⟨h1, h2⟩)
          have d1 : decide ((1 : Int) ≤ (ss.length : Int)) = true := decide_eq_true (by omega)
          have d2 : decide ((ss.length : Int) ≤ 12) = true := decide_eq_true (by omega)
          have i1 : (1 : Int) ≤ (ss.length : Int) := by omega
          have i2 : (ss.length : Int) ≤ 12 := by omega
          go_wp2
          go_ret
          exact ⟨retB hR.out.symm, hb⟩
        · have hR : Hid (arS ss = false) := HF.out.trans (decide_eq_false (fun h => h2 h.2))
          have i1 : (1 : Int) ≤ (ss.length : Int) := by omega
          have i2 : ¬ (ss.length : Int) ≤ 12 := by omega
          have d2 : decide ((ss.length : Int) ≤ 12) = false := decide_eq_false i2
          go_wp2
          go_ret
          exact ⟨retB (by rw [hR.out]; first | done | rfl | (simp; done) | (simp; omega)), hb⟩
      · have hR : Hid (arS ss = false) := HF.out.trans (decide_eq_false (fun h => h1 h.1))
        have i1 : ¬ (1 : Int) ≤ (ss.length : Int) := by omega
        have d1 : decide ((1 : Int) ≤ (ss.length : Int)) = false := decide_eq_false i1
        go_wp2
        go_ret
        exact ⟨retB hR.out.symm, hb⟩
    obtain ⟨b, off, rfl, hbB, hc⟩ := hp (by omega)
    obtain ⟨e0, e1, e2, e3⟩ := hc i hlt
    have f0 := (hb.cell (p := ⟨b, off + i * 4, none⟩) hbB).trans e0
    have f1 := (hb.cell (p := ⟨b, off + i * 4 + 1, none⟩) hbB).trans e1
    have f2 := (hb.cell (p := ⟨b, off + i * 4 + 2, none⟩) hbB).trans e2
    have f3 := (hb.cell (p := ⟨b, off + i * 4 + 3, none⟩) hbB).trans e3
    have hltI : (i : Int) < (ss.length : Int) := by omega
    have HBD := Lib.hid (HAB.out i hlt)
    have HNX := Lib.hid (fun (h : shsB ss i = true) => okTo_next (f := shsB ss) HX.out h)
    have HSV := Lib.hid (shs_v HX.out)
    have HC := Lib.hid hc
    clear hc
    have HSH : Hid (shsB ss i = (shB (ss.getD i r40) && okTo (fun k => !ovS (ss.getD i r40) (ss.getD k r40)) i)) := rfl
    obtain ⟨q, hq⟩ : ∃ q, ss.getD i r40 = q := ⟨_, rfl⟩
    rw [hq] at f0 f1 f2 f3 HSH e0 e1 e2 e3
    clear hq
    obtain ⟨x, y, u, v⟩ := q
    simp only at f0 f1 f2 f3 e0 e1 e2 e3
    have cv := Lib.hid (l09Shape_any b (off + i * 4) x y u v wr f0 f1 f2 f3)
    cases hs : shB (x, y, u, v)
    · have R := Lib.hid (HBD.out (by rw [HSH.out, hs]; rfl))
      rw [hs] at cv
      clear HSH HNX HBD hs
      go_wp2_with fail
      refine cv.out.mono ?_
      rintro e w1 ⟨rfl, rfl⟩
      go_wp2
      go_ret
      exact ⟨retB R.out.symm, hb⟩
    rw [hs] at cv
    obtain ⟨hsx, hsy, hsu, hsv⟩ := shB_iff.1 hs
    have HS2 := Lib.hid hs
    clear hs f0 f1 f2 f3
    go_wp2_with fail
    refine cv.out.mono ?_
    rintro e w1 ⟨rfl, rfl⟩
    clear cv
    go_wp2
    go_loopw [4] (fun k wx => ∃ j : Nat, j ≤ i ∧ k = .int .i64 j ∧ Hid (okTo (fun k => !ovS (x, y, u, v) (ss.getD k r40)) j = true) ∧ Below w.heap.size w wx) (fun k _ => i - (intOf k).toNat)
    case atStart => exact ⟨0, Nat.zero_le _, rfl, rfl, hb⟩
    case round =>
      clear hb
      obtain ⟨j, hj, rfl, HXJ, hb⟩ := hrel
      have hj0 : (0 : Int) ≤ (j : Int) := by omega
      by_cases hji : j < i
      case neg =>
        have R := Lib.hid (HNX.out (by rw [HSH.out, HS2.out]; have := HXJ.out; rw [show j = i by omega] at this; rw [this]; rfl))
        have hnj : ¬ (j : Int) < (i : Int) := by omega
        go_wp2
        go_roundw
        case rel => exact ⟨i + 1, by omega, by go_num, R, hb⟩
        case measure => simp [intOf]; omega
      have f0 := (hb.cell (p := ⟨b, off + i * 4, none⟩) hbB).trans e0
      have f1 := (hb.cell (p := ⟨b, off + i * 4 + 1, none⟩) hbB).trans e1
      have f2 := (hb.cell (p := ⟨b, off + i * 4 + 2, none⟩) hbB).trans e2
      have f3 := (hb.cell (p := ⟨b, off + i * 4 + 3, none⟩) hbB).trans e3
      obtain ⟨g0, g1, g2, g3⟩ := HC.out j (by omega)
      have h0 := (hb.cell (p := ⟨b, off + j * 4, none⟩) hbB).trans g0
      have h1 := (hb.cell (p := ⟨b, off + j * 4 + 1, none⟩) hbB).trans g1
      have h2 := (hb.cell (p := ⟨b, off + j * 4 + 2, none⟩) hbB).trans g2
      have h3 := (hb.cell (p := ⟨b, off + j * 4 + 3, none⟩) hbB).trans g3
      have hbw : b < wr.heap.size := Nat.lt_of_lt_of_le hbB hb.size
      have hjI : (j : Int) < (i : Int) := by omega
      have hjL : (j : Int) < (ss.length : Int) := by omega
      have hjv := HSV.out j hji
      have HJB := Lib.hid (fun h => okTo_bad (f := fun k => !ovS (x, y, u, v) (ss.getD k r40)) hji h)
      have HJN := Lib.hid (fun h => okTo_next (f := fun k => !ovS (x, y, u, v) (ss.getD k r40)) HXJ.out h)
      obtain ⟨q, hq⟩ : ∃ q, ss.getD j r40 = q := ⟨_, rfl⟩
      rw [hq] at h0 h1 h2 h3 hjv
      have HQ := Lib.hid hq
      clear hq g0 g1 g2 g3
      obtain ⟨x', y', u', v'⟩ := q
      simp only at h0 h1 h2 h3
      obtain ⟨hsx', hsy', hsu', hsv'⟩ := shB_iff.1 hjv
      have ca := Lib.hid (fun wx => l09Meet_any x u x' u' wx hsx (by first | omega | (have := hsu; simp only at this; omega)) hsx' (by first | omega | (have := hsu'; simp only at this; omega)))
      have cb := Lib.hid (fun wx => l09Meet_any y v y' v' wx hsy (by first | omega | (have := hsv; simp only at this; omega)) hsy' (by first | omega | (have := hsv'; simp only at this; omega)))
      have HOV : Hid (ovS (x, y, u, v) (x', y', u', v') = (meetB x u x' u' && meetB y v y' v')) := rfl
      clear hjv hsx' hsy' hsu' hsv'
      have bE : ∀ o p, Below w.heap.size w ((wr.alloc o).alloc p) := fun o p => (hb.alloc hb.size o).alloc (by have := hb.size; simp; omega) p
      cases ha : meetB x u x' u'
      · have R := Lib.hid (HJN.out (by show (!ovS (x, y, u, v) (ss.getD j r40)) = true; rw [HQ.out, HOV.out, ha]; rfl))
        rw [ha] at ca
        clear ha HOV HJB HJN cb
        go_wp2_with fail
        refine (ca.out _).mono ?_
        rintro e w1 ⟨rfl, rfl⟩
        go_wp2
        go_roundw
        case rel => exact ⟨j + 1, by omega, by go_num, R, bE _ _⟩
        case measure => simp [intOf]; omega
      · cases hbb : meetB y v y' v'
        · have R := Lib.hid (HJN.out (by show (!ovS (x, y, u, v) (ss.getD j r40)) = true; rw [HQ.out, HOV.out, ha, hbb]; rfl))
          rw [ha] at ca
          rw [hbb] at cb
          clear ha hbb HOV HJB HJN
          go_wp2_with fail
          refine (ca.out _).mono ?_
          rintro e w1 ⟨rfl, rfl⟩
          go_wp2_with fail
          refine (cb.out _).mono ?_
          rintro e w1 ⟨rfl, rfl⟩
          go_wp2
          go_roundw
          case rel => exact ⟨j + 1, by omega, by go_num, R, bE _ _⟩
          case measure => simp [intOf]; omega
        · have R := Lib.hid (HJB.out (by show (!ovS (x, y, u, v) (ss.getD j r40)) = false; rw [HQ.out, HOV.out, ha, hbb]; rfl))
          have R2 := Lib.hid (HBD.out (by rw [HSH.out, HS2.out, R.out]; rfl))
          rw [ha] at ca
          rw [hbb] at cb
          clear ha hbb HOV HJB HJN
          go_wp2_with fail
          refine (ca.out _).mono ?_
          rintro e w1 ⟨rfl, rfl⟩
          go_wp2_with fail
          refine (cb.out _).mono ?_
          rintro e w1 ⟨rfl, rfl⟩
          go_wp2
          go_ret
          exact ⟨retB R2.out.symm, bE _ _⟩
theorem AreShapesS_any (A : Option Addr) (ss : List R4) (c : Nat) (w : World) (hp : ShpAt w w.heap.size A ss) (hl : ss.length ≤ 1048576) :
    Calls Try.prog 24 #[.slice A ss.length c] w fun e w' => e = .returned (.bool (arS ss)) ∧ Below w.heap.size w w' := by
  have cc := Lib.hid (l09Shapes_any A ss c w hp hl)
  clear hp
  go_enter Try.func24, Try.ntmps24
  go_wp2_with fail
  refine cc.out.mono ?_
  rintro e w1 ⟨rfl, hb1⟩
  go_wp2
  go_ret
  exact ⟨rfl, hb1⟩
end Go.Proofs.Ytgpcfkegbcpkpaa
