/-
  Contract: ValidWiring, as the program has it.
-/
import Derived.Test.YtdoheipnfdbioaaDoorWirI
namespace Go.Proofs.YtdoheipnfdbioaaDoor
set_option linter.unusedSimpArgs false
set_option linter.unusedVariables false
open Go.ChangeShapes Go.WideShapes Go.ChangeAt Go.RowKit

theorem wvB_alt (n : Int) (C J : List (List Int)) (F : List Int) : wvB n C J F = (inB n 0 14 && (decide ((F.length : Int) = n) && (okTo (fixB F) F.length && (prsB C n 2 && (prsB J n 3 && okTo (costB J) J.length))))) := by
  unfold wvB
  rw [listsB_2, listsB_3]; rfl
theorem prsB_len {J : List (List Int)} {n : Int} {s : Nat} (h : prsB J n s = true) : ∀ k, k < J.length → (J.getD k []).length = s := fun k hk => by
  unfold prsB at h
  rw [Bool.and_eq_true] at h
  exact (pairB_iff.1 (okTo_iff.1 h.1 k hk)).1
set_option maxRecDepth 100000 in
set_option maxHeartbeats 3200000 in
theorem ValidWiringI_any (n : Int) (AC : Option Addr) (C : List SlI) (cC : Nat) (AJ : Option Addr) (J : List SlI) (cJ : Nat) (AF : Option Addr) (F : List Int) (cF : Nat) (w : World)
    (hC : ISAt w w.heap.size AC C) (hJ : ISAt w w.heap.size AJ J) (hF : IntsAt w w.heap.size AF F)
    (lC : C.length ≤ 1048576) (lJ : J.length ≤ 1048576) (lF : F.length ≤ 1048576) (mC : ∀ i, i < C.length → (C.getD i si0).2.1.length ≤ 1048576) (mJ : ∀ i, i < J.length → (J.getD i si0).2.1.length ≤ 1048576) :
    Calls Tryd.prog 66 #[.agg #[.int .i64 n, .slice AC C.length cC, .slice AJ J.length cJ, .slice AF F.length cF]] w fun e w' => e = .returned (.bool (wvB n (heldI C) (heldI J) F)) ∧ Below w.heap.size w w' := by
  rw [wvB_alt]
  have hx : Below w.heap.size w (w.alloc (.cells #[.int .i64 n, .slice AC C.length cC, .slice AJ J.length cJ, .slice AF F.length cF] 28)) := by (repeat (first | assumption | exact Below.refl _ _ | (refine bl_alloc ?_ _) | (refine Below.drew ?_) | (refine bl_drewN ?_ _) | (refine bl_set ?_ (by first | (simp; done) | omega | (simp; omega)) _) | (refine bl_trans ?_ (by assumption)) | (refine bl_step ?_ (by assumption) (by first | omega | exact Below.size (by assumption) | (simp; omega) | (simp; exact Below.size (by assumption))))))
  have CF := Lib.hid (fun (wx : World) (hx : Below w.heap.size w wx) => containsLayer_any AF F cF wx (hF.to hx) lF)
  have CC := Lib.hid (fun (wx : World) (hx : Below w.heap.size w wx) => arePairs_any AC C cC n 2 wx (hC.to hx) lC mC (Or.inl rfl))
  have CJ := Lib.hid (fun (wx : World) (hx : Below w.heap.size w wx) => arePairs_any AJ J cJ n 3 wx (hJ.to hx) lJ mJ (Or.inr rfl))
  have CO := Lib.hid (fun (h3 : prsB (heldI J) n 3 = true) (wx : World) (hx : Below w.heap.size w wx) => containsCost_any AJ J cJ wx (hJ.to hx) lJ (fun i hi => by
    have := prsB_len h3 i (by rw [heldI_len]; exact hi)
    rwa [heldI_at] at this))
  rw [heldI_len]
  obtain ⟨bF, hbF⟩ : ∃ b, okTo (fixB F) F.length = b := ⟨_, rfl⟩
  obtain ⟨bC, hbC⟩ : ∃ b, prsB (heldI C) n 2 = b := ⟨_, rfl⟩
  obtain ⟨bJ, hbJ⟩ : ∃ b, prsB (heldI J) n 3 = b := ⟨_, rfl⟩
  obtain ⟨bO, hbO⟩ : ∃ b, okTo (costB (heldI J)) J.length = b := ⟨_, rfl⟩
  rw [hbF] at CF ⊢
  rw [hbC] at CC ⊢
  rw [hbJ] at CJ CO ⊢
  rw [hbO] at CO ⊢
  clear hbF hbC hbJ hbO hC hJ hF mC mJ
  by_cases h0 : 0 ≤ n
  case neg =>
    rw [inB_f (by omega)]
    have hd : decide (0 ≤ n) = false := decide_eq_false h0
    clear h0
    go_enter Tryd.func66, Tryd.ntmps66
    go_wp2
    go_ret
    exact ⟨rfl, hx⟩
  by_cases h14 : n ≤ 14
  case neg =>
    rw [inB_f (by omega)]
    have hd : decide (n ≤ 14) = false := decide_eq_false h14
    clear h14
    go_enter Tryd.func66, Tryd.ntmps66
    go_wp2
    go_ret
    exact ⟨rfl, hx⟩
  rw [inB_t h0 h14]
  obtain ⟨l, hl⟩ : ∃ l, F.length = l := ⟨_, rfl⟩
  rw [hl] at CF lF hx ⊢
  by_cases hln : (l : Int) = n
  case neg =>
    rw [decide_eq_false hln]
    have hd : ((l : Int) == n) = false := by simpa using hln
    clear hl hln
    go_enter Tryd.func66, Tryd.ntmps66
    go_wp2
    go_ret
    exact ⟨rfl, hx⟩
  rw [decide_eq_true hln]
  have hd : ((l : Int) == n) = true := by simpa using hln
  clear hl hln
  cases bF
  · go_enter Tryd.func66, Tryd.ntmps66
    go_wp2_with fail
    refine (CF.out _ hx).mono ?_
    rintro e w' ⟨rfl, rfl⟩
    go_wp2
    go_ret
    exact ⟨rfl, hx⟩
  cases bC
  · go_enter Tryd.func66, Tryd.ntmps66
    go_wp2_with fail
    refine (CF.out _ hx).mono ?_
    rintro e w' ⟨rfl, rfl⟩
    go_wp2_with fail
    refine (CC.out _ hx).mono ?_
    rintro e w2 ⟨rfl, hb2⟩
    go_wp2
    go_ret
    exact ⟨rfl, bl_step hx hb2 hx.size⟩
  cases bJ
  · go_enter Tryd.func66, Tryd.ntmps66
    go_wp2_with fail
    refine (CF.out _ hx).mono ?_
    rintro e w' ⟨rfl, rfl⟩
    go_wp2_with fail
    refine (CC.out _ hx).mono ?_
    rintro e w2 ⟨rfl, hb2⟩
    have hx2 := bl_step hx hb2 hx.size
    have d2 := (hb2.cell (p := ⟨w.heap.size, 2, none⟩) (by simp)).trans (show _ = some (.slice AJ J.length cJ) by go_simp)
    have d0 := (hb2.cell (p := ⟨w.heap.size, 0, none⟩) (by simp)).trans (show _ = some (.int .i64 n) by go_simp)
    clear hb2
    go_wp2_with fail
    refine (CJ.out _ hx2).mono ?_
    rintro e w3 ⟨rfl, hb3⟩
    go_wp2
    go_ret
    exact ⟨rfl, bl_step hx2 hb3 hx2.size⟩
  · go_enter Tryd.func66, Tryd.ntmps66
    go_wp2_with fail
    refine (CF.out _ hx).mono ?_
    rintro e w' ⟨rfl, rfl⟩
    go_wp2_with fail
    refine (CC.out _ hx).mono ?_
    rintro e w2 ⟨rfl, hb2⟩
    have hx2 := bl_step hx hb2 hx.size
    have d2 := (hb2.cell (p := ⟨w.heap.size, 2, none⟩) (by simp)).trans (show _ = some (.slice AJ J.length cJ) by go_simp)
    have d0 := (hb2.cell (p := ⟨w.heap.size, 0, none⟩) (by simp)).trans (show _ = some (.int .i64 n) by go_simp)
    have hz2 : w.heap.size < w2.heap.size := by have := hb2.size; simp at this; omega
    clear hb2
    go_wp2_with fail
    refine (CJ.out _ hx2).mono ?_
    rintro e w3 ⟨rfl, hb3⟩
    have hx3 := bl_step hx2 hb3 hx2.size
    have d23 := (hb3.cell (p := ⟨w.heap.size, 2, none⟩) hz2).trans d2
    clear hb3
    go_wp2_with fail
    refine (CO.out (by first | rfl | trivial) _ hx3).mono ?_
    rintro e w4 ⟨rfl, rfl⟩
    go_wp2
    go_ret
    exact ⟨by simp, hx3⟩
end Go.Proofs.YtdoheipnfdbioaaDoor
