/-
  Contract: is a wiring valid, as the model has it: whole.
-/
import Derived.Test.YtdoheipnfdbioaaDoorWirS
import Derived.Test.YtdoheipnfdbioaaDoorOver
namespace Go.Proofs.YtdoheipnfdbioaaDoor
set_option linter.unusedSimpArgs false
set_option linter.unusedVariables false
open Go.ChangeShapes Go.WideShapes Go.ChangeAt Go.RowKit

theorem wvB_n {n : Int} {C J : List (List Int)} {F : List Int} (h : inB n 0 14 = false) : wvB n C J F = false := by unfold wvB; rw [h]; rfl
theorem wvB_len {n : Int} {C J : List (List Int)} {F : List Int} (h : ¬ (F.length : Int) = n) : wvB n C J F = false := by unfold wvB; rw [decide_eq_false h]; simp
theorem wvB_fix {n : Int} {C J : List (List Int)} {F : List Int} (h : okTo (fixB F) F.length = false) : wvB n C J F = false := by unfold wvB; rw [h]; simp
theorem wvB_rest {n : Int} {C J : List (List Int)} {F : List Int} (h1 : inB n 0 14 = true) (h2 : (F.length : Int) = n) (h3 : okTo (fixB F) F.length = true) : wvB n C J F = (listsB C n 2 && listsB J n 3) := by unfold wvB; rw [h1, decide_eq_true h2, h3]; rfl
theorem wir_keepB {N : Nat} {w0 wx : World} {f : FuncId} {args : Array Value} {v : Value} (hS : Below N w0 wx) (hN : N ≤ w0.heap.size) (h : Calls Tryd.prog f args wx fun e w' => e = .returned v ∧ Below wx.heap.size wx w') :
    Calls Tryd.prog f args wx fun e w' => e = .returned v ∧ Below N w0 w' := h.mono fun _ _ ⟨he, hb⟩ => ⟨he, hS.trans (hb.mono (Nat.le_trans hN hS.size))⟩

set_option maxRecDepth 100000 in
set_option maxHeartbeats 3200000 in
theorem l07Is_any (g : Nat) (n : Int) (AC : Option Addr) (C : List SlI) (cC : Nat) (AJ : Option Addr) (J : List SlI) (cJ : Nat) (AF : Option Addr) (F : List Int) (cF : Nat) (w : World)
    (c0 : w.cell? ⟨g, 0, none⟩ = some (.int .i64 n)) (c1 : w.cell? ⟨g, 1, none⟩ = some (.slice AC C.length cC)) (c2 : w.cell? ⟨g, 2, none⟩ = some (.slice AJ J.length cJ)) (c3 : w.cell? ⟨g, 3, none⟩ = some (.slice AF F.length cF))
    (hC : ISAt w w.heap.size AC C) (hJ : ISAt w w.heap.size AJ J) (hF : IntsAt w w.heap.size AF F)
    (lC : C.length ≤ 1048576) (lJ : J.length ≤ 1048576) (lF : F.length ≤ 1048576) (mC : ∀ i, i < C.length → (C.getD i si0).2.1.length ≤ 1048576) (mJ : ∀ i, i < J.length → (J.getD i si0).2.1.length ≤ 1048576) :
    Calls Tryd.prog 34 #[.pointer (some ⟨g, 0, none⟩)] w fun e w' => e = .returned (.bool (wvB n (heldI C) (heldI J) F)) ∧ Below w.heap.size w w' := by
  have hg : g < w.heap.size := World.block_lt_of_cell? w _ c0
  cases hn : inB n 0 14
  case false =>
    have R : Hid (wvB n (heldI C) (heldI J) F = false) := wvB_n hn
    have H := Lib.hid hn
    rw [R.out]
    clear hn hC hJ hF mC mJ
    go_enter Tryd.func34, Tryd.ntmps34
    go_wp2
    go_quiet ((go_at_call 53; exact Calls.quiet_of_same (l00In_q H _)))
    go_wp2
    go_ret
    exact ⟨rfl, bl_drewN (Below.refl _ _) _⟩
  have hn2 : 0 ≤ n ∧ n ≤ 14 := of_decide_eq_true hn
  obtain ⟨hn0, hn14⟩ := hn2
  obtain ⟨l, hl⟩ : ∃ l, F.length = l := ⟨_, rfl⟩
  rw [hl] at c3 lF
  have H := Lib.hid hn
  by_cases hln : (l : Int) = n
  case neg =>
    have R : Hid (wvB n (heldI C) (heldI J) F = false) := wvB_len (by rw [hl]; exact hln)
    have hne : ((l : Int) != n) = true := by simpa using hln
    rw [R.out]
    clear hn hC hJ hF mC mJ hl hln
    go_enter Tryd.func34, Tryd.ntmps34
    go_wp2
    go_quiet ((go_at_call 53; exact Calls.quiet_of_same (l00In_q H _)))
    go_wp2
    go_ret
    exact ⟨rfl, bl_drewN (Below.refl _ _) _⟩
  have hne : ((l : Int) != n) = false := by simpa using hln
  have hlI : (l : Int) ≤ 14 := by omega
  have HLN := Lib.hid hln
  have HL := Lib.hid hl
  have HCF : Hid (0 < l → ∃ b off, AF = some ⟨b, off, none⟩ ∧ b < w.heap.size ∧ ∀ i, i < l → w.cell? ⟨b, off + i, none⟩ = some (.int .i64 (F.getD i 0))) := by
    intro h
    rw [← hl] at h ⊢
    exact hF h
  have hIH := Lib.hid hn
  have HR := Lib.hid (fun h3 => wvB_rest (C := heldI C) (J := heldI J) hn (by rw [hl]; exact hln) h3)
  have HB := Lib.hid (fun h3 => wvB_fix (n := n) (C := heldI C) (J := heldI J) (F := F) h3)
  have CC := Lib.hid (fun (wx : World) (hx : Below w.heap.size w wx) => l07Lists_any AC C cC n 2 wx (hC.to hx) lC mC hn0 hn14 (Or.inl rfl))
  have CJ := Lib.hid (fun (wx : World) (hx : Below w.heap.size w wx) => l07Lists_any AJ J cJ n 3 wx (hJ.to hx) lJ mJ hn0 hn14 (Or.inr rfl))
  obtain ⟨bC, hbC⟩ : ∃ b, listsB (heldI C) n 2 = b := ⟨_, rfl⟩
  obtain ⟨bJ, hbJ⟩ : ∃ b, listsB (heldI J) n 3 = b := ⟨_, rfl⟩
  rw [hbC] at CC HR
  rw [hbJ] at CJ HR
  clear hn hC hJ hF mC mJ hl hln hbC hbJ
  go_enter Tryd.func34, Tryd.ntmps34
  go_wp2
  go_quiet ((go_at_call 53; exact Calls.quiet_of_same (l00In_q H _)))
  go_wp2
  have hb0 := bl_drewN (Below.refl w.heap.size w) nq
  generalize w.drewN nq = w1 at *
  go_loopw [3] (fun i wr => ∃ k : Nat, k ≤ l ∧ i = .int .i64 k ∧ Hid (okTo (fixB F) k = true) ∧ Below w.heap.size w wr) (fun i _ => l - (intOf i).toNat)
  case atStart => exact ⟨0, Nat.zero_le _, rfl, rfl, hb0⟩
  case round =>
    obtain ⟨k, hk, rfl, HX, hb⟩ := hrel
    have d0 := (hb.cell (p := ⟨g, 0, none⟩) hg).trans c0
    have d1 := (hb.cell (p := ⟨g, 1, none⟩) hg).trans c1
    have d2 := (hb.cell (p := ⟨g, 2, none⟩) hg).trans c2
    have d3 := (hb.cell (p := ⟨g, 3, none⟩) hg).trans c3
    have hk0 : (0 : Int) ≤ (k : Int) := by omega
    have hgw : g < wr.heap.size := Nat.lt_of_lt_of_le hg hb.size
    clear hb0
    by_cases hlt : k < l
    · have hkI : (k : Int) < (l : Int) := by omega
      obtain ⟨b, off, rfl, hbB, hc⟩ := HCF.out (by omega)
      have dk := (hb.cell (p := ⟨b, off + k, none⟩) hbB).trans (hc k hlt)
      clear hc
      cases hin : inB (F.getD k 0) (-1) 1
      · have R := HB.out (okTo_bad (by rw [HL.out]; exact hlt) hin)
        have HI := Lib.hid hin
        generalize F.getD k 0 = x at *
        clear hin
        go_wp2_with (go_at_call 53; refine (l00In_at HI _).mono ?_; rintro e w' ⟨rfl, rfl⟩)
        go_ret
        exact ⟨retB R.symm, hb⟩
      · have HX2 : Hid (okTo (fixB F) (k + 1) = true) := okTo_next HX.out hin
        have HI := Lib.hid hin
        generalize F.getD k 0 = x at *
        clear hin
        go_wp2_with (go_at_call 53; refine (l00In_at HI _).mono ?_; rintro e w' ⟨rfl, rfl⟩)
        go_roundw
        case rel => exact ⟨k + 1, by omega, by go_num, HX2, hb⟩
        case measure => simp [intOf]; omega
    · obtain rfl : k = l := by omega
      have R := HR.out (by rw [HL.out]; exact HX.out)
      have R2 := Lib.hid R
      have hzw := hb.size
      clear R
      cases bC
      · go_wp2
        refine wp_region_over (by kernel_rfl) (by kernel_rfl) ?_
        have hov := over_cells wr
        repeat (go_big_quiet_step ((go_at_call 64; exact overC (CC.out _ (hb.trans ((over_below _ _).mono hb.size))))))
        refine over_nil (fun w2 hb2 => ?_)
        clear hov
        go_wp2
        go_ret
        exact ⟨retB (by rw [R2.out]; rfl), hb.trans (hb2.mono hb.size)⟩
      · go_wp2
        refine wp_region_over (by kernel_rfl) (by kernel_rfl) ?_
        have hov := over_cells wr
        repeat (go_big_quiet_step ((first | (go_at_call_of 64 (Value.slice AC C.length cC); exact overC (CC.out _ (hb.trans ((over_below _ _).mono hb.size)))) | (go_at_call_of 64 (Value.slice AJ J.length cJ); exact overC (CJ.out _ (hb.trans ((over_below _ _).mono hb.size)))))))
        refine over_nil (fun w2 hb2 => ?_)
        clear hov
        go_wp2
        go_ret
        exact ⟨retB (by rw [R2.out]; rfl), hb.trans (hb2.mono hb.size)⟩
end Go.Proofs.YtdoheipnfdbioaaDoor
