/-
  Contracts: AreShapes, as the program has it and as the model has it.
-/
import Derived.Test.YtgpcfkegbcpkpaaShpP
namespace Go.Proofs.Ytgpcfkegbcpkpaa
set_option linter.unusedSimpArgs false
set_option linter.unusedVariables false
open Go.ChangeShapes Go.WideShapes Go.ChangeAt Go.RowKit Go.BigFrame

theorem meet_is {a l b o : Int} (hl : 1 ≤ l) (ho : 1 ≤ o) : decide (max a b < min (a + l) (b + o)) = meetB a l b o := by
  unfold meetB
  rw [Bool.eq_iff_iff]
  simp only [Bool.and_eq_true, decide_eq_true_eq]
  omega
set_option maxRecDepth 100000 in
set_option maxHeartbeats 1600000 in
theorem faces_any (x y u v x' y' u' v' : Int) (w : World) (h : shB (x, y, u, v) = true) (k : shB (x', y', u', v') = true) :
    Calls Try.prog 106 #[.agg #[.int .i64 x, .int .i64 y, .int .i64 u, .int .i64 v], .agg #[.int .i64 x', .int .i64 y', .int .i64 u', .int .i64 v']] w fun e w' => e = .returned (.bool (meetB y v y' v')) ∧ Below w.heap.size w w' := by
  obtain ⟨_, hy, _, hv⟩ := shB_iff.1 h
  obtain ⟨_, hy', _, hv'⟩ := shB_iff.1 k
  have hx : Below w.heap.size w ((w.alloc (.cells #[.int .i64 x, .int .i64 y, .int .i64 u, .int .i64 v] 78)).alloc (.cells #[.int .i64 x', .int .i64 y', .int .i64 u', .int .i64 v'] 78)) := by (repeat (first | assumption | exact Below.refl _ _ | (refine bl_alloc ?_ _) | (refine Below.drew ?_) | (refine bl_drewN ?_ _) | (refine bl_set ?_ (by first | (simp; done) | omega | (simp; omega)) _) | (refine bl_trans ?_ (by assumption)) | (refine bl_step ?_ (by assumption) (by first | omega | exact Below.size (by assumption) | (simp; omega) | (simp; exact Below.size (by assumption))))))
  have ka : Blk ((w.alloc (.cells #[.int .i64 x, .int .i64 y, .int .i64 u, .int .i64 v] 78)).alloc (.cells #[.int .i64 x', .int .i64 y', .int .i64 u', .int .i64 v'] 78)) w.heap.size #[.int .i64 x, .int .i64 y, .int .i64 u, .int .i64 v] 78 := (Blk.new _ _ _).alloc _
  have kb : Blk ((w.alloc (.cells #[.int .i64 x, .int .i64 y, .int .i64 u, .int .i64 v] 78)).alloc (.cells #[.int .i64 x', .int .i64 y', .int .i64 u', .int .i64 v'] 78)) (w.heap.size + 1) #[.int .i64 x', .int .i64 y', .int .i64 u', .int .i64 v'] 78 := by
    have := Blk.new (w.alloc (.cells #[.int .i64 x, .int .i64 y, .int .i64 u, .int .i64 v] 78)) #[.int .i64 x', .int .i64 y', .int .i64 u', .int .i64 v'] 78
    rwa [World.size_alloc] at this
  have R : Hid (decide (max y y' < min (y + v) (y' + v')) = meetB y v y' v') := meet_is (by have := hv; simp only at this; omega) (by have := hv'; simp only at this; omega)
  have C1 := Lib.hid (fun wx => up_any x y u v wx hy (by have := hv; simp only at this ⊢; omega))
  have C2 := Lib.hid (fun wx => up_any x' y' u' v' wx hy' (by have := hv'; simp only at this ⊢; omega))
  have a0 := ka.cell 0 (v := .int .i64 x) rfl
  have a1 := ka.cell 1 (v := .int .i64 y) rfl
  have a2 := ka.cell 2 (v := .int .i64 u) rfl
  have a3 := ka.cell 3 (v := .int .i64 v) rfl
  have b0 := kb.cell 0 (v := .int .i64 x') rfl
  have b1 := kb.cell 1 (v := .int .i64 y') rfl
  have b2 := kb.cell 2 (v := .int .i64 u') rfl
  have b3 := kb.cell 3 (v := .int .i64 v') rfl
  have la := ka.lt
  have lb := kb.lt
  clear h k ka kb hy hv hy' hv'
  rw [← R.out]
  go_enter Try.func106, Try.ntmps106
  go_wp2_with fail
  generalize ((w.alloc (.cells #[.int .i64 x, .int .i64 y, .int .i64 u, .int .i64 v] 78)).alloc (.cells #[.int .i64 x', .int .i64 y', .int .i64 u', .int .i64 v'] 78)) = w0 at *
  refine wp_region_over (by kernel_rfl) (by kernel_rfl) ?_
  have hov := over_cells w0
  repeat (go_big_quiet_step ((first | (go_at_call_of 120 (Value.agg #[.int .i64 x, .int .i64 y, .int .i64 u, .int .i64 v]); exact overC (C1.out _)) | (go_at_call_of 120 (Value.agg #[.int .i64 x', .int .i64 y', .int .i64 u', .int .i64 v']); exact overC (C2.out _)) | (go_at_call 108; exact overC (ivOver_any _ _ _ _ _)))))
  refine over_nil (fun w2 hb2 => ?_)
  clear hov
  go_wp2
  go_ret
  exact ⟨rfl, bl_step hx hb2 hx.size⟩
set_option maxRecDepth 100000 in
set_option maxHeartbeats 3200000 in
theorem overS_any (x y u v x' y' u' v' : Int) (w : World) (h : shB (x, y, u, v) = true) (k : shB (x', y', u', v') = true) :
    Calls Try.prog 64 #[.agg #[.int .i64 x, .int .i64 y, .int .i64 u, .int .i64 v], .agg #[.int .i64 x', .int .i64 y', .int .i64 u', .int .i64 v']] w fun e w' => e = .returned (.bool (ovS (x, y, u, v) (x', y', u', v'))) ∧ Below w.heap.size w w' := by
  obtain ⟨hy, _, hv, _⟩ := shB_iff.1 h
  obtain ⟨hy', _, hv', _⟩ := shB_iff.1 k
  have hx : Below w.heap.size w ((w.alloc (.cells #[.int .i64 x, .int .i64 y, .int .i64 u, .int .i64 v] 78)).alloc (.cells #[.int .i64 x', .int .i64 y', .int .i64 u', .int .i64 v'] 78)) := by (repeat (first | assumption | exact Below.refl _ _ | (refine bl_alloc ?_ _) | (refine Below.drew ?_) | (refine bl_drewN ?_ _) | (refine bl_set ?_ (by first | (simp; done) | omega | (simp; omega)) _) | (refine bl_trans ?_ (by assumption)) | (refine bl_step ?_ (by assumption) (by first | omega | exact Below.size (by assumption) | (simp; omega) | (simp; exact Below.size (by assumption))))))
  have ka : Blk ((w.alloc (.cells #[.int .i64 x, .int .i64 y, .int .i64 u, .int .i64 v] 78)).alloc (.cells #[.int .i64 x', .int .i64 y', .int .i64 u', .int .i64 v'] 78)) w.heap.size #[.int .i64 x, .int .i64 y, .int .i64 u, .int .i64 v] 78 := (Blk.new _ _ _).alloc _
  have kb : Blk ((w.alloc (.cells #[.int .i64 x, .int .i64 y, .int .i64 u, .int .i64 v] 78)).alloc (.cells #[.int .i64 x', .int .i64 y', .int .i64 u', .int .i64 v'] 78)) (w.heap.size + 1) #[.int .i64 x', .int .i64 y', .int .i64 u', .int .i64 v'] 78 := by
    have := Blk.new (w.alloc (.cells #[.int .i64 x, .int .i64 y, .int .i64 u, .int .i64 v] 78)) #[.int .i64 x', .int .i64 y', .int .i64 u', .int .i64 v'] 78
    rwa [World.size_alloc] at this
  have R : Hid (decide (max x x' < min (x + u) (x' + u')) = meetB x u x' u') := meet_is (by have := hv; simp only at this; omega) (by have := hv'; simp only at this; omega)
  have C1 := Lib.hid (fun wx => across_any x y u v wx hy (by have := hv; simp only at this ⊢; omega))
  have C2 := Lib.hid (fun wx => across_any x' y' u' v' wx hy' (by have := hv'; simp only at this ⊢; omega))
  have CF := Lib.hid (fun wx => faces_any x y u v x' y' u' v' wx h k)
  have a0 := ka.cell 0 (v := .int .i64 x) rfl
  have a1 := ka.cell 1 (v := .int .i64 y) rfl
  have a2 := ka.cell 2 (v := .int .i64 u) rfl
  have a3 := ka.cell 3 (v := .int .i64 v) rfl
  have b0 := kb.cell 0 (v := .int .i64 x') rfl
  have b1 := kb.cell 1 (v := .int .i64 y') rfl
  have b2 := kb.cell 2 (v := .int .i64 u') rfl
  have b3 := kb.cell 3 (v := .int .i64 v') rfl
  have la := ka.lt
  have lb := kb.lt
  clear h k ka kb hy hv hy' hv'
  have HO : Hid (ovS (x, y, u, v) (x', y', u', v') = (meetB y v y' v' && decide (max x x' < min (x + u) (x' + u')))) := by
    show (meetB x u x' u' && meetB y v y' v') = _
    rw [R.out, Bool.and_comm]
  rw [HO.out]
  clear HO
  cases hf : meetB y v y' v'
  all_goals
    rw [hf] at CF
    clear hf
    go_enter Try.func64, Try.ntmps64
    go_wp2_with fail
    generalize ((w.alloc (.cells #[.int .i64 x, .int .i64 y, .int .i64 u, .int .i64 v] 78)).alloc (.cells #[.int .i64 x', .int .i64 y', .int .i64 u', .int .i64 v'] 78)) = w0 at *
    refine wp_region_over (by kernel_rfl) (by kernel_rfl) ?_
    have hov := over_cells w0
    repeat (go_big_quiet_step ((first | (go_at_call 106; exact overC (CF.out _)) | (go_at_call_of 107 (Value.agg #[.int .i64 x, .int .i64 y, .int .i64 u, .int .i64 v]); exact overC (C1.out _)) | (go_at_call_of 107 (Value.agg #[.int .i64 x', .int .i64 y', .int .i64 u', .int .i64 v']); exact overC (C2.out _)) | (go_at_call 108; exact overC (ivOver_any _ _ _ _ _)))))
    refine over_nil (fun w2 hb2 => ?_)
    clear hov
    go_wp2
    go_ret
    exact ⟨by simp, bl_step hx hb2 hx.size⟩
/-- A valid shape that overlaps none before it. -/
def shsB (ss : List R4) (i : Nat) : Bool := shB (ss.getD i r40) && okTo (fun k => !ovS (ss.getD i r40) (ss.getD k r40)) i
/-- Shapes that do not overlap. -/
def arS (ss : List R4) : Bool := okTo (shsB ss) ss.length && decide (1 ≤ ss.length ∧ ss.length ≤ 12)
set_option maxHeartbeats 1600000 in
theorem indexShape_any (x y u v : Int) (j : Nat) (A : Option Addr) (ss : List R4) (c : Nat) (w : World) (hs : shB (x, y, u, v) = true) (hp : ShpAt w w.heap.size A ss) (hj : j ≤ ss.length) (hn : j ≤ 1048576) (hv : ∀ k, k < j → shB (ss.getD k r40) = true) :
    Calls Try.prog 105 #[.slice A j c, .func (.func 64) #[.agg #[.int .i64 x, .int .i64 y, .int .i64 u, .int .i64 v]] #[]] w (IdxU (okTo (fun k => !ovS (x, y, u, v) (ss.getD k r40)) j) w) := by
  have hnI : (j : Int) ≤ 1048576 := by omega
  have HV := Lib.hid hv
  clear hv
  go_enter Try.func105, Try.ntmps105
  go_wp2
  go_loopw [5, 8] (fun _ i wr => ∃ k : Nat, k ≤ j ∧ i = .int .i64 k ∧ Hid (okTo (fun k => !ovS (x, y, u, v) (ss.getD k r40)) k = true) ∧ Below w.heap.size w wr) (fun _ i _ => j - (intOf i).toNat)
  case atStart => exact ⟨0, Nat.zero_le _, rfl, rfl, Below.refl _ _⟩
  case round =>
    obtain ⟨k, hk, rfl, HX, hb⟩ := hrel
    have hk0 : (0 : Int) ≤ (k : Int) := by omega
    by_cases hlt : k < j
    · obtain ⟨b, off, rfl, hbB, hc⟩ := hp (by omega)
      obtain ⟨e0, e1, e2, e3⟩ := hc k (by omega)
      have f0 := (hb.cell (p := ⟨b, off + k * 4, none⟩) hbB).trans e0
      have f1 := (hb.cell (p := ⟨b, off + k * 4 + 1, none⟩) hbB).trans e1
      have f2 := (hb.cell (p := ⟨b, off + k * 4 + 2, none⟩) hbB).trans e2
      have f3 := (hb.cell (p := ⟨b, off + k * 4 + 3, none⟩) hbB).trans e3
      have hltI : (k : Int) < (j : Int) := by omega
      have CG := Lib.hid (overS_any x y u v (ss.getD k r40).1 (ss.getD k r40).2.1 (ss.getD k r40).2.2.1 (ss.getD k r40).2.2.2 wr hs (HV.out k hlt))
      have HBAD := Lib.hid (fun h => okTo_bad (f := fun k => !ovS (x, y, u, v) (ss.getD k r40)) hlt h)
      have HNX := Lib.hid (fun h => okTo_next (f := fun k => !ovS (x, y, u, v) (ss.getD k r40)) HX.out h)
      clear hc e0 e1 e2 e3 hp
      obtain ⟨q, hq⟩ : ∃ q, ss.getD k r40 = q := ⟨_, rfl⟩
      rw [hq] at f0 f1 f2 f3 CG
      have HQ := Lib.hid hq
      clear hq
      obtain ⟨x', y', u', v'⟩ := q
      simp only at f0 f1 f2 f3 CG
      cases hin : ovS (x, y, u, v) (x', y', u', v')
      · have HX2 := Lib.hid (HNX.out (by show (!ovS (x, y, u, v) (ss.getD k r40)) = true; rw [HQ.out, hin]; rfl))
        rw [hin] at CG
        clear hin HNX HBAD
        go_wp2_with fail
        refine CG.out.mono ?_
        rintro e w1 ⟨rfl, hb1⟩
        go_wp2
        go_roundw
        case rel => exact ⟨k + 1, by omega, by go_num, HX2, hb.trans (hb1.mono hb.size)⟩
        case measure => simp [intOf]; omega
      · have HF := Lib.hid (HBAD.out (by show (!ovS (x, y, u, v) (ss.getD k r40)) = false; rw [HQ.out, hin]; rfl))
        rw [hin] at CG
        clear hin HNX HBAD
        go_wp2_with fail
        refine CG.out.mono ?_
        rintro e w1 ⟨rfl, hb1⟩
        go_wp2
        go_ret
        exact ⟨k, rfl, hb.trans (hb1.mono hb.size), by rw [HF.out]; exact decide_eq_true (by omega), by omega, by omega⟩
    · have HF : Hid (okTo (fun k => !ovS (x, y, u, v) (ss.getD k r40)) j = true) := by
        have := HX.out
        rw [show k = j by omega] at this
        exact this
      go_wp2
      go_ret
      exact ⟨-1, rfl, hb, by rw [HF.out]; rfl, by omega, by omega⟩
theorem containsShape_any (x y u v : Int) (j : Nat) (A : Option Addr) (ss : List R4) (c : Nat) (w : World) (hs : shB (x, y, u, v) = true) (hp : ShpAt w w.heap.size A ss) (hj : j ≤ ss.length) (hn : j ≤ 1048576) (hv : ∀ k, k < j → shB (ss.getD k r40) = true) :
    Calls Try.prog 63 #[.slice A j c, .func (.func 64) #[.agg #[.int .i64 x, .int .i64 y, .int .i64 u, .int .i64 v]] #[]] w fun e w' => e = .returned (.bool (!okTo (fun k => !ovS (x, y, u, v) (ss.getD k r40)) j)) ∧ Below w.heap.size w w' := by
  have ci := Lib.hid (indexShape_any x y u v j A ss c w hs hp hj hn hv)
  clear hp hv
  go_enter Try.func63, Try.ntmps63
  go_wp2_with fail
  refine ci.out.mono ?_
  rintro e w' ⟨r, rfl, hb, hd, h1, h2⟩
  have HD := Lib.hid hd
  clear hd
  go_wp2
  go_ret
  exact ⟨retB HD.out, hb⟩
end Go.Proofs.Ytgpcfkegbcpkpaa
