/-
  Contracts: the merge of two merges, as the program and the model have it.
-/
import Derived.Test.YtkkeodceihjbgaaMergeW
namespace Go.Proofs.Ytkkeodceihjbgaa
set_option linter.unusedSimpArgs false
set_option linter.unusedVariables false
open Go.ChangeShapes Go.WideShapes Go.ChangeAt Go.RowKit

def okM (M N : Mg) : Bool := okW M N && (outM M N).ok
def WithRes (M N : Mg) (w : World) (e : Ending) (w' : World) : Prop :=
  ((okM M N = true ∧ e = .returned (.agg #[.int .i64 (outM M N).a, .int .i64 (outM M N).b, .int .i64 (outM M N).c, .int .i64 (outM M N).d, .int .i64 (outM M N).e, .int .i64 (wA M N), .int .i64 (wB M N)])) ∨ (okM M N = false ∧ Pan e)) ∧ Below w.heap.size w w'
theorem mid_w {n : Int} (h : 0 ≤ n ∧ n ≤ 2000000000) : Mid n := by unfold Mid; omega
set_option maxRecDepth 100000 in
set_option maxHeartbeats 2000000 in
theorem mergeWith_any (M N : Mg) (w : World) (hM : M.ok = true) (hN : N.ok = true) :
    Calls Try.prog 59 #[.agg #[.int .i64 M.a, .int .i64 M.b, .int .i64 M.c, .int .i64 M.d, .int .i64 M.e], .agg #[.int .i64 N.a, .int .i64 N.b, .int .i64 N.c, .int .i64 N.d, .int .i64 N.e]] w (WithRes M N w) := by
  obtain ⟨k1, k2, k3⟩ := Mg.ok_iff.1 hM
  obtain ⟨l1, l2, l3⟩ := Mg.ok_iff.1 hN
  obtain ⟨ma, mb, mc, md⟩ := Mg.mid k1
  obtain ⟨na, nb, nc, nd⟩ := Mg.mid l1
  obtain ⟨hx, hy⟩ := w_in hM hN
  have mx := mid_w hx
  have my := mid_w hy
  obtain ⟨x0, x1⟩ := hx
  have CW := Lib.hid (fun w => wiresWith_any M N w hM hN)
  have CX : Hid (M.e + wA M N = (outM M N).e) := rfl
  have CM : ∀ w, Calls Try.prog 49 #[.agg #[.int .i64 (M.a - wA M N), .int .i64 (M.b + wA M N), .int .i64 (M.c - wA M N), .int .i64 (M.d + wA M N)], .agg #[.int .i64 (N.a - wB M N), .int .i64 (N.b + wB M N), .int .i64 (N.c - wB M N), .int .i64 (N.d + wB M N)]] w fun e w' => e = .returned (.agg #[.int .i64 (outM M N).a, .int .i64 (outM M N).b, .int .i64 (outM M N).c, .int .i64 (outM M N).d]) ∧ Below w.heap.size w w' := fun w => rgMeet_any _ _ _ _ _ _ _ _ w
  have CM := Lib.hid CM
  clear hM hN k1 l1 hy
  cases ho : okW M N
  · have O := Lib.hid ho
    have K : Hid (okM M N = false) := Lib.hid (show okM M N = false by simp [okM, ho])
    clear ho
    go_enter Try.func59, Try.ntmps59
    go_wp2_with fail
    refine (CW.out _).mono ?_
    rintro e w1 ⟨⟨h, _⟩ | ⟨_, u, pv, rfl⟩, hb1⟩
    · rw [O.out] at h; cases h
    go_wp2
    exact ⟨rfl, .inr ⟨K.out, _, _, rfl⟩, by (repeat (first | assumption | exact Below.refl _ _ | (refine bl_alloc ?_ _) | (refine Below.drew ?_) | (refine bl_drewN ?_ _) | (refine bl_set ?_ (by first | (simp; done) | omega | (simp; omega)) _) | (refine bl_trans ?_ (by assumption)) | (refine bl_step ?_ (by assumption) (by first | omega | exact Below.size (by assumption) | (simp; omega) | (simp; exact Below.size (by assumption))))))⟩
  · have O := Lib.hid ho
    cases hk : (outM M N).ok
    all_goals
      have HK := Lib.hid hk
      have K : Hid (okM M N = (outM M N).ok) := Lib.hid (show okM M N = (outM M N).ok by simp [okM, ho])
      clear ho hk
      have hF : IntKind.i64.wrap (M.e + wA M N) = (outM M N).e := by rw [← CX.out]; exact IntWalk.i64_in _ (by omega)
      have HF := Lib.hid hF
      clear hF
      go_enter Try.func59, Try.ntmps59
      go_wp2_with fail
      refine (CW.out _).mono ?_
      rintro e w1 ⟨hor, hb1⟩
      obtain rfl : e = .returned (.tuple #[.int .i64 (wA M N), .int .i64 (wB M N)]) := by
        rcases hor with ⟨_, h⟩ | ⟨h, _⟩
        · exact h
        · rw [O.out] at h; cases h
      clear hor
      obtain ⟨hc1, hf1, hz1⟩ := bcell hb1
      have hz1' : w.heap.size + 2 < w1.heap.size := by (first | (simp at hz1; omega) | omega)
      have hz1'' : w.heap.size + 1 < w1.heap.size := by omega
      have hz1''' : w.heap.size < w1.heap.size := by omega
      go_wp2
      refine wp_region_alloc (i0 := 9) (m := 10) (ks := [(0, true), (1, false), (2, true), (3, false), (4, true), (5, false), (6, true), (7, false), (8, false)]) (.alone 10 .done) (by kernel_rfl) (by kernel_rfl) (by kernel_rfl) (fun _ d _ _ _ h => by cases d <;> exact h) rfl rfl (fun a w => by go_simp <;> rfl) ?_
      refine g_p (v := ?_) (by rfl) ?_ ?_
      rotate_left
      · intro wx
        go_simp
        try (with_reducible rfl)
      try simp only [Act.put, List.setIfInBounds_toArray, List.set_cons_zero, List.set_cons_succ]
      refine g_w (v := ?_) (by rfl) ?_ ?_
      rotate_left
      · intro wx hSx
        obtain ⟨hcx, hfx, hzx⟩ := bcell hSx
        go_simp
        try (with_reducible rfl)
      try simp only [Act.put, List.setIfInBounds_toArray, List.set_cons_zero, List.set_cons_succ]
      refine g_p (v := ?_) (by rfl) ?_ ?_
      rotate_left
      · intro wx
        go_simp
        try (with_reducible rfl)
      try simp only [Act.put, List.setIfInBounds_toArray, List.set_cons_zero, List.set_cons_succ]
      refine g_c (by rfl) (fun wx hSx => rgGrown_any _ _ _ _ _ _ ma mb mc md mx) (fun wx hSx => by go_simp <;> (repeat' (first | rfl | apply And.intro))) ?_
      try simp only [Act.put, List.setIfInBounds_toArray, List.set_cons_zero, List.set_cons_succ]
      refine g_p (v := ?_) (by rfl) ?_ ?_
      rotate_left
      · intro wx
        go_simp
        try (with_reducible rfl)
      try simp only [Act.put, List.setIfInBounds_toArray, List.set_cons_zero, List.set_cons_succ]
      refine g_w (v := ?_) (by rfl) ?_ ?_
      rotate_left
      · intro wx hSx
        obtain ⟨hcx, hfx, hzx⟩ := bcell hSx
        go_simp
        try (with_reducible rfl)
      try simp only [Act.put, List.setIfInBounds_toArray, List.set_cons_zero, List.set_cons_succ]
      refine g_p (v := ?_) (by rfl) ?_ ?_
      rotate_left
      · intro wx
        go_simp
        try (with_reducible rfl)
      try simp only [Act.put, List.setIfInBounds_toArray, List.set_cons_zero, List.set_cons_succ]
      refine g_c (by rfl) (fun wx hSx => rgGrown_any _ _ _ _ _ _ na nb nc nd my) (fun wx hSx => by go_simp <;> (repeat' (first | rfl | apply And.intro))) ?_
      try simp only [Act.put, List.setIfInBounds_toArray, List.set_cons_zero, List.set_cons_succ]
      refine g_c (by rfl) (fun wx hSx => CM.out _) (fun wx hSx => by go_simp <;> (repeat' (first | rfl | apply And.intro))) ?_
      try simp only [Act.put, List.setIfInBounds_toArray, List.set_cons_zero, List.set_cons_succ]
      refine g_nil (fun G w2 hb2 hG hNG => ?_)
      try simp only [Act.put, List.setIfInBounds_toArray, List.set_cons_zero, List.set_cons_succ]
      obtain ⟨hc2, hf2, hz2⟩ := bcell hb2
      have g0 := hG.cell 0 rfl
      have g1 := hG.cell 1 rfl
      have g2 := hG.cell 2 rfl
      have g3 := hG.cell 3 rfl
      have gf := hG.frozen
      refine tplan_b rfl (fun K hK => ?_)
      go_simp
      refine hK _ _ ⟨trivial, ?_⟩
      clear hK K
      try simp only [Act.put, List.setIfInBounds_toArray, List.set_cons_zero, List.set_cons_succ]
      refine tplan_endQ ?_
      have hGv : Blk ((((w2.setCell ⟨G, 0, none⟩ (.int .i64 (outM M N).a)).setCell ⟨G, 1, none⟩ (.int .i64 (outM M N).b)).setCell ⟨G, 2, none⟩ (.int .i64 (outM M N).c)).setCell ⟨G, 3, none⟩ (.int .i64 (outM M N).d)) G #[.int .i64 (outM M N).a, .int .i64 (outM M N).b, .int .i64 (outM M N).c, .int .i64 (outM M N).d] 25 := ((((hG.set 0 (.int .i64 (outM M N).a)).set 1 (.int .i64 (outM M N).b)).set 2 (.int .i64 (outM M N).c)).set 3 (.int .i64 (outM M N).d))
      have hbv := ((((hb2.setCell (p := ⟨G, 0, none⟩) hNG (.int .i64 (outM M N).a)).setCell (p := ⟨G, 1, none⟩) hNG (.int .i64 (outM M N).b)).setCell (p := ⟨G, 2, none⟩) hNG (.int .i64 (outM M N).c)).setCell (p := ⟨G, 3, none⟩) hNG (.int .i64 (outM M N).d))
      generalize ((((w2.setCell ⟨G, 0, none⟩ (.int .i64 (outM M N).a)).setCell ⟨G, 1, none⟩ (.int .i64 (outM M N).b)).setCell ⟨G, 2, none⟩ (.int .i64 (outM M N).c)).setCell ⟨G, 3, none⟩ (.int .i64 (outM M N).d)) = wv at *
      clear hG g0 g1 g2 g3 gf hc2 hf2 hz2 hb2
      obtain ⟨hcv, hfv, hzv⟩ := bcell hbv
      have hzv' : w.heap.size + 2 < wv.heap.size := by omega
      have hzv'' : w.heap.size + 1 < wv.heap.size := by omega
      have hzv''' : w.heap.size < wv.heap.size := by omega
      have k0 := hGv.cell 0 rfl
      have k1 := hGv.cell 1 rfl
      have k2' := hGv.cell 2 rfl
      have k3' := hGv.cell 3 rfl
      have hF := HF.out
      go_wp2_with fail
      first
        | (refine (requireMerge_no (outM M N) _ HK.out).mono ?_
           rintro e w3 ⟨⟨u, pv, rfl⟩, hb3⟩
           go_wp2
           exact ⟨rfl, .inr ⟨K.out.trans HK.out, _, _, rfl⟩, by (repeat (first | assumption | exact Below.refl _ _ | (refine bl_alloc ?_ _) | (refine Below.drew ?_) | (refine bl_drewN ?_ _) | (refine bl_set ?_ (by first | (simp; done) | omega | (simp; omega)) _) | (refine bl_trans ?_ (by assumption)) | (refine bl_step ?_ (by assumption) (by first | omega | exact Below.size (by assumption) | (simp; omega) | (simp; exact Below.size (by assumption))))))⟩)
        | (refine (requireMerge_yes (outM M N) _ HK.out).mono ?_
           rintro e w3 ⟨rfl, hb3⟩
           obtain ⟨hc3, hf3, hz3⟩ := bcell hb3
           have hz3' : w.heap.size + 2 < w3.heap.size := by omega
           go_wp2
           have bZ : Below w.heap.size w w3 := bl_trans (bl_trans (bl_trans (by (repeat (first | assumption | exact Below.refl _ _ | (refine bl_alloc ?_ _) | (refine Below.drew ?_) | (refine bl_drewN ?_ _) | (refine bl_set ?_ (by first | (simp; done) | omega | (simp; omega)) _) | (refine bl_trans ?_ (by assumption)) | (refine bl_step ?_ (by assumption) (by first | omega | exact Below.size (by assumption) | (simp; omega) | (simp; exact Below.size (by assumption))))))) hb1) hbv) hb3
           have bY := (((((((bZ.setCell (p := ⟨w.heap.size + 1 + 1, 0, none⟩) (by show w.heap.size ≤ w.heap.size + 1 + 1; omega) (.int .i64 (outM M N).a)).setCell (p := ⟨w.heap.size + 1 + 1, 1, none⟩) (by show w.heap.size ≤ w.heap.size + 1 + 1; omega) (.int .i64 (outM M N).b)).setCell (p := ⟨w.heap.size + 1 + 1, 2, none⟩) (by show w.heap.size ≤ w.heap.size + 1 + 1; omega) (.int .i64 (outM M N).c)).setCell (p := ⟨w.heap.size + 1 + 1, 3, none⟩) (by show w.heap.size ≤ w.heap.size + 1 + 1; omega) (.int .i64 (outM M N).d)).setCell (p := ⟨w.heap.size + 1 + 1, 4, none⟩) (by show w.heap.size ≤ w.heap.size + 1 + 1; omega) (.int .i64 (outM M N).e)).setCell (p := ⟨w.heap.size + 1 + 1, 5, none⟩) (by show w.heap.size ≤ w.heap.size + 1 + 1; omega) (.int .i64 (wA M N))).setCell (p := ⟨w.heap.size + 1 + 1, 6, none⟩) (by show w.heap.size ≤ w.heap.size + 1 + 1; omega) (.int .i64 (wB M N)))
           exact bodyPost_ret (v := .agg #[.int .i64 (outM M N).a, .int .i64 (outM M N).b, .int .i64 (outM M N).c, .int .i64 (outM M N).d, .int .i64 (outM M N).e, .int .i64 (wA M N), .int .i64 (wB M N)]) (by simp [results, Try.results59, hc1, hz1, hz1', hcv, hzv, hzv', hc3, hz3, hz3', go_sem]) rfl ⟨.inl ⟨K.out.trans HK.out, rfl⟩, bY⟩)
end Go.Proofs.Ytkkeodceihjbgaa
