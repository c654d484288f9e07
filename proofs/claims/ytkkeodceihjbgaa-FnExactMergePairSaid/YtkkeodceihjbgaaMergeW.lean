/-
  Contracts: the wires of a merge of two merges, as the program has them.
-/
import Derived.Test.YtkkeodceihjbgaaMerge
namespace Go.Proofs.Ytkkeodceihjbgaa
set_option linter.unusedSimpArgs false
set_option linter.unusedVariables false
open Go.ChangeShapes Go.WideShapes Go.ChangeAt Go.RowKit

theorem wA_later {M N : Mg} (h : farM M N < N.e - M.e) : wA M N = N.e - M.e ∧ wB M N = 0 := by unfold wA wB; rw [if_pos h, if_pos h]; exact ⟨rfl, rfl⟩
theorem wA_sooner {M N : Mg} (h1 : ¬ farM M N < N.e - M.e) (h2 : farM M N < M.e - N.e) : wA M N = 0 ∧ wB M N = M.e - N.e := by unfold wA wB; rw [if_neg h1, if_neg h1, if_pos h2, if_pos h2]; exact ⟨rfl, rfl⟩
theorem wA_mid {M N : Mg} (h1 : ¬ farM M N < N.e - M.e) (h2 : ¬ farM M N < M.e - N.e) : wA M N = (farM M N + (N.e - M.e)) / 2 ∧ wB M N = farM M N - (farM M N + (N.e - M.e)) / 2 := by unfold wA wB; rw [if_neg h1, if_neg h1, if_neg h2, if_neg h2]; exact ⟨rfl, rfl⟩
def WiresRes (M N : Mg) (w : World) (e : Ending) (w' : World) : Prop :=
  ((okW M N = true ∧ e = .returned (.tuple #[.int .i64 (wA M N), .int .i64 (wB M N)])) ∨ (okW M N = false ∧ Pan e)) ∧ Below w.heap.size w w'
theorem WiresRes.yes {M N : Mg} {w w' : World} {x y : Int} (h : okW M N = true) (hx : wA M N = x) (hy : wB M N = y) (hb : Below w.heap.size w w') : WiresRes M N w (.returned (.tuple #[.int .i64 x, .int .i64 y])) w' := ⟨.inl ⟨h, by rw [hx, hy]⟩, hb⟩
set_option maxRecDepth 100000 in
set_option maxHeartbeats 3200000 in
theorem wiresWith_any (M N : Mg) (w : World) (hM : M.ok = true) (hN : N.ok = true) :
    Calls Try.prog 84 #[.agg #[.int .i64 M.a, .int .i64 M.b, .int .i64 M.c, .int .i64 M.d, .int .i64 M.e], .agg #[.int .i64 N.a, .int .i64 N.b, .int .i64 N.c, .int .i64 N.d, .int .i64 N.e]] w (WiresRes M N w) := by
  obtain ⟨k1, k2, k3⟩ := Mg.ok_iff.1 hM
  obtain ⟨l1, l2, l3⟩ := Mg.ok_iff.1 hN
  obtain ⟨f0, f1⟩ := farM_in k1 l1
  obtain ⟨ma, mb, mc, md⟩ := Mg.mid k1
  obtain ⟨na, nb, nc, nd⟩ := Mg.mid l1
  have cf : ∀ w, Calls Try.prog 53 #[.agg #[.int .i64 M.a, .int .i64 M.b, .int .i64 M.c, .int .i64 M.d], .agg #[.int .i64 N.a, .int .i64 N.b, .int .i64 N.c, .int .i64 N.d]] w fun e w' => e = .returned (.int .i64 (farM M N)) ∧ Below w.heap.size w w' :=
    fun w => rgFar_any _ _ _ _ _ _ _ _ w ma mb mc md na nb nc nd
  by_cases h1 : farM M N < N.e - M.e
  · have R := Lib.hid (wA_later h1)
    have O := Lib.hid (okW_later h1)
    generalize farM M N = F at *
    have CF := Lib.hid cf
    have hL : IntKind.i64.wrap (N.e - M.e) = N.e - M.e := IntWalk.i64_in _ (by omega)
    clear cf k1 l1 ma mb mc md na nb nc nd hM hN
    go_enter Try.func84, Try.ntmps84
    go_wp2
    refine wp_region_quietA (by kernel_rfl) (by kernel_rfl) ?_
    refine q_w (v := ?_) (by rfl) ?_ ?_
    rotate_left
    · intro wx hSx
      obtain ⟨hcx, hfx, hzx⟩ := bcell hSx
      go_simp
      try (with_reducible rfl)
    try simp only [Act.put, List.setIfInBounds_toArray, List.set_cons_zero, List.set_cons_succ]
    refine q_w (v := ?_) (by rfl) ?_ ?_
    rotate_left
    · intro wx hSx
      obtain ⟨hcx, hfx, hzx⟩ := bcell hSx
      go_simp
      try (with_reducible rfl)
    try simp only [Act.put, List.setIfInBounds_toArray, List.set_cons_zero, List.set_cons_succ]
    refine q_w (v := ?_) (by rfl) ?_ ?_
    rotate_left
    · intro wx hSx
      obtain ⟨hcx, hfx, hzx⟩ := bcell hSx
      go_simp
      try (with_reducible rfl)
    try simp only [Act.put, List.setIfInBounds_toArray, List.set_cons_zero, List.set_cons_succ]
    refine q_w (v := ?_) (by rfl) ?_ ?_
    rotate_left
    · intro wx hSx
      obtain ⟨hcx, hfx, hzx⟩ := bcell hSx
      go_simp
      try (with_reducible rfl)
    try simp only [Act.put, List.setIfInBounds_toArray, List.set_cons_zero, List.set_cons_succ]
    refine q_c (by rfl) (fun wx hSx => keepB hSx (Nat.le_refl _) (CF.out _)) (fun wx hSx => by go_simp <;> (repeat' (first | rfl | apply And.intro))) ?_
    try simp only [Act.put, List.setIfInBounds_toArray, List.set_cons_zero, List.set_cons_succ]
    refine q_w (v := ?_) (by rfl) ?_ ?_
    rotate_left
    · intro wx hSx
      obtain ⟨hcx, hfx, hzx⟩ := bcell hSx
      go_simp
      try (with_reducible rfl)
    try simp only [Act.put, List.setIfInBounds_toArray, List.set_cons_zero, List.set_cons_succ]
    refine q_w (v := ?_) (by rfl) ?_ ?_
    rotate_left
    · intro wx hSx
      obtain ⟨hcx, hfx, hzx⟩ := bcell hSx
      go_simp
      try (with_reducible rfl)
    try simp only [Act.put, List.setIfInBounds_toArray, List.set_cons_zero, List.set_cons_succ]
    refine q_w (v := ?_) (by rfl) ?_ ?_
    rotate_left
    · intro wx hSx
      obtain ⟨hcx, hfx, hzx⟩ := bcell hSx
      go_simp
      try (with_reducible rfl)
    try simp only [Act.put, List.setIfInBounds_toArray, List.set_cons_zero, List.set_cons_succ]
    refine q_w (v := ?_) (by rfl) ?_ ?_
    rotate_left
    · intro wx hSx
      obtain ⟨hcx, hfx, hzx⟩ := bcell hSx
      go_simp
      try (with_reducible rfl)
    try simp only [Act.put, List.setIfInBounds_toArray, List.set_cons_zero, List.set_cons_succ]
    refine q_w (v := ?_) (by rfl) ?_ ?_
    rotate_left
    · intro wx hSx
      obtain ⟨hcx, hfx, hzx⟩ := bcell hSx
      go_simp
      try (with_reducible rfl)
    try simp only [Act.put, List.setIfInBounds_toArray, List.set_cons_zero, List.set_cons_succ]
    refine q_w (v := ?_) (by rfl) ?_ ?_
    rotate_left
    · intro wx hSx
      obtain ⟨hcx, hfx, hzx⟩ := bcell hSx
      go_simp
      try (with_reducible rfl)
    try simp only [Act.put, List.setIfInBounds_toArray, List.set_cons_zero, List.set_cons_succ]
    refine q_w (v := ?_) (by rfl) ?_ ?_
    rotate_left
    · intro wx hSx
      obtain ⟨hcx, hfx, hzx⟩ := bcell hSx
      go_simp
      try (with_reducible rfl)
    try simp only [Act.put, List.setIfInBounds_toArray, List.set_cons_zero, List.set_cons_succ]
    refine q_nil (fun w1 hb1 => ?_)
    obtain ⟨hc1, hf1, hz1⟩ := bcell hb1
    go_wp2
    go_ret2
    exact WiresRes.yes O.out R.out.1 R.out.2 (by (repeat (first | assumption | exact Below.refl _ _ | (refine bl_alloc ?_ _) | (refine Below.drew ?_) | (refine bl_drewN ?_ _) | (refine bl_set ?_ (by first | (simp; done) | omega | (simp; omega)) _) | (refine bl_trans ?_ (by assumption)) | (refine bl_step ?_ (by assumption) (by first | omega | exact Below.size (by assumption) | (simp; omega) | (simp; exact Below.size (by assumption)))))))
  · by_cases h2 : farM M N < M.e - N.e
    · have R := Lib.hid (wA_sooner h1 h2)
      have O := Lib.hid (okW_sooner h1 h2)
      generalize farM M N = F at *
      have CF := Lib.hid cf
      have h2' : F < -(N.e - M.e) := by omega
      have HQ : Hid (M.e - N.e = -(N.e - M.e)) := by show M.e - N.e = -(N.e - M.e); omega
      have hL : IntKind.i64.wrap (N.e - M.e) = N.e - M.e := IntWalk.i64_in _ (by omega)
      clear cf k1 l1 ma mb mc md na nb nc nd hM hN
      go_enter Try.func84, Try.ntmps84
      go_wp2
      refine wp_region_quietA (by kernel_rfl) (by kernel_rfl) ?_
      refine q_w (v := ?_) (by rfl) ?_ ?_
      rotate_left
      · intro wx hSx
        obtain ⟨hcx, hfx, hzx⟩ := bcell hSx
        go_simp
        try (with_reducible rfl)
      try simp only [Act.put, List.setIfInBounds_toArray, List.set_cons_zero, List.set_cons_succ]
      refine q_w (v := ?_) (by rfl) ?_ ?_
      rotate_left
      · intro wx hSx
        obtain ⟨hcx, hfx, hzx⟩ := bcell hSx
        go_simp
        try (with_reducible rfl)
      try simp only [Act.put, List.setIfInBounds_toArray, List.set_cons_zero, List.set_cons_succ]
      refine q_w (v := ?_) (by rfl) ?_ ?_
      rotate_left
      · intro wx hSx
        obtain ⟨hcx, hfx, hzx⟩ := bcell hSx
        go_simp
        try (with_reducible rfl)
      try simp only [Act.put, List.setIfInBounds_toArray, List.set_cons_zero, List.set_cons_succ]
      refine q_w (v := ?_) (by rfl) ?_ ?_
      rotate_left
      · intro wx hSx
        obtain ⟨hcx, hfx, hzx⟩ := bcell hSx
        go_simp
        try (with_reducible rfl)
      try simp only [Act.put, List.setIfInBounds_toArray, List.set_cons_zero, List.set_cons_succ]
      refine q_c (by rfl) (fun wx hSx => keepB hSx (Nat.le_refl _) (CF.out _)) (fun wx hSx => by go_simp <;> (repeat' (first | rfl | apply And.intro))) ?_
      try simp only [Act.put, List.setIfInBounds_toArray, List.set_cons_zero, List.set_cons_succ]
      refine q_w (v := ?_) (by rfl) ?_ ?_
      rotate_left
      · intro wx hSx
        obtain ⟨hcx, hfx, hzx⟩ := bcell hSx
        go_simp
        try (with_reducible rfl)
      try simp only [Act.put, List.setIfInBounds_toArray, List.set_cons_zero, List.set_cons_succ]
      refine q_w (v := ?_) (by rfl) ?_ ?_
      rotate_left
      · intro wx hSx
        obtain ⟨hcx, hfx, hzx⟩ := bcell hSx
        go_simp
        try (with_reducible rfl)
      try simp only [Act.put, List.setIfInBounds_toArray, List.set_cons_zero, List.set_cons_succ]
      refine q_w (v := ?_) (by rfl) ?_ ?_
      rotate_left
      · intro wx hSx
        obtain ⟨hcx, hfx, hzx⟩ := bcell hSx
        go_simp
        try (with_reducible rfl)
      try simp only [Act.put, List.setIfInBounds_toArray, List.set_cons_zero, List.set_cons_succ]
      refine q_w (v := ?_) (by rfl) ?_ ?_
      rotate_left
      · intro wx hSx
        obtain ⟨hcx, hfx, hzx⟩ := bcell hSx
        go_simp
        try (with_reducible rfl)
      try simp only [Act.put, List.setIfInBounds_toArray, List.set_cons_zero, List.set_cons_succ]
      refine q_w (v := ?_) (by rfl) ?_ ?_
      rotate_left
      · intro wx hSx
        obtain ⟨hcx, hfx, hzx⟩ := bcell hSx
        go_simp
        try (with_reducible rfl)
      try simp only [Act.put, List.setIfInBounds_toArray, List.set_cons_zero, List.set_cons_succ]
      refine q_w (v := ?_) (by rfl) ?_ ?_
      rotate_left
      · intro wx hSx
        obtain ⟨hcx, hfx, hzx⟩ := bcell hSx
        go_simp
        try (with_reducible rfl)
      try simp only [Act.put, List.setIfInBounds_toArray, List.set_cons_zero, List.set_cons_succ]
      refine q_w (v := ?_) (by rfl) ?_ ?_
      rotate_left
      · intro wx hSx
        obtain ⟨hcx, hfx, hzx⟩ := bcell hSx
        go_simp
        try (with_reducible rfl)
      try simp only [Act.put, List.setIfInBounds_toArray, List.set_cons_zero, List.set_cons_succ]
      refine q_nil (fun w1 hb1 => ?_)
      obtain ⟨hc1, hf1, hz1⟩ := bcell hb1
      go_wp2
      go_ret2
      exact WiresRes.yes O.out R.out.1 (R.out.2.trans HQ.out) (by (repeat (first | assumption | exact Below.refl _ _ | (refine bl_alloc ?_ _) | (refine Below.drew ?_) | (refine bl_drewN ?_ _) | (refine bl_set ?_ (by first | (simp; done) | omega | (simp; omega)) _) | (refine bl_trans ?_ (by assumption)) | (refine bl_step ?_ (by assumption) (by first | omega | exact Below.size (by assumption) | (simp; omega) | (simp; exact Below.size (by assumption)))))))
    · have R := Lib.hid (wA_mid h1 h2)
      have O := Lib.hid (okW_mid h1 h2)
      generalize farM M N = F at *
      have CF := Lib.hid cf
      have h2' : ¬ F < -(N.e - M.e) := by omega
      have h3 : 0 ≤ F + (N.e - M.e) := by omega
      have hL : IntKind.i64.wrap (N.e - M.e) = N.e - M.e := IntWalk.i64_in _ (by omega)
      clear cf k1 l1 ma mb mc md na nb nc nd hM hN
      by_cases h4 : (F + (N.e - M.e)) % 2 = 0
      · have O2 : Hid (okW M N = true) := by show okW M N = true; rw [O.out]; exact decide_eq_true h4
        go_enter Try.func84, Try.ntmps84
        go_wp2
        refine wp_region_quietA (by kernel_rfl) (by kernel_rfl) ?_
        refine q_w (v := ?_) (by rfl) ?_ ?_
        rotate_left
        · intro wx hSx
          obtain ⟨hcx, hfx, hzx⟩ := bcell hSx
          go_simp
          try (with_reducible rfl)
        try simp only [Act.put, List.setIfInBounds_toArray, List.set_cons_zero, List.set_cons_succ]
        refine q_w (v := ?_) (by rfl) ?_ ?_
        rotate_left
        · intro wx hSx
          obtain ⟨hcx, hfx, hzx⟩ := bcell hSx
          go_simp
          try (with_reducible rfl)
        try simp only [Act.put, List.setIfInBounds_toArray, List.set_cons_zero, List.set_cons_succ]
        refine q_w (v := ?_) (by rfl) ?_ ?_
        rotate_left
        · intro wx hSx
          obtain ⟨hcx, hfx, hzx⟩ := bcell hSx
          go_simp
          try (with_reducible rfl)
        try simp only [Act.put, List.setIfInBounds_toArray, List.set_cons_zero, List.set_cons_succ]
        refine q_w (v := ?_) (by rfl) ?_ ?_
        rotate_left
        · intro wx hSx
          obtain ⟨hcx, hfx, hzx⟩ := bcell hSx
          go_simp
          try (with_reducible rfl)
        try simp only [Act.put, List.setIfInBounds_toArray, List.set_cons_zero, List.set_cons_succ]
        refine q_c (by rfl) (fun wx hSx => keepB hSx (Nat.le_refl _) (CF.out _)) (fun wx hSx => by go_simp <;> (repeat' (first | rfl | apply And.intro))) ?_
        try simp only [Act.put, List.setIfInBounds_toArray, List.set_cons_zero, List.set_cons_succ]
        refine q_w (v := ?_) (by rfl) ?_ ?_
        rotate_left
        · intro wx hSx
          obtain ⟨hcx, hfx, hzx⟩ := bcell hSx
          go_simp
          try (with_reducible rfl)
        try simp only [Act.put, List.setIfInBounds_toArray, List.set_cons_zero, List.set_cons_succ]
        refine q_w (v := ?_) (by rfl) ?_ ?_
        rotate_left
        · intro wx hSx
          obtain ⟨hcx, hfx, hzx⟩ := bcell hSx
          go_simp
          try (with_reducible rfl)
        try simp only [Act.put, List.setIfInBounds_toArray, List.set_cons_zero, List.set_cons_succ]
        refine q_w (v := ?_) (by rfl) ?_ ?_
        rotate_left
        · intro wx hSx
          obtain ⟨hcx, hfx, hzx⟩ := bcell hSx
          go_simp
          try (with_reducible rfl)
        try simp only [Act.put, List.setIfInBounds_toArray, List.set_cons_zero, List.set_cons_succ]
        refine q_w (v := ?_) (by rfl) ?_ ?_
        rotate_left
        · intro wx hSx
          obtain ⟨hcx, hfx, hzx⟩ := bcell hSx
          go_simp
          try (with_reducible rfl)
        try simp only [Act.put, List.setIfInBounds_toArray, List.set_cons_zero, List.set_cons_succ]
        refine q_w (v := ?_) (by rfl) ?_ ?_
        rotate_left
        · intro wx hSx
          obtain ⟨hcx, hfx, hzx⟩ := bcell hSx
          go_simp
          try (with_reducible rfl)
        try simp only [Act.put, List.setIfInBounds_toArray, List.set_cons_zero, List.set_cons_succ]
        refine q_w (v := ?_) (by rfl) ?_ ?_
        rotate_left
        · intro wx hSx
          obtain ⟨hcx, hfx, hzx⟩ := bcell hSx
          go_simp
          try (with_reducible rfl)
        try simp only [Act.put, List.setIfInBounds_toArray, List.set_cons_zero, List.set_cons_succ]
        refine q_w (v := ?_) (by rfl) ?_ ?_
        rotate_left
        · intro wx hSx
          obtain ⟨hcx, hfx, hzx⟩ := bcell hSx
          go_simp
          try (with_reducible rfl)
        try simp only [Act.put, List.setIfInBounds_toArray, List.set_cons_zero, List.set_cons_succ]
        refine q_nil (fun w1 hb1 => ?_)
        obtain ⟨hc1, hf1, hz1⟩ := bcell hb1
        go_wp2_with (go_at_call 38; refine (require_yes _).mono ?_; rintro e w2 ⟨rfl, rfl⟩)
        go_ret2
        exact WiresRes.yes O2.out R.out.1 R.out.2 (by (repeat (first | assumption | exact Below.refl _ _ | (refine bl_alloc ?_ _) | (refine Below.drew ?_) | (refine bl_drewN ?_ _) | (refine bl_set ?_ (by first | (simp; done) | omega | (simp; omega)) _) | (refine bl_trans ?_ (by assumption)) | (refine bl_step ?_ (by assumption) (by first | omega | exact Below.size (by assumption) | (simp; omega) | (simp; exact Below.size (by assumption)))))))
      · have O2 : Hid (okW M N = false) := by show okW M N = false; rw [O.out]; exact decide_eq_false h4
        have h4' : (F + (N.e - M.e)) % 2 = 1 := by clear hL; omega
        clear h4
        go_enter Try.func84, Try.ntmps84
        go_wp2
        refine wp_region_quietA (by kernel_rfl) (by kernel_rfl) ?_
        refine q_w (v := ?_) (by rfl) ?_ ?_
        rotate_left
        · intro wx hSx
          obtain ⟨hcx, hfx, hzx⟩ := bcell hSx
          go_simp
          try (with_reducible rfl)
        try simp only [Act.put, List.setIfInBounds_toArray, List.set_cons_zero, List.set_cons_succ]
        refine q_w (v := ?_) (by rfl) ?_ ?_
        rotate_left
        · intro wx hSx
          obtain ⟨hcx, hfx, hzx⟩ := bcell hSx
          go_simp
          try (with_reducible rfl)
        try simp only [Act.put, List.setIfInBounds_toArray, List.set_cons_zero, List.set_cons_succ]
        refine q_w (v := ?_) (by rfl) ?_ ?_
        rotate_left
        · intro wx hSx
          obtain ⟨hcx, hfx, hzx⟩ := bcell hSx
          go_simp
          try (with_reducible rfl)
        try simp only [Act.put, List.setIfInBounds_toArray, List.set_cons_zero, List.set_cons_succ]
        refine q_w (v := ?_) (by rfl) ?_ ?_
        rotate_left
        · intro wx hSx
          obtain ⟨hcx, hfx, hzx⟩ := bcell hSx
          go_simp
          try (with_reducible rfl)
        try simp only [Act.put, List.setIfInBounds_toArray, List.set_cons_zero, List.set_cons_succ]
        refine q_c (by rfl) (fun wx hSx => keepB hSx (Nat.le_refl _) (CF.out _)) (fun wx hSx => by go_simp <;> (repeat' (first | rfl | apply And.intro))) ?_
        try simp only [Act.put, List.setIfInBounds_toArray, List.set_cons_zero, List.set_cons_succ]
        refine q_w (v := ?_) (by rfl) ?_ ?_
        rotate_left
        · intro wx hSx
          obtain ⟨hcx, hfx, hzx⟩ := bcell hSx
          go_simp
          try (with_reducible rfl)
        try simp only [Act.put, List.setIfInBounds_toArray, List.set_cons_zero, List.set_cons_succ]
        refine q_w (v := ?_) (by rfl) ?_ ?_
        rotate_left
        · intro wx hSx
          obtain ⟨hcx, hfx, hzx⟩ := bcell hSx
          go_simp
          try (with_reducible rfl)
        try simp only [Act.put, List.setIfInBounds_toArray, List.set_cons_zero, List.set_cons_succ]
        refine q_w (v := ?_) (by rfl) ?_ ?_
        rotate_left
        · intro wx hSx
          obtain ⟨hcx, hfx, hzx⟩ := bcell hSx
          go_simp
          try (with_reducible rfl)
        try simp only [Act.put, List.setIfInBounds_toArray, List.set_cons_zero, List.set_cons_succ]
        refine q_w (v := ?_) (by rfl) ?_ ?_
        rotate_left
        · intro wx hSx
          obtain ⟨hcx, hfx, hzx⟩ := bcell hSx
          go_simp
          try (with_reducible rfl)
        try simp only [Act.put, List.setIfInBounds_toArray, List.set_cons_zero, List.set_cons_succ]
        refine q_w (v := ?_) (by rfl) ?_ ?_
        rotate_left
        · intro wx hSx
          obtain ⟨hcx, hfx, hzx⟩ := bcell hSx
          go_simp
          try (with_reducible rfl)
        try simp only [Act.put, List.setIfInBounds_toArray, List.set_cons_zero, List.set_cons_succ]
        refine q_w (v := ?_) (by rfl) ?_ ?_
        rotate_left
        · intro wx hSx
          obtain ⟨hcx, hfx, hzx⟩ := bcell hSx
          go_simp
          try (with_reducible rfl)
        try simp only [Act.put, List.setIfInBounds_toArray, List.set_cons_zero, List.set_cons_succ]
        refine q_w (v := ?_) (by rfl) ?_ ?_
        rotate_left
        · intro wx hSx
          obtain ⟨hcx, hfx, hzx⟩ := bcell hSx
          go_simp
          try (with_reducible rfl)
        try simp only [Act.put, List.setIfInBounds_toArray, List.set_cons_zero, List.set_cons_succ]
        refine q_nil (fun w1 hb1 => ?_)
        obtain ⟨hc1, hf1, hz1⟩ := bcell hb1
        go_wp2_with (go_at_call 38; refine (require_no _).mono ?_; rintro e w2 ⟨⟨u, pv, rfl⟩, rfl⟩)
        exact ⟨rfl, .inr ⟨O2.out, _, _, rfl⟩, by (repeat (first | assumption | exact Below.refl _ _ | (refine bl_alloc ?_ _) | (refine Below.drew ?_) | (refine bl_drewN ?_ _) | (refine bl_set ?_ (by first | (simp; done) | omega | (simp; omega)) _) | (refine bl_trans ?_ (by assumption)) | (refine bl_step ?_ (by assumption) (by first | omega | exact Below.size (by assumption) | (simp; omega) | (simp; exact Below.size (by assumption))))))⟩
end Go.Proofs.Ytkkeodceihjbgaa
