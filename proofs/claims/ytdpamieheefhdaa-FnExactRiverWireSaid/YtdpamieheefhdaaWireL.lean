/-
  Contract: the program's wire to the left.
-/
import Derived.Test.YtdpamieheefhdaaMirPts
namespace Go.Proofs.Ytdpamieheefhdaa
set_option linter.unusedSimpArgs false
set_option linter.unusedVariables false
open Go.ChangeShapes Go.WideShapes Go.ChangeAt Go.RowKit Go.Shelf Go.Sort

theorem OwnL.cellsAt2 {w : World} {base g c : Nat} {L : List Pt} (h : OwnL w base (.slice (some ⟨g, 0, none⟩) L.length c) L) {i : Nat} (hi : i < L.length) :
    w.cell? ⟨g, i * 2, none⟩ = some (.int .i64 (L.getD i (0, 0)).1) ∧ w.cell? ⟨g, i * 2 + 1, none⟩ = some (.int .i64 (L.getD i (0, 0)).2) := by
  obtain ⟨A', c', e, ho⟩ := own3_of h
  injection e with e1 e2 e3
  obtain ⟨g', e', hg, hP⟩ := ho (by omega)
  rw [← e1] at e'
  injection e' with e'; injection e' with e'
  subst e'
  exact hP.at_ hi hi
theorem wlS {w wr wr' : World} {a b : Value} {b0 : Nat} (h : wr.cell? ⟨b0, 0, none⟩ = some a ∧ wr.cell? ⟨b0, 1, none⟩ = some b ∧ Below w.heap.size w wr) (hs : Below wr.heap.size wr wr') :
    wr'.cell? ⟨b0, 0, none⟩ = some a ∧ wr'.cell? ⟨b0, 1, none⟩ = some b ∧ Below w.heap.size w wr' := by
  obtain ⟨h0, h1, h3⟩ := h
  have l0 : b0 < wr.heap.size := by
    rcases Nat.lt_or_ge b0 wr.heap.size with h | h
    · exact h
    · simp [World.cell?, Array.getElem?_eq_none h] at h0
  exact ⟨(hs.cell (p := ⟨b0, 0, none⟩) l0).trans h0, (hs.cell (p := ⟨b0, 1, none⟩) l0).trans h1, h3.trans (hs.mono h3.size)⟩
set_option maxRecDepth 100000 in
set_option maxHeartbeats 1600000 in
/-- A wire to the left. -/
theorem wireL_any (T B : List Int) (n i t bT oT bB oB c c' : Nat) (w : World) (HT : Hid (T.length = n)) (HB : Hid (B.length = n)) (hn : n ≤ 20) (ht : t ≤ 20) (hi : i < n) (hbT : ∀ j, 0 ≤ T.getD j 0 ∧ T.getD j 0 ≤ 99) (hbB : ∀ j, 0 ≤ B.getD j 0 ∧ B.getD j 0 ≤ 99)
    (hp : IntsAt w w.heap.size (some ⟨bT, oT, none⟩) T) (hq : IntsAt w w.heap.size (some ⟨bB, oB, none⟩) B)
    (hT : bT < w.heap.size ∧ ∀ j, j < n → w.cell? ⟨bT, oT + j, none⟩ = some (.int .i64 (T.getD j 0))) (hB : bB < w.heap.size ∧ ∀ j, j < n → w.cell? ⟨bB, oB + j, none⟩ = some (.int .i64 (B.getD j 0)))
    (ha : AscB B n) (hle : ¬ B.getD i 0 ≤ T.getD i 0) :
    Calls Try.prog 39 #[.agg #[.slice (some ⟨bT, oT, none⟩) n c, .slice (some ⟨bB, oB, none⟩) n c'], .int .i64 t, .int .i64 i] w (OwnPost (wireP T B n i t) w) := by
  have hRT : MirRow T (mirL T) n := by have h := mirL_row T; rw [HT.out] at h; exact h
  have hRB : MirRow B (mirL B) n := by have h := mirL_row B; rw [HB.out] at h; exact h
  have hle' : (mirL B).getD (n - 1 - i) 0 ≤ (mirL T).getD (n - 1 - i) 0 := by
    rw [hRT _ (by omega), hRB _ (by omega), show n - 1 - (n - 1 - i) = i by omega]; omega
  have ha' := ha.mir hRB
  have hM := wireP_mir t hi hRT hRB
  have HW : Hid (∀ (g1 g2 : Nat) (wx : World), NBlk wx g1 (mirL T) n → NBlk wx g2 (mirL B) n → Calls Try.prog 69 #[.agg #[.slice (some ⟨g1, 0, none⟩) n n, .slice (some ⟨g2, 0, none⟩) n n], .int .i64 t, .int .i64 ((n - 1 - i : Nat) : Int)] wx (OwnPost (wireP (mirL T) (mirL B) n (n - 1 - i) t) wx)) := fun g1 g2 wx h1 h2 => by
    have h := wireToRight_any (mirL T) (mirL B) n (n - 1 - i) t g1 0 g2 0 n n wx hn ht (by omega) (mirL_in hbT) (mirL_in hbB) ⟨h1.lt, fun j hj => by rw [Nat.zero_add]; exact h1.at_ hj (by rw [mirL_len, HT.out]; exact hj)⟩ ⟨h2.lt, fun j hj => by rw [Nat.zero_add]; exact h2.at_ hj (by rw [mirL_len, HB.out]; exact hj)⟩ (fun j _ => rAt_in ha' (mirL_in hbT) (mirL_in hbB) hle' j)
    rw [wlkL_stops t (by omega) ha' hle'] at h
    exact h
  have HV : Hid (∀ wx, Below w.heap.size w wx → Calls Try.prog 70 #[.agg #[.slice (some ⟨bT, oT, none⟩) n c, .slice (some ⟨bB, oB, none⟩) n c']] wx (NewRiver (mirL T) (mirL B) n wx)) := fun wx hb => mirrored_any _ _ T B n c c' wx (hp.to hb) (hq.to hb) HT HB (by omega) hn hbT hbB
  have hLp : ∀ x ∈ wireP (mirL T) (mirL B) n (n - 1 - i) t, isPt x.1 x.2 = true := by
    rw [← wlkL_stops t (by omega) ha' hle']
    exact wlkL_grid (stops_pt (fun j _ => rAt_in ha' (mirL_in hbT) (mirL_in hbB) hle' j) ht)
  have hL0 : 0 < (wireP (mirL T) (mirL B) n (n - 1 - i) t).length := by unfold wireP; rw [List.length_append]; simp
  have hLn : (wireP (mirL T) (mirL B) n (n - 1 - i) t).length ≤ 3000 := by
    have h := wirL_len (mirL T) (mirL B) n (n - 1 - i) t
    unfold wireP; rw [List.length_append, List.length_singleton]; omega
  obtain ⟨L, hL⟩ : ∃ L, wireP (mirL T) (mirL B) n (n - 1 - i) t = L := ⟨_, rfl⟩
  rw [hL] at HW hM hLp hL0 hLn
  have HLp := Lib.hid hLp
  clear hLp
  have HM := Lib.hid hM
  have hb1 : Below w.heap.size w (w.alloc (.cells #[.slice (some ⟨bT, oT, none⟩) n c, .slice (some ⟨bB, oB, none⟩) n c'] 60)) := by (repeat (first | assumption | exact Below.refl _ _ | (refine bl_alloc ?_ _) | (refine Below.drew ?_) | (refine bl_drewN ?_ _) | (refine bl_set ?_ (by first | (simp; done) | omega | (simp; omega)) _) | (refine bl_trans ?_ (by assumption)) | (refine bl_step ?_ (by assumption) (by first | omega | exact Below.size (by assumption) | (simp; omega) | (simp; exact Below.size (by assumption))))))
  have t0 := (hb1.cell (p := ⟨bT, oT + i, none⟩) hT.1).trans (hT.2 i hi)
  have s0 := (hb1.cell (p := ⟨bB, oB + i, none⟩) hB.1).trans (hB.2 i hi)
  have q0 : (w.alloc (.cells #[.slice (some ⟨bT, oT, none⟩) n c, .slice (some ⟨bB, oB, none⟩) n c'] 60)).cell? ⟨w.heap.size, 0, none⟩ = some (.slice (some ⟨bT, oT, none⟩) n c) := by go_simp
  have q1 : (w.alloc (.cells #[.slice (some ⟨bT, oT, none⟩) n c, .slice (some ⟨bB, oB, none⟩) n c'] 60)).cell? ⟨w.heap.size, 1, none⟩ = some (.slice (some ⟨bB, oB, none⟩) n c') := by go_simp
  have hiI : (i : Int) < (n : Int) := by omega
  have hi0 : (0 : Int) ≤ (i : Int) := by omega
  have e1 : IntKind.i64.wrap ((n : Int) - 1) = (n : Int) - 1 := IntWalk.i64_in _ (by omega)
  have e2 : IntKind.i64.wrap ((n : Int) - 1 - (i : Int)) = ((n - 1 - i : Nat) : Int) := by rw [IntWalk.i64_in _ (by omega)]; omega
  clear hT hB hbT hbB ha hp hq hM hL hle' ha' hRT hRB
  generalize T.getD i 0 = xt at *
  generalize B.getD i 0 = xb at *
  have hd : decide (xb ≤ xt) = false := by simpa using hle
  go_enter Try.func39, Try.ntmps39
  go_wp2_with fail
  generalize (w.alloc (.cells #[.slice (some ⟨bT, oT, none⟩) n c, .slice (some ⟨bB, oB, none⟩) n c'] 60)) = w1 at *
  have hS1 : w1.cell? ⟨w.heap.size, 0, none⟩ = some (.slice (some ⟨bT, oT, none⟩) n c) ∧ w1.cell? ⟨w.heap.size, 1, none⟩ = some (.slice (some ⟨bB, oB, none⟩) n c') ∧ Below w.heap.size w w1 := ⟨q0, q1, hb1⟩
  go_quiet (fail)
  go_wp2_with fail
  have hS2 := wlS hS1 (show Below w1.heap.size w1 (w1.drewN nq) by (repeat (first | assumption | exact Below.refl _ _ | (refine bl_alloc ?_ _) | (refine Below.drew ?_) | (refine bl_drewN ?_ _) | (refine bl_set ?_ (by first | (simp; done) | omega | (simp; omega)) _) | (refine bl_trans ?_ (by assumption)) | (refine bl_step ?_ (by assumption) (by first | omega | exact Below.size (by assumption) | (simp; omega) | (simp; exact Below.size (by assumption)))))))
  clear t0 s0 q0 q1 hb1 hS1
  generalize w1.drewN nq = w2 at *
  go_cut [7] (fun s7 wx => OwnL wx w.heap.size s7 L ∧ Below w.heap.size w wx)
  case first =>
    refine (wpIn_wide (n := 3)).1 (wpIn_region_tree (fun wx => wx.cell? ⟨w.heap.size, 0, none⟩ = some (.slice (some ⟨bT, oT, none⟩) n c) ∧ wx.cell? ⟨w.heap.size, 1, none⟩ = some (.slice (some ⟨bB, oB, none⟩) n c') ∧ Below w.heap.size w wx)
      (Pl.takes [0, 2, 3, 4, 5, 6, 7, 8] (.alone 1 (.alone 9 (Pl.takes [10] .done))))
      (by kernel_rfl) (by kernel_rfl) (by kernel_rfl) (wlS hS2 ((Below.refl _ _).drew)) (fun hS0 => ?_))
    refine tplan_w (v := ?_) rfl (by rfl) ?_ ?_
    rotate_left
    · intro wx hSx
      try dsimp only at hSx
      go_simp
      try (with_reducible rfl)
    try simp only [Act.put, List.setIfInBounds_toArray, List.set_cons_zero, List.set_cons_succ]
    refine tplan_w (v := ?_) rfl (by rfl) ?_ ?_
    rotate_left
    · intro wx hSx
      try dsimp only at hSx
      go_simp
      try (with_reducible rfl)
    try simp only [Act.put, List.setIfInBounds_toArray, List.set_cons_zero, List.set_cons_succ]
    refine tplan_w (v := ?_) rfl (by rfl) ?_ ?_
    rotate_left
    · intro wx hSx
      try dsimp only at hSx
      go_simp
      try (with_reducible rfl)
    try simp only [Act.put, List.setIfInBounds_toArray, List.set_cons_zero, List.set_cons_succ]
    refine tplan_w (v := ?_) rfl (by rfl) ?_ ?_
    rotate_left
    · intro wx hSx
      try dsimp only at hSx
      go_simp
      try (with_reducible rfl)
    try simp only [Act.put, List.setIfInBounds_toArray, List.set_cons_zero, List.set_cons_succ]
    refine tplan_w (v := ?_) rfl (by rfl) ?_ ?_
    rotate_left
    · intro wx hSx
      try dsimp only at hSx
      go_simp
      try (with_reducible rfl)
    try simp only [Act.put, List.setIfInBounds_toArray, List.set_cons_zero, List.set_cons_succ]
    refine tplan_w (v := ?_) rfl (by rfl) ?_ ?_
    rotate_left
    · intro wx hSx
      try dsimp only at hSx
      go_simp
      try (with_reducible rfl)
    try simp only [Act.put, List.setIfInBounds_toArray, List.set_cons_zero, List.set_cons_succ]
    refine tplan_w (v := ?_) rfl (by rfl) ?_ ?_
    rotate_left
    · intro wx hSx
      try dsimp only at hSx
      go_simp
      try (with_reducible rfl)
    try simp only [Act.put, List.setIfInBounds_toArray, List.set_cons_zero, List.set_cons_succ]
    refine tplan_w (v := ?_) rfl (by rfl) ?_ ?_
    rotate_left
    · intro wx hSx
      try dsimp only at hSx
      go_simp
      try (with_reducible rfl)
    try simp only [Act.put, List.setIfInBounds_toArray, List.set_cons_zero, List.set_cons_succ]
    refine tplan_b rfl (fun K hK => ?_)
    go_simp
    refine (HV.out _ hS0.2.2).mono ?_
    rintro e w20 ⟨g1, g2, rfl, hG1, hG2, hb20⟩
    have S20 := wlS hS0 hb20
    refine hK _ _ ⟨S20, ?_⟩
    clear hK K
    try simp only [Act.put, List.setIfInBounds_toArray, List.set_cons_zero, List.set_cons_succ]
    refine tplan_b rfl (fun K hK => ?_)
    go_simp
    refine (HW.out g1 g2 _ hG1 hG2).mono ?_
    rintro e w21 ⟨v, rfl, hO, hb21⟩
    have S21 := wlS S20 hb21
    refine hK _ _ ⟨S21, ?_⟩
    clear hK K
    try simp only [Act.put, List.setIfInBounds_toArray, List.set_cons_zero, List.set_cons_succ]
    refine tplan_w (v := ?_) rfl (by rfl) ?_ ?_
    rotate_left
    · intro wx hSx
      try dsimp only at hSx
      go_simp
      try (with_reducible rfl)
    try simp only [Act.put, List.setIfInBounds_toArray, List.set_cons_zero, List.set_cons_succ]
    refine tplan_end ?_
    go_wp2_with fail
    go_meet
    exact ⟨OwnL.lowR hO S20.2.2.size, S21.2.2⟩
  case rest =>
    obtain ⟨hO, hbc⟩ := hcut
    clear hS2 HV HW e1 e2 hiI hi0 hd
    obtain ⟨A9, c9, rfl, hO9, hc9⟩ := hO.cap
    obtain ⟨g, rfl, hg, _⟩ := hO9 hL0
    clear hO9
    obtain ⟨m, hm⟩ : ∃ m, L.length = m := ⟨_, rfl⟩
    rw [hm] at hO hc9 hLn
    rw [hm]
    go_wp2_with fail
    go_loopw [8, 36] (fun _ r wr => ∃ k : Nat, k ≤ m ∧ r = .int .i64 k ∧ OwnL wr w.heap.size (.slice (some ⟨g, 0, none⟩) m c9) (mp L k) ∧ Below w.heap.size w wr) (fun _ r _ => m - (intOf r).toNat)
    case atStart => exact ⟨0, Nat.zero_le _, rfl, hO, hbc⟩
    case round =>
      obtain ⟨k, hk, rfl, hB, hb⟩ := hrel
      by_cases hlt : k < m
      · have hl : (mp L k).length = m := by rw [mp_len]; exact hm
        have hB' : OwnL wr w.heap.size (.slice (some ⟨g, 0, none⟩) (mp L k).length c9) (mp L k) := by rw [hl]; exact hB
        obtain ⟨c0, _⟩ := hB'.cellsAt2 (i := k) (by omega)
        have f0 := hB.frz (k * 2)
        have hx : 0 ≤ ((mp L k).getD k (0, 0)).1 ∧ ((mp L k).getD k (0, 0)).1 ≤ 99 := by
          rw [mp_at L k k (by omega), if_neg (by omega)]
          have hmem : L.getD k (0, 0) ∈ L := by
            rw [List.getD_eq_getElem?_getD, List.getElem?_eq_getElem (by omega), Option.getD_some]
            exact List.getElem_mem _
          have h := isPt_iff.1 (HLp.out _ hmem)
          omega
        have hS := hB.setx hl hlt (99 - ((mp L k).getD k (0, 0)).1)
        have HS : Hid (OwnL (wr.setCell ⟨g, k * 2, none⟩ (.int .i64 (99 - ((mp L k).getD k (0, 0)).1))) w.heap.size (.slice (some ⟨g, 0, none⟩) m c9) (mp L (k + 1))) := hS
        clear hS hB hB' hl
        generalize ((mp L k).getD k (0, 0)).1 = y at *
        have hltI : (k : Int) < (m : Int) := by omega
        have hk0 : 0 ≤ (k : Int) := by omega
        have e1 : IntKind.i64.wrap (99 - y) = 99 - y := IntWalk.i64_in _ (by omega)
        go_wp2_with fail
        go_roundw
        case rel => exact ⟨k + 1, by omega, by go_num, HS.out, by (repeat (first | assumption | exact Below.refl _ _ | (refine bl_alloc ?_ _) | (refine Below.drew ?_) | (refine bl_drewN ?_ _) | (refine bl_set ?_ (by first | (simp; done) | omega | (simp; omega)) _) | (refine bl_trans ?_ (by assumption)) | (refine bl_step ?_ (by assumption) (by first | omega | exact Below.size (by assumption) | (simp; omega) | (simp; exact Below.size (by assumption))))))⟩
        case measure => simp [intOf]; omega
      · obtain rfl : k = m := by omega
        have e : mp L k = wireP T B n i t := by rw [← hm, mp_all]; exact HM.out
        rw [e] at hB
        go_wp2_with fail
        go_ret
        exact ⟨_, rfl, hB, hb⟩
end Go.Proofs.Ytdpamieheefhdaa
