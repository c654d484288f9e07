/-
  Contracts: the model's path through corners.
-/
import Derived.Test.YtfmkedmhbmcbiaaThrough
import Derived.Deep.DeepCutAuto
namespace Go.Proofs.Ytfmkedmhbmcbiaa
set_option linter.unusedSimpArgs false
set_option linter.unusedVariables false
open Go.ChangeShapes Go.WideShapes Go.ChangeAt Go.RowKit

theorem l01Sign_any (n : Int) (w : World) :
    Calls Try.prog 124 #[.int .i64 n] w fun e w' => e = .returned (.int .i64 (sg 0 n)) ∧ w = w' := by
  rcases sg_cases 0 n with ⟨h, f⟩ | ⟨h, f⟩ | ⟨h, f⟩
  all_goals
    have F := Lib.hid f
    clear f
  · have h1 : ¬ n < 0 := by omega
    go_enter Try.func124, Try.ntmps124
    go_wp2
    go_ret
    exact ⟨retI F.out.symm, rfl⟩
  · go_enter Try.func124, Try.ntmps124
    go_wp2
    go_ret
    exact ⟨retI F.out.symm, rfl⟩
  · subst h
    go_enter Try.func124, Try.ntmps124
    go_wp2
    go_ret
    exact ⟨retI F.out.symm, rfl⟩
theorem sg_zero (a b : Int) : sg 0 (b - a) = sg a b := by
  rcases sg_cases a b with ⟨h, f⟩ | ⟨h, f⟩ | ⟨h, f⟩ <;> rcases sg_cases 0 (b - a) with ⟨h', f'⟩ | ⟨h', f'⟩ | ⟨h', f'⟩ <;> rw [f, f'] <;> omega
theorem l01Sign_sub (a b : Int) (w : World) :
    Calls Try.prog 124 #[.int .i64 (b - a)] w fun e w' => e = .returned (.int .i64 (sg a b)) ∧ w = w' :=
  (l01Sign_any (b - a) w).mono fun _ _ ⟨he, hw⟩ => ⟨by rw [he, sg_zero], hw⟩
theorem PtB.set0 {w : World} {g : Nat} {p : Pt} (h : PtB w g p) (x : Int) : PtB (w.setCell ⟨g, 0, none⟩ (.int .i64 x)) g (x, p.2) := by
  unfold PtB at h ⊢
  simp [World.setCell, Array.getElem?_modify, h]
theorem PtB.set1 {w : World} {g : Nat} {p : Pt} (h : PtB w g p) (y : Int) : PtB (w.setCell ⟨g, 0 + 1, none⟩ (.int .i64 y)) g (p.1, y) := by
  unfold PtB at h ⊢
  simp [World.setCell, Array.getElem?_modify, h]
theorem PtB.far1 {w : World} {g g' o : Nat} {p : Pt} (h : PtB w g p) (hg : g ≠ g') (x : Value) : PtB (w.setCell ⟨g', o, none⟩ x) g p :=
  h.keep (Below.heap_setCell _ ⟨g', o, none⟩ _ g hg)
theorem OwnL.set1 {w : World} {base : Nat} {v : Value} {L : List Pt} (h : OwnL w base v L) {g o : Nat} (hg : Off v g) (x : Value) : OwnL (w.setCell ⟨g, o, none⟩ x) base v L :=
  World.ownsRow.kept (row := some g) h ⟨rfl, rfl, rfl, by simp, fun i hi hne => Below.heap_setCell _ ⟨g, o, none⟩ _ i (fun e => hne (by rw [e]))⟩ (by
    rcases h.2 with ⟨rfl, _⟩ | ⟨g', cap, cur, rfl, _⟩
    · exact .inl rfl
    · exact .inr hg)
theorem OwnL.cap {w : World} {base : Nat} {v : Value} {L : List Pt} (h : OwnL w base v L) : ∃ A c, v = .slice A L.length c ∧ Own3 w base A L ∧ L.length ≤ c := by
  rcases h.2 with ⟨rfl, h0⟩ | ⟨g, cap, cur, rfl, hB, hh, hn, hr⟩
  · exact ⟨none, 0, by rw [h0], fun h1 => by omega, by omega⟩
  · obtain ⟨A, c, e, ho⟩ := own3_of h
    injection e with e1 e2 e3
    subst e1; subst e3
    exact ⟨_, _, rfl, ho, hn⟩
theorem okT_bad {cs : List Pt} {k : Nat} (hk : k ≤ cs.length) (h : alnTo cs k = false) : okT cs = false := by
  cases h1 : okT cs
  · rfl
  · have := okT_aln h1
    rw [alnTo_bad hk h] at this; cases this
theorem alnTo_pts {cs : List Pt} (h : alnTo cs cs.length = true) : allPt cs = true := by
  unfold allPt
  rw [List.all_eq_true]
  intro x hx
  obtain ⟨k, hk, e⟩ := List.getElem_of_mem hx
  have h1 : alnTo cs (k + 1) = true := by
    cases h2 : alnTo cs (k + 1)
    · rw [alnTo_bad (by omega) h2] at h; cases h
    · rfl
  unfold alnTo at h1
  simp only [Bool.and_eq_true] at h1
  have h3 := h1.2.1
  simp [List.getD_eq_getElem?_getD, hk, e] at h3
  exact h3
theorem size_bad {cs : List Pt} (h : 576 < (wlkL cs).length) : isPathB (wlkL cs) = false := by
  unfold isPathB sizeB; rw [decide_eq_false (by omega)]; rfl
/-- How far the model has come: the list so far is the beginning of all points, or has grown too long. -/
def Come (cs L R : List Pt) : Prop := (L ++ R = wlkL cs ∧ L.length ≤ 577) ∨ (L.length = 577 ∧ 576 < (wlkL cs).length)

def Going (cs L : List Pt) (q : Pt) (m : Nat) (p : Pt) (R : List Pt) : Prop := (che p q ≤ m ∧ L ++ (seg q m p ++ R) = wlkL cs ∧ L.length ≤ 577) ∨ (L.length = 577 ∧ 576 < (wlkL cs).length)

set_option maxRecDepth 100000 in
set_option maxHeartbeats 6400000 in
theorem l01Through_any (A : Option Addr) (cs : List Pt) (c : Nat) (w : World) (hp : PtsAt w w.heap.size A cs) (hl : cs.length ≤ 1048576) :
    Calls Try.prog 97 #[.slice A cs.length c] w (SRes (thrL cs) (okT cs) w) := by
  have hlI : (cs.length : Int) ≤ 1048576 := by omega
  by_cases h0 : cs.length = 0
  · have HK : Hid (okT cs = false) := by show _ = _; unfold okT sizeB; rw [decide_eq_false (by omega)]; rfl
    refine Calls.mono (R := Fails w) ?_ fun e w' h => Fails.sres h HK.out
    have hz : ((cs.length : Int) == 0) = true := by simp [h0]
    clear h0
    go_enter Try.func97, Try.ntmps97
    go_wp2
    go_ret2
    exact ⟨rfl, by (repeat (first | assumption | exact Below.refl _ _ | (refine bl_alloc ?_ _) | (refine Below.drew ?_) | (refine bl_drewN ?_ _) | (refine bl_set ?_ (by simp) _) | (refine bl_trans ?_ (by assumption)) | (refine bl_step ?_ (by assumption) (by first | omega | exact Below.size (by assumption) | (simp; omega) | (simp; exact Below.size (by assumption))))))⟩
  have hz : ((cs.length : Int) == 0) = false := by simp; exact fun e => h0 (by simp [e])
  by_cases h5 : 576 < cs.length
  · have HK : Hid (okT cs = false) := by show _ = _; unfold okT sizeB; rw [decide_eq_false (by omega)]; rfl
    refine Calls.mono (R := Fails w) ?_ fun e w' h => Fails.sres h HK.out
    have h5I : 576 < (cs.length : Int) := by omega
    clear h0 h5
    go_enter Try.func97, Try.ntmps97
    go_wp2
    go_ret2
    exact ⟨rfl, by (repeat (first | assumption | exact Below.refl _ _ | (refine bl_alloc ?_ _) | (refine Below.drew ?_) | (refine bl_drewN ?_ _) | (refine bl_set ?_ (by simp) _) | (refine bl_trans ?_ (by assumption)) | (refine bl_step ?_ (by assumption) (by first | omega | exact Below.size (by assumption) | (simp; omega) | (simp; exact Below.size (by assumption))))))⟩
  have h5I : ¬ 576 < (cs.length : Int) := by omega
  have h5d : decide (576 < cs.length) = false := decide_eq_false h5
  have hS : sizeB cs = true := decide_eq_true (by omega)
  obtain ⟨b, off, rfl, hbB, hc⟩ := hp (by omega)
  obtain ⟨c0, c1⟩ := hc 0 (by omega)
  rw [Nat.zero_mul, Nat.add_zero] at c0 c1
  have h1I : (0 : Int) < (cs.length : Int) := by omega
  have hpos : decide (0 < cs.length) = true := decide_eq_true (by omega)
  obtain ⟨p0, hp0⟩ : ∃ p0, cs.getD 0 (0, 0) = p0 := ⟨_, rfl⟩
  rw [hp0] at c0 c1
  cases hg0 : isPt p0.1 p0.2
  · have HK : Hid (okT cs = false) := okT_bad (k := 1) (by omega) (by unfold alnTo; rw [hp0, hg0]; simp)
    refine Calls.mono (R := Fails w) ?_ fun e w' h => Fails.sres h HK.out
    have HG := Lib.hid hg0
    clear h0 h5 hS hg0 hp0 hc hp
    go_enter Try.func97, Try.ntmps97
    go_wp2_with (go_at_call 69; refine (l01Point_any _ _ _).mono ?_; rintro e w' ⟨rfl, hb'⟩; rw [HG.out])
    go_ret2
    exact ⟨rfl, by (repeat (first | assumption | exact Below.refl _ _ | (refine bl_alloc ?_ _) | (refine Below.drew ?_) | (refine bl_drewN ?_ _) | (refine bl_set ?_ (by simp) _) | (refine bl_trans ?_ (by assumption)) | (refine bl_step ?_ (by assumption) (by first | omega | exact Below.size (by assumption) | (simp; omega) | (simp; exact Below.size (by assumption))))))⟩
  have HG := Lib.hid hg0
  have HW := Lib.hid (wlkL_head (cs := cs) (by omega))
  have hWl : (wlkL cs).length ≤ 1000000 := by have := wlkL_len cs; omega
  have hn1 : 1 ≤ cs.length := by omega
  have hn5 : cs.length ≤ 576 := by omega
  have HA1 : Hid (alnTo cs 1 = true) := by show _ = _; unfold alnTo; rw [hp0, hg0]; rfl
  have HC0 : Hid (Come cs [p0] (wlk (cs.getD (1 - 1) (0, 0)) (cs.drop 1))) := .inl ⟨by rw [HW.out, hp0], by simp⟩
  have HP0 := Lib.hid hp0
  have HSz := Lib.hid hS
  clear h0 h5 hS hg0 hp0 HW
  go_enter Try.func97, Try.ntmps97
  go_wp2_with (go_at_call 69; refine (l01Point_any _ _ _).mono ?_; rintro e w1 ⟨rfl, hb1⟩; rw [HG.out]; obtain ⟨hcw, hfw, hzw⟩ := bcell hb1; refine Hid.out ?_)
  have hb2 : Below w.heap.size w (w1.alloc (.cells #[.int .i64 p0.1, .int .i64 p0.2] 34)) := by (repeat (first | assumption | exact Below.refl _ _ | (refine bl_alloc ?_ _) | (refine Below.drew ?_) | (refine bl_drewN ?_ _) | (refine bl_set ?_ (by simp) _) | (refine bl_trans ?_ (by assumption)) | (refine bl_step ?_ (by assumption) (by first | omega | exact Below.size (by assumption) | (simp; omega) | (simp; exact Below.size (by assumption))))))
  have ho2 := OwnL.one w1 w.heap.size p0 hb1.size
  clear hb1
  refine Lib.hid ?_
  go_wp2_with fail
  clear hcw hfw hzw c0 c1
  go_loopw [4, 5, 6, 7] (fun v i _ _ wr => ∃ (j : Nat) (L : List Pt), 1 ≤ j ∧ j ≤ cs.length ∧ i = .int .i64 j ∧ OwnL wr w.heap.size v L ∧ Hid (Come cs L (wlk (cs.getD (j - 1) (0, 0)) (cs.drop j))) ∧ Hid (alnTo cs j = true) ∧ Below w.heap.size w wr) (fun _ i _ _ _ => cs.length - (intOf i).toNat)
  case atStart => exact ⟨1, [p0], by omega, by omega, rfl, ho2, HC0, HA1, hb2⟩
  case round =>
    clear ho2 HC0 HA1 hb2
    obtain ⟨j, L, hj1, hj, rfl, hown, HC, HA, hb⟩ := hrel
    have hj0 : 1 ≤ (j : Int) := by omega
    have hj5 : (j : Int) ≤ 576 := by omega
    by_cases hlt : j < cs.length
    · obtain ⟨c0, c1⟩ := hc j hlt
      obtain ⟨c2, c3⟩ := hc (j - 1) (by omega)
      have d0 := (hb.cell (p := ⟨b, off + j * 2, none⟩) hbB).trans c0
      have d1 := (hb.cell (p := ⟨b, off + j * 2 + 1, none⟩) hbB).trans c1
      have hAN : ∀ q r, cs.getD j (0, 0) = q → cs.getD (j - 1) (0, 0) = r → alnTo cs (j + 1) = (isPt q.1 q.2 && alnB r q) := by
        intro q r hq hr
        unfold alnTo
        rw [HA.out, hq, hr, decide_eq_false (by omega : ¬ j = 0)]; simp
      have hrg : isPt (cs.getD (j - 1) (0, 0)).1 (cs.getD (j - 1) (0, 0)).2 = true := by
        have h1 : alnTo cs (j - 1 + 1) = true := by rw [show j - 1 + 1 = j by omega]; exact HA.out
        unfold alnTo at h1
        simp only [Bool.and_eq_true] at h1
        exact h1.2.1
      have hdrop : cs.drop j = cs.getD j (0, 0) :: cs.drop (j + 1) := by
        rw [List.drop_eq_getElem_cons hlt]; simp [List.getD_eq_getElem?_getD, hlt]
      rw [hdrop] at HC
      obtain ⟨q, hq⟩ : ∃ q, cs.getD j (0, 0) = q := ⟨_, rfl⟩
      obtain ⟨r, hr⟩ : ∃ r, cs.getD (j - 1) (0, 0) = r := ⟨_, rfl⟩
      have HAN := Lib.hid (hAN q r hq hr)
      have HQ := Lib.hid hq
      rw [hq] at d0 d1 HC
      rw [hr] at c2 c3 hrg HC
      have HRG := Lib.hid hrg
      clear hAN hrg hdrop hq hr c0 c1 HA
      have hltI : (j : Int) < (cs.length : Int) := by omega
      have hj1l : ((j - 1 : Nat) : Int) < (cs.length : Int) := by omega
      have EW : Hid (IntKind.i64.wrap ((j : Int) - 1) = ((j - 1 : Nat) : Int)) := by show _ = _; rw [IntWalk.i64_in _ (by omega)]; omega
      have o1 : OwnL (wr.alloc (.cells #[.int .i64 q.1, .int .i64 q.2] 34)) w.heap.size _ L := own_to hown ((Below.refl _ _).alloc (Nat.le_refl _) _)
      have off1 := hown.off (Nat.le_refl wr.heap.size)
      have pq1 := PtB.new wr q
      have b1 : Below w.heap.size w (wr.alloc (.cells #[.int .i64 q.1, .int .i64 q.2] 34)) := by (repeat (first | assumption | exact Below.refl _ _ | (refine bl_alloc ?_ _) | (refine Below.drew ?_) | (refine bl_drewN ?_ _) | (refine bl_set ?_ (by simp) _) | (refine bl_trans ?_ (by assumption)) | (refine bl_step ?_ (by assumption) (by first | omega | exact Below.size (by assumption) | (simp; omega) | (simp; exact Below.size (by assumption))))))
      have z1 : w.heap.size ≤ (wr.alloc (.cells #[.int .i64 q.1, .int .i64 q.2] 34)).heap.size := b1.size
      obtain ⟨bq, hbq⟩ : ∃ bq, wr.heap.size = bq := ⟨_, rfl⟩
      rw [hbq] at off1 pq1
      have HBQ := Lib.hid hbq
      have HOffQ := Lib.hid off1
      clear hbq off1 hown hb
      have u2 := (b1.cell (p := ⟨b, off + (j - 1) * 2, none⟩) hbB).trans c2
      have u3 := (b1.cell (p := ⟨b, off + (j - 1) * 2 + 1, none⟩) hbB).trans c3
      obtain ⟨u0, u1, _, _⟩ := pq1.cells
      cases hgq : isPt q.1 q.2
      · have HK : Hid (okT cs = false) := okT_bad (k := j + 1) (by omega) (by rw [HAN.out, hgq]; rfl)
        have HGQ := Lib.hid hgq
        clear hgq HAN HC
        go_wp2
        rw [HBQ.out]
        have ew := EW.out
        refine wp_region_plan (fun wx => wx.cell? ⟨bq, 0, none⟩ = some (.int .i64 q.1) ∧ wx.cell? ⟨bq, 0 + 1, none⟩ = some (.int .i64 q.2) ∧ wx.cell? ⟨b, off + (j - 1) * 2, none⟩ = some (.int .i64 r.1) ∧ wx.cell? ⟨b, off + (j - 1) * 2 + 1, none⟩ = some (.int .i64 r.2) ∧ Below w.heap.size w wx ∧ w.heap.size ≤ wx.heap.size) [(0, true), (1, false), (2, true), (3, true), (4, true), (5, true), (6, true), (7, true), (8, true), (9, true), (10, true), (11, true), (12, true), (13, true), (14, true), (15, true), (16, true), (17, true), (18, true), (19, true), (20, true), (21, true), (22, true), (23, true), (24, true)] (by kernel_rfl) (by kernel_rfl) (by kernel_rfl) (fun _ d _ _ _ h => by cases d <;> exact h) ⟨u0, u1, u2, u3, b1.drew, z1⟩ (fun hS0 => ?_)
        refine plan_w (v := ?_) rfl (by rfl) ?_ ?_
        rotate_left
        · intro wx hSx
          try dsimp only at hSx
          go_simp
          try (with_reducible rfl)
        try simp only [Act.put, List.setIfInBounds_toArray, List.set_cons_zero, List.set_cons_succ]
        refine plan_b rfl (fun K hK => ?_)
        go_simp
        refine (l01Point_any _ _ _).mono ?_
        rintro e w2 ⟨rfl, hb2⟩
        rw [HGQ.out]
        have hS1 := keep4 hS0 hb2
        refine hK _ _ ⟨hS1, ?_⟩
        clear hK K
        try simp only [Act.put, List.setIfInBounds_toArray, List.set_cons_zero, List.set_cons_succ]
        refine plan_w (v := ?_) rfl (by rfl) ?_ ?_
        rotate_left
        · intro wx hSx
          try dsimp only at hSx
          go_simp
          try (with_reducible rfl)
        try simp only [Act.put, List.setIfInBounds_toArray, List.set_cons_zero, List.set_cons_succ]
        refine plan_w (v := ?_) rfl (by rfl) ?_ ?_
        rotate_left
        · intro wx hSx
          try dsimp only at hSx
          go_simp
          try (with_reducible rfl)
        try simp only [Act.put, List.setIfInBounds_toArray, List.set_cons_zero, List.set_cons_succ]
        refine plan_u rfl (by rfl) ?_
        try simp only [Act.put, List.setIfInBounds_toArray, List.set_cons_zero, List.set_cons_succ]
        refine plan_u rfl (by rfl) ?_
        try simp only [Act.put, List.setIfInBounds_toArray, List.set_cons_zero, List.set_cons_succ]
        refine plan_u rfl (by rfl) ?_
        try simp only [Act.put, List.setIfInBounds_toArray, List.set_cons_zero, List.set_cons_succ]
        refine plan_u rfl (by rfl) ?_
        try simp only [Act.put, List.setIfInBounds_toArray, List.set_cons_zero, List.set_cons_succ]
        refine plan_u rfl (by rfl) ?_
        try simp only [Act.put, List.setIfInBounds_toArray, List.set_cons_zero, List.set_cons_succ]
        refine plan_u rfl (by rfl) ?_
        try simp only [Act.put, List.setIfInBounds_toArray, List.set_cons_zero, List.set_cons_succ]
        refine plan_u rfl (by rfl) ?_
        try simp only [Act.put, List.setIfInBounds_toArray, List.set_cons_zero, List.set_cons_succ]
        refine plan_u rfl (by rfl) ?_
        try simp only [Act.put, List.setIfInBounds_toArray, List.set_cons_zero, List.set_cons_succ]
        refine plan_u rfl (by rfl) ?_
        try simp only [Act.put, List.setIfInBounds_toArray, List.set_cons_zero, List.set_cons_succ]
        refine plan_u rfl (by rfl) ?_
        try simp only [Act.put, List.setIfInBounds_toArray, List.set_cons_zero, List.set_cons_succ]
        refine plan_u rfl (by rfl) ?_
        try simp only [Act.put, List.setIfInBounds_toArray, List.set_cons_zero, List.set_cons_succ]
        refine plan_u rfl (by rfl) ?_
        try simp only [Act.put, List.setIfInBounds_toArray, List.set_cons_zero, List.set_cons_succ]
        refine plan_u rfl (by rfl) ?_
        try simp only [Act.put, List.setIfInBounds_toArray, List.set_cons_zero, List.set_cons_succ]
        refine plan_u rfl (by rfl) ?_
        try simp only [Act.put, List.setIfInBounds_toArray, List.set_cons_zero, List.set_cons_succ]
        refine plan_u rfl (by rfl) ?_
        try simp only [Act.put, List.setIfInBounds_toArray, List.set_cons_zero, List.set_cons_succ]
        refine plan_u rfl (by rfl) ?_
        try simp only [Act.put, List.setIfInBounds_toArray, List.set_cons_zero, List.set_cons_succ]
        refine plan_u rfl (by rfl) ?_
        try simp only [Act.put, List.setIfInBounds_toArray, List.set_cons_zero, List.set_cons_succ]
        refine plan_u rfl (by rfl) ?_
        try simp only [Act.put, List.setIfInBounds_toArray, List.set_cons_zero, List.set_cons_succ]
        refine plan_u rfl (by rfl) ?_
        try simp only [Act.put, List.setIfInBounds_toArray, List.set_cons_zero, List.set_cons_succ]
        refine plan_u rfl (by rfl) ?_
        try simp only [Act.put, List.setIfInBounds_toArray, List.set_cons_zero, List.set_cons_succ]
        refine plan_w (v := ?_) rfl (by rfl) ?_ ?_
        rotate_left
        · intro wx hSx
          try dsimp only at hSx
          go_simp
          try (with_reducible rfl)
        try simp only [Act.put, List.setIfInBounds_toArray, List.set_cons_zero, List.set_cons_succ]
        refine plan_end ?_
        go_wp2
        go_ret2
        exact Fails.sres ⟨rfl, hS1.2.2.2.2.1⟩ HK.out
      have HGQ := Lib.hid hgq
      clear hgq
      cases hgood : alnB r q
      · have hx : q.1 ≠ r.1 ∧ q.2 ≠ r.2 := by
          unfold alnB at hgood
          rw [Bool.or_eq_false_iff] at hgood
          exact ⟨fun e => of_decide_eq_false hgood.1 e.symm, fun e => of_decide_eq_false hgood.2 e.symm⟩
        have hxn : (q.1 != r.1) = true := by simpa using hx.1
        have hyn : (q.2 != r.2) = true := by simpa using hx.2
        have HK : Hid (okT cs = false) := okT_bad (k := j + 1) (by omega) (by rw [HAN.out, hgood]; simp)
        clear HAN HC hx hgood
        go_wp2
        rw [HBQ.out]
        have ew := EW.out
        refine wp_region_plan (fun wx => wx.cell? ⟨bq, 0, none⟩ = some (.int .i64 q.1) ∧ wx.cell? ⟨bq, 0 + 1, none⟩ = some (.int .i64 q.2) ∧ wx.cell? ⟨b, off + (j - 1) * 2, none⟩ = some (.int .i64 r.1) ∧ wx.cell? ⟨b, off + (j - 1) * 2 + 1, none⟩ = some (.int .i64 r.2) ∧ Below w.heap.size w wx ∧ w.heap.size ≤ wx.heap.size) [(0, true), (1, false), (2, true), (3, true), (4, true), (5, true), (6, true), (7, true), (8, true), (9, true), (10, true), (11, true), (12, true), (13, true), (14, true), (15, true), (16, true), (17, true), (18, true), (19, true), (20, true), (21, true), (22, true), (23, true), (24, true)] (by kernel_rfl) (by kernel_rfl) (by kernel_rfl) (fun _ d _ _ _ h => by cases d <;> exact h) ⟨u0, u1, u2, u3, b1.drew, z1⟩ (fun hS0 => ?_)
        refine plan_w (v := ?_) rfl (by rfl) ?_ ?_
        rotate_left
        · intro wx hSx
          try dsimp only at hSx
          go_simp
          try (with_reducible rfl)
        try simp only [Act.put, List.setIfInBounds_toArray, List.set_cons_zero, List.set_cons_succ]
        refine plan_b rfl (fun K hK => ?_)
        go_simp
        refine (l01Point_any _ _ _).mono ?_
        rintro e w2 ⟨rfl, hb2⟩
        rw [HGQ.out]
        have hS1 := keep4 hS0 hb2
        refine hK _ _ ⟨hS1, ?_⟩
        clear hK K
        try simp only [Act.put, List.setIfInBounds_toArray, List.set_cons_zero, List.set_cons_succ]
        refine plan_w (v := ?_) rfl (by rfl) ?_ ?_
        rotate_left
        · intro wx hSx
          try dsimp only at hSx
          go_simp
          try (with_reducible rfl)
        try simp only [Act.put, List.setIfInBounds_toArray, List.set_cons_zero, List.set_cons_succ]
        refine plan_w (v := ?_) rfl (by rfl) ?_ ?_
        rotate_left
        · intro wx hSx
          try dsimp only at hSx
          go_simp
          try (with_reducible rfl)
        try simp only [Act.put, List.setIfInBounds_toArray, List.set_cons_zero, List.set_cons_succ]
        refine plan_w (v := ?_) rfl (by rfl) ?_ ?_
        rotate_left
        · intro wx hSx
          try dsimp only at hSx
          go_simp
          try (with_reducible rfl)
        try simp only [Act.put, List.setIfInBounds_toArray, List.set_cons_zero, List.set_cons_succ]
        refine plan_w (v := ?_) rfl (by rfl) ?_ ?_
        rotate_left
        · intro wx hSx
          try dsimp only at hSx
          go_simp
          try (with_reducible rfl)
        try simp only [Act.put, List.setIfInBounds_toArray, List.set_cons_zero, List.set_cons_succ]
        refine plan_w (v := ?_) rfl (by rfl) ?_ ?_
        rotate_left
        · intro wx hSx
          try dsimp only at hSx
          go_simp
          try (with_reducible rfl)
        try simp only [Act.put, List.setIfInBounds_toArray, List.set_cons_zero, List.set_cons_succ]
        refine plan_w (v := ?_) rfl (by rfl) ?_ ?_
        rotate_left
        · intro wx hSx
          try dsimp only at hSx
          go_simp
          try (with_reducible rfl)
        try simp only [Act.put, List.setIfInBounds_toArray, List.set_cons_zero, List.set_cons_succ]
        refine plan_w (v := ?_) rfl (by rfl) ?_ ?_
        rotate_left
        · intro wx hSx
          try dsimp only at hSx
          go_simp
          try (with_reducible rfl)
        try simp only [Act.put, List.setIfInBounds_toArray, List.set_cons_zero, List.set_cons_succ]
        refine plan_w (v := ?_) rfl (by rfl) ?_ ?_
        rotate_left
        · intro wx hSx
          try dsimp only at hSx
          go_simp
          try (with_reducible rfl)
        try simp only [Act.put, List.setIfInBounds_toArray, List.set_cons_zero, List.set_cons_succ]
        refine plan_w (v := ?_) rfl (by rfl) ?_ ?_
        rotate_left
        · intro wx hSx
          try dsimp only at hSx
          go_simp
          try (with_reducible rfl)
        try simp only [Act.put, List.setIfInBounds_toArray, List.set_cons_zero, List.set_cons_succ]
        refine plan_w (v := ?_) rfl (by rfl) ?_ ?_
        rotate_left
        · intro wx hSx
          try dsimp only at hSx
          go_simp
          try (with_reducible rfl)
        try simp only [Act.put, List.setIfInBounds_toArray, List.set_cons_zero, List.set_cons_succ]
        refine plan_w (v := ?_) rfl (by rfl) ?_ ?_
        rotate_left
        · intro wx hSx
          try dsimp only at hSx
          go_simp
          try (with_reducible rfl)
        try simp only [Act.put, List.setIfInBounds_toArray, List.set_cons_zero, List.set_cons_succ]
        refine plan_w (v := ?_) rfl (by rfl) ?_ ?_
        rotate_left
        · intro wx hSx
          try dsimp only at hSx
          go_simp
          try (with_reducible rfl)
        try simp only [Act.put, List.setIfInBounds_toArray, List.set_cons_zero, List.set_cons_succ]
        refine plan_w (v := ?_) rfl (by rfl) ?_ ?_
        rotate_left
        · intro wx hSx
          try dsimp only at hSx
          go_simp
          try (with_reducible rfl)
        try simp only [Act.put, List.setIfInBounds_toArray, List.set_cons_zero, List.set_cons_succ]
        refine plan_w (v := ?_) rfl (by rfl) ?_ ?_
        rotate_left
        · intro wx hSx
          try dsimp only at hSx
          go_simp
          try (with_reducible rfl)
        try simp only [Act.put, List.setIfInBounds_toArray, List.set_cons_zero, List.set_cons_succ]
        refine plan_w (v := ?_) rfl (by rfl) ?_ ?_
        rotate_left
        · intro wx hSx
          try dsimp only at hSx
          go_simp
          try (with_reducible rfl)
        try simp only [Act.put, List.setIfInBounds_toArray, List.set_cons_zero, List.set_cons_succ]
        refine plan_w (v := ?_) rfl (by rfl) ?_ ?_
        rotate_left
        · intro wx hSx
          try dsimp only at hSx
          go_simp
          try (with_reducible rfl)
        try simp only [Act.put, List.setIfInBounds_toArray, List.set_cons_zero, List.set_cons_succ]
        refine plan_w (v := ?_) rfl (by rfl) ?_ ?_
        rotate_left
        · intro wx hSx
          try dsimp only at hSx
          go_simp
          try (with_reducible rfl)
        try simp only [Act.put, List.setIfInBounds_toArray, List.set_cons_zero, List.set_cons_succ]
        refine plan_w (v := ?_) rfl (by rfl) ?_ ?_
        rotate_left
        · intro wx hSx
          try dsimp only at hSx
          go_simp
          try (with_reducible rfl)
        try simp only [Act.put, List.setIfInBounds_toArray, List.set_cons_zero, List.set_cons_succ]
        refine plan_w (v := ?_) rfl (by rfl) ?_ ?_
        rotate_left
        · intro wx hSx
          try dsimp only at hSx
          go_simp
          try (with_reducible rfl)
        try simp only [Act.put, List.setIfInBounds_toArray, List.set_cons_zero, List.set_cons_succ]
        refine plan_w (v := ?_) rfl (by rfl) ?_ ?_
        rotate_left
        · intro wx hSx
          try dsimp only at hSx
          go_simp
          try (with_reducible rfl)
        try simp only [Act.put, List.setIfInBounds_toArray, List.set_cons_zero, List.set_cons_succ]
        refine plan_w (v := ?_) rfl (by rfl) ?_ ?_
        rotate_left
        · intro wx hSx
          try dsimp only at hSx
          go_simp
          try (with_reducible rfl)
        try simp only [Act.put, List.setIfInBounds_toArray, List.set_cons_zero, List.set_cons_succ]
        refine plan_w (v := ?_) rfl (by rfl) ?_ ?_
        rotate_left
        · intro wx hSx
          try dsimp only at hSx
          go_simp
          try (with_reducible rfl)
        try simp only [Act.put, List.setIfInBounds_toArray, List.set_cons_zero, List.set_cons_succ]
        refine plan_w (v := ?_) rfl (by rfl) ?_ ?_
        rotate_left
        · intro wx hSx
          try dsimp only at hSx
          go_simp
          try (with_reducible rfl)
        try simp only [Act.put, List.setIfInBounds_toArray, List.set_cons_zero, List.set_cons_succ]
        refine plan_end ?_
        go_wp2
        go_ret2
        exact Fails.sres ⟨rfl, hS1.2.2.2.2.1⟩ HK.out
      have HAJ : Hid (alnTo cs (j + 1) = true) := by show _ = _; rw [HAN.out, HGQ.out, hgood]; rfl
      have hxy : q.1 = r.1 ∨ q.2 = r.2 := by
        unfold alnB at hgood
        simp only [Bool.or_eq_true, decide_eq_true_eq] at hgood
        omega
      have HC1 : Hid (Going cs L q 100 r (wlk q (cs.drop (j + 1)))) := by
        rcases HC.out with ⟨h1, h2⟩ | h1
        · exact .inl ⟨che_grid HRG.out HGQ.out, h1, h2⟩
        · exact .inr h1
      clear HAN HC hgood
      go_upto_region 8 with (fail)
      rw [HBQ.out]
      obtain ⟨A2, c2', rfl, _, _⟩ := o1.cap
      go_cut [63] (fun v wx => v = .bool false ∧ OwnL wx w.heap.size (.slice A2 L.length c2') L ∧ PtB wx bq q ∧ Below w.heap.size w wx ∧ bq < wx.heap.size)
      case first =>
        have od : OwnL (World.drew (wr.alloc (.cells #[.int .i64 q.1, .int .i64 q.2] 34))) w.heap.size (.slice A2 L.length c2') L := o1
        have pd : PtB (World.drew (wr.alloc (.cells #[.int .i64 q.1, .int .i64 q.2] 34))) bq q := pq1
        rcases hxy with hx | hy
        · have hxn : (q.1 != r.1) = false := by simpa using hx
          clear hx
          have ew := EW.out
          refine wp_region_plan (fun wx => wx.cell? ⟨bq, 0, none⟩ = some (.int .i64 q.1) ∧ wx.cell? ⟨bq, 0 + 1, none⟩ = some (.int .i64 q.2) ∧ wx.cell? ⟨b, off + (j - 1) * 2, none⟩ = some (.int .i64 r.1) ∧ wx.cell? ⟨b, off + (j - 1) * 2 + 1, none⟩ = some (.int .i64 r.2) ∧ Below w.heap.size w wx ∧ w.heap.size ≤ wx.heap.size) [(0, true), (1, false), (2, true), (3, true), (4, true), (5, true), (6, true), (7, true), (8, true), (9, true), (10, true), (11, true), (12, true), (13, true), (14, true), (15, true), (16, true), (17, true), (18, true), (19, true), (20, true), (21, true), (22, true), (23, true), (24, true)] (by kernel_rfl) (by kernel_rfl) (by kernel_rfl) (fun _ d _ _ _ h => by cases d <;> exact h) ⟨u0, u1, u2, u3, b1.drew, z1⟩ (fun hS0 => ?_)
          refine plan_w (v := ?_) rfl (by rfl) ?_ ?_
          rotate_left
          · intro wx hSx
            try dsimp only at hSx
            go_simp
            try (with_reducible rfl)
          try simp only [Act.put, List.setIfInBounds_toArray, List.set_cons_zero, List.set_cons_succ]
          refine plan_b rfl (fun K hK => ?_)
          go_simp
          refine (l01Point_any _ _ _).mono ?_
          rintro e w2 ⟨rfl, hb2⟩
          rw [HGQ.out]
          have hS1 := keep4 hS0 hb2
          refine hK _ _ ⟨hS1, ?_⟩
          clear hK K
          try simp only [Act.put, List.setIfInBounds_toArray, List.set_cons_zero, List.set_cons_succ]
          refine plan_w (v := ?_) rfl (by rfl) ?_ ?_
          rotate_left
          · intro wx hSx
            try dsimp only at hSx
            go_simp
            try (with_reducible rfl)
          try simp only [Act.put, List.setIfInBounds_toArray, List.set_cons_zero, List.set_cons_succ]
          refine plan_w (v := ?_) rfl (by rfl) ?_ ?_
          rotate_left
          · intro wx hSx
            try dsimp only at hSx
            go_simp
            try (with_reducible rfl)
          try simp only [Act.put, List.setIfInBounds_toArray, List.set_cons_zero, List.set_cons_succ]
          refine plan_w (v := ?_) rfl (by rfl) ?_ ?_
          rotate_left
          · intro wx hSx
            try dsimp only at hSx
            go_simp
            try (with_reducible rfl)
          try simp only [Act.put, List.setIfInBounds_toArray, List.set_cons_zero, List.set_cons_succ]
          refine plan_w (v := ?_) rfl (by rfl) ?_ ?_
          rotate_left
          · intro wx hSx
            try dsimp only at hSx
            go_simp
            try (with_reducible rfl)
          try simp only [Act.put, List.setIfInBounds_toArray, List.set_cons_zero, List.set_cons_succ]
          refine plan_w (v := ?_) rfl (by rfl) ?_ ?_
          rotate_left
          · intro wx hSx
            try dsimp only at hSx
            go_simp
            try (with_reducible rfl)
          try simp only [Act.put, List.setIfInBounds_toArray, List.set_cons_zero, List.set_cons_succ]
          refine plan_w (v := ?_) rfl (by rfl) ?_ ?_
          rotate_left
          · intro wx hSx
            try dsimp only at hSx
            go_simp
            try (with_reducible rfl)
          try simp only [Act.put, List.setIfInBounds_toArray, List.set_cons_zero, List.set_cons_succ]
          refine plan_w (v := ?_) rfl (by rfl) ?_ ?_
          rotate_left
          · intro wx hSx
            try dsimp only at hSx
            go_simp
            try (with_reducible rfl)
          try simp only [Act.put, List.setIfInBounds_toArray, List.set_cons_zero, List.set_cons_succ]
          refine plan_w (v := ?_) rfl (by rfl) ?_ ?_
          rotate_left
          · intro wx hSx
            try dsimp only at hSx
            go_simp
            try (with_reducible rfl)
          try simp only [Act.put, List.setIfInBounds_toArray, List.set_cons_zero, List.set_cons_succ]
          refine plan_w (v := ?_) rfl (by rfl) ?_ ?_
          rotate_left
          · intro wx hSx
            try dsimp only at hSx
            go_simp
            try (with_reducible rfl)
          try simp only [Act.put, List.setIfInBounds_toArray, List.set_cons_zero, List.set_cons_succ]
          refine plan_w (v := ?_) rfl (by rfl) ?_ ?_
          rotate_left
          · intro wx hSx
            try dsimp only at hSx
            go_simp
            try (with_reducible rfl)
          try simp only [Act.put, List.setIfInBounds_toArray, List.set_cons_zero, List.set_cons_succ]
          refine plan_w (v := ?_) rfl (by rfl) ?_ ?_
          rotate_left
          · intro wx hSx
            try dsimp only at hSx
            go_simp
            try (with_reducible rfl)
          try simp only [Act.put, List.setIfInBounds_toArray, List.set_cons_zero, List.set_cons_succ]
          refine plan_w (v := ?_) rfl (by rfl) ?_ ?_
          rotate_left
          · intro wx hSx
            try dsimp only at hSx
            go_simp
            try (with_reducible rfl)
          try simp only [Act.put, List.setIfInBounds_toArray, List.set_cons_zero, List.set_cons_succ]
          refine plan_u rfl (by rfl) ?_
          try simp only [Act.put, List.setIfInBounds_toArray, List.set_cons_zero, List.set_cons_succ]
          refine plan_u rfl (by rfl) ?_
          try simp only [Act.put, List.setIfInBounds_toArray, List.set_cons_zero, List.set_cons_succ]
          refine plan_u rfl (by rfl) ?_
          try simp only [Act.put, List.setIfInBounds_toArray, List.set_cons_zero, List.set_cons_succ]
          refine plan_u rfl (by rfl) ?_
          try simp only [Act.put, List.setIfInBounds_toArray, List.set_cons_zero, List.set_cons_succ]
          refine plan_u rfl (by rfl) ?_
          try simp only [Act.put, List.setIfInBounds_toArray, List.set_cons_zero, List.set_cons_succ]
          refine plan_u rfl (by rfl) ?_
          try simp only [Act.put, List.setIfInBounds_toArray, List.set_cons_zero, List.set_cons_succ]
          refine plan_u rfl (by rfl) ?_
          try simp only [Act.put, List.setIfInBounds_toArray, List.set_cons_zero, List.set_cons_succ]
          refine plan_u rfl (by rfl) ?_
          try simp only [Act.put, List.setIfInBounds_toArray, List.set_cons_zero, List.set_cons_succ]
          refine plan_u rfl (by rfl) ?_
          try simp only [Act.put, List.setIfInBounds_toArray, List.set_cons_zero, List.set_cons_succ]
          refine plan_w (v := ?_) rfl (by rfl) ?_ ?_
          rotate_left
          · intro wx hSx
            try dsimp only at hSx
            go_simp
            try (with_reducible rfl)
          try simp only [Act.put, List.setIfInBounds_toArray, List.set_cons_zero, List.set_cons_succ]
          refine plan_w (v := ?_) rfl (by rfl) ?_ ?_
          rotate_left
          · intro wx hSx
            try dsimp only at hSx
            go_simp
            try (with_reducible rfl)
          try simp only [Act.put, List.setIfInBounds_toArray, List.set_cons_zero, List.set_cons_succ]
          refine plan_end ?_
          go_wp2
          go_meet
          exact ⟨rfl, own_to od hb2, pd.to hb2, hS1.2.2.2.2.1, (pd.to hb2).lt⟩
        · have hyn : (q.2 != r.2) = false := by simpa using hy
          clear hy
          by_cases hx : q.1 = r.1
          · have hxn : (q.1 != r.1) = false := by simpa using hx
            clear hx
            have ew := EW.out
            refine wp_region_plan (fun wx => wx.cell? ⟨bq, 0, none⟩ = some (.int .i64 q.1) ∧ wx.cell? ⟨bq, 0 + 1, none⟩ = some (.int .i64 q.2) ∧ wx.cell? ⟨b, off + (j - 1) * 2, none⟩ = some (.int .i64 r.1) ∧ wx.cell? ⟨b, off + (j - 1) * 2 + 1, none⟩ = some (.int .i64 r.2) ∧ Below w.heap.size w wx ∧ w.heap.size ≤ wx.heap.size) [(0, true), (1, false), (2, true), (3, true), (4, true), (5, true), (6, true), (7, true), (8, true), (9, true), (10, true), (11, true), (12, true), (13, true), (14, true), (15, true), (16, true), (17, true), (18, true), (19, true), (20, true), (21, true), (22, true), (23, true), (24, true)] (by kernel_rfl) (by kernel_rfl) (by kernel_rfl) (fun _ d _ _ _ h => by cases d <;> exact h) ⟨u0, u1, u2, u3, b1.drew, z1⟩ (fun hS0 => ?_)
            refine plan_w (v := ?_) rfl (by rfl) ?_ ?_
            rotate_left
            · intro wx hSx
              try dsimp only at hSx
              go_simp
              try (with_reducible rfl)
            try simp only [Act.put, List.setIfInBounds_toArray, List.set_cons_zero, List.set_cons_succ]
            refine plan_b rfl (fun K hK => ?_)
            go_simp
            refine (l01Point_any _ _ _).mono ?_
            rintro e w2 ⟨rfl, hb2⟩
            rw [HGQ.out]
            have hS1 := keep4 hS0 hb2
            refine hK _ _ ⟨hS1, ?_⟩
            clear hK K
            try simp only [Act.put, List.setIfInBounds_toArray, List.set_cons_zero, List.set_cons_succ]
            refine plan_w (v := ?_) rfl (by rfl) ?_ ?_
            rotate_left
            · intro wx hSx
              try dsimp only at hSx
              go_simp
              try (with_reducible rfl)
            try simp only [Act.put, List.setIfInBounds_toArray, List.set_cons_zero, List.set_cons_succ]
            refine plan_w (v := ?_) rfl (by rfl) ?_ ?_
            rotate_left
            · intro wx hSx
              try dsimp only at hSx
              go_simp
              try (with_reducible rfl)
            try simp only [Act.put, List.setIfInBounds_toArray, List.set_cons_zero, List.set_cons_succ]
            refine plan_w (v := ?_) rfl (by rfl) ?_ ?_
            rotate_left
            · intro wx hSx
              try dsimp only at hSx
              go_simp
              try (with_reducible rfl)
            try simp only [Act.put, List.setIfInBounds_toArray, List.set_cons_zero, List.set_cons_succ]
            refine plan_w (v := ?_) rfl (by rfl) ?_ ?_
            rotate_left
            · intro wx hSx
              try dsimp only at hSx
              go_simp
              try (with_reducible rfl)
            try simp only [Act.put, List.setIfInBounds_toArray, List.set_cons_zero, List.set_cons_succ]
            refine plan_w (v := ?_) rfl (by rfl) ?_ ?_
            rotate_left
            · intro wx hSx
              try dsimp only at hSx
              go_simp
              try (with_reducible rfl)
            try simp only [Act.put, List.setIfInBounds_toArray, List.set_cons_zero, List.set_cons_succ]
            refine plan_w (v := ?_) rfl (by rfl) ?_ ?_
            rotate_left
            · intro wx hSx
              try dsimp only at hSx
              go_simp
              try (with_reducible rfl)
            try simp only [Act.put, List.setIfInBounds_toArray, List.set_cons_zero, List.set_cons_succ]
            refine plan_w (v := ?_) rfl (by rfl) ?_ ?_
            rotate_left
            · intro wx hSx
              try dsimp only at hSx
              go_simp
              try (with_reducible rfl)
            try simp only [Act.put, List.setIfInBounds_toArray, List.set_cons_zero, List.set_cons_succ]
            refine plan_w (v := ?_) rfl (by rfl) ?_ ?_
            rotate_left
            · intro wx hSx
              try dsimp only at hSx
              go_simp
              try (with_reducible rfl)
            try simp only [Act.put, List.setIfInBounds_toArray, List.set_cons_zero, List.set_cons_succ]
            refine plan_w (v := ?_) rfl (by rfl) ?_ ?_
            rotate_left
            · intro wx hSx
              try dsimp only at hSx
              go_simp
              try (with_reducible rfl)
            try simp only [Act.put, List.setIfInBounds_toArray, List.set_cons_zero, List.set_cons_succ]
            refine plan_w (v := ?_) rfl (by rfl) ?_ ?_
            rotate_left
            · intro wx hSx
              try dsimp only at hSx
              go_simp
              try (with_reducible rfl)
            try simp only [Act.put, List.setIfInBounds_toArray, List.set_cons_zero, List.set_cons_succ]
            refine plan_w (v := ?_) rfl (by rfl) ?_ ?_
            rotate_left
            · intro wx hSx
              try dsimp only at hSx
              go_simp
              try (with_reducible rfl)
            try simp only [Act.put, List.setIfInBounds_toArray, List.set_cons_zero, List.set_cons_succ]
            refine plan_w (v := ?_) rfl (by rfl) ?_ ?_
            rotate_left
            · intro wx hSx
              try dsimp only at hSx
              go_simp
              try (with_reducible rfl)
            try simp only [Act.put, List.setIfInBounds_toArray, List.set_cons_zero, List.set_cons_succ]
            refine plan_u rfl (by rfl) ?_
            try simp only [Act.put, List.setIfInBounds_toArray, List.set_cons_zero, List.set_cons_succ]
            refine plan_u rfl (by rfl) ?_
            try simp only [Act.put, List.setIfInBounds_toArray, List.set_cons_zero, List.set_cons_succ]
            refine plan_u rfl (by rfl) ?_
            try simp only [Act.put, List.setIfInBounds_toArray, List.set_cons_zero, List.set_cons_succ]
            refine plan_u rfl (by rfl) ?_
            try simp only [Act.put, List.setIfInBounds_toArray, List.set_cons_zero, List.set_cons_succ]
            refine plan_u rfl (by rfl) ?_
            try simp only [Act.put, List.setIfInBounds_toArray, List.set_cons_zero, List.set_cons_succ]
            refine plan_u rfl (by rfl) ?_
            try simp only [Act.put, List.setIfInBounds_toArray, List.set_cons_zero, List.set_cons_succ]
            refine plan_u rfl (by rfl) ?_
            try simp only [Act.put, List.setIfInBounds_toArray, List.set_cons_zero, List.set_cons_succ]
            refine plan_u rfl (by rfl) ?_
            try simp only [Act.put, List.setIfInBounds_toArray, List.set_cons_zero, List.set_cons_succ]
            refine plan_u rfl (by rfl) ?_
            try simp only [Act.put, List.setIfInBounds_toArray, List.set_cons_zero, List.set_cons_succ]
            refine plan_w (v := ?_) rfl (by rfl) ?_ ?_
            rotate_left
            · intro wx hSx
              try dsimp only at hSx
              go_simp
              try (with_reducible rfl)
            try simp only [Act.put, List.setIfInBounds_toArray, List.set_cons_zero, List.set_cons_succ]
            refine plan_w (v := ?_) rfl (by rfl) ?_ ?_
            rotate_left
            · intro wx hSx
              try dsimp only at hSx
              go_simp
              try (with_reducible rfl)
            try simp only [Act.put, List.setIfInBounds_toArray, List.set_cons_zero, List.set_cons_succ]
            refine plan_end ?_
            go_wp2
            go_meet
            exact ⟨rfl, own_to od hb2, pd.to hb2, hS1.2.2.2.2.1, (pd.to hb2).lt⟩
          · have hxn : (q.1 != r.1) = true := by simpa using hx
            clear hx
            have ew := EW.out
            refine wp_region_plan (fun wx => wx.cell? ⟨bq, 0, none⟩ = some (.int .i64 q.1) ∧ wx.cell? ⟨bq, 0 + 1, none⟩ = some (.int .i64 q.2) ∧ wx.cell? ⟨b, off + (j - 1) * 2, none⟩ = some (.int .i64 r.1) ∧ wx.cell? ⟨b, off + (j - 1) * 2 + 1, none⟩ = some (.int .i64 r.2) ∧ Below w.heap.size w wx ∧ w.heap.size ≤ wx.heap.size) [(0, true), (1, false), (2, true), (3, true), (4, true), (5, true), (6, true), (7, true), (8, true), (9, true), (10, true), (11, true), (12, true), (13, true), (14, true), (15, true), (16, true), (17, true), (18, true), (19, true), (20, true), (21, true), (22, true), (23, true), (24, true)] (by kernel_rfl) (by kernel_rfl) (by kernel_rfl) (fun _ d _ _ _ h => by cases d <;> exact h) ⟨u0, u1, u2, u3, b1.drew, z1⟩ (fun hS0 => ?_)
            refine plan_w (v := ?_) rfl (by rfl) ?_ ?_
            rotate_left
            · intro wx hSx
              try dsimp only at hSx
              go_simp
              try (with_reducible rfl)
            try simp only [Act.put, List.setIfInBounds_toArray, List.set_cons_zero, List.set_cons_succ]
            refine plan_b rfl (fun K hK => ?_)
            go_simp
            refine (l01Point_any _ _ _).mono ?_
            rintro e w2 ⟨rfl, hb2⟩
            rw [HGQ.out]
            have hS1 := keep4 hS0 hb2
            refine hK _ _ ⟨hS1, ?_⟩
            clear hK K
            try simp only [Act.put, List.setIfInBounds_toArray, List.set_cons_zero, List.set_cons_succ]
            refine plan_w (v := ?_) rfl (by rfl) ?_ ?_
            rotate_left
            · intro wx hSx
              try dsimp only at hSx
              go_simp
              try (with_reducible rfl)
            try simp only [Act.put, List.setIfInBounds_toArray, List.set_cons_zero, List.set_cons_succ]
            refine plan_w (v := ?_) rfl (by rfl) ?_ ?_
            rotate_left
            · intro wx hSx
              try dsimp only at hSx
              go_simp
              try (with_reducible rfl)
            try simp only [Act.put, List.setIfInBounds_toArray, List.set_cons_zero, List.set_cons_succ]
            refine plan_w (v := ?_) rfl (by rfl) ?_ ?_
            rotate_left
            · intro wx hSx
              try dsimp only at hSx
              go_simp
              try (with_reducible rfl)
            try simp only [Act.put, List.setIfInBounds_toArray, List.set_cons_zero, List.set_cons_succ]
            refine plan_w (v := ?_) rfl (by rfl) ?_ ?_
            rotate_left
            · intro wx hSx
              try dsimp only at hSx
              go_simp
              try (with_reducible rfl)
            try simp only [Act.put, List.setIfInBounds_toArray, List.set_cons_zero, List.set_cons_succ]
            refine plan_w (v := ?_) rfl (by rfl) ?_ ?_
            rotate_left
            · intro wx hSx
              try dsimp only at hSx
              go_simp
              try (with_reducible rfl)
            try simp only [Act.put, List.setIfInBounds_toArray, List.set_cons_zero, List.set_cons_succ]
            refine plan_w (v := ?_) rfl (by rfl) ?_ ?_
            rotate_left
            · intro wx hSx
              try dsimp only at hSx
              go_simp
              try (with_reducible rfl)
            try simp only [Act.put, List.setIfInBounds_toArray, List.set_cons_zero, List.set_cons_succ]
            refine plan_w (v := ?_) rfl (by rfl) ?_ ?_
            rotate_left
            · intro wx hSx
              try dsimp only at hSx
              go_simp
              try (with_reducible rfl)
            try simp only [Act.put, List.setIfInBounds_toArray, List.set_cons_zero, List.set_cons_succ]
            refine plan_w (v := ?_) rfl (by rfl) ?_ ?_
            rotate_left
            · intro wx hSx
              try dsimp only at hSx
              go_simp
              try (with_reducible rfl)
            try simp only [Act.put, List.setIfInBounds_toArray, List.set_cons_zero, List.set_cons_succ]
            refine plan_w (v := ?_) rfl (by rfl) ?_ ?_
            rotate_left
            · intro wx hSx
              try dsimp only at hSx
              go_simp
              try (with_reducible rfl)
            try simp only [Act.put, List.setIfInBounds_toArray, List.set_cons_zero, List.set_cons_succ]
            refine plan_w (v := ?_) rfl (by rfl) ?_ ?_
            rotate_left
            · intro wx hSx
              try dsimp only at hSx
              go_simp
              try (with_reducible rfl)
            try simp only [Act.put, List.setIfInBounds_toArray, List.set_cons_zero, List.set_cons_succ]
            refine plan_w (v := ?_) rfl (by rfl) ?_ ?_
            rotate_left
            · intro wx hSx
              try dsimp only at hSx
              go_simp
              try (with_reducible rfl)
            try simp only [Act.put, List.setIfInBounds_toArray, List.set_cons_zero, List.set_cons_succ]
            refine plan_w (v := ?_) rfl (by rfl) ?_ ?_
            rotate_left
            · intro wx hSx
              try dsimp only at hSx
              go_simp
              try (with_reducible rfl)
            try simp only [Act.put, List.setIfInBounds_toArray, List.set_cons_zero, List.set_cons_succ]
            refine plan_w (v := ?_) rfl (by rfl) ?_ ?_
            rotate_left
            · intro wx hSx
              try dsimp only at hSx
              go_simp
              try (with_reducible rfl)
            try simp only [Act.put, List.setIfInBounds_toArray, List.set_cons_zero, List.set_cons_succ]
            refine plan_w (v := ?_) rfl (by rfl) ?_ ?_
            rotate_left
            · intro wx hSx
              try dsimp only at hSx
              go_simp
              try (with_reducible rfl)
            try simp only [Act.put, List.setIfInBounds_toArray, List.set_cons_zero, List.set_cons_succ]
            refine plan_w (v := ?_) rfl (by rfl) ?_ ?_
            rotate_left
            · intro wx hSx
              try dsimp only at hSx
              go_simp
              try (with_reducible rfl)
            try simp only [Act.put, List.setIfInBounds_toArray, List.set_cons_zero, List.set_cons_succ]
            refine plan_w (v := ?_) rfl (by rfl) ?_ ?_
            rotate_left
            · intro wx hSx
              try dsimp only at hSx
              go_simp
              try (with_reducible rfl)
            try simp only [Act.put, List.setIfInBounds_toArray, List.set_cons_zero, List.set_cons_succ]
            refine plan_w (v := ?_) rfl (by rfl) ?_ ?_
            rotate_left
            · intro wx hSx
              try dsimp only at hSx
              go_simp
              try (with_reducible rfl)
            try simp only [Act.put, List.setIfInBounds_toArray, List.set_cons_zero, List.set_cons_succ]
            refine plan_w (v := ?_) rfl (by rfl) ?_ ?_
            rotate_left
            · intro wx hSx
              try dsimp only at hSx
              go_simp
              try (with_reducible rfl)
            try simp only [Act.put, List.setIfInBounds_toArray, List.set_cons_zero, List.set_cons_succ]
            refine plan_w (v := ?_) rfl (by rfl) ?_ ?_
            rotate_left
            · intro wx hSx
              try dsimp only at hSx
              go_simp
              try (with_reducible rfl)
            try simp only [Act.put, List.setIfInBounds_toArray, List.set_cons_zero, List.set_cons_succ]
            refine plan_w (v := ?_) rfl (by rfl) ?_ ?_
            rotate_left
            · intro wx hSx
              try dsimp only at hSx
              go_simp
              try (with_reducible rfl)
            try simp only [Act.put, List.setIfInBounds_toArray, List.set_cons_zero, List.set_cons_succ]
            refine plan_w (v := ?_) rfl (by rfl) ?_ ?_
            rotate_left
            · intro wx hSx
              try dsimp only at hSx
              go_simp
              try (with_reducible rfl)
            try simp only [Act.put, List.setIfInBounds_toArray, List.set_cons_zero, List.set_cons_succ]
            refine plan_w (v := ?_) rfl (by rfl) ?_ ?_
            rotate_left
            · intro wx hSx
              try dsimp only at hSx
              go_simp
              try (with_reducible rfl)
            try simp only [Act.put, List.setIfInBounds_toArray, List.set_cons_zero, List.set_cons_succ]
            refine plan_w (v := ?_) rfl (by rfl) ?_ ?_
            rotate_left
            · intro wx hSx
              try dsimp only at hSx
              go_simp
              try (with_reducible rfl)
            try simp only [Act.put, List.setIfInBounds_toArray, List.set_cons_zero, List.set_cons_succ]
            refine plan_end ?_
            go_wp2
            go_meet
            exact ⟨rfl, own_to od hb2, pd.to hb2, hS1.2.2.2.2.1, (pd.to hb2).lt⟩
      case rest =>
        obtain ⟨rfl, hown, hq1, hb, hlq⟩ := hcut
        have d2 := (hb.cell (p := ⟨b, off + (j - 1) * 2, none⟩) hbB).trans c2
        have d3 := (hb.cell (p := ⟨b, off + (j - 1) * 2 + 1, none⟩) hbB).trans c3
        have hj1I : 0 ≤ (j : Int) - 1 := by omega
        have hj1t : ((j : Int) - 1).toNat = j - 1 := by omega
        have hj1L : (j : Int) - 1 < (cs.length : Int) := by omega
        have e1 : OwnL (wc.alloc (.cells #[.int .i64 r.1, .int .i64 r.2] 34)) w.heap.size (.slice A2 L.length c2') L := own_to hown ((Below.refl _ _).alloc (Nat.le_refl _) _)
        have e2 : PtB (wc.alloc (.cells #[.int .i64 r.1, .int .i64 r.2] 34)) bq q := hq1.to ((Below.refl _ _).alloc (Nat.le_refl _) _)
        have e3 := PtB.new wc r
        have e4 : Below w.heap.size w (wc.alloc (.cells #[.int .i64 r.1, .int .i64 r.2] 34)) := by (repeat (first | assumption | exact Below.refl _ _ | (refine bl_alloc ?_ _) | (refine Below.drew ?_) | (refine bl_drewN ?_ _) | (refine bl_set ?_ (by simp) _) | (refine bl_trans ?_ (by assumption)) | (refine bl_step ?_ (by assumption) (by first | omega | exact Below.size (by assumption) | (simp; omega) | (simp; exact Below.size (by assumption))))))
        have HOffP := Lib.hid (hown.off (Nat.le_refl wc.heap.size))
        have HNE : Hid (bq ≠ wc.heap.size) := by show _ ≠ _; omega
        have hwc : w.heap.size ≤ wc.heap.size := hb.size
        clear hown hq1 hb hlq u0 u1 u2 u3 o1 pq1 b1 z1 hxy d0 d1 c2 c3 EW
        go_wp2
        go_loopw [4, 7] (fun v pv wr2 => ∃ (p : Pt) (L : List Pt) (m gp : Nat), pv = .pointer (some ⟨gp, 0, none⟩) ∧ OwnL wr2 w.heap.size v L ∧ Hid (Off v gp) ∧ Hid (Off v bq) ∧ PtB wr2 gp p ∧ PtB wr2 bq q ∧ Hid (bq ≠ gp) ∧ w.heap.size ≤ gp ∧ Hid (isPt p.1 p.2 = true) ∧ Hid (Going cs L q m p (wlk q (cs.drop (j + 1)))) ∧ Below w.heap.size w wr2) (fun v _ _ => 577 - lenOf v)
        case atStart => exact ⟨r, L, 100, _, rfl, e1, HOffP, HOffQ, e3, e2, HNE, hwc, HRG, HC1, e4⟩
        case round =>
          clear e1 HOffP HOffQ e3 e2 HNE HC1 e4 d2 d3 HRG hj1I hj1t hj1L hwc
          obtain ⟨p, L, m, gp, rfl, hown, HOffP, HOffQ, hp1, hq1, HNE, hgp, HGp, HGo, hb⟩ := hrel
          obtain ⟨A3, c3', rfl, _, _⟩ := hown.cap
          obtain ⟨d0, d1, f0, f1⟩ := hp1.cells
          obtain ⟨d2, d3, _, _⟩ := hq1.cells
          by_cases he : p = q
          · subst he
            have hneq := fun w => run_neq_pt p p w
            simp only [decide_true, Bool.not_true] at hneq
            have HF : Hid (Come cs L (wlk (cs.getD (j + 1 - 1) (0, 0)) (cs.drop (j + 1)))) := by
              show Come _ _ _
              rw [Nat.add_sub_cancel, HQ.out]
              rcases HGo.out with ⟨_, h1, h2⟩ | h1
              · rw [seg_same] at h1; exact .inl ⟨h1, h2⟩
              · exact .inr h1
            clear HGo
            go_wp2
            go_roundw
            case rel => exact ⟨j + 1, L, by omega, by omega, by go_num, hown, HF, HAJ, hb⟩
            case measure => simp [intOf]; omega
          · have hneq := fun w => run_neq_pt p q w
            simp only [he, decide_false, Bool.not_false] at hneq
            by_cases hlen : L.length ≤ 576
            · have hlenI : (L.length : Int) ≤ 576 := by omega
              have hlend : decide (L.length ≤ 576) = true := decide_eq_true hlen
              have hgo : che p q ≤ m ∧ L ++ (seg q m p ++ wlk q (cs.drop (j + 1))) = wlkL cs ∧ L.length ≤ 577 := by
                rcases HGo.out with h | h
                · exact h
                · omega
              obtain ⟨m', hm', hc', hs'⟩ := seg_next he hgo.1
              have HF : Hid (Going cs (L ++ [stp p q]) q m' (stp p q) (wlk q (cs.drop (j + 1)))) := by
                refine .inl ⟨hc', ?_, by simp; omega⟩
                have := hgo.2.1
                rw [hs'] at this
                rw [← this]; simp
              have HGs := Lib.hid (stp_grid HGp.out HGQ.out)
              obtain ⟨⟨g0, g1⟩, g2, g3⟩ := isPt_iff.1 HGp.out
              obtain ⟨⟨k0, k1⟩, k2, k3⟩ := isPt_iff.1 HGQ.out
              have s0 : -1 ≤ sg p.1 q.1 ∧ sg p.1 q.1 ≤ 1 := by rcases sg_cases p.1 q.1 with ⟨_, f⟩ | ⟨_, f⟩ | ⟨_, f⟩ <;> rw [f] <;> omega
              have s1 : -1 ≤ sg p.2 q.2 ∧ sg p.2 q.2 ≤ 1 := by rcases sg_cases p.2 q.2 with ⟨_, f⟩ | ⟨_, f⟩ | ⟨_, f⟩ <;> rw [f] <;> omega
              obtain ⟨s0, s0'⟩ := s0
              obtain ⟨s1, s1'⟩ := s1
              have E1 : Hid (IntKind.i64.wrap (q.1 - p.1) = q.1 - p.1) := IntWalk.i64_in _ (by omega)
              have E2 : Hid (IntKind.i64.wrap (p.1 + sg p.1 q.1) = p.1 + sg p.1 q.1) := IntWalk.i64_in _ (by omega)
              have E3 : Hid (IntKind.i64.wrap (q.2 - p.2) = q.2 - p.2) := IntWalk.i64_in _ (by omega)
              have E4 : Hid (IntKind.i64.wrap (p.2 + sg p.2 q.2) = p.2 + sg p.2 q.2) := IntWalk.i64_in _ (by omega)
              have o0 : OwnL wr.drew w.heap.size (.slice A3 L.length c3') L := hown
              have p0' : PtB wr.drew gp p := hp1
              have q0' : PtB wr.drew bq q := hq1
              have b0 : Below w.heap.size w wr.drew := by (repeat (first | assumption | exact Below.refl _ _ | (refine bl_alloc ?_ _) | (refine Below.drew ?_) | (refine bl_drewN ?_ _) | (refine bl_set ?_ (by simp) _) | (refine bl_trans ?_ (by assumption)) | (refine bl_step ?_ (by assumption) (by first | omega | exact Below.size (by assumption) | (simp; omega) | (simp; exact Below.size (by assumption))))))
              have hlo := Lib.hid hown.lenOf_
              clear hs' hm' HGo hgo
              go_wp2
              have x1 := E1.out
              have x2 := E2.out
              refine wp_region_still_tail 10 (by kernel_rfl) (by kernel_rfl) ?_
              simp only [List.take_succ_cons, List.take_zero, List.drop_succ_cons, List.drop_zero]
              iterate 7
                refine wpStill_step (fun K hK => ?_)
                go_simp
                refine hK _ ?_
                clear hK K
              refine wpStill_step (fun K hK => ?_)
              go_simp
              refine ⟨_, quiet_l (l01Sign_sub p.1 q.1 _), hK _ ?_⟩
              clear hK K
              iterate 2
                refine wpStill_step (fun K hK => ?_)
                go_simp
                refine hK _ ?_
                clear hK K
              refine wpStill_nil ?_
              clear x1 x2
              change wpList _ _ _ _ _ wr.drew
              clear d0 d1 d2 d3 f0 f1 hown hp1 hq1 hb
              generalize wr.drew = wy at *
              obtain ⟨d0, d1, f0, f1⟩ := p0'.cells
              obtain ⟨d2, d3, _, _⟩ := q0'.cells
              go_wp2
              have p1' : PtB (wy.setCell ⟨gp, 0, none⟩ (.int .i64 (p.1 + sg p.1 q.1))) gp (p.1 + sg p.1 q.1, p.2) := p0'.set0 _
              have q1' : PtB (wy.setCell ⟨gp, 0, none⟩ (.int .i64 (p.1 + sg p.1 q.1))) bq q := q0'.far1 HNE.out _
              have o1' : OwnL (wy.setCell ⟨gp, 0, none⟩ (.int .i64 (p.1 + sg p.1 q.1))) w.heap.size (.slice A3 L.length c3') L := o0.set1 HOffP.out _
              have b1' : Below w.heap.size w (wy.setCell ⟨gp, 0, none⟩ (.int .i64 (p.1 + sg p.1 q.1))) := b0.setCell (p := ⟨gp, 0, none⟩) hgp _
              clear d0 d1 d2 d3 f0 f1 p0' q0' o0 b0
              generalize wy.setCell ⟨gp, 0, none⟩ (.int .i64 (p.1 + sg p.1 q.1)) = w3 at *
              obtain ⟨d0, d1, f0, f1⟩ := p1'.cells
              obtain ⟨d2, d3, _, _⟩ := q1'.cells
              simp only at d0 d1
              have x3 := E3.out
              have x4 := E4.out
              refine wp_region_still_tail 10 (by kernel_rfl) (by kernel_rfl) ?_
              simp only [List.take_succ_cons, List.take_zero, List.drop_succ_cons, List.drop_zero]
              iterate 7
                refine wpStill_step (fun K hK => ?_)
                go_simp
                refine hK _ ?_
                clear hK K
              refine wpStill_step (fun K hK => ?_)
              go_simp
              refine ⟨_, quiet_l (l01Sign_sub p.2 q.2 _), hK _ ?_⟩
              clear hK K
              iterate 2
                refine wpStill_step (fun K hK => ?_)
                go_simp
                refine hK _ ?_
                clear hK K
              refine wpStill_nil ?_
              clear x3 x4
              change wpList _ _ _ _ _ w3.drew
              have p2' : PtB w3.drew gp (p.1 + sg p.1 q.1, p.2) := p1'
              have q2' : PtB w3.drew bq q := q1'
              have o2' : OwnL w3.drew w.heap.size (.slice A3 L.length c3') L := o1'
              have b2' : Below w.heap.size w w3.drew := by (repeat (first | assumption | exact Below.refl _ _ | (refine bl_alloc ?_ _) | (refine Below.drew ?_) | (refine bl_drewN ?_ _) | (refine bl_set ?_ (by simp) _) | (refine bl_trans ?_ (by assumption)) | (refine bl_step ?_ (by assumption) (by first | omega | exact Below.size (by assumption) | (simp; omega) | (simp; exact Below.size (by assumption))))))
              clear d0 d1 d2 d3 f0 f1 p1' q1' o1' b1'
              generalize w3.drew = wz at *
              obtain ⟨d0, d1, f0, f1⟩ := p2'.cells
              simp only at d0 d1
              have hlz : gp < wz.heap.size := p2'.lt
              have p5 : PtB (wz.setCell ⟨gp, 0 + 1, none⟩ (.int .i64 (p.2 + sg p.2 q.2))) gp (stp p q) := p2'.set1 _
              have q5 : PtB (wz.setCell ⟨gp, 0 + 1, none⟩ (.int .i64 (p.2 + sg p.2 q.2))) bq q := q2'.far1 HNE.out _
              have o5 : OwnL (wz.setCell ⟨gp, 0 + 1, none⟩ (.int .i64 (p.2 + sg p.2 q.2))) w.heap.size (.slice A3 L.length c3') L := o2'.set1 HOffP.out _
              have b5 : Below w.heap.size w (wz.setCell ⟨gp, 0 + 1, none⟩ (.int .i64 (p.2 + sg p.2 q.2))) := b2'.setCell (p := ⟨gp, 0 + 1, none⟩) hgp _
              have hLl : L.length ≤ 1000000 := by omega
              have hlz2 : w.heap.size ≤ wz.heap.size := by omega
              clear p2' q2' o2' b2'
              go_wp2_with (at_builtin; refine append_at rfl (.tmp 97) (.tmp 99) rfl _ w.heap.size _ _ _ _ rfl o5 wz.heap.size (by simp) rfl hLl (by simp; omega) ?_; intro v6 w6 hown6 hbel6 hkeep6; refine Hid.out ?_)
              obtain ⟨p6, _⟩ := hkeep6 _ _ p5 HOffP.out
              obtain ⟨q6, off6⟩ := hkeep6 _ _ q5 HOffQ.out
              have b6 := hbel6 _ _ (Nat.le_refl _) b5
              clear d0 d1 f0 f1 p5 q5 o5 b5 hkeep6 hbel6 hlz
              obtain ⟨d0, d1, _, _⟩ := p6.cells
              have o7 : OwnL (w6.alloc (.cells #[.int .i64 (stp p q).1, .int .i64 (stp p q).2] 34)) w.heap.size v6 (L ++ [stp p q]) := own_to hown6 ((Below.refl _ _).alloc (Nat.le_refl _) _)
              have off7 := Lib.hid (hown6.off (Nat.le_refl w6.heap.size))
              have q7 : PtB (w6.alloc (.cells #[.int .i64 (stp p q).1, .int .i64 (stp p q).2] 34)) bq q := q6.to ((Below.refl _ _).alloc (Nat.le_refl _) _)
              have HNE7 : Hid (bq ≠ w6.heap.size) := by show _ ≠ _; have := q6.lt; omega
              have b7 : Below w.heap.size w (w6.alloc (.cells #[.int .i64 (stp p q).1, .int .i64 (stp p q).2] 34)) := by (repeat (first | assumption | exact Below.refl _ _ | (refine bl_alloc ?_ _) | (refine Below.drew ?_) | (refine bl_drewN ?_ _) | (refine bl_set ?_ (by simp) _) | (refine bl_trans ?_ (by assumption)) | (refine bl_step ?_ (by assumption) (by first | omega | exact Below.size (by assumption) | (simp; omega) | (simp; exact Below.size (by assumption))))))
              have z6 := b6.size
              have HOff6 := Lib.hid off6
              have HLO6 := Lib.hid o7.lenOf_
              clear off6 hown6 q6 hneq
              refine Lib.hid ?_
              go_wp2
              go_roundw
              case rel => exact ⟨stp p q, L ++ [stp p q], m', w6.heap.size, rfl, o7, off7, HOff6, PtB.new w6 (stp p q), q7, HNE7, z6, HGs, HF, b7⟩
              case measure => rw [HLO6.out]; simp [lenOf]; omega
            · have hlenI : ¬ (L.length : Int) ≤ 576 := by omega
              have hlend : decide (L.length ≤ 576) = false := decide_eq_false hlen
              have HF : Hid (Come cs L (wlk (cs.getD (j + 1 - 1) (0, 0)) (cs.drop (j + 1)))) := by
                rcases HGo.out with ⟨h0, h1, h2⟩ | h1
                · obtain ⟨m', _, _, hs'⟩ := seg_next he h0
                  refine .inr ⟨by omega, ?_⟩
                  rw [← h1, hs']; simp only [List.length_append, List.length_cons]; omega
                · exact .inr h1
              clear HGo
              go_wp2
              go_roundw
              case rel => exact ⟨j + 1, L, by omega, by omega, by go_num, hown, HF, HAJ, hb⟩
              case measure => simp [intOf]; omega
    · obtain rfl : j = cs.length := by omega
      have hcomp : (L = wlkL cs ∧ L.length ≤ 577) ∨ (L.length = 577 ∧ 576 < (wlkL cs).length) := by
        rcases HC.out with ⟨h1, h2⟩ | h1
        · rw [List.drop_of_length_le (Nat.le_refl _)] at h1
          exact .inl ⟨by simpa [wlk] using h1, h2⟩
        · exact .inr h1
      have hL5 : L.length ≤ 577 := by rcases hcomp with h | h <;> omega
      have hgr := alnTo_pts HA.out
      obtain ⟨A2, c2', rfl, ho3, hcap⟩ := hown.cap
      clear HC HA hown
      cases hv : isPathB L
      · have HK : Hid (okT cs = false) := by
          have h1 : isPathB (wlkL cs) = false := by
            rcases hcomp with ⟨h, _⟩ | ⟨_, h⟩
            · rw [← h]; exact hv
            · exact size_bad h
          show _ = _; unfold okT; rw [h1]; simp
        have HV := Lib.hid hv
        clear hv hcomp hc
        go_wp2_with (go_at_call 125; refine (l01Path_any _ _ _ _ ho3.pts (by omega) hcap).mono ?_; rintro e w' ⟨rfl, hb'⟩; rw [HV.out])
        go_ret2
        exact Fails.sres ⟨rfl, by (repeat (first | assumption | exact Below.refl _ _ | (refine bl_alloc ?_ _) | (refine Below.drew ?_) | (refine bl_drewN ?_ _) | (refine bl_set ?_ (by simp) _) | (refine bl_trans ?_ (by assumption)) | (refine bl_step ?_ (by assumption) (by first | omega | exact Below.size (by assumption) | (simp; omega) | (simp; exact Below.size (by assumption))))))⟩ HK.out
      · have h576 := (pathLen hv).2
        have hLW : L = wlkL cs := by
          rcases hcomp with ⟨h, _⟩ | ⟨h, _⟩
          · exact h
          · omega
        have HV := Lib.hid hv
        have HGR := Lib.hid hgr
        have HLW := Lib.hid hLW
        obtain ⟨M, hM⟩ : ∃ M, cornL L L.length = M := ⟨_, rfl⟩
        have HM := Lib.hid hM
        have HCo := Lib.hid (l01Corners_own A2 L c2')
        rw [hM] at HCo
        have hMl : M.length ≤ 1048576 := by rw [← hM]; exact Nat.le_trans (cornL_le _ _) (by omega)
        have HK0 : M ≠ cs → Hid (okT cs = false) := fun h => by
          show _ = _; unfold okT
          rw [← HLW.out, HM.out, decide_eq_false h]; simp
        have HK1 : M = cs → Hid (okT cs = true) := fun h => by
          show _ = _; unfold okT
          rw [← HLW.out, HM.out, HSz.out, HGR.out, HV.out, decide_eq_true h]; rfl
        have hcs := hc
        clear hv hcomp hgr hLW hM hc
        go_wp2_with fail
        refine (l01Path_any _ _ _ _ ho3.pts (by omega) hcap).mono ?_
        rintro e w2 ⟨rfl, hb2⟩
        rw [HV.out]
        have b2 := bl_trans hb hb2
        have o2 := ho3.to hb2
        clear ho3 hb hb2
        go_wp2_with fail
        refine (HCo.out _ o2.pts h576).mono ?_
        rintro e w3 ⟨v3, rfl, ho, hb3⟩
        obtain ⟨A4, c4, rfl, p4⟩ := own3_of ho
        have b3 := bl_trans b2 hb3
        have o3 := o2.to hb3
        have p4' := p4.pts
        clear ho o2 b2 hb3 p4 HCo
        by_cases hln : M.length = cs.length
        · have hz2 : ((M.length : Int) != (cs.length : Int)) = false := by simp [hln]
          have HLN := Lib.hid hln
          clear hln
          go_wp2_with fail
          go_loopw [9] (fun i wr => ∃ k : Nat, k ≤ M.length ∧ i = .int .i64 k ∧ Hid (M.take k = cs.take k) ∧ Below w3.heap.size w3 wr) (fun i _ => M.length - (intOf i).toNat)
          case atStart => exact ⟨0, Nat.zero_le _, rfl, by show _ = _; simp, Below.refl _ _⟩
          case round =>
            obtain ⟨k, hk, rfl, HA, hb⟩ := hrel
            have hk0 : 0 ≤ (k : Int) := by omega
            by_cases hlt : k < M.length
            · have hlt' : k < cs.length := by rw [← HLN.out]; exact hlt
              obtain ⟨b4, o4, rfl, hb4, hc4⟩ := p4' (by omega)
              obtain ⟨c0, c1⟩ := hc4 k hlt
              obtain ⟨c2, c3⟩ := hcs k hlt'
              have d0 := (hb.cell (p := ⟨b4, o4 + k * 2, none⟩) hb4).trans c0
              have d1 := (hb.cell (p := ⟨b4, o4 + k * 2 + 1, none⟩) hb4).trans c1
              have bw := bl_step b3 hb b3.size
              have d2 := (bw.cell (p := ⟨b, off + k * 2, none⟩) hbB).trans c2
              have d3 := (bw.cell (p := ⟨b, off + k * 2 + 1, none⟩) hbB).trans c3
              have HN := fun e => Lib.hid (take_next HA.out hlt hlt' e)
              have HF := fun e => HK0 (ne_at (l := M) (m := cs) (k := k) e)
              have hltI : (k : Int) < (M.length : Int) := by omega
              have hltI' : (k : Int) < (cs.length : Int) := by omega
              obtain ⟨p, hp'⟩ : ∃ p, M.getD k (0, 0) = p := ⟨_, rfl⟩
              obtain ⟨q, hq'⟩ : ∃ q, cs.getD k (0, 0) = q := ⟨_, rfl⟩
              rw [hp'] at d0 d1 HN HF
              rw [hq'] at d2 d3 HN HF
              have hneq := fun w => run_neq_pt p q w
              clear hp' hq' hc4 c0 c1 c2 c3 hcs HK0 HK1
              by_cases he : p = q
              · have HN' := HN he
                simp only [he, decide_true, Bool.not_true] at hneq
                subst he
                clear HN HF
                go_wp2
                go_quiet (fail)
                go_wp2
                go_roundw
                case rel => exact ⟨k + 1, by omega, by go_num, HN', by (repeat (first | assumption | exact Below.refl _ _ | (refine bl_alloc ?_ _) | (refine Below.drew ?_) | (refine bl_drewN ?_ _) | (refine bl_set ?_ (by simp) _) | (refine bl_trans ?_ (by assumption)) | (refine bl_step ?_ (by assumption) (by first | omega | exact Below.size (by assumption) | (simp; omega) | (simp; exact Below.size (by assumption))))))⟩
                case measure => simp [intOf]; omega
              · have HF' := HF he
                simp only [he, decide_false, Bool.not_false] at hneq
                clear HN HF he
                go_wp2
                go_quiet (fail)
                go_wp2
                go_ret2
                exact Fails.sres ⟨rfl, by (repeat (first | assumption | exact Below.refl _ _ | (refine bl_alloc ?_ _) | (refine Below.drew ?_) | (refine bl_drewN ?_ _) | (refine bl_set ?_ (by simp) _) | (refine bl_trans ?_ (by assumption)) | (refine bl_step ?_ (by assumption) (by first | omega | exact Below.size (by assumption) | (simp; omega) | (simp; exact Below.size (by assumption))))))⟩ HF'.out
            · have HE := HK1 (by
                have := HA.out
                rwa [List.take_of_length_le (by omega), List.take_of_length_le (by rw [← HLN.out]; omega)] at this)
              have o5 := o3.to hb
              have b5 := bl_trans b3 hb
              clear HK0 HK1 o3 p4' b3
              go_wp2
              go_ret2
              rw [HE.out, thrL_t HE.out, ← HLW.out]
              exact ⟨A2, c2', rfl, o5, b5⟩
        · have hz2 : ((M.length : Int) != (cs.length : Int)) = true := by simp; omega
          have HE := HK0 (fun e => hln (by rw [e]))
          clear hln HK0 HK1 hcs
          go_wp2
          go_ret2
          exact Fails.sres ⟨rfl, b3⟩ HE.out
end Go.Proofs.Ytfmkedmhbmcbiaa
