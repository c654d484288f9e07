/-
  Contracts: a drawn path.
-/
import Derived.Test.YtfmkedmhbmcbiaaDraw
namespace Go.Proofs.Ytfmkedmhbmcbiaa
set_option linter.unusedSimpArgs false
set_option linter.unusedVariables false
open Go.ChangeShapes Go.WideShapes Go.ChangeAt Go.RowKit

theorem OwnL.only {g : Nat} {w w1 : World} {base : Nat} {v : Value} {L : List Pt} (h : OwnL w base v L) (ho : Only g w w1) (hg : g < base) : OwnL w1 base v L :=
  World.ownsRow.kept (row := some g) h ⟨ho.1, ho.2.1, ho.2.2.1, by rw [ho.2.2.2.1]; exact Nat.le_refl _, fun i hi hne => ho.2.2.2.2 i (fun e => hne (by rw [e]))⟩ (by
    rcases h.2 with ⟨rfl, _⟩ | ⟨g', cap, cur, rfl, hB, _⟩
    · exact .inl rfl
    · exact .inr (by simp [Value.ownBlock]; omega))
theorem isPt_mk {x y : Int} (h : (0 ≤ x ∧ x ≤ 99) ∧ (0 ≤ y ∧ y ≤ 99)) : isPt x y = true := by rw [isPt_iff]; omega
theorem path_one {p : Pt} (h : isPt p.1 p.2 = true) : isPathB [p] = true := by
  unfold isPathB sizeB pathS pathS stepB
  simp [h]
theorem pathS_app (ps : List Pt) (q : Pt) : ∀ k, k ≤ ps.length → pathS (ps ++ [q]) k = pathS ps k
  | 0, _ => rfl
  | k + 1, h => by
    unfold pathS
    rw [pathS_app ps q k (by omega)]
    have e0 : (ps ++ [q]).getD k (0, 0) = ps.getD k (0, 0) := by simp [List.getD_eq_getElem?_getD, List.getElem?_append_left (show k < ps.length by omega)]
    have e1 : (ps ++ [q]).getD (k - 1) (0, 0) = ps.getD (k - 1) (0, 0) := by simp [List.getD_eq_getElem?_getD, List.getElem?_append_left (show k - 1 < ps.length by omega)]
    have e2 : (ps ++ [q]).take k = ps.take k := List.take_append_of_le_length (by omega)
    unfold stepB
    rw [e0, e1, e2]
theorem path_snoc {ps : List Pt} {q : Pt} (h : isPathB ps = true) (hl : ps.length < 576) (hq : isPt q.1 q.2 = true) (hn : q ∉ ps) (hf : farI (ps.getD (ps.length - 1) (0, 0)).1 (ps.getD (ps.length - 1) (0, 0)).2 q.1 q.2 = 1) : isPathB (ps ++ [q]) = true := by
  have h1 := (pathLen h).1
  unfold isPathB at h ⊢
  rw [Bool.and_eq_true] at h ⊢
  refine ⟨by unfold sizeB; simp; omega, ?_⟩
  rw [List.length_append]
  show pathS (ps ++ [q]) (ps.length + 1) = true
  unfold pathS
  rw [pathS_app ps q _ (Nat.le_refl _), h.2]
  have e0 : (ps ++ [q]).getD ps.length (0, 0) = q := by simp [List.getD_eq_getElem?_getD]
  have e1 : (ps ++ [q]).getD (ps.length - 1) (0, 0) = ps.getD (ps.length - 1) (0, 0) := by simp [List.getD_eq_getElem?_getD, List.getElem?_append_left (show ps.length - 1 < ps.length by omega)]
  have e2 : (ps ++ [q]).take ps.length = ps := by simp
  unfold stepB
  rw [e0, e1, e2, hq, hf]
  simp [hn]
/-- One step in a direction. -/
def dxy (W : Nat) : Pt := match W with | 0 => (1, 0) | 1 => (0, 1) | 2 => (-1, 0) | _ => (0, -1)
theorem dxy_far (x y : Int) (W : Nat) : farI x y (x + (dxy W).1) (y + (dxy W).2) = 1 := by
  unfold farI absI dxy
  split <;> (simp only; split <;> split <;> omega)
theorem dxy_bd (W : Nat) : -1 ≤ (dxy W).1 ∧ (dxy W).1 ≤ 1 ∧ -1 ≤ (dxy W).2 ∧ (dxy W).2 ≤ 1 := by
  unfold dxy; split <;> simp
theorem dxy_x {W : Nat} (hW : W < 4) (h : W < [Value.int .i64 1, .int .i64 0, .int .i64 (-1), .int .i64 0].length) : [Value.int .i64 1, .int .i64 0, .int .i64 (-1), .int .i64 0][W]'h = .int .i64 (dxy W).1 := by
  rcases W with _ | _ | _ | _ | W <;> first | rfl | omega
theorem dxy_y {W : Nat} (hW : W < 4) (h : W < [Value.int .i64 0, .int .i64 1, .int .i64 0, .int .i64 (-1)].length) : [Value.int .i64 0, .int .i64 1, .int .i64 0, .int .i64 (-1)][W]'h = .int .i64 (dxy W).2 := by
  rcases W with _ | _ | _ | _ | W <;> first | rfl | omega
theorem OwnL.last {w : World} {base : Nat} {A : Option Addr} {c : Nat} {L : List Pt} (h : OwnL w base (.slice A L.length c) L) (h0 : 1 ≤ L.length) :
    ∃ g, A = some ⟨g, 0, none⟩ ∧ base ≤ g ∧ g < w.heap.size ∧ w.cell? ⟨g, (L.length - 1) * 2, none⟩ = some (.int .i64 (L.getD (L.length - 1) (0, 0)).1) ∧ w.cell? ⟨g, (L.length - 1) * 2 + 1, none⟩ = some (.int .i64 (L.getD (L.length - 1) (0, 0)).2) := by
  obtain ⟨A', c', e, ho⟩ := own3_of h
  injection e with e1 e2 e3
  subst e1
  obtain ⟨g, rfl, hg, hP⟩ := ho (by omega)
  obtain ⟨q0, q1⟩ := hP.at_ (i := L.length - 1) (by omega) (by omega)
  exact ⟨g, rfl, hg, hP.lt, q0, q1⟩

theorem path_pts_at {l : List Pt} (h : isPathB l = true) {k : Nat} (hk : k < l.length) : isPt (l.getD k (0, 0)).1 (l.getD k (0, 0)).2 = true := by
  unfold isPathB at h
  rw [Bool.and_eq_true] at h
  exact pathS_at h.2 hk
theorem OwnL.pts_ {w : World} {base : Nat} {A : Option Addr} {c : Nat} {L : List Pt} (h : OwnL w base (.slice A L.length c) L) : PtsAt w w.heap.size A L := by
  obtain ⟨A', c', e, ho⟩ := own3_of h
  injection e with e1 e2 e3
  subst e1
  exact ho.pts
theorem PtB.drew_ {w : World} {g : Nat} {p : Pt} (h : PtB w g p) : PtB w.drew g p := h
def PathPost (w : World) (e : Ending) (w' : World) : Prop :=
  ∃ A ps c, e = .returned (.slice A ps.length c) ∧ isPathB ps = true ∧ ps.length ≤ 14 ∧ PtsAt w' w'.heap.size A ps ∧ ps.length ≤ c ∧ Below w.heap.size w w'

set_option maxRecDepth 100000 in
set_option maxHeartbeats 3200000 in
theorem B10Path_any (A : Option Addr) (cs : List Int) (c : Nat) (w : World) (hp : NumsAt .u8 w w.heap.size A cs) (hw : ∀ n ∈ cs, (Lit.int .u8 n).wf = true) (hl : cs.length ≤ 1048576) :
    Calls Try.prog 20 #[.slice A cs.length c] w (PathPost w) := by
  go_enter Try.func20, Try.ntmps20
  go_wp2_with fail
  refine (from_any _ _ _ _).mono ?_
  rintro e w1 ⟨rfl, hS1, hb1, hz1⟩
  go_wp2_with fail
  refine (DrawGood_any _ _ _ w.heap.size _ _ _ hS1 (hp.keepB hb1) (Nat.le_refl _) hw hl (by omega)).mono ?_
  rintro e w2 ⟨x, y, hx, hy, rfl, hS2, hg2⟩
  have hb2 : Below w.heap.size w w2 := Below.grown hb1 hg2 (by omega) (fun k e => by injection e with e; omega)
  have hz2 : w.heap.size < w2.heap.size := hS2.lt
  clear hS1 hb1 hz1 hg2
  have hb3 : Below w.heap.size w (w2.alloc (.cells #[.int .i64 x, .int .i64 y] 34)) := by (repeat (first | assumption | exact Below.refl _ _ | (refine bl_alloc ?_ _) | (refine Below.drew ?_) | (refine bl_drewN ?_ _) | (refine bl_set ?_ (by simp) _) | (refine bl_trans ?_ (by assumption)) | (refine bl_step ?_ (by assumption) (by first | omega | exact Below.size (by assumption) | (simp; omega) | (simp; exact Below.size (by assumption))))))
  have hS3 : Src (w2.alloc (.cells #[.int .i64 x, .int .i64 y] 34)) w.heap.size A cs c 3 := hS2.to ((Below.refl _ _).alloc (Nat.le_refl _) _)
  have ho3 : OwnL (w2.alloc (.cells #[.int .i64 x, .int .i64 y] 34)) (w.heap.size + 1) (.slice (some ⟨w2.heap.size, 0, none⟩) 1 1) [(x, y)] := OwnL.one w2 (w.heap.size + 1) (x, y) (by omega)
  have hP3 : Hid (isPathB [(x, y)] = true) := path_one (isPt_mk ⟨hx, hy⟩)
  have hz3 : w.heap.size < (w2.alloc (.cells #[.int .i64 x, .int .i64 y] 34)).heap.size := hS3.lt
  clear hS2 hb2 hz2 hx hy
  go_wp2_with fail
  refine (pick_any _ _ _ w.heap.size _ _ _ _ hS3 (hp.keepB hb3) (Nat.le_refl _) hw hl (by omega) (by omega) (by omega)).mono ?_
  rintro e w4 ⟨W0, ⟨W0a, W0b⟩, rfl, hS4, hO4⟩
  have hb4 : Below w.heap.size w w4 := hO4.below hb3 (Nat.le_refl _)
  have ho4 := ho3.only hO4 (by omega)
  clear hS3 hO4 hb3 ho3 hz3
  go_wp2_with fail
  refine (pick_any _ _ _ w.heap.size _ _ _ _ hS4 (hp.keepB hb4) (Nat.le_refl _) hw hl (by omega) (by omega) (by omega)).mono ?_
  rintro e w5 ⟨M0, ⟨M0a, M0b⟩, rfl, hS5, hO5⟩
  have hb5 : Below w.heap.size w w5 := hO5.below hb4 (Nat.le_refl _)
  have ho5 := ho4.only hO5 (by omega)
  obtain ⟨W, rfl⟩ : ∃ W : Nat, W0 = W := ⟨W0.toNat, by omega⟩
  obtain ⟨M, rfl⟩ : ∃ M : Nat, M0 = M := ⟨M0.toNat, by omega⟩
  clear hS4 hO5 hb4 ho4 W0a M0a
  go_wp2_with fail
  go_loopw [4, 5, 6] (fun v y i wr => ∃ (L : List Pt) (m W kk : Nat), i = .int .i64 m ∧ y = .int .i64 W ∧ W < 4 ∧ OwnL wr (w.heap.size + 1) v L ∧ Hid (isPathB L = true) ∧ L.length + m ≤ 14 ∧ kk + 2 * m ≤ 40 ∧ Src wr w.heap.size A cs c kk ∧ Below w.heap.size w wr) (fun _ _ i _ => (intOf i).toNat)
  case atStart => exact ⟨[(x, y)], M, W, _, rfl, rfl, by omega, ho5, hP3, by simp; omega, by omega, hS5, hb5⟩
  case round =>
    clear hS5 hb5 ho5 hP3 M0b W0b
    obtain ⟨L, m, W, kk, rfl, rfl, hW, hown, HP, hLm, hkk, hS, hb⟩ := hrel
    have hz : w.heap.size < wr.heap.size := hS.lt
    cases m with
    | zero =>
      obtain ⟨A1, c1, rfl, hI, hc1⟩ := hown.cap
      have hpts := hI.pts
      go_wp2
      go_ret
      exact ⟨A1, L, c1, rfl, HP.out, by omega, hpts, hc1, hb⟩
    | succ m =>
      have hm0 : 0 < ((m + 1 : Nat) : Int) := by omega
      have hm1 : ((m + 1 : Nat) : Int) - 1 = (m : Int) := by omega
      have hm14 : (m : Int) ≤ 14 := by omega
      go_wp2_with fail
      refine (one_any _ _ _ w.heap.size _ _ _ _ hS (hp.keepB hb) (Nat.le_refl _) hw hl (by omega) (by omega) (by omega)).mono ?_
      rintro e w6 ⟨b, rfl, hS6, hO6⟩
      have hb6 : Below w.heap.size w w6 := hO6.below hb (Nat.le_refl _)
      have ho6 := hown.only hO6 (by omega)
      clear hS hb hown hz hO6
      have hL1 := (pathLen HP.out).1
      cases b
      · obtain ⟨k7, hk7, hk7'⟩ : ∃ k7, kk + 1 = k7 ∧ k7 + 2 * m ≤ 40 := ⟨_, rfl, by omega⟩
        rw [hk7] at hS6
        generalize hWW : W = W7 at *
        generalize hww : w6 = w7 at *
        clear hk7 hWW hww
        have hS7 := hS6
        have ho7 := ho6
        have hb7 := hb6
        clear hS6 ho6 hb6 hkk
        obtain ⟨A7, c7, rfl, _, _⟩ := ho7.cap
        obtain ⟨g7, rfl, hg7, hg7', d0, d1⟩ := ho7.last (by omega)
        have dx := fun h => dxy_x hW h
        have dy := fun h => dxy_y hW h
        obtain ⟨bx0, bx1, by0, by1⟩ := dxy_bd W7
        have HFar := fun x y => Lib.hid (dxy_far x y W7)
        generalize (dxy W7).1 = dX at *
        generalize (dxy W7).2 = dY at *
        have hW0 : 0 ≤ (W7 : Int) := by omega
        have hW4 : (W7 : Int) < 4 := by omega
        have hpg := path_pts_at HP.out (k := L.length - 1) (by omega)
        have HL9 : Hid (L.getD (L.length - 1) (0, 0) = L.getD (L.length - 1) (0, 0)) := rfl
        obtain ⟨p, hpL⟩ : ∃ p, L.getD (L.length - 1) (0, 0) = p := ⟨_, rfl⟩
        have HPL := Lib.hid hpL
        rw [hpL] at d0 d1 hpg
        clear hpL HL9
        obtain ⟨⟨p0, p1⟩, p2, p3⟩ := isPt_iff.1 hpg
        have e1 : wrap64 (p.1 + dX) = p.1 + dX := by unfold wrap64; omega
        have e2 : wrap64 (p.2 + dY) = p.2 + dY := by unfold wrap64; omega
        have hL14 : L.length ≤ 1048576 := by omega
        go_wp2_with fail
        go_region
        go_wp2_with fail
        go_region
        clear dx dy
        go_wp2_with fail
        refine (l01Point_any _ _ _).mono ?_
        rintro e w8 ⟨rfl, hb8⟩
        have b8 : Below w7.heap.size w7 w8 := by (repeat (first | assumption | exact Below.refl _ _ | (refine bl_alloc ?_ _) | (refine Below.drew ?_) | (refine bl_drewN ?_ _) | (refine bl_set ?_ (by simp) _) | (refine bl_trans ?_ (by assumption)) | (refine bl_step ?_ (by assumption) (by first | omega | exact Below.size (by assumption) | (simp; omega) | (simp; exact Below.size (by assumption))))))
        have q8 : PtB w8 w7.heap.size (p.1 + dX, p.2 + dY) := by
          refine PtB.to ?_ hb8
          exact PtB.drew_ (PtB.drew_ (((PtB.new w7 (p.1 + dX, p.2 + dY)).to ((Below.refl _ _).alloc (Nat.le_refl _) _)).to ((Below.refl _ _).alloc (Nat.le_refl _) _)))
        have o8 := own_to ho7 b8
        have S8 := hS7.to b8
        have bb8 : Below w.heap.size w w8 := bl_step hb7 b8 hb7.size
        clear d0 d1 hb8 hb7 hS7 ho7
        cases hpt : isPt (p.1 + dX) (p.2 + dY)
        · go_wp2
          go_roundw
          case rel => exact ⟨L, m, W7, k7, by go_num, rfl, hW, o8, HP, by omega, by omega, S8, bb8⟩
          case measure => simp [intOf]; try omega
        · obtain ⟨t0, t1, _, _⟩ := q8.cells
          have HPT := Lib.hid hpt
          clear hpt
          go_wp2_with fail
          refine (l01Index_any _ L _ _ _ _ o8.pts_ hL14).mono ?_
          rintro e w9 ⟨hin, hout, hb9⟩
          have q9 := q8.to hb9
          have o9 := own_to o8 hb9
          have S9 := S8.to hb9
          have bb9 : Below w.heap.size w w9 := bl_trans bb8 hb9
          clear q8 o8 S8 bb8 b8 hb9 t0 t1
          by_cases hm : (p.1 + dX, p.2 + dY) ∈ L
          · obtain ⟨j, rfl, hj⟩ := hin hm
            have hj0 : 0 ≤ (j : Int) := by omega
            have hjn : ¬ (j : Int) < 0 := by omega
            clear hin hout
            go_wp2
            go_roundw
            case rel => exact ⟨L, m, W7, k7, by go_num, rfl, hW, o9, HP, by omega, by omega, S9, bb9⟩
            case measure => simp [intOf]; try omega
          · obtain rfl := hout hm
            obtain ⟨t0, t1, _, _⟩ := q9.cells
            have HN := Lib.hid (path_snoc HP.out (by omega) HPT.out hm (by rw [HPL.out]; exact (HFar _ _).out))
            clear hin hout hm
            have hz9 := bb9.size
            have hS9 := S9.lt
            go_wp2_with (at_builtin; refine append_pt rfl (.tmp 55) (.tmp 57) rfl w9 (w.heap.size + 1) _ _ (p.1 + dX) (p.2 + dY) rfl o9 _ rfl rfl (by omega) (by omega) ?_; intro v6 w6 hown6 hbel6)
            go_roundw
            case rel => exact ⟨L ++ [(p.1 + dX, p.2 + dY)], m, W7, k7, by go_num, rfl, hW, hown6, HN, by simp; omega, by omega, S9.keepB (hbel6 _ (Below.refl _ _)) (by omega), bl_step bb9 ((hbel6 _ (Below.refl _ _)).mono (by omega)) (Nat.le_refl _)⟩
            case measure => simp [intOf]; try omega
      · go_wp2_with fail
        refine (pick_any _ _ _ w.heap.size _ _ _ _ hS6 (hp.keepB hb6) (Nat.le_refl _) hw hl (by omega) (by omega) (by omega)).mono ?_
        rintro e w7 ⟨W1, ⟨W1a, W1b⟩, rfl, hS7, hO7⟩
        have hb7 : Below w.heap.size w w7 := hO7.below hb6 (Nat.le_refl _)
        have ho7 := ho6.only hO7 (by omega)
        obtain ⟨W7, rfl⟩ : ∃ W7 : Nat, W1 = W7 := ⟨W1.toNat, by omega⟩
        obtain ⟨k7, hk7, hk7'⟩ : ∃ k7, kk + 1 + 1 = k7 ∧ k7 + 2 * m ≤ 40 := ⟨_, rfl, by omega⟩
        rw [hk7] at hS7
        have hW : W7 < 4 := by omega
        clear hk7 W1a W1b hO7 hS6 ho6 hb6 hkk
        obtain ⟨A7, c7, rfl, _, _⟩ := ho7.cap
        obtain ⟨g7, rfl, hg7, hg7', d0, d1⟩ := ho7.last (by omega)
        have dx := fun h => dxy_x hW h
        have dy := fun h => dxy_y hW h
        obtain ⟨bx0, bx1, by0, by1⟩ := dxy_bd W7
        have HFar := fun x y => Lib.hid (dxy_far x y W7)
        generalize (dxy W7).1 = dX at *
        generalize (dxy W7).2 = dY at *
        have hW0 : 0 ≤ (W7 : Int) := by omega
        have hW4 : (W7 : Int) < 4 := by omega
        have hpg := path_pts_at HP.out (k := L.length - 1) (by omega)
        have HL9 : Hid (L.getD (L.length - 1) (0, 0) = L.getD (L.length - 1) (0, 0)) := rfl
        obtain ⟨p, hpL⟩ : ∃ p, L.getD (L.length - 1) (0, 0) = p := ⟨_, rfl⟩
        have HPL := Lib.hid hpL
        rw [hpL] at d0 d1 hpg
        clear hpL HL9
        obtain ⟨⟨p0, p1⟩, p2, p3⟩ := isPt_iff.1 hpg
        have e1 : wrap64 (p.1 + dX) = p.1 + dX := by unfold wrap64; omega
        have e2 : wrap64 (p.2 + dY) = p.2 + dY := by unfold wrap64; omega
        have hL14 : L.length ≤ 1048576 := by omega
        go_wp2_with fail
        go_region
        go_wp2_with fail
        go_region
        clear dx dy
        go_wp2_with fail
        refine (l01Point_any _ _ _).mono ?_
        rintro e w8 ⟨rfl, hb8⟩
        have b8 : Below w7.heap.size w7 w8 := by (repeat (first | assumption | exact Below.refl _ _ | (refine bl_alloc ?_ _) | (refine Below.drew ?_) | (refine bl_drewN ?_ _) | (refine bl_set ?_ (by simp) _) | (refine bl_trans ?_ (by assumption)) | (refine bl_step ?_ (by assumption) (by first | omega | exact Below.size (by assumption) | (simp; omega) | (simp; exact Below.size (by assumption))))))
        have q8 : PtB w8 w7.heap.size (p.1 + dX, p.2 + dY) := by
          refine PtB.to ?_ hb8
          exact PtB.drew_ (PtB.drew_ (((PtB.new w7 (p.1 + dX, p.2 + dY)).to ((Below.refl _ _).alloc (Nat.le_refl _) _)).to ((Below.refl _ _).alloc (Nat.le_refl _) _)))
        have o8 := own_to ho7 b8
        have S8 := hS7.to b8
        have bb8 : Below w.heap.size w w8 := bl_step hb7 b8 hb7.size
        clear d0 d1 hb8 hb7 hS7 ho7
        cases hpt : isPt (p.1 + dX) (p.2 + dY)
        · go_wp2
          go_roundw
          case rel => exact ⟨L, m, W7, k7, by go_num, rfl, hW, o8, HP, by omega, by omega, S8, bb8⟩
          case measure => simp [intOf]; try omega
        · obtain ⟨t0, t1, _, _⟩ := q8.cells
          have HPT := Lib.hid hpt
          clear hpt
          go_wp2_with fail
          refine (l01Index_any _ L _ _ _ _ o8.pts_ hL14).mono ?_
          rintro e w9 ⟨hin, hout, hb9⟩
          have q9 := q8.to hb9
          have o9 := own_to o8 hb9
          have S9 := S8.to hb9
          have bb9 : Below w.heap.size w w9 := bl_trans bb8 hb9
          clear q8 o8 S8 bb8 b8 hb9 t0 t1
          by_cases hm : (p.1 + dX, p.2 + dY) ∈ L
          · obtain ⟨j, rfl, hj⟩ := hin hm
            have hj0 : 0 ≤ (j : Int) := by omega
            have hjn : ¬ (j : Int) < 0 := by omega
            clear hin hout
            go_wp2
            go_roundw
            case rel => exact ⟨L, m, W7, k7, by go_num, rfl, hW, o9, HP, by omega, by omega, S9, bb9⟩
            case measure => simp [intOf]; try omega
          · obtain rfl := hout hm
            obtain ⟨t0, t1, _, _⟩ := q9.cells
            have HN := Lib.hid (path_snoc HP.out (by omega) HPT.out hm (by rw [HPL.out]; exact (HFar _ _).out))
            clear hin hout hm
            have hz9 := bb9.size
            have hS9 := S9.lt
            go_wp2_with (at_builtin; refine append_pt rfl (.tmp 55) (.tmp 57) rfl w9 (w.heap.size + 1) _ _ (p.1 + dX) (p.2 + dY) rfl o9 _ rfl rfl (by omega) (by omega) ?_; intro v6 w6 hown6 hbel6)
            go_roundw
            case rel => exact ⟨L ++ [(p.1 + dX, p.2 + dY)], m, W7, k7, by go_num, rfl, hW, hown6, HN, by simp; omega, by omega, S9.keepB (hbel6 _ (Below.refl _ _)) (by omega), bl_step bb9 ((hbel6 _ (Below.refl _ _)).mono (by omega)) (Nat.le_refl _)⟩
            case measure => simp [intOf]; try omega
end Go.Proofs.Ytfmkedmhbmcbiaa
