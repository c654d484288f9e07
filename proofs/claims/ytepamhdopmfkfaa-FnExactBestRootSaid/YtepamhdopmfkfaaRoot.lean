/-
  Contracts: the root with the least sum of distances, as the model has it.
-/
import Derived.Test.YtepamhdopmfkfaaHanan
import Derived.Test.YtepamhdopmfkfaaMedI
namespace Go.Proofs.Ytepamhdopmfkfaa
set_option linter.unusedSimpArgs false
set_option linter.unusedVariables false
open Go.ChangeShapes Go.WideShapes Go.ChangeAt Go.RowKit
open Go.Proofs.Ytepamhdopmfkfaa.fnExactBoxOf

def starF (ps : List Pt) (q : Pt) : Int := starTo ps q.1 q.2 ps.length
theorem sumTo_snoc (l : List Int) (x r : Int) : sumTo (l ++ [x]) r = sumTo l r + absI (x - r) := by simp [sumTo]
theorem starTo_sum (ps : List Pt) (x y : Int) : ∀ k, k ≤ ps.length → starTo ps x y k = sumTo (xsK ps k) x + sumTo (ysK ps k) y
  | 0, _ => by simp [starTo, xsK, ysK, sumTo]
  | k + 1, h => by
    rw [starTo_succ, starTo_sum ps x y k (by omega), xsK_snoc (by omega), ysK_snoc (by omega), sumTo_snoc, sumTo_snoc]
    unfold farI
    omega
theorem starF_sum (ps : List Pt) (q : Pt) : starF ps q = sumTo (ps.map (·.1)) q.1 + sumTo (ps.map (·.2)) q.2 := by
  unfold starF
  rw [starTo_sum ps q.1 q.2 _ (Nat.le_refl _), xsK_all, ysK_all]
/-- The point of the middle X and the middle Y. -/
def medP (ps : List Pt) : Pt := (medL (ps.map (·.1)), medL (ps.map (·.2)))
theorem medP_best {ps : List Pt} (h : ps ≠ []) (q : Pt) : starF ps (medP ps) ≤ starF ps q ∧ (ltB q (medP ps) = true → starF ps (medP ps) < starF ps q) := by
  rw [starF_sum, starF_sum]
  have h1 := medL_best (l := ps.map (·.1)) (by simpa using h) q.1
  have h2 := medL_best (l := ps.map (·.2)) (by simpa using h) q.2
  show sumTo _ (medL (ps.map (·.1))) + sumTo _ (medL (ps.map (·.2))) ≤ _ ∧ (_ → sumTo _ (medL (ps.map (·.1))) + sumTo _ (medL (ps.map (·.2))) < _)
  refine ⟨by omega, fun hq => ?_⟩
  rcases ltB_iff.1 hq with h3 | ⟨h3, h4⟩
  · have := h1.2 h3
    omega
  · have := h2.2 h4
    omega
theorem medP_mem {ps : List Pt} (h : ps ≠ []) : medP ps ∈ hanA ps := by
  rw [hanA_mem]
  have h1 := (medL_at (l := ps.map (·.1)) (by simpa using h)).2.2
  have h2 := (medL_at (l := ps.map (·.2)) (by simpa using h)).2.2
  rw [List.mem_map] at h1 h2
  exact ⟨h1, h2⟩
/-- The first one of the first k + 1 with the least sum. -/
def bestI (ps L : List Pt) : Nat → Nat
  | 0 => 0
  | k + 1 => if starF ps (L.getD (k + 1) (0, 0)) < starF ps (L.getD (bestI ps L k) (0, 0)) then k + 1 else bestI ps L k
theorem bestI_le (ps L : List Pt) : ∀ k, bestI ps L k ≤ k
  | 0 => Nat.le_refl _
  | k + 1 => by unfold bestI; split; exact Nat.le_refl _; have := bestI_le ps L k; omega
theorem bestI_min (ps L : List Pt) : ∀ k, (∀ j, j ≤ k → starF ps (L.getD (bestI ps L k) (0, 0)) ≤ starF ps (L.getD j (0, 0))) ∧ (∀ j, j < bestI ps L k → starF ps (L.getD (bestI ps L k) (0, 0)) < starF ps (L.getD j (0, 0)))
  | 0 => ⟨fun j hj => by obtain rfl : j = 0 := by omega
                         exact Int.le_refl _, fun j hj => by unfold bestI at hj; omega⟩
  | k + 1 => by
    obtain ⟨h1, h2⟩ := bestI_min ps L k
    have h3 := bestI_le ps L k
    unfold bestI
    split
    · rename_i h
      refine ⟨fun j hj => ?_, fun j hj => ?_⟩
      · by_cases e : j = k + 1
        · subst e; exact Int.le_refl _
        · have := h1 j (by omega); omega
      · have := h1 j (by omega); omega
    · rename_i h
      refine ⟨fun j hj => ?_, h2⟩
      by_cases e : j = k + 1
      · subst e; omega
      · exact h1 j (by omega)
theorem best_med {ps L : List Pt} (h : ps ≠ []) (hI : Ins (hanA ps) (hanA ps).length L) : 0 < L.length ∧ L.getD (bestI ps L (L.length - 1)) (0, 0) = medP ps := by
  obtain ⟨ho, hm⟩ := hI
  rw [List.take_length] at hm
  have hmed := (hm (medP ps)).2 (medP_mem h)
  have hl : 0 < L.length := List.length_pos_iff.2 (by rintro rfl; cases hmed)
  refine ⟨hl, ?_⟩
  obtain ⟨j, hj, e⟩ := List.getElem_of_mem hmed
  have ej : L.getD j (0, 0) = medP ps := by rw [← e]; simp [List.getD_eq_getElem?_getD, hj]
  obtain ⟨h1, h2⟩ := bestI_min ps L (L.length - 1)
  have h3 := bestI_le ps L (L.length - 1)
  generalize bestI ps L (L.length - 1) = b at *
  rcases Nat.lt_trichotomy b j with hb | hb | hb
  · have hlt := ord_at ho hb hj
    rw [ej] at hlt
    have h5 := (medP_best h (L.getD b (0, 0))).2 hlt
    have h6 := h1 j (by omega)
    rw [ej] at h6
    omega
  · rw [hb, ej]
  · have h5 := h2 j hb
    rw [ej] at h5
    have h6 := (medP_best h (L.getD b (0, 0))).1
    omega
theorem bestI_succ (ps L : List Pt) (k : Nat) : bestI ps L (k + 1) = if starF ps (L.getD (k + 1) (0, 0)) < starF ps (L.getD (bestI ps L k) (0, 0)) then k + 1 else bestI ps L k := rfl

def brV (ps : List Pt) : Value := .tuple #[.agg #[.int .i64 (sel (isPins ps) (medP ps).1), .int .i64 (sel (isPins ps) (medP ps).2)], .int .i64 (sel (isPins ps) (starF ps (medP ps))), .bool (isPins ps)]
theorem brV_f {ps : List Pt} (h : isPins ps = false) : brV ps = .tuple #[.agg #[.int .i64 0, .int .i64 0], .int .i64 0, .bool false] := by simp [brV, sel, h]
theorem brV_t {ps : List Pt} (h : isPins ps = true) : brV ps = .tuple #[.agg #[.int .i64 (medP ps).1, .int .i64 (medP ps).2], .int .i64 (starF ps (medP ps)), .bool true] := by simp [brV, sel, h]
theorem ins_pt {ps L : List Pt} (ha : allPt ps = true) (hI : Ins (hanA ps) (hanA ps).length L) {q : Pt} (hq : q ∈ L) : isPt q.1 q.2 = true := by
  have := (hI.2 q).1 hq
  rw [List.take_length, hanA_mem] at this
  obtain ⟨⟨p, hp, h1⟩, r, hr, h2⟩ := this
  unfold allPt at ha
  rw [List.all_eq_true] at ha
  have k1 := isPt_iff.1 (ha p hp)
  have k2 := isPt_iff.1 (ha r hr)
  rw [isPt_iff, ← h1, ← h2]
  exact ⟨k1.1, k2.2⟩

set_option maxRecDepth 100000 in
set_option maxHeartbeats 1600000 in
theorem BestRootS_any (A : Option Addr) (ps : List Pt) (c : Nat) (w : World) (hp : PtsAt w w.heap.size A ps) (hl : ps.length ≤ 1048576) (hlc : ps.length ≤ c) :
    Calls Try.prog 27 #[.slice A ps.length c] w fun e w' => e = .returned (brV ps) ∧ Below w.heap.size w w' := by
  have bA : Below w.heap.size w (w.alloc (.cells #[.int .i64 0, .int .i64 0] 33)) := by (repeat (first | assumption | exact Below.refl _ _ | (refine bl_alloc ?_ _) | (refine Below.drew ?_) | (refine bl_drewN ?_ _) | (refine bl_set ?_ (by first | (simp; done) | omega | (simp; omega)) _) | (refine bl_trans ?_ (by assumption)) | (refine bl_step ?_ (by assumption) (by first | omega | exact Below.size (by assumption) | (simp; omega) | (simp; exact Below.size (by assumption))))))
  have hO : One (w.alloc (.cells #[.int .i64 0, .int .i64 0] 33)) w.heap.size 0 0 := heap_alloc_at _ _ rfl
  cases hi : isPins ps
  · have H := Lib.hid hi
    have R := Lib.hid (brV_f hi)
    clear hi
    go_enter Try.func27, Try.ntmps27
    go_wp2_with fail
    refine (l05Is_any _ _ _ _ (hp.to bA) hl hlc).mono ?_
    rintro e w1 ⟨rfl, hb1⟩
    rw [H.out]
    have hO1 := hO.to hb1
    obtain ⟨o0, o1, f0, f1⟩ := hO1.cells
    have b1 := bl_trans bA hb1
    have hZ := (hO1.set0 0).set1 0
    have bZ := (b1.setCell (p := ⟨w.heap.size, 0, none⟩) (Nat.le_refl _) (.int .i64 0)).setCell (p := ⟨w.heap.size, 1, none⟩) (Nat.le_refl _) (.int .i64 0)
    go_wp2
    obtain ⟨z0, z1, _, _⟩ := hZ.cells
    exact bodyPost_ret (v := .tuple #[.agg #[.int .i64 0, .int .i64 0], .int .i64 0, .bool false]) (by simp [results, Try.results27, go_sem, z0, z1]) rfl ⟨by rw [R.out], bZ⟩
  · obtain ⟨h0, h20, ha, _⟩ := isPins_iff.1 hi
    have H := Lib.hid hi
    have R := Lib.hid (brV_t hi)
    have HA := Lib.hid ha
    have HNe : Hid (ps ≠ []) := by show _ ≠ _; rintro rfl; simp at h0
    have hAl := hanA_len h20
    clear hi ha
    go_enter Try.func27, Try.ntmps27
    go_wp2_with fail
    refine (l05Is_any _ _ _ _ (hp.to bA) hl hlc).mono ?_
    rintro e w1 ⟨rfl, hb1⟩
    rw [H.out]
    have b1 := bl_trans bA hb1
    have hO1 := hO.to hb1
    go_wp2_with fail
    refine (l05Hanan_any _ _ _ _ (hp.to b1) h20).mono ?_
    rintro e w2 ⟨v, L, rfl, hown, hI, hb2⟩
    obtain ⟨hL0, hbest⟩ := best_med HNe.out hI
    have HBest := Lib.hid hbest
    have HIn := Lib.hid (fun (k : Nat) (hk : k < L.length) => ins_pt HA.out hI (q := L.getD k (0, 0)) (by simp [List.getD_eq_getElem?_getD, hk]))
    have b2 := bl_trans b1 hb2
    have hO2 := hO1.to hb2
    have hLm : L.length ≤ maxLen := by
      rcases hown.2 with ⟨_, e⟩ | ⟨_, _, _, _, _, _, h1, h2, _⟩
      · omega
      · omega
    unfold maxLen at hLm
    obtain ⟨A2, c2, rfl, hO3⟩ := own3_of hown
    obtain ⟨g, rfl, hg, hP⟩ := hO3 hL0
    have hz1 := b1.size
    have hp2 : PtsAt w2 w2.heap.size (some ⟨g, 0, none⟩) L := Own3.pts (B := w1.heap.size) (fun _ => ⟨g, rfl, hg, hP⟩)
    clear hb1 hb2 hO hO1 hI hown hO3 hbest b1 bA
    have HB0 : Hid (bestI ps L 0 = 0) := rfl
    have r0 := HIn.out 0 hL0
    obtain ⟨x0, x1⟩ := hP.at_ hL0 hL0
    simp only [Nat.zero_mul, Nat.zero_add] at x0 x1
    have HStar : Hid (starF ps (L.getD 0 (0, 0)) = starTo ps (L.getD 0 (0, 0)).1 (L.getD 0 (0, 0)).2 ps.length) := rfl
    have hL0I : (0 : Int) < (L.length : Int) := by omega
    obtain ⟨p0, hp0⟩ : ∃ p0, L.getD 0 (0, 0) = p0 := ⟨_, rfl⟩
    have HP0 := Lib.hid hp0
    rw [hp0] at r0 x0 x1 HStar
    obtain ⟨X, Y⟩ := p0
    simp only at r0 x0 x1 HStar
    have bx : Below w2.heap.size w2 (w2.alloc (.cells #[.int .i64 X, .int .i64 Y] 33)) := by (repeat (first | assumption | exact Below.refl _ _ | (refine bl_alloc ?_ _) | (refine Below.drew ?_) | (refine bl_drewN ?_ _) | (refine bl_set ?_ (by first | (simp; done) | omega | (simp; omega)) _) | (refine bl_trans ?_ (by assumption)) | (refine bl_step ?_ (by assumption) (by first | omega | exact Below.size (by assumption) | (simp; omega) | (simp; exact Below.size (by assumption))))))
    have b3 := bl_trans b2 bx
    have hG : One (w2.alloc (.cells #[.int .i64 X, .int .i64 Y] 33)) w2.heap.size X Y := heap_alloc_at _ _ rfl
    have hP3 := hP.to bx
    have hO3 := hO2.to bx
    have hz2 := b2.size
    have hglt := hP.lt
    clear hp0 hp2 hP hO2 bx b2
    go_wp2_with fail
    refine (l05Star_any _ _ _ X Y _ (hp.to b3) h20 HA.out r0).mono ?_
    rintro e w4 ⟨rfl, hb4⟩
    have b4 := bl_trans b3 hb4
    have hG4 := hG.to hb4
    have hP4 := hP3.to hb4
    have hO4 := hO3.to hb4
    rw [← HStar.out]
    clear hG hP3 hO3 b3 hb4 x0 x1 r0
    generalize w2.heap.size = G at *
    have HGg : Hid (g ≠ G ∧ w.heap.size ≠ G ∧ w.heap.size ≤ G) := ⟨by omega, by omega, by omega⟩
    go_wp2
    go_loopw [7, 8, 9] (fun s i _ wr => ∃ k : Nat, k + 1 ≤ L.length ∧ i = .int .i64 ((k + 1 : Nat) : Int) ∧ s = .int .i64 (starF ps (L.getD (bestI ps L k) (0, 0))) ∧ One wr G (L.getD (bestI ps L k) (0, 0)).1 (L.getD (bestI ps L k) (0, 0)).2 ∧ One wr w.heap.size 0 0 ∧ PBlk2 wr g L L.length ∧ Below w.heap.size w wr) (fun _ i _ _ => L.length - (intOf i).toNat)
    case atStart => exact ⟨0, hL0, rfl, by rw [HB0.out, HP0.out], by rw [HB0.out, HP0.out]; exact hG4, hO4, hP4, b4⟩
    case round =>
      clear hG4 hO4 hP4 b4
      obtain ⟨k, hk, rfl, rfl, hG, hO, hP, hb⟩ := hrel
      have HSc := Lib.hid (bestI_succ ps L k)
      obtain ⟨q, hq⟩ : ∃ q, L.getD (bestI ps L k) (0, 0) = q := ⟨_, rfl⟩
      rw [hq] at hG HSc ⊢
      have HQ := Lib.hid hq
      by_cases hlt : k + 1 < L.length
      · have hltI : ((k + 1 : Nat) : Int) < (L.length : Int) := by omega
        have hk0 : (0 : Int) ≤ ((k + 1 : Nat) : Int) := by omega
        obtain ⟨x0, x1⟩ := hP.at_ hlt hlt
        have r0 := HIn.out (k + 1) hlt
        obtain ⟨p1, hp1⟩ : ∃ p1, L.getD (k + 1) (0, 0) = p1 := ⟨_, rfl⟩
        have HP1 := Lib.hid hp1
        rw [hp1] at r0 x0 x1 HSc
        obtain ⟨X1, Y1⟩ := p1
        simp only at r0 x0 x1
        have HStar : Hid (starF ps (X1, Y1) = starTo ps X1 Y1 ps.length) := rfl
        obtain ⟨m, hm⟩ : ∃ m : Nat, k + 1 = m := ⟨_, rfl⟩
        have HMk := Lib.hid hm
        rw [hm] at hltI hk0 x0 x1 ⊢
        clear hp1 hq hm
        go_wp2_with fail
        refine (l05Star_any _ _ _ X1 Y1 _ (hp.to hb) h20 HA.out r0).mono ?_
        rintro e w5 ⟨rfl, hb5⟩
        have b5 := bl_trans hb hb5
        have hG5 := hG.to hb5
        have hP5 := hP.to hb5
        have hO5 := hO.to hb5
        rw [← HStar.out]
        have hGl := hG5.lt
        obtain ⟨y0, y1⟩ := hP5.at_ (i := m) (by have := HMk.out; omega) (by have := HMk.out; omega)
        have ey : L.getD m (0, 0) = (X1, Y1) := by rw [← HMk.out]; exact HP1.out
        rw [ey] at y0 y1
        simp only at y0 y1
        obtain ⟨g0, g1, gf0, gf1⟩ := hG5.cells
        clear hG hP hO hb hb5 x0 x1 r0 ey
        by_cases hc : starF ps (X1, Y1) < starF ps q
        · have HE : Hid (bestI ps L (k + 1) = k + 1) := by show _ = _; rw [HSc.out, if_pos hc]
          have hG6 := (hG5.set0 X1).set1 Y1
          have hP6 : PBlk2 ((w5.setCell ⟨G, 0, none⟩ (.int .i64 X1)).setCell ⟨G, 1, none⟩ (.int .i64 Y1)) g L L.length := hP5.keep ((Below.heap_setCell _ ⟨G, 1, none⟩ _ g HGg.out.1).trans (Below.heap_setCell _ ⟨G, 0, none⟩ _ g HGg.out.1))
          have hO6 := (hO5.far (p := ⟨G, 0, none⟩) HGg.out.2.1 (.int .i64 X1)).far (p := ⟨G, 1, none⟩) HGg.out.2.1 (.int .i64 Y1)
          have b6 := (b5.setCell (p := ⟨G, 0, none⟩) HGg.out.2.2 (.int .i64 X1)).setCell (p := ⟨G, 1, none⟩) HGg.out.2.2 (.int .i64 Y1)
          have HFin : Hid (L.getD (bestI ps L (k + 1)) (0, 0) = (X1, Y1)) := by show _ = _; rw [HE.out, HP1.out]
          go_wp2
          go_roundw
          case rel => exact ⟨k + 1, by omega, by have := HMk.out; go_num, by rw [HFin.out], by rw [HFin.out]; exact hG6, hO6, hP6, b6⟩
          case measure => have := HMk.out; simp [intOf]; omega
        · have HE : Hid (bestI ps L (k + 1) = bestI ps L k) := by show _ = _; rw [HSc.out, if_neg hc]
          have HFin : Hid (L.getD (bestI ps L (k + 1)) (0, 0) = q) := by show _ = _; rw [HE.out, HQ.out]
          go_wp2
          go_roundw
          case rel => exact ⟨k + 1, by omega, by have := HMk.out; go_num, by rw [HFin.out], by rw [HFin.out]; exact hG5, hO5, hP5, b5⟩
          case measure => have := HMk.out; simp [intOf]; omega
      · obtain rfl : k = L.length - 1 := by omega
        have hqm : q = medP ps := by rw [← hq, HBest.out]
        subst hqm
        have hN : ((L.length - 1 + 1 : Nat) : Int) = (L.length : Int) := by omega
        obtain ⟨g0, g1, _, _⟩ := hG.cells
        obtain ⟨o0, o1, f0, f1⟩ := hO.cells
        have hZ := (hO.set0 (medP ps).1).set1 (medP ps).2
        have bZ := (hb.setCell (p := ⟨w.heap.size, 0, none⟩) (Nat.le_refl _) (.int .i64 (medP ps).1)).setCell (p := ⟨w.heap.size, 1, none⟩) (Nat.le_refl _) (.int .i64 (medP ps).2)
        obtain ⟨z0, z1, _, _⟩ := hZ.cells
        rw [hN]
        clear hN hq hk hlt
        go_wp2
        exact bodyPost_ret (v := .tuple #[.agg #[.int .i64 (medP ps).1, .int .i64 (medP ps).2], .int .i64 (starF ps (medP ps)), .bool true]) (by simp [results, Try.results27, go_sem, z0, z1]) rfl ⟨by rw [R.out], bZ⟩
end Go.Proofs.Ytepamhdopmfkfaa
