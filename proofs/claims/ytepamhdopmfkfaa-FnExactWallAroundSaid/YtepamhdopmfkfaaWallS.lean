/-
  Contract: the walls around reached cells, as the model has them.
-/
import Derived.Test.YtepamhdopmfkfaaReachedW
namespace Go.Proofs.Ytepamhdopmfkfaa
set_option linter.unusedSimpArgs false
set_option linter.unusedVariables false
open Go.ChangeShapes Go.WideShapes Go.ChangeAt Go.RowKit

/-- One of the first k neighbours is reached. -/
noncomputable def anyN (M : Mz) (p q : Pt) : Nat → Bool
  | 0 => false
  | k + 1 => anyN M p q k || reachB M p (nb q k)
theorem anyN_succ (M : Mz) (p q : Pt) (k : Nat) : anyN M p q (k + 1) = (anyN M p q k || reachB M p (nb q k)) := rfl
noncomputable def wallS (M : Mz) (p q : Pt) : Bool := decide (priceI M q.1 q.2 = 0) && anyN M p q 4
noncomputable def wallC (M : Mz) (p : Pt) : List Pt := colsS (wallS M p) M.length (wid M)
def MarksTo (M : Mz) (p : Pt) (f : Nat → Bool) (x y : Nat) (b : Bool) : Prop :=
  ∀ x' y' : Nat, x' < wid M → y' < M.length → f (idxN M x' y') = if x' = x ∧ y' = y then b else (decide (y' < y ∨ (y' = y ∧ x' < x)) && wallS M p ((x' : Int), (y' : Int)))
theorem MarksTo.start (M : Mz) (p : Pt) : MarksTo M p (fun _ => false) 0 0 false := fun x' y' _ _ => by
  by_cases e : x' = 0 ∧ y' = 0
  · rw [if_pos e]
  · rw [if_neg e, decide_eq_false (by omega)]; rfl
theorem MarksTo.next {M : Mz} {p : Pt} {f : Nat → Bool} {x y : Nat} (h : MarksTo M p f x y (wallS M p ((x : Int), (y : Int)))) : MarksTo M p f (x + 1) y false := fun x' y' hx hy => by
  rw [h x' y' hx hy]
  by_cases e : x' = x ∧ y' = y
  · obtain ⟨rfl, rfl⟩ := e
    rw [if_pos ⟨rfl, rfl⟩, if_neg (by omega), decide_eq_true (by omega)]; simp
  · rw [if_neg e]
    by_cases e2 : x' = x + 1 ∧ y' = y
    · rw [if_pos e2, decide_eq_false (by omega)]; rfl
    · rw [if_neg e2]
      congr 1
      exact decide_eq_decide.2 (by omega)
theorem MarksTo.row {M : Mz} {p : Pt} {f : Nat → Bool} {y : Nat} (h : MarksTo M p f (wid M) y false) : MarksTo M p f 0 (y + 1) false := fun x' y' hx hy => by
  rw [h x' y' hx hy, if_neg (by omega)]
  by_cases e : x' = 0 ∧ y' = y + 1
  · rw [if_pos e, decide_eq_false (by omega)]; rfl
  · rw [if_neg e]
    congr 1
    exact decide_eq_decide.2 (by omega)
theorem MarksTo.end_ {M : Mz} {p : Pt} {f : Nat → Bool} (h : MarksTo M p f 0 M.length false) (x y : Nat) (hx : x < wid M) (hy : y < M.length) : f (idxN M x y) = wallS M p ((x : Int), (y : Int)) := by
  rw [h x y hx hy, if_neg (by omega), decide_eq_true (by omega)]; simp
theorem MarksTo.upd_ {M : Mz} {p : Pt} {f : Nat → Bool} {x y : Nat} {b : Bool} (h : MarksTo M p f x y b) (hx : x < wid M) (hy : y < M.length) : MarksTo M p (upd f (idxN M x y)) x y true := fun x' y' hx' hy' => by
  unfold upd
  by_cases e : x' = x ∧ y' = y
  · obtain ⟨rfl, rfl⟩ := e
    rw [if_pos rfl, if_pos ⟨rfl, rfl⟩]
  · rw [if_neg (fun e2 => e (idxN_inj hx' hx e2)), h x' y' hx' hy', if_neg e, if_neg e]
theorem wallS_open {M : Mz} {p q : Pt} (h : openB M q.1 q.2 = true) : wallS M p q = false := by
  unfold wallS
  unfold openB at h
  have := of_decide_eq_true h
  rw [decide_eq_false (by omega)]; rfl
theorem wallS_not {M : Mz} {p : Pt} {x y : Nat} (hM : MzOk M) (hx : x < wid M) (hy : y < M.length) (h : openB M (x : Int) (y : Int) = false) : wallS M p ((x : Int), (y : Int)) = anyN M p ((x : Int), (y : Int)) 4 := by
  unfold wallS
  unfold openB at h
  have h1 := of_decide_eq_false h
  have h2 := hM.cell y x hy hx
  have h3 := priceI_in (M := M) hx hy
  rw [show priceI M ((x : Int), (y : Int)).1 ((x : Int), (y : Int)).2 = priceI M (x : Int) (y : Int) from rfl, decide_eq_true (by omega)]; simp
theorem reachB_not {M : Mz} {p q : Pt} (hpo : openB M p.1 p.2 = true) (h : openB M q.1 q.2 = false) : reachB M p q = false := by
  cases hc : reachB M p q
  · rfl
  · rw [(reachB_iff.1 hc).open_ hpo] at h; cases h

/-- What the walls around come to. -/
def WallRes (M : Mz) (p : Pt) (w : World) (e : Ending) (w' : World) : Prop :=
  ((atB M p.1 p.2 = false ∧ e = .returned (.tuple #[.slice none 0 0, .bool false])) ∨ (atB M p.1 p.2 = true ∧ ∃ v, e = .returned (.tuple #[v, .bool true]) ∧ OwnQ w' w.heap.size v (wallC M p))) ∧ Below w.heap.size w w'
set_option maxRecDepth 100000 in
set_option maxHeartbeats 1600000 in
theorem WallAroundS_no (A : Option Addr) (Ls : List SlI) (c : Nat) (x y : Int) (w : World) (hp : ISAt w w.heap.size A Ls) (hs : Short Ls) (ha : atB (heldI Ls) x y = false) :
    Calls Try.prog 30 #[.agg #[.slice A Ls.length c], .agg #[.int .i64 x, .int .i64 y]] w (WallRes (heldI Ls) (x, y) w) := by
  have HA := Lib.hid ha
  have cA := fun w1 g hm => l04At_any g A Ls c x y w1 hm hs
  rw [ha] at cA
  clear ha
  go_enter Try.func30, Try.ntmps30
  go_wp2_with fail
  refine (cA _ w.heap.size (MzAt.new hp (by (repeat (first | assumption | exact Below.refl _ _ | (refine bl_alloc ?_ _) | (refine Below.drew ?_) | (refine bl_drewN ?_ _) | (refine bl_set ?_ (by first | (simp; done) | omega | (simp; omega)) _) | (refine bl_trans ?_ (by assumption)) | (refine bl_step ?_ (by assumption) (by first | omega | exact Below.size (by assumption) | (simp; omega) | (simp; exact Below.size (by assumption))))))) (by go_simp) (by simp <;> omega))).mono ?_
  rintro e w1 ⟨rfl, hb1⟩
  go_wp2
  go_ret2
  exact ⟨.inl ⟨HA.out, rfl⟩, by (repeat (first | assumption | exact Below.refl _ _ | (refine bl_alloc ?_ _) | (refine Below.drew ?_) | (refine bl_drewN ?_ _) | (refine bl_set ?_ (by first | (simp; done) | omega | (simp; omega)) _) | (refine bl_trans ?_ (by assumption)) | (refine bl_step ?_ (by assumption) (by first | omega | exact Below.size (by assumption) | (simp; omega) | (simp; exact Below.size (by assumption))))))⟩
set_option maxRecDepth 100000 in
set_option maxHeartbeats 6400000 in
theorem WallAroundS_yes (A : Option Addr) (Ls : List SlI) (c : Nat) (x y : Int) (w : World) (hp : ISAt w w.heap.size A Ls) (hs : Short Ls) (ha : atB (heldI Ls) x y = true) :
    Calls Try.prog 30 #[.agg #[.slice A Ls.length c], .agg #[.int .i64 x, .int .i64 y]] w (WallRes (heldI Ls) (x, y) w) := by
  obtain ⟨hv, ho⟩ := atB_two ha
  obtain ⟨i, j, rfl, rfl, hi, hj, _⟩ := openB_pt ho
  have hM := mzOk_of hv
  have HA := Lib.hid ha
  have HI := Lib.hid hi
  have HJ := Lib.hid hj
  have HMO := Lib.hid hM
  have HPO := Lib.hid ho
  have cA := fun w1 g hm => l04At_any g A Ls c i j w1 hm hs
  rw [ha] at cA
  clear ha hv ho hi hj hM
  have hm1 : MzAt ((w.alloc (.cells #[.slice A Ls.length c] 51)).alloc (.cells #[.int .i64 i, .int .i64 j] 33)) w.heap.size A Ls c := MzAt.new hp (by (repeat (first | assumption | exact Below.refl _ _ | (refine bl_alloc ?_ _) | (refine Below.drew ?_) | (refine bl_drewN ?_ _) | (refine bl_set ?_ (by first | (simp; done) | omega | (simp; omega)) _) | (refine bl_trans ?_ (by assumption)) | (refine bl_step ?_ (by assumption) (by first | omega | exact Below.size (by assumption) | (simp; omega) | (simp; exact Below.size (by assumption))))))) (by go_simp) (by simp <;> omega)
  have b1 : Below w.heap.size w ((w.alloc (.cells #[.slice A Ls.length c] 51)).alloc (.cells #[.int .i64 i, .int .i64 j] 33)) := by (repeat (first | assumption | exact Below.refl _ _ | (refine bl_alloc ?_ _) | (refine Below.drew ?_) | (refine bl_drewN ?_ _) | (refine bl_set ?_ (by first | (simp; done) | omega | (simp; omega)) _) | (refine bl_trans ?_ (by assumption)) | (refine bl_step ?_ (by assumption) (by first | omega | exact Below.size (by assumption) | (simp; omega) | (simp; exact Below.size (by assumption))))))
  have hP1 := PtBox.new (w.alloc (.cells #[.slice A Ls.length c] 51)) i j
  go_enter Try.func30, Try.ntmps30
  go_wp2_with fail
  refine (cA _ w.heap.size hm1).mono ?_
  rintro e w2 ⟨rfl, hb2⟩
  have hm2 := hm1.to hb2
  have b2 := bl_step b1 hb2 b1.size
  have hP2 := hP1.to hb2
  simp at hP2
  have p0 := hP2.c0
  have p1 := hP2.c1
  simp only at p0 p1
  have hz2 := hP2.lt
  clear hm1 b1 hP1 hb2 cA
  have hm3 := hm2.to (show Below w2.heap.size w2 (w2.alloc (.cells #[] 33)) by (repeat (first | assumption | exact Below.refl _ _ | (refine bl_alloc ?_ _) | (refine Below.drew ?_) | (refine bl_drewN ?_ _) | (refine bl_set ?_ (by first | (simp; done) | omega | (simp; omega)) _) | (refine bl_trans ?_ (by assumption)) | (refine bl_step ?_ (by assumption) (by first | omega | exact Below.size (by assumption) | (simp; omega) | (simp; exact Below.size (by assumption)))))))
  have b3 : Below w.heap.size w (w2.alloc (.cells #[] 33)) := bl_alloc b2 _
  go_wp2_with fail
  refine (l04Reached_any w.heap.size A Ls c i j _ 0 _ hm3 HMO.out HI.out HJ.out).mono ?_
  rintro e w4 ⟨⟨gm, f0, rfl, hgm, hF, hf⟩, hb4⟩
  have hm4 := hm3.to hb4
  have b4 := bl_step b3 hb4 b3.size
  have HFf := Lib.hid hf
  clear hm3 hb4 b3 hf p0 p1 hz2 hP2 hm2 b2 hp
  have hv := HMO.out
  have cI := fun i j w1 hm hi hj => l04Index_any w.heap.size A Ls c i j w1 hm hv hi hj
  have cO := fun x y w1 hm => l04Open_any w.heap.size A Ls c x y w1 hm hv
  have cT := fun gm2 f2 w1 hm hF2 hn hS => l04Sorted_any w.heap.size A Ls c gm2 f2 (wallS (heldI Ls) ((i : Int), (j : Int))) ((heldI Ls).length * wid (heldI Ls)) ((heldI Ls).length * wid (heldI Ls)) w1 hm hv hF2 hn hS
  obtain ⟨M, hM⟩ : ∃ M, heldI Ls = M := ⟨_, rfl⟩
  have h12 := hv.h12
  have w12 := hv.w12
  have hwid := heldI_wid Ls
  have hlen := heldI_len Ls
  unfold WallRes
  unfold wallC
  rw [hM] at hv h12 w12 hwid hlen cI cO cT HFf hF HI HJ HMO HPO HA ⊢
  have HM4 := Lib.hid hm4
  have HMM := Lib.hid hM
  obtain ⟨n, hn⟩ : ∃ n, M.length * wid M = n := ⟨_, rfl⟩
  have hmul : M.length * wid M ≤ 12 * 12 := Nat.mul_le_mul h12 w12
  have HNn := Lib.hid hn
  rw [hn] at hmul hF cT ⊢
  obtain ⟨hg, hgl, hp⟩ := hm4
  obtain ⟨b, off, rfl, hbB, hc⟩ := hp (by have := hv.h1; omega)
  obtain ⟨c0, _, _, _⟩ := hc 0 (by have := hv.h1; omega)
  rw [Nat.add_zero, ← hwid] at c0
  have h0I : (0 : Int) < (Ls.length : Int) := by have := hv.h1; omega
  have h0N : 0 < Ls.length := by omega
  rw [← hlen] at hg h0I h0N
  have CI := Lib.hid cI
  have CO := Lib.hid cO
  have CT := Lib.hid cT
  have hmk := run_mkbools n (by omega)
  have hF0 := FBlk.new w4 n
  have bS : Below w4.heap.size w4 (w4.alloc (.cells (blankF n) 4)) := by (repeat (first | assumption | exact Below.refl _ _ | (refine bl_alloc ?_ _) | (refine Below.drew ?_) | (refine bl_drewN ?_ _) | (refine bl_set ?_ (by first | (simp; done) | omega | (simp; omega)) _) | (refine bl_trans ?_ (by assumption)) | (refine bl_step ?_ (by assumption) (by first | omega | exact Below.size (by assumption) | (simp; omega) | (simp; exact Below.size (by assumption))))))
  have hz4 := b4.size
  have hgm4 := hF.lt
  have HMk := Lib.hid (MarksTo.start M ((i : Int), (j : Int)))
  clear hc hp hwid hlen cI cO cT hM hv
  generalize (Ls.getD 0 si0).1 = A0 at *
  generalize (Ls.getD 0 si0).2.2 = k0 at *
  go_wp2
  clear hmk
  go_loopw [8, 9, 10, 11, 12] (fun u _ _ _ _ wr => ∃ (y : Nat) (f : Nat → Bool), y ≤ M.length ∧ u = .int .i64 y ∧ FBlk wr w4.heap.size n f ∧ Hid (MarksTo M ((i : Int), (j : Int)) f 0 y false) ∧ Below w4.heap.size w4 wr) (fun u _ _ _ _ _ => M.length - (intOf u).toNat)
  case atStart => exact ⟨0, _, Nat.zero_le _, rfl, hF0, HMk, bS⟩
  case round =>
    clear hF0 HMk bS
    obtain ⟨y, f, hy, rfl, hF2, HMk, hb⟩ := hrel
    have dg := (hb.cell (p := ⟨w.heap.size, 0, none⟩) hgl).trans hg
    have d0 := (hb.cell (p := ⟨b, off, none⟩) hbB).trans c0
    have hy0 : (0 : Int) ≤ (y : Int) := by omega
    by_cases hyl : y < M.length
    · have hyI : (y : Int) < (M.length : Int) := by omega
      go_wp2
      clear dg d0
      go_loopw [9, 10, 11, 12] (fun u _ _ _ wr => ∃ (x : Nat) (f : Nat → Bool), x ≤ wid M ∧ u = .int .i64 x ∧ FBlk wr w4.heap.size n f ∧ Hid (MarksTo M ((i : Int), (j : Int)) f x y false) ∧ Below w4.heap.size w4 wr) (fun u _ _ _ _ => wid M - (intOf u).toNat)
      case atStart => exact ⟨0, f, Nat.zero_le _, rfl, hF2, HMk, hb⟩
      case round =>
        clear hF2 HMk hb
        obtain ⟨x, f, hx, rfl, hF2, HMk, hb⟩ := hrel
        have dg := (hb.cell (p := ⟨w.heap.size, 0, none⟩) hgl).trans hg
        have d0 := (hb.cell (p := ⟨b, off, none⟩) hbB).trans c0
        have hx0 : (0 : Int) ≤ (x : Int) := by omega
        by_cases hxl : x < wid M
        · have hxI : (x : Int) < (wid M : Int) := by omega
          have bx : Below wr.heap.size wr (wr.alloc (.cells #[.int .i64 x, .int .i64 y] 33)) := by (repeat (first | assumption | exact Below.refl _ _ | (refine bl_alloc ?_ _) | (refine Below.drew ?_) | (refine bl_drewN ?_ _) | (refine bl_set ?_ (by first | (simp; done) | omega | (simp; omega)) _) | (refine bl_trans ?_ (by assumption)) | (refine bl_step ?_ (by assumption) (by first | omega | exact Below.size (by assumption) | (simp; omega) | (simp; exact Below.size (by assumption))))))
          have b5 := bl_step hb bx hb.size
          have hm5 := HM4.out.to b5
          have hF5 := hF2.to bx
          have hP5 := PtBox.new wr (x : Int) (y : Int)
          have hz := hb.size
          have hGz := hF2.lt
          clear hF2 hb
          go_wp2_with fail
          refine (CO.out x y _ hm5).mono ?_
          rintro e w6 ⟨rfl, hb6⟩
          have b6 := bl_step b5 hb6 b5.size
          have hF6 := hF5.to hb6
          have hP6 := hP5.to hb6
          have hGl := hP6.lt
          clear hm5 b5 hF5 hP5 hb6 bx dg d0
          cases hop : openB M (x : Int) (y : Int)
          · have HW := Lib.hid (wallS_not (p := ((i : Int), (j : Int))) HMO.out hxl hyl hop)
            have HN0 : Hid (MarksTo M ((i : Int), (j : Int)) f x y (anyN M ((i : Int), (j : Int)) ((x : Int), (y : Int)) 0)) := HMk.out
            clear hop HMk
            have hz2 : w4.heap.size < wr.heap.size := hGz
            generalize wr.heap.size = G at *
            have HZ2 := Lib.hid hz2
            go_wp2
            go_loopw [11, 12] (fun u _ wr => ∃ (k : Nat) (f : Nat → Bool), k ≤ 4 ∧ u = .int .i64 k ∧ FBlk wr w4.heap.size n f ∧ Hid (MarksTo M ((i : Int), (j : Int)) f x y (anyN M ((i : Int), (j : Int)) ((x : Int), (y : Int)) k)) ∧ Below w4.heap.size w4 wr ∧ PtBox wr G ((x : Int), (y : Int))) (fun u _ _ => 4 - (intOf u).toNat)
            case atStart => exact ⟨0, f, by omega, rfl, hF6, HN0, b6, hP6⟩
            case round =>
              clear hF6 HN0 b6 hP6
              obtain ⟨k, f, hk, rfl, hF2, HMk, hb, hP⟩ := hrel
              have p0 := hP.c0
              have p1 := hP.c1
              simp only at p0 p1
              have hGl := hP.lt
              have hzb := hb.size
              by_cases hk4 : k < 4
              · have hkI : (k : Int) < 4 := by omega
                have hk0 : (0 : Int) ≤ (k : Int) := by omega
                have HAn := Lib.hid (anyN_succ M ((i : Int), (j : Int)) ((x : Int), (y : Int)) k)
                have hst := @stepW_lo (x : Int) (y : Int) k ⟨by omega, by omega⟩ ⟨by omega, by omega⟩
                have HNb : Hid (nb ((x : Int), (y : Int)) k = stepW (x : Int) (y : Int) k) := rfl
                obtain ⟨r, hr⟩ : ∃ r, stepW (x : Int) (y : Int) k = r := ⟨_, rfl⟩
                have cS := l04Step_any (x : Int) (y : Int) k wr ⟨by omega, by omega⟩ ⟨by omega, by omega⟩ ⟨by omega, by omega⟩
                rw [hr] at cS hst HNb
                clear hr
                obtain ⟨X, Y⟩ := r
                simp only [] at cS hst
                go_wp2_with fail
                refine cS.mono ?_
                rintro e w7 ⟨rfl, hb7⟩
                have bx : Below w7.heap.size w7 (w7.alloc (.cells #[.int .i64 X, .int .i64 Y] 33)) := by (repeat (first | assumption | exact Below.refl _ _ | (refine bl_alloc ?_ _) | (refine Below.drew ?_) | (refine bl_drewN ?_ _) | (refine bl_set ?_ (by first | (simp; done) | omega | (simp; omega)) _) | (refine bl_trans ?_ (by assumption)) | (refine bl_step ?_ (by assumption) (by first | omega | exact Below.size (by assumption) | (simp; omega) | (simp; exact Below.size (by assumption))))))
                have b7 := bl_step hb hb7 hb.size
                have b8 := bl_step b7 bx b7.size
                have hm8 := HM4.out.to b8
                have hF8 := (hF2.to hb7).to bx
                have hP8 := (hP.to hb7).to bx
                have hQ8 := PtBox.new w7 X Y
                clear cS hF2 hP hb hb7 b7 bx p0 p1
                go_wp2_with fail
                refine (CO.out X Y _ hm8).mono ?_
                rintro e w9 ⟨rfl, hb9⟩
                have b9 := bl_step b8 hb9 b8.size
                have hm9 := HM4.out.to b9
                have hF9 := hF8.to hb9
                have hP9 := hP8.to hb9
                have hQ9 := hQ8.to hb9
                have hGl := hP9.lt
                have hQl := hQ9.lt
                have p0 := hP9.c0
                have p1 := hP9.c1
                have r0 := hQ9.c0
                have r1 := hQ9.c1
                simp only at p0 p1 r0 r1
                clear hm8 hF8 hP8 hQ8 hb9 b8
                generalize w7.heap.size = G2 at *
                cases ho : openB M X Y
                · have HE : Hid (anyN M ((i : Int), (j : Int)) ((x : Int), (y : Int)) (k + 1) = anyN M ((i : Int), (j : Int)) ((x : Int), (y : Int)) k) := by
                    show _ = _
                    rw [HAn.out, HNb.out, reachB_not HPO.out ho]; simp
                  have HMn : Hid (MarksTo M ((i : Int), (j : Int)) f x y (anyN M ((i : Int), (j : Int)) ((x : Int), (y : Int)) (k + 1))) := by show MarksTo _ _ _ _ _ _; rw [HE.out]; exact HMk.out
                  clear ho
                  go_wp2
                  go_roundw
                  case rel => exact ⟨k + 1, f, by omega, by go_num, hF9, HMn, b9, hP9⟩
                  case measure => simp [intOf]; omega
                · obtain ⟨x2, y2, hx2, hy2, hx2', hy2', _⟩ := openB_pt ho
                  subst hx2; subst hy2
                  have hkx := idxN_lt hx2' hy2'
                  rw [HNn.out] at hkx
                  have HRe := Lib.hid (HFf.out x2 y2 hx2' hy2')
                  have cI9 := CI.out x2 y2 w9 hm9 hx2' hy2'
                  clear ho hx2' hy2'
                  go_wp2_with fail
                  refine cI9.mono ?_
                  rintro e w10 ⟨rfl, hb10⟩
                  have b10 := bl_step b9 hb10 b9.size
                  have hm10 := HM4.out.to b10
                  have hF10 := hF9.to hb10
                  have hP10 := hP9.to hb10
                  have hGl := hP10.lt
                  have p0 := hP10.c0
                  have p1 := hP10.c1
                  simp only at p0 p1
                  have hsx := (hF.to b10).at_ hkx
                  have hi0 : (0 : Int) ≤ ((idxN M x2 y2 : Nat) : Int) := by omega
                  have hiI : ((idxN M x2 y2 : Nat) : Int) < (n : Int) := by omega
                  clear cI9 hm9 hF9 hP9 hQ9 hb10 r0 r1
                  cases hs : f0 (idxN M x2 y2)
                  · have HE : Hid (anyN M ((i : Int), (j : Int)) ((x : Int), (y : Int)) (k + 1) = anyN M ((i : Int), (j : Int)) ((x : Int), (y : Int)) k) := by
                      show _ = _
                      rw [HAn.out, HNb.out, ← HRe.out, hs]; simp
                    have HMn : Hid (MarksTo M ((i : Int), (j : Int)) f x y (anyN M ((i : Int), (j : Int)) ((x : Int), (y : Int)) (k + 1))) := by show MarksTo _ _ _ _ _ _; rw [HE.out]; exact HMk.out
                    rw [hs] at hsx
                    clear hs
                    go_wp2
                    go_roundw
                    case rel => exact ⟨k + 1, f, by omega, by go_num, hF10, HMn, b10, hP10⟩
                    case measure => simp [intOf]; omega
                  · have HE : Hid (anyN M ((i : Int), (j : Int)) ((x : Int), (y : Int)) (k + 1) = true) := by
                      show _ = _
                      rw [HAn.out, HNb.out, ← HRe.out, hs]; simp
                    have HMn : Hid (MarksTo M ((i : Int), (j : Int)) (upd f (idxN M x y)) x y (anyN M ((i : Int), (j : Int)) ((x : Int), (y : Int)) (k + 1))) := by show MarksTo _ _ _ _ _ _; rw [HE.out]; exact HMk.out.upd_ hxl hyl
                    have hjx := idxN_lt hxl hyl
                    rw [HNn.out] at hjx
                    have cI10 := CI.out x y w10 hm10 hxl hyl
                    have hj0 : (0 : Int) ≤ ((idxN M x y : Nat) : Int) := by omega
                    have hjI : ((idxN M x y : Nat) : Int) < (n : Int) := by omega
                    rw [hs] at hsx
                    clear hs hm10
                    go_wp2_with fail
                    refine cI10.mono ?_
                    rintro e w11 ⟨rfl, hb11⟩
                    have b11 := bl_step b10 hb11 b10.size
                    have hF11 := hF10.to hb11
                    have hP11 := hP10.to hb11
                    have f11 := hF11.frozen (idxN M x y)
                    have t11 := hF11.at_ hjx
                    have hF12 := hF11.set_ hjx
                    have b12 := b11.setCell (p := ⟨w4.heap.size, idxN M x y, none⟩) (Nat.le_refl _) (.bool true)
                    have hP12 := hP11.keep (Below.heap_setCell w11 ⟨w4.heap.size, idxN M x y, none⟩ (.bool true) G (by have := HZ2.out; simp <;> omega))
                    clear cI10 hF10 hP10 hb11 b10 hF11 hP11 b11 hsx p0 p1
                    have HF12 := Lib.hid hF12
                    have HB12 := Lib.hid b12
                    have HP12 := Lib.hid hP12
                    clear hF12 b12 hP12
                    go_wp2
                    go_roundw
                    case rel => exact ⟨k + 1, _, by omega, by go_num, HF12.out, HMn, HB12.out, HP12.out⟩
                    case measure => simp [intOf]; omega
              · obtain rfl : k = 4 := by omega
                have HN : Hid (MarksTo M ((i : Int), (j : Int)) f (x + 1) y false) := MarksTo.next (by rw [HW.out]; exact HMk.out)
                go_wp2
                go_roundw
                case rel => exact ⟨x + 1, f, by omega, by go_num, hF2, HN, hb⟩
                case measure => simp [intOf]; omega
          · have HW := Lib.hid (wallS_open (p := ((i : Int), (j : Int))) (q := ((x : Int), (y : Int))) hop)
            have HN : Hid (MarksTo M ((i : Int), (j : Int)) f (x + 1) y false) := MarksTo.next (by rw [HW.out]; exact HMk.out)
            clear hop HMk
            go_wp2
            go_roundw
            case rel => exact ⟨x + 1, f, by omega, by go_num, hF6, HN, b6⟩
            case measure => simp [intOf]; omega
        · obtain rfl : x = wid M := by omega
          go_wp2
          go_roundw
          case rel => exact ⟨y + 1, f, by omega, by go_num, hF2, Lib.hid HMk.out.row, hb⟩
          case measure => simp [intOf]; omega
    · obtain rfl : y = M.length := by omega
      have hm6 := HM4.out.to hb
      have b6 := bl_step b4 hb b4.size
      go_wp2_with fail
      refine (CT.out w4.heap.size f wr hm6 hF2 trivial HMk.out.end_).mono ?_
      rintro e w7 ⟨⟨v, rfl, hown⟩, hb7⟩
      have b7 := bl_step b6 hb7 b6.size
      have ho7 := hown.base_le b6.size
      clear hm6 hb7 b6 hown
      go_wp2
      go_ret2
      refine ⟨.inr ⟨?_, v, rfl, ?_⟩, b7⟩
      · rw [HMM.out]; exact HA.out
      · unfold wallC; rw [HMM.out]; exact ho7
end Go.Proofs.Ytepamhdopmfkfaa
