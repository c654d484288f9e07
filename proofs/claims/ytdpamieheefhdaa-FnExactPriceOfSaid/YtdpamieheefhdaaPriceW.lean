/-
  Contracts: PriceOf.
-/
import Derived.Test.YtdpamieheefhdaaPriceS
import Derived.Test.YtdpamieheefhdaaEndI
import Derived.Laws.EntriesVeiled
namespace Go.Proofs.Ytdpamieheefhdaa
set_option linter.unusedSimpArgs false
set_option linter.unusedVariables false
open Go.ChangeShapes Go.WideShapes Go.ChangeAt Go.RowKit

def prOk (M : Mz) (x y : Int) (s : ByteArray) (bend : Int) : Bool := atB M x y && (inB bend 0 1000000000 && (decide (s.size ≤ 1000) && endO (posTo M (x, y) s s.size)))
def prN (M : Mz) (x y : Int) (s : ByteArray) (bend : Int) : Int := if prOk M x y s bend = true then costTo M (x, y) s bend s.size else 0
def priceV (M : Mz) (x y : Int) (s : ByteArray) (bend : Int) : Value := .tuple #[.int .i64 (prN M x y s bend), .bool (prOk M x y s bend)]
theorem priceV_no {M : Mz} {x y : Int} {s : ByteArray} {bend : Int} (h : prOk M x y s bend = false) : priceV M x y s bend = .tuple #[.int .i64 0, .bool false] := by unfold priceV prN; rw [h]; rfl
theorem priceV_yes {M : Mz} {x y : Int} {s : ByteArray} {bend : Int} (h : prOk M x y s bend = true) : priceV M x y s bend = .tuple #[.int .i64 (costTo M (x, y) s bend s.size), .bool true] := by unfold priceV prN; rw [h]; rfl
theorem priceV_parts (M : Mz) (x y : Int) (s : ByteArray) (bend : Int) : ∃ pr ok, priceV M x y s bend = .tuple #[.int .i64 pr, .bool ok] := ⟨_, _, rfl⟩
theorem prOk_1 {M : Mz} {x y : Int} {s : ByteArray} {bend : Int} (h : atB M x y = false) : prOk M x y s bend = false := by unfold prOk; rw [h]; rfl
theorem prOk_2 {M : Mz} {x y : Int} {s : ByteArray} {bend : Int} (h : inB bend 0 1000000000 = false) : prOk M x y s bend = false := by unfold prOk; rw [h]; simp
theorem prOk_3 {M : Mz} {x y : Int} {s : ByteArray} {bend : Int} (h : ¬ s.size ≤ 1000) : prOk M x y s bend = false := by unfold prOk; rw [decide_eq_false h]; simp
theorem prOk_4 {M : Mz} {x y : Int} {s : ByteArray} {bend : Int} (h : posTo M (x, y) s s.size = none) : prOk M x y s bend = false := by unfold prOk; rw [h]; simp [endO]
theorem prOk_5 {M : Mz} {x y : Int} {s : ByteArray} {bend : Int} {q : Int × Int} (h1 : atB M x y = true) (h2 : inB bend 0 1000000000 = true) (h3 : s.size ≤ 1000) (h : posTo M (x, y) s s.size = some q) : prOk M x y s bend = true := by
  unfold prOk; rw [h1, h2, decide_eq_true h3, h]; rfl
theorem l04Bend_at {n : Int} {b : Bool} (h : Hid (inB n 0 1000000000 = b)) (w : World) :
    Calls Try.prog 56 #[.int .i64 n] w fun e w' => e = .returned (.bool b) ∧ w = w' :=
  (l04Bend_any n w).mono fun _ _ ⟨he, hw⟩ => ⟨by rw [he, h.out], hw⟩
theorem isAmount_at {n : Int} {b : Bool} (h : Hid (inB n 0 1000000000 = b)) (w : World) :
    Calls Try.prog 61 #[.int .i64 n] w fun e w' => e = .returned (.bool b) ∧ w = w' :=
  (isAmount_any n w).mono fun _ _ ⟨he, hw⟩ => ⟨by rw [he, h.out], hw⟩

set_option maxRecDepth 100000 in
set_option maxHeartbeats 1600000 in
theorem PriceOfS_any (A : Option Addr) (Ls : List SlI) (c : Nat) (x y : Int) (s : ByteArray) (bend : Int) (w : World) (hp : ISAt w w.heap.size A Ls) (hs : Short Ls) (hss : s.size ≤ 1048576) :
    Calls Try.prog 29 #[.agg #[.slice A Ls.length c], .agg #[.int .i64 x, .int .i64 y], .string s, .int .i64 bend] w fun e w' => e = .returned (priceV (heldI Ls) x y s bend) ∧ Below w.heap.size w w' := by
  have q1 : ((w.alloc (.cells #[.slice A Ls.length c] 51)).alloc (.cells #[.int .i64 x, .int .i64 y] 37)).cell? ⟨w.heap.size, 0, none⟩ = some (.slice A Ls.length c) := by go_simp
  have q2 : Below w.heap.size w ((w.alloc (.cells #[.slice A Ls.length c] 51)).alloc (.cells #[.int .i64 x, .int .i64 y] 37)) := by (repeat (first | assumption | exact Below.refl _ _ | (refine bl_alloc ?_ _) | (refine Below.drew ?_) | (refine bl_drewN ?_ _) | (refine bl_set ?_ (by first | (simp; done) | omega | (simp; omega)) _) | (refine bl_trans ?_ (by assumption)) | (refine bl_step ?_ (by assumption) (by first | omega | exact Below.size (by assumption) | (simp; omega) | (simp; exact Below.size (by assumption))))))
  have q3 : w.heap.size < ((w.alloc (.cells #[.slice A Ls.length c] 51)).alloc (.cells #[.int .i64 x, .int .i64 y] 37)).heap.size := by simp <;> omega
  have hm := MzAt.new hp q2 q1 q3
  have hsI : (s.size : Int) ≤ 1048576 := by omega
  clear q1 q3
  cases ha : atB (heldI Ls) x y
  · have HF := Lib.hid (priceV_no (prOk_1 (s := s) (bend := bend) ha))
    have HA := Lib.hid ha
    clear ha
    go_enter Try.func29, Try.ntmps29
    go_wp2_with fail
    refine (l04At_any w.heap.size A Ls c x y _ hm hs).mono ?_
    rintro e w1 ⟨rfl, hb1⟩
    rw [HA.out]
    go_wp2
    go_ret2
    exact ⟨by rw [HF.out]; rfl, bl_step q2 hb1 q2.size⟩
  · obtain ⟨hv, ho⟩ := atB_parts ha
    have HA := Lib.hid ha
    clear ha
    cases hbe : inB bend 0 1000000000
    · have HF := Lib.hid (priceV_no (prOk_2 (M := heldI Ls) (x := x) (y := y) (s := s) hbe))
      have HB := Lib.hid hbe
      clear hbe
      go_enter Try.func29, Try.ntmps29
      go_wp2_with fail
      refine (l04At_any w.heap.size A Ls c x y _ hm hs).mono ?_
      rintro e w1 ⟨rfl, hb1⟩
      rw [HA.out]
      go_wp2_with (go_at_call 56; refine (l04Bend_at HB _).mono ?_; rintro e w' ⟨rfl, rfl⟩)
      go_ret2
      exact ⟨by rw [HF.out]; rfl, bl_step q2 hb1 q2.size⟩
    · have hbl : 0 ≤ bend ∧ bend ≤ 1000000000 := by simpa [inB] using hbe
      have HB := Lib.hid hbe
      have HBL := Lib.hid hbl
      clear hbe hbl
      by_cases hsz : s.size ≤ 1000
      · have hszI : decide ((1000 : Int) < (s.size : Int)) = false := decide_eq_false (by omega)
        go_enter Try.func29, Try.ntmps29
        go_wp2_with fail
        refine (l04At_any w.heap.size A Ls c x y _ hm hs).mono ?_
        rintro e w1 ⟨rfl, hb1⟩
        rw [HA.out]
        have b1 := bl_step q2 hb1 q2.size
        have hm1 := hm.to hb1
        obtain ⟨hc, hf, hz⟩ := bcell hb1
        have hz1 : w.heap.size + 1 < w1.heap.size := by (simp at hz; omega)
        clear hz
        go_wp2_with fail
        refine (l04Bend_at HB _).mono ?_
        rintro e w' ⟨rfl, rfl⟩
        go_wp2_with fail
        refine (l04Cells_any w.heap.size A Ls c x y s _ hm1 hv ho hss).mono ?_
        rintro e w2 ⟨⟨q, v, hq, rfl, hO⟩ | ⟨hq, v, rfl⟩, hb2⟩
        · obtain ⟨A', d, rfl, hP, hd⟩ := hO.pts
          have HF := Lib.hid (priceV_yes (prOk_5 HA.out HB.out hsz hq))
          have HL := Lib.hid (cellsL_len (heldI Ls) (x, y) s s.size)
          have hm2 := hm1.to hb2
          have b2 := bl_step b1 hb2 b1.size
          have cP := fun w1 d h hm => l04Price_any w.heap.size A Ls c A' _ d (x, y) q s bend w1 hm hv ho h HL hq hsz HBL.out.1 HBL.out.2
          clear hq hO hb2 hb1 hc hf
          go_wp2_with fail
          refine (cP _ _ hP hm2).mono ?_
          rintro e w3 ⟨rfl, hb3⟩
          go_wp2
          go_ret2
          exact ⟨by rw [HF.out]; rfl, bl_step b2 hb3 b2.size⟩
        · have HF := Lib.hid (priceV_no (prOk_4 (M := heldI Ls) (bend := bend) hq))
          have b2 := bl_step b1 hb2 b1.size
          clear hq
          go_wp2
          go_ret2
          exact ⟨by rw [HF.out]; rfl, b2⟩
      · have HF := Lib.hid (priceV_no (prOk_3 (M := heldI Ls) (x := x) (y := y) (bend := bend) hsz))
        have hszI : (1000 : Int) < (s.size : Int) := by omega
        go_enter Try.func29, Try.ntmps29
        go_wp2_with fail
        refine (l04At_any w.heap.size A Ls c x y _ hm hs).mono ?_
        rintro e w1 ⟨rfl, hb1⟩
        rw [HA.out]
        go_wp2_with (go_at_call 56; refine (l04Bend_at HB _).mono ?_; rintro e w' ⟨rfl, rfl⟩)
        go_ret2
        exact ⟨by rw [HF.out]; rfl, bl_step q2 hb1 q2.size⟩
theorem bendTo_1 (s : ByteArray) (bend : Int) : bendTo s bend 1 = 0 := by simp [bendTo, bendAt]
set_option maxRecDepth 100000 in
set_option maxHeartbeats 3200000 in
theorem PriceOfI_any (A : Option Addr) (Ls : List SlI) (c : Nat) (x y : Int) (s : ByteArray) (bend : Int) (w : World) (hp : ISAt w w.heap.size A Ls) (hs : Short Ls) (hss : s.size ≤ 1048576) :
    Calls Try.prog 32 #[.agg #[.slice A Ls.length c], .agg #[.int .i64 x, .int .i64 y], .string s, .int .i64 bend] w fun e w' => e = .returned (priceV (heldI Ls) x y s bend) ∧ Below w.heap.size w w' := by
  obtain ⟨wb, hwb⟩ : ∃ wb, (((w.alloc (.cells #[.slice A Ls.length c] 51)).alloc (.cells #[.int .i64 x, .int .i64 y] 37)).alloc (.cells #[.int .i64 x, .int .i64 y] 37)) = wb := ⟨_, rfl⟩
  have q2 : Below w.heap.size w wb := by rw [← hwb]; (repeat (first | assumption | exact Below.refl _ _ | (refine bl_alloc ?_ _) | (refine Below.drew ?_) | (refine bl_drewN ?_ _) | (refine bl_set ?_ (by first | (simp; done) | omega | (simp; omega)) _) | (refine bl_trans ?_ (by assumption)) | (refine bl_step ?_ (by assumption) (by first | omega | exact Below.size (by assumption) | (simp; omega) | (simp; exact Below.size (by assumption))))))
  have q3 : wb.cell? ⟨w.heap.size + 1, 0, none⟩ = some (.int .i64 x) ∧ wb.cell? ⟨w.heap.size + 1, 1, none⟩ = some (.int .i64 y) ∧ wb.cell? ⟨w.heap.size + 1 + 1, 0, none⟩ = some (.int .i64 x) ∧ wb.cell? ⟨w.heap.size + 1 + 1, 1, none⟩ = some (.int .i64 y) := by
    subst hwb
    exact ⟨by go_simp, by go_simp, by go_simp, by go_simp⟩
  have q4 : w.heap.size + 1 + 1 < wb.heap.size := by rw [← hwb]; simp <;> omega
  obtain ⟨q30, q31, q34, q35⟩ := q3
  have cE := enterOne_any A Ls c x y (w.heap.size + 1 + 1) 1 wb (hp.to q2) hs (one_pts _ _ _ _ q34 q35)
  have hsI : (s.size : Int) ≤ 1048576 := by omega
  clear q34 q35
  cases ha : atB (heldI Ls) x y
  · have HF := Lib.hid (priceV_no (prOk_1 (s := s) (bend := bend) ha))
    have HA := Lib.hid ha
    clear ha
    go_enter Try.func32, Try.ntmps32
    go_wp2_with fail
    refine cE.mono ?_
    rintro e w1 (⟨hx, _⟩ | ⟨_, rfl, hb1⟩)
    · rw [HA.out] at hx; cases hx
    · have b1 := bl_step q2 hb1 q2.size
      clear hwb cE
      go_wp2
      go_ret2
      exact ⟨by rw [HF.out]; rfl, by (repeat (first | assumption | exact Below.refl _ _ | (refine bl_alloc ?_ _) | (refine Below.drew ?_) | (refine bl_drewN ?_ _) | (refine bl_set ?_ (by first | (simp; done) | omega | (simp; omega)) _) | (refine bl_trans ?_ (by assumption)) | (refine bl_step ?_ (by assumption) (by first | omega | exact Below.size (by assumption) | (simp; omega) | (simp; exact Below.size (by assumption))))))⟩
  · obtain ⟨hv, ho⟩ := atB_parts ha
    have HA := Lib.hid ha
    clear ha
    cases hbe : inB bend 0 1000000000
    · have HF := Lib.hid (priceV_no (prOk_2 (M := heldI Ls) (x := x) (y := y) (s := s) hbe))
      have HB := Lib.hid hbe
      clear hbe
      go_enter Try.func32, Try.ntmps32
      go_wp2_with fail
      refine cE.mono ?_
      rintro e w1 (⟨_, gw, gh, gc, rfl, hPr, hb1⟩ | ⟨hx, _⟩)
      · have b1 := bl_step q2 hb1 q2.size
        clear hwb cE
        go_wp2_with (go_at_call 61; refine (isAmount_at HB _).mono ?_; rintro e w' ⟨rfl, rfl⟩)
        go_ret2
        exact ⟨by rw [HF.out]; rfl, by (repeat (first | assumption | exact Below.refl _ _ | (refine bl_alloc ?_ _) | (refine Below.drew ?_) | (refine bl_drewN ?_ _) | (refine bl_set ?_ (by first | (simp; done) | omega | (simp; omega)) _) | (refine bl_trans ?_ (by assumption)) | (refine bl_step ?_ (by assumption) (by first | omega | exact Below.size (by assumption) | (simp; omega) | (simp; exact Below.size (by assumption))))))⟩
      · rw [HA.out] at hx; cases hx
    · have hbl : 0 ≤ bend ∧ bend ≤ 1000000000 := by simpa [inB] using hbe
      have HB := Lib.hid hbe
      obtain ⟨hbl0, hbl1⟩ := hbl
      clear hbe
      by_cases hsz : s.size ≤ 1000
      · have hszI : decide ((1000 : Int) < (s.size : Int)) = false := decide_eq_false (by omega)
        go_enter Try.func32, Try.ntmps32
        go_wp2_with fail
        refine cE.mono ?_
        rintro e w1 (⟨_, gw, gh, gc, rfl, hPr, hb1⟩ | ⟨hx, _⟩)
        · have b1 := bl_step q2 hb1 q2.size
          obtain ⟨hc, hf, hz⟩ := bcell hb1
          have hz1 : w.heap.size + 1 < w1.heap.size := by omega
          have hy1 : w.heap.size + 1 < wb.heap.size := by omega
          have hz3 : w.heap.size + 1 < w1.heap.size + 1 := by omega
          have hz4 : w.heap.size < w1.heap.size := by omega
          have bp : Below w1.heap.size w1 (w1.alloc (.cells #[prV gw gh gc] 86)) := (Below.refl _ _).alloc (Nat.le_refl _) _
          have bs : Below w1.heap.size w1 ((w1.alloc (.cells #[prV gw gh gc] 86)).alloc (.cells #[.int .i64 0] 2)) := bl_alloc bp _
          have hPB := (hPr.to bp).prB
          have hPB2 : PrB ((w1.alloc (.cells #[prV gw gh gc] 86)).alloc (.cells #[.int .i64 0] 2)) (w1.heap.size + 1) gw gh gc A Ls c := by
            have h := (hPr.to bs)
            exact ⟨h.cw, h.ch, h.cc, by have := hPr.lw; omega, by have := hPr.lh; omega, by have := hPr.lc; omega, ((hPr.rows.mono (B' := w1.heap.size) (Nat.le_refl _)).keepB bs).mono (by omega)⟩
          have hsum : Boxed ((w1.alloc (.cells #[prV gw gh gc] 86)).alloc (.cells #[.int .i64 0] 2)) (w1.heap.size + 1) 2 (.int .i64 0) := by
            have := Boxed.new (w1.alloc (.cells #[prV gw gh gc] 86)) 2 (.int .i64 0)
            simpa using this
          have hpp : ((w1.alloc (.cells #[prV gw gh gc] 86)).alloc (.cells #[.int .i64 0] 2)).cell? ⟨w1.heap.size, 0, none⟩ = some (prV gw gh gc) := by go_simp
          have cW := walkP_any (w1.heap.size + 1) (w1.heap.size + 1) w1.heap.size gw gh gc A Ls c x y s _ hPB2 (Nat.le_refl _) (by omega) hsum hpp hv ho hsz
          have b2 := bl_step b1 bs b1.size
          clear hwb cE hPB hPB2 hsum hpp hPr
          go_wp2_with fail
          refine (isAmount_at HB _).mono ?_
          rintro e w' ⟨rfl, rfl⟩
          go_wp2_with fail
          refine cW.mono ?_
          rintro e w4 ⟨rfl, hS4, hbut⟩
          have b4 := hbut.below b2 (by omega) b2.size
          cases hq : posTo (heldI Ls) (x, y) s s.size with
          | none =>
            have HF := Lib.hid (priceV_no (prOk_4 (M := heldI Ls) (bend := bend) hq))
            have HW := Lib.hid (WalkV_no hq)
            rw [HW.out]
            clear hq
            go_wp2
            go_ret2
            exact ⟨by rw [HF.out]; rfl, by (repeat (first | assumption | exact Below.refl _ _ | (refine bl_alloc ?_ _) | (refine Below.drew ?_) | (refine bl_drewN ?_ _) | (refine bl_set ?_ (by first | (simp; done) | omega | (simp; omega)) _) | (refine bl_trans ?_ (by assumption)) | (refine bl_step ?_ (by assumption) (by first | omega | exact Below.size (by assumption) | (simp; omega) | (simp; exact Below.size (by assumption))))))⟩
          | some q =>
            have HF := Lib.hid (priceV_yes (prOk_5 HA.out HB.out hsz hq))
            have HW := Lib.hid (WalkV_yes hq)
            have HS4 := Lib.hid (hS4 (endO_t hq))
            have HB4 := Lib.hid (fun k => bendTo_lo (s := s) hbl0 hbl1 k)
            have HSu := Lib.hid (sumTo_lo hv (x, y) s s.size)
            have hz5 : w1.heap.size + 1 < w4.heap.size := by have := hbut.size; simp at this; omega
            have hBG : w1.heap.size + 1 < w4.heap.size + 1 := by omega
            rw [HW.out]
            obtain ⟨q0, q1⟩ := q
            have hS5 : Boxed (w4.alloc (.cells #[.int .i64 q0, .int .i64 q1] 37)) (w1.heap.size + 1) 2 (.int .i64 (sumTo (heldI Ls) (x, y) s s.size)) := HS4.out.alloc _
            have b5 : Below w.heap.size w (w4.alloc (.cells #[.int .i64 q0, .int .i64 q1] 37)) := bl_alloc b4 _
            have HB0 : Hid (sumTo (heldI Ls) (x, y) s s.size = sumTo (heldI Ls) (x, y) s s.size + bendTo s bend 1) := by show _ = _; rw [bendTo_1]; omega
            have hS5' : Hid (Boxed (w4.alloc (.cells #[.int .i64 q0, .int .i64 q1] 37)) (w1.heap.size + 1) 2 (.int .i64 (sumTo (heldI Ls) (x, y) s s.size + bendTo s bend 1))) := by rw [HB0.out] at hS5; exact hS5
            clear hq hS4 hS5 hc hf hz
            have hwz := b4.size
            have hgw : w.heap.size ≤ w1.heap.size + 1 := by omega
            go_wp2
            go_loopw [15] (fun i wr => ∃ m : Nat, (m + 1 ≤ s.size ∨ m = 0) ∧ i = .int .i64 ((m : Int) + 1) ∧ Hid (Boxed wr (w1.heap.size + 1) 2 (.int .i64 (sumTo (heldI Ls) (x, y) s s.size + bendTo s bend (m + 1)))) ∧ Below w.heap.size w wr) (fun i _ => s.size + 1 - (intOf i).toNat)
            case atStart => exact ⟨0, .inr rfl, rfl, hS5', b5⟩
            case round =>
              obtain ⟨m, hm, rfl, HS, hb⟩ := hrel
              clear hS5' b5 b4 hz1 hy1 hz3 hz4 hwz
              have hm0 : (0 : Int) ≤ (m : Int) := by omega
              have hsc := HS.out.cell
              have hsf := HS.out.frozen
              by_cases hlt : m + 1 < s.size
              · have hq1 : (m : Int) + 1 < (s.size : Int) := by omega
                have hq2 : (0 : Int) ≤ (m : Int) + 1 := by omega
                have hq3 : ((m : Int) + 1).toNat = m + 1 := by omega
                have hk3 : m < s.size := by omega
                have hk4 : (m : Int) < (s.size : Int) := by omega
                have hq5 : (m : Int) + 1 ≤ 1000 := by omega
                have w6 : IntKind.i64.wrap ((m : Int) + 1 - 1) = (m : Int) := by rw [IntWalk.i64_in _ (by omega)]; omega
                have hbA : bendAt s (m + 1) = decide (ltr s (m + 1) ≠ ltr s m) := by simp [bendAt]
                have L0 := ltr_at hlt
                have L1 := ltr_at (s := s) (k := m) (by omega)
                have hbl := HB4.out (m + 1)
                have hsu := HSu.out
                by_cases hbd : ltr s (m + 1) = ltr s m
                · have HCx := Lib.hid (bendTo_f (bend := bend) (show bendAt s (m + 1) = false by rw [hbA]; exact decide_eq_false (fun h => h hbd)))
                  rw [L0, L1] at hbd
                  have hb1 : ((s[m + 1].toNat : Int) != (s[m].toNat : Int)) = false := by simpa using hbd
                  have HBD := Lib.hid hbd
                  clear hbd L0 L1 hbA hbl hsu
                  go_wp2
                  go_quiet (fail)
                  clear w6 hb1
                  go_wp2
                  go_roundw
                  case rel => exact ⟨m + 1, .inl (by omega), by go_num, by rw [HCx.out]; exact HS, by (repeat (first | assumption | exact Below.refl _ _ | (refine bl_alloc ?_ _) | (refine Below.drew ?_) | (refine bl_drewN ?_ _) | (refine bl_set ?_ (by first | (simp; done) | omega | (simp; omega)) _) | (refine bl_trans ?_ (by assumption)) | (refine bl_step ?_ (by assumption) (by first | omega | exact Below.size (by assumption) | (simp; omega) | (simp; exact Below.size (by assumption))))))⟩
                  case measure => simp [intOf]; omega
                · have HCx := Lib.hid (bendTo_t (bend := bend) (show bendAt s (m + 1) = true by rw [hbA]; exact decide_eq_true hbd))
                  rw [L0, L1] at hbd
                  have hb1 : ((s[m + 1].toNat : Int) != (s[m].toNat : Int)) = true := by simpa using hbd
                  have HBD := Lib.hid hbd
                  have HASS : Hid (sumTo (heldI Ls) (x, y) s s.size + bendTo s bend (m + 1 + 1) = sumTo (heldI Ls) (x, y) s s.size + bendTo s bend (m + 1) + bend) := by show _ = _; rw [HCx.out]; omega
                  obtain ⟨T, hT⟩ : ∃ T, sumTo (heldI Ls) (x, y) s s.size + bendTo s bend (m + 1) = T := ⟨_, rfl⟩
                  have hT0 : -1000 ≤ T ∧ T ≤ 1000000010000 := by omega
                  obtain ⟨hT0, hT1⟩ := hT0
                  have HS2 : Hid (Boxed (wr.setCell ⟨w1.heap.size + 1, 0, none⟩ (.int .i64 (T + bend))) (w1.heap.size + 1) 2 (.int .i64 (T + bend))) := HS.out.set _
                  rw [hT] at HASS hsc
                  have b6 : Below w.heap.size w (wr.setCell ⟨w1.heap.size + 1, 0, none⟩ (.int .i64 (T + bend))) := by (repeat (first | assumption | exact Below.refl _ _ | (refine bl_alloc ?_ _) | (refine Below.drew ?_) | (refine bl_drewN ?_ _) | (refine bl_set ?_ (by first | (simp; done) | omega | (simp; omega)) _) | (refine bl_trans ?_ (by assumption)) | (refine bl_step ?_ (by assumption) (by first | omega | exact Below.size (by assumption) | (simp; omega) | (simp; exact Below.size (by assumption))))))
                  clear hbd L0 L1 hbA hbl hsu HS hT HCx
                  go_wp2
                  go_quiet (fail)
                  clear w6 hb1
                  go_wp2
                  go_roundw
                  case rel => exact ⟨m + 1, .inl (by omega), by go_num, by rw [HASS.out]; exact HS2, by (repeat (first | assumption | exact Below.refl _ _ | (refine bl_alloc ?_ _) | (refine Below.drew ?_) | (refine bl_drewN ?_ _) | (refine bl_set ?_ (by first | (simp; done) | omega | (simp; omega)) _) | (refine bl_trans ?_ (by assumption)) | (refine bl_step ?_ (by assumption) (by first | omega | exact Below.size (by assumption) | (simp; omega) | (simp; exact Below.size (by assumption))))))⟩
                  case measure => simp [intOf]; omega
              · have HE : Hid (sumTo (heldI Ls) (x, y) s s.size + bendTo s bend (m + 1) = costTo (heldI Ls) (x, y) s bend s.size) := by
                  show _ = _
                  unfold costTo
                  rcases hm with h | rfl
                  · rw [show m + 1 = s.size by omega]
                  · by_cases hz0 : s.size = 0
                    · rw [hz0, bendTo_1]; rfl
                    · rw [show 0 + 1 = s.size by omega]
                rw [HE.out] at hsc
                clear hm HS
                go_wp2
                go_ret2
                exact ⟨by rw [HF.out]; rfl, hb⟩
        · rw [HA.out] at hx; cases hx
      · have HF := Lib.hid (priceV_no (prOk_3 (M := heldI Ls) (x := x) (y := y) (bend := bend) hsz))
        have hszI : (1000 : Int) < (s.size : Int) := by omega
        go_enter Try.func32, Try.ntmps32
        go_wp2_with fail
        refine cE.mono ?_
        rintro e w1 (⟨_, gw, gh, gc, rfl, hPr, hb1⟩ | ⟨hx, _⟩)
        · have b1 := bl_step q2 hb1 q2.size
          clear hwb cE
          go_wp2_with (go_at_call 61; refine (isAmount_at HB _).mono ?_; rintro e w' ⟨rfl, rfl⟩)
          go_ret2
          exact ⟨by rw [HF.out]; rfl, by (repeat (first | assumption | exact Below.refl _ _ | (refine bl_alloc ?_ _) | (refine Below.drew ?_) | (refine bl_drewN ?_ _) | (refine bl_set ?_ (by first | (simp; done) | omega | (simp; omega)) _) | (refine bl_trans ?_ (by assumption)) | (refine bl_step ?_ (by assumption) (by first | omega | exact Below.size (by assumption) | (simp; omega) | (simp; exact Below.size (by assumption))))))⟩
        · rw [HA.out] at hx; cases hx
theorem PriceOfS_in (A : Option Addr) (n c : Nat) (M : Mz) (x y : Int) (s : ByteArray) (bend : Int) (w : World) (h : MzIn w A n M) (hs : s.size ≤ 1048576) :
    Calls Try.prog 29 #[.agg #[.slice A n c], .agg #[.int .i64 x, .int .i64 y], .string s, .int .i64 bend] w fun e w' => e = .returned (priceV M x y s bend) ∧ Below w.heap.size w w' := by
  obtain ⟨Ms, rfl, rfl, h3, h4⟩ := h
  exact PriceOfS_any A Ms c x y s bend w h3 h4 hs
theorem PriceOfI_in (A : Option Addr) (n c : Nat) (M : Mz) (x y : Int) (s : ByteArray) (bend : Int) (w : World) (h : MzIn w A n M) (hs : s.size ≤ 1048576) :
    Calls Try.prog 32 #[.agg #[.slice A n c], .agg #[.int .i64 x, .int .i64 y], .string s, .int .i64 bend] w fun e w' => e = .returned (priceV M x y s bend) ∧ Below w.heap.size w w' := by
  obtain ⟨Ms, rfl, rfl, h3, h4⟩ := h
  exact PriceOfI_any A Ms c x y s bend w h3 h4 hs
end Go.Proofs.Ytdpamieheefhdaa
