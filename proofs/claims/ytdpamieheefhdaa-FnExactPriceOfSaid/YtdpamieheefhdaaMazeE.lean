/-
  Contracts: a valid maze with an open cell, as the model has it; the program's prices of cells.
-/
import Derived.Test.YtdpamieheefhdaaMazeO
namespace Go.Proofs.Ytdpamieheefhdaa
set_option linter.unusedSimpArgs false
set_option linter.unusedVariables false
open Go.ChangeShapes Go.WideShapes Go.ChangeAt Go.RowKit

def atB (M : Mz) (x y : Int) : Bool := mzB M && openB M x y
/-- What of a maze that a call made is known: its rows are not long. -/
def Short (Ls : List SlI) : Prop := Ls.length ≤ 1048576 ∧ ∀ i, i < Ls.length → (Ls.getD i si0).2.1.length ≤ 1048576

theorem l04At_any (g : Nat) (A : Option Addr) (Ls : List SlI) (c : Nat) (x y : Int) (w : World) (hm : MzAt w g A Ls c) (hs : Short Ls) :
    Calls Try.prog 55 #[.pointer (some ⟨g, 0, none⟩), .agg #[.int .i64 x, .int .i64 y]] w fun e w' => e = .returned (.bool (atB (heldI Ls) x y)) ∧ Below w.heap.size w w' := by
  have hx0 : Below w.heap.size w (w.alloc (.cells #[.int .i64 x, .int .i64 y] 37)) := by (repeat (first | assumption | exact Below.refl _ _ | (refine bl_alloc ?_ _) | (refine Below.drew ?_) | (refine bl_drewN ?_ _) | (refine bl_set ?_ (by first | (simp; done) | omega | (simp; omega)) _) | (refine bl_trans ?_ (by assumption)) | (refine bl_step ?_ (by assumption) (by first | omega | exact Below.size (by assumption) | (simp; omega) | (simp; exact Below.size (by assumption))))))
  have hm1 := hm.to hx0
  obtain ⟨hn, hl⟩ := hs
  have HL := Lib.hid hl
  have cIs := fun w1 (h : MzAt w1 g A Ls c) => l04Is_any g A Ls c w1 h.cell h.lt h.rows hn HL.out
  clear hl
  cases hv : mzB (heldI Ls)
  · have HF : Hid (atB (heldI Ls) x y = false) := by show _ = _; unfold atB; rw [hv]; rfl
    have HV := Lib.hid hv
    clear hv
    go_enter Try.func55, Try.ntmps55
    go_wp2_with fail
    refine (cIs _ hm1).mono ?_
    rintro e w1 ⟨rfl, hb1⟩
    rw [HV.out]
    go_wp2
    go_ret
    exact ⟨retB (by rw [HF.out]), by (repeat (first | assumption | exact Below.refl _ _ | (refine bl_alloc ?_ _) | (refine Below.drew ?_) | (refine bl_drewN ?_ _) | (refine bl_set ?_ (by first | (simp; done) | omega | (simp; omega)) _) | (refine bl_trans ?_ (by assumption)) | (refine bl_step ?_ (by assumption) (by first | omega | exact Below.size (by assumption) | (simp; omega) | (simp; exact Below.size (by assumption))))))⟩
  · have HF : Hid (atB (heldI Ls) x y = openB (heldI Ls) x y) := by show _ = _; unfold atB; rw [hv]; rfl
    have HV := Lib.hid hv
    clear hv
    go_enter Try.func55, Try.ntmps55
    go_wp2_with fail
    refine (cIs _ hm1).mono ?_
    rintro e w1 ⟨rfl, hb1⟩
    rw [HV.out]
    obtain ⟨hc, hf, hz⟩ := bcell hb1
    have hz1 : w.heap.size < w1.heap.size := by (simp at hz; omega)
    go_wp2_with fail
    refine (l04Open_any g A Ls c x y _ (hm1.to hb1) (mzOk_of HV.out)).mono ?_
    rintro e w2 ⟨rfl, hb2⟩
    go_wp2
    go_ret
    exact ⟨retB (by rw [HF.out]), by (repeat (first | assumption | exact Below.refl _ _ | (refine bl_alloc ?_ _) | (refine Below.drew ?_) | (refine bl_drewN ?_ _) | (refine bl_set ?_ (by first | (simp; done) | omega | (simp; omega)) _) | (refine bl_trans ?_ (by assumption)) | (refine bl_step ?_ (by assumption) (by first | omega | exact Below.size (by assumption) | (simp; omega) | (simp; exact Below.size (by assumption))))))⟩

/-! ### The program's prices -/
/-- A function value that tells the prices of a valid maze: what it captured. -/
structure PrAt (w : World) (gw gh gc : Nat) (A : Option Addr) (Ls : List SlI) (c : Nat) : Prop where
  cw : w.cell? ⟨gw, 0, none⟩ = some (.int .i64 (wid (heldI Ls) : Int))
  ch : w.cell? ⟨gh, 0, none⟩ = some (.int .i64 (Ls.length : Int))
  cc : w.cell? ⟨gc, 0, none⟩ = some (.slice A Ls.length c)
  lw : gw < w.heap.size
  lh : gh < w.heap.size
  lc : gc < w.heap.size
  rows : ISAt w w.heap.size A Ls
theorem PrAt.to {w w1 : World} {gw gh gc : Nat} {A : Option Addr} {Ls : List SlI} {c : Nat} (h : PrAt w gw gh gc A Ls c) (hb : Below w.heap.size w w1) : PrAt w1 gw gh gc A Ls c :=
  ⟨(hb.cell (p := ⟨gw, 0, none⟩) h.lw).trans h.cw, (hb.cell (p := ⟨gh, 0, none⟩) h.lh).trans h.ch, (hb.cell (p := ⟨gc, 0, none⟩) h.lc).trans h.cc, Nat.lt_of_lt_of_le h.lw hb.size, Nat.lt_of_lt_of_le h.lh hb.size, Nat.lt_of_lt_of_le h.lc hb.size, h.rows.to hb⟩
abbrev prV (gw gh gc : Nat) : Value := .func (.func 105) #[] #[.pointer (some ⟨gw, 0, none⟩), .pointer (some ⟨gh, 0, none⟩), .pointer (some ⟨gc, 0, none⟩)]

set_option maxRecDepth 100000 in
set_option maxHeartbeats 1600000 in
theorem price_any (gw gh gc : Nat) (A : Option Addr) (Ls : List SlI) (c : Nat) (x y : Int) (w : World) (hm : PrAt w gw gh gc A Ls c) (hv : MzOk (heldI Ls)) :
    Calls Try.prog 105 #[.agg #[.int .i64 x, .int .i64 y], .pointer (some ⟨gw, 0, none⟩), .pointer (some ⟨gh, 0, none⟩), .pointer (some ⟨gc, 0, none⟩)] w fun e w' => e = .returned (.int .i64 (priceI (heldI Ls) x y)) ∧ Below w.heap.size w w' := by
  obtain ⟨hcw, hch, hcc, hlw, hlh, hlc, hp⟩ := hm
  obtain ⟨h1, h12, w1, w12, hrow, _⟩ := hv
  have hlen := heldI_len Ls
  rw [hlen] at h1 h12
  by_cases ho : x < 0 ∨ (wid (heldI Ls) : Int) ≤ x ∨ y < 0 ∨ (Ls.length : Int) ≤ y
  · have HF : Hid (priceI (heldI Ls) x y = -1) := priceI_out (by rw [hlen]; exact ho)
    have HR := Lib.hid hrow
    have HL := Lib.hid hlen
    clear hrow hlen hp
    generalize wid (heldI Ls) = n0 at *
    by_cases a1 : x < 0
    · clear ho
      go_enter Try.func105, Try.ntmps105
      go_wp2
      go_ret
      exact ⟨retI (by rw [HF.out]), by (repeat (first | assumption | exact Below.refl _ _ | (refine bl_alloc ?_ _) | (refine Below.drew ?_) | (refine bl_drewN ?_ _) | (refine bl_set ?_ (by first | (simp; done) | omega | (simp; omega)) _) | (refine bl_trans ?_ (by assumption)) | (refine bl_step ?_ (by assumption) (by first | omega | exact Below.size (by assumption) | (simp; omega) | (simp; exact Below.size (by assumption))))))⟩
    · have b1 : decide (x < 0) = false := decide_eq_false a1
      by_cases a2 : (n0 : Int) ≤ x
      · have b2 : decide ((n0 : Int) ≤ x) = true := decide_eq_true a2
        clear ho a1
        go_enter Try.func105, Try.ntmps105
        go_wp2
        go_ret
        exact ⟨retI (by rw [HF.out]), by (repeat (first | assumption | exact Below.refl _ _ | (refine bl_alloc ?_ _) | (refine Below.drew ?_) | (refine bl_drewN ?_ _) | (refine bl_set ?_ (by first | (simp; done) | omega | (simp; omega)) _) | (refine bl_trans ?_ (by assumption)) | (refine bl_step ?_ (by assumption) (by first | omega | exact Below.size (by assumption) | (simp; omega) | (simp; exact Below.size (by assumption))))))⟩
      · have b2 : decide ((n0 : Int) ≤ x) = false := decide_eq_false a2
        by_cases a3 : y < 0
        · clear ho a1 a2
          go_enter Try.func105, Try.ntmps105
          go_wp2
          go_ret
          exact ⟨retI (by rw [HF.out]), by (repeat (first | assumption | exact Below.refl _ _ | (refine bl_alloc ?_ _) | (refine Below.drew ?_) | (refine bl_drewN ?_ _) | (refine bl_set ?_ (by first | (simp; done) | omega | (simp; omega)) _) | (refine bl_trans ?_ (by assumption)) | (refine bl_step ?_ (by assumption) (by first | omega | exact Below.size (by assumption) | (simp; omega) | (simp; exact Below.size (by assumption))))))⟩
        · have b3 : decide (y < 0) = false := decide_eq_false a3
          have a4 : (Ls.length : Int) ≤ y := by omega
          have b4 : decide ((Ls.length : Int) ≤ y) = true := decide_eq_true a4
          clear ho a1 a2 a3
          go_enter Try.func105, Try.ntmps105
          go_wp2
          go_ret
          exact ⟨retI (by rw [HF.out]), by (repeat (first | assumption | exact Below.refl _ _ | (refine bl_alloc ?_ _) | (refine Below.drew ?_) | (refine bl_drewN ?_ _) | (refine bl_set ?_ (by first | (simp; done) | omega | (simp; omega)) _) | (refine bl_trans ?_ (by assumption)) | (refine bl_step ?_ (by assumption) (by first | omega | exact Below.size (by assumption) | (simp; omega) | (simp; exact Below.size (by assumption))))))⟩
  · obtain ⟨i, rfl⟩ : ∃ i : Nat, x = i := ⟨x.toNat, by omega⟩
    obtain ⟨j, rfl⟩ : ∃ j : Nat, y = j := ⟨y.toNat, by omega⟩
    have hi : i < wid (heldI Ls) := by omega
    have hj : j < Ls.length := by omega
    have hO := priceI_in (M := heldI Ls) (x := i) (y := j) hi (by rw [hlen]; exact hj)
    rw [heldI_row] at hO
    obtain ⟨b, off, rfl, hbB, hc⟩ := hp (by omega)
    obtain ⟨cj, pj, _, _⟩ := hc j hj
    have hrj := hrow j (by rw [hlen]; exact hj)
    rw [heldI_row] at hrj
    rw [hrj] at cj
    obtain ⟨b', off', hA', hbB', hc'⟩ := pj (by omega)
    rw [hA'] at cj
    have ci := hc' i (by omega)
    have HF := Lib.hid hO
    have hjI : (j : Int) < (Ls.length : Int) := by omega
    have hiI : (i : Int) < (wid (heldI Ls) : Int) := by omega
    have hj0 : (0 : Int) ≤ (j : Int) := by omega
    have hi0 : (0 : Int) ≤ (i : Int) := by omega
    have b1 : decide ((i : Int) < 0) = false := decide_eq_false (by omega)
    have b2 : decide ((wid (heldI Ls) : Int) ≤ (i : Int)) = false := decide_eq_false (by omega)
    have b2n : decide (wid (heldI Ls) ≤ i) = false := decide_eq_false (by omega)
    have b3 : decide ((j : Int) < 0) = false := decide_eq_false (by omega)
    have b4 : decide ((Ls.length : Int) ≤ (j : Int)) = false := decide_eq_false (by omega)
    have b4n : decide (Ls.length ≤ j) = false := decide_eq_false (by omega)
    clear hrow hlen hc hp hO pj hc' hA' hrj ho
    generalize ((Ls.getD j si0).2.1.getD i 0) = v at *
    generalize (Ls.getD j si0).2.2 = kj at *
    generalize priceI (heldI Ls) (i : Int) (j : Int) = ob at *
    generalize wid (heldI Ls) = n0 at *
    go_enter Try.func105, Try.ntmps105
    go_wp2
    go_quiet (fail)
    go_wp2
    go_ret
    exact ⟨retI (by rw [HF.out]), by (repeat (first | assumption | exact Below.refl _ _ | (refine bl_alloc ?_ _) | (refine Below.drew ?_) | (refine bl_drewN ?_ _) | (refine bl_set ?_ (by first | (simp; done) | omega | (simp; omega)) _) | (refine bl_trans ?_ (by assumption)) | (refine bl_step ?_ (by assumption) (by first | omega | exact Below.size (by assumption) | (simp; omega) | (simp; exact Below.size (by assumption))))))⟩

theorem isOpen_any (gw gh gc : Nat) (A : Option Addr) (Ls : List SlI) (c : Nat) (x y : Int) (w : World) (hm : PrAt w gw gh gc A Ls c) (hv : MzOk (heldI Ls)) :
    Calls Try.prog 89 #[prV gw gh gc, .agg #[.int .i64 x, .int .i64 y]] w fun e w' => e = .returned (.bool (openB (heldI Ls) x y)) ∧ Below w.heap.size w w' := by
  have hx0 : Below w.heap.size w (w.alloc (.cells #[.int .i64 x, .int .i64 y] 37)) := by (repeat (first | assumption | exact Below.refl _ _ | (refine bl_alloc ?_ _) | (refine Below.drew ?_) | (refine bl_drewN ?_ _) | (refine bl_set ?_ (by first | (simp; done) | omega | (simp; omega)) _) | (refine bl_trans ?_ (by assumption)) | (refine bl_step ?_ (by assumption) (by first | omega | exact Below.size (by assumption) | (simp; omega) | (simp; exact Below.size (by assumption))))))
  have hm1 := hm.to hx0
  have HO : Hid (openB (heldI Ls) x y = decide (0 < priceI (heldI Ls) x y)) := rfl
  have cp := fun w1 (h : PrAt w1 gw gh gc A Ls c) => price_any gw gh gc A Ls c x y w1 h hv
  generalize priceI (heldI Ls) x y = v at *
  generalize openB (heldI Ls) x y = o at *
  go_enter Try.func89, Try.ntmps89
  go_wp2_with (go_at_call 105; refine (cp _ hm1).mono ?_; rintro e w1 ⟨rfl, hb1⟩)
  go_ret
  exact ⟨retB (by rw [HO.out]), by (repeat (first | assumption | exact Below.refl _ _ | (refine bl_alloc ?_ _) | (refine Below.drew ?_) | (refine bl_drewN ?_ _) | (refine bl_set ?_ (by first | (simp; done) | omega | (simp; omega)) _) | (refine bl_trans ?_ (by assumption)) | (refine bl_step ?_ (by assumption) (by first | omega | exact Below.size (by assumption) | (simp; omega) | (simp; exact Below.size (by assumption))))))⟩
end Go.Proofs.Ytdpamieheefhdaa
