/-
  Contracts: is a cell open, as the model has it.
-/
import Derived.Test.YtdpamieheefhdaaMazeL
namespace Go.Proofs.Ytdpamieheefhdaa
set_option linter.unusedSimpArgs false
set_option linter.unusedVariables false
open Go.ChangeShapes Go.WideShapes Go.ChangeAt Go.RowKit

/-- A maze lies at a pointer, and is valid. -/
structure MzAt (w : World) (g : Nat) (A : Option Addr) (Ls : List SlI) (c : Nat) : Prop where
  cell : w.cell? ⟨g, 0, none⟩ = some (.slice A Ls.length c)
  lt : g < w.heap.size
  rows : ISAt w w.heap.size A Ls
theorem MzAt.to {w w1 : World} {g : Nat} {A : Option Addr} {Ls : List SlI} {c : Nat} (h : MzAt w g A Ls c) (hb : Below w.heap.size w w1) : MzAt w1 g A Ls c :=
  ⟨(hb.cell (p := ⟨g, 0, none⟩) h.lt).trans h.cell, Nat.lt_of_lt_of_le h.lt hb.size, h.rows.to hb⟩

theorem openB_y {M : Mz} {x y : Int} (h : inB y 0 ((M.length : Int) - 1) = false) : openB M x y = false := openB_out (by simp [inB] at h; omega)
theorem openB_x {M : Mz} {x y : Int} (h : inB x 0 ((wid M : Int) - 1) = false) : openB M x y = false := openB_out (by simp [inB] at h; omega)

set_option maxRecDepth 100000 in
set_option maxHeartbeats 1600000 in
theorem l04Open_any (g : Nat) (A : Option Addr) (Ls : List SlI) (c : Nat) (x y : Int) (w : World) (hm : MzAt w g A Ls c) (hv : MzOk (heldI Ls)) :
    Calls Try.prog 84 #[.pointer (some ⟨g, 0, none⟩), .agg #[.int .i64 x, .int .i64 y]] w fun e w' => e = .returned (.bool (openB (heldI Ls) x y)) ∧ Below w.heap.size w w' := by
  obtain ⟨hg, hgl, hp⟩ := hm
  obtain ⟨h1, h12, w1, w12, hrow, _⟩ := hv
  have hlen := heldI_len Ls
  have hwid := heldI_wid Ls
  have hFy := @openB_y (heldI Ls) x y
  have hFx := @openB_x (heldI Ls) x y
  rw [hlen] at h1 h12 hFy
  obtain ⟨b, off, rfl, hbB, hc⟩ := hp (by omega)
  obtain ⟨c0, _, _, _⟩ := hc 0 (by omega)
  rw [Nat.add_zero] at c0
  have h0I : (0 : Int) < (Ls.length : Int) := by omega
  have h0N : 0 < Ls.length := by omega
  have e1 : IntKind.i64.wrap ((Ls.length : Int) - 1) = (Ls.length : Int) - 1 := IntWalk.i64_in _ (by omega)
  have hg1 : w.heap.size ≠ g := by omega
  cases hy : inB y 0 ((Ls.length : Int) - 1)
  · have HF := Lib.hid (hFy hy)
    have HI := Lib.hid hy
    have HR := Lib.hid hrow
    have HL := Lib.hid hlen
    have HW := Lib.hid hwid
    clear hFy hFx hy hrow hlen hwid hc hp
    go_enter Try.func84, Try.ntmps84
    go_wp2
    go_quiet ((go_at_call 50; exact Calls.quiet_of_same (l00In_is HI _)))
    go_wp2
    go_ret
    exact ⟨retB (by rw [HF.out]), by (repeat (first | assumption | exact Below.refl _ _ | (refine bl_alloc ?_ _) | (refine Below.drew ?_) | (refine bl_drewN ?_ _) | (refine bl_set ?_ (by first | (simp; done) | omega | (simp; omega)) _) | (refine bl_trans ?_ (by assumption)) | (refine bl_step ?_ (by assumption) (by first | omega | exact Below.size (by assumption) | (simp; omega) | (simp; exact Below.size (by assumption))))))⟩
  · have hyN : 0 ≤ y ∧ y ≤ (Ls.length : Int) - 1 := by simpa [inB] using hy
    obtain ⟨j, rfl⟩ : ∃ j : Nat, y = j := ⟨y.toNat, by omega⟩
    have hj : j < Ls.length := by omega
    rw [← hwid] at c0
    have e2 : IntKind.i64.wrap ((wid (heldI Ls) : Int) - 1) = (wid (heldI Ls) : Int) - 1 := IntWalk.i64_in _ (by omega)
    cases hx : inB x 0 ((wid (heldI Ls) : Int) - 1)
    · have HF := Lib.hid (hFx hx)
      have HI := Lib.hid hy
      have HJ := Lib.hid hx
      have HR := Lib.hid hrow
      have HL := Lib.hid hlen
      have HW := Lib.hid hwid
      clear hFy hFx hy hx hrow hlen hwid hc hp hyN
      generalize wid (heldI Ls) = n0 at *
      generalize (Ls.getD 0 si0).1 = A0 at *
      generalize (Ls.getD 0 si0).2.2 = k0 at *
      go_enter Try.func84, Try.ntmps84
      go_wp2
      go_quiet ((first
        | (go_at_call_of 50 (Value.int IntKind.i64 (j : Int)); exact Calls.quiet_of_same (l00In_is HI _))
        | (go_at_call_of 50 (Value.int IntKind.i64 x); exact Calls.quiet_of_same (l00In_is HJ _))))
      go_wp2
      go_ret
      exact ⟨retB (by rw [HF.out]), by (repeat (first | assumption | exact Below.refl _ _ | (refine bl_alloc ?_ _) | (refine Below.drew ?_) | (refine bl_drewN ?_ _) | (refine bl_set ?_ (by first | (simp; done) | omega | (simp; omega)) _) | (refine bl_trans ?_ (by assumption)) | (refine bl_step ?_ (by assumption) (by first | omega | exact Below.size (by assumption) | (simp; omega) | (simp; exact Below.size (by assumption))))))⟩
    · have hxN : 0 ≤ x ∧ x ≤ (wid (heldI Ls) : Int) - 1 := by simpa [inB] using hx
      obtain ⟨i, rfl⟩ : ∃ i : Nat, x = i := ⟨x.toNat, by omega⟩
      have hi : i < wid (heldI Ls) := by omega
      have hO := openB_in (M := heldI Ls) (x := i) (y := j) hi (by rw [hlen]; exact hj)
      rw [heldI_row] at hO
      obtain ⟨cj, pj, _, _⟩ := hc j hj
      have hrj := hrow j (by rw [hlen]; exact hj)
      rw [heldI_row] at hrj
      rw [hrj] at cj
      obtain ⟨b', off', hA', hbB', hc'⟩ := pj (by omega)
      rw [hA'] at cj
      have ci := hc' i (by omega)
      have HF := Lib.hid hO
      have HI := Lib.hid hy
      have HJ := Lib.hid hx
      have HR := Lib.hid hrow
      have HL := Lib.hid hlen
      have HW := Lib.hid hwid
      have HA := Lib.hid hA'
      have HRJ := Lib.hid hrj
      have hjI : (j : Int) < (Ls.length : Int) := by omega
      have hiI : (i : Int) < (wid (heldI Ls) : Int) := by omega
      have hj0 : (0 : Int) ≤ (j : Int) := by omega
      have hi0 : (0 : Int) ≤ (i : Int) := by omega
      clear hFy hFx hy hx hrow hlen hwid hc hp hyN hxN hO pj hc' hA' hrj
      generalize ((Ls.getD j si0).2.1.getD i 0) = v at *
      generalize (Ls.getD j si0).2.2 = kj at *
      generalize openB (heldI Ls) (i : Int) (j : Int) = ob at *
      have HK : Hid (HW = HW ∧ HRJ = HRJ) := ⟨rfl, rfl⟩
      generalize (Ls.getD 0 si0).1 = A0 at *
      generalize (Ls.getD 0 si0).2.2 = k0 at *
      clear HK HW HRJ HR
      generalize wid (heldI Ls) = n0 at *
      go_enter Try.func84, Try.ntmps84
      go_wp2
      go_quiet ((first
        | (go_at_call_of 50 (Value.int IntKind.i64 (j : Int)); exact Calls.quiet_of_same (l00In_is HI _))
        | (go_at_call_of 50 (Value.int IntKind.i64 (i : Int)); exact Calls.quiet_of_same (l00In_is HJ _))))
      go_wp2
      go_ret
      exact ⟨retB (by rw [HF.out]), by (repeat (first | assumption | exact Below.refl _ _ | (refine bl_alloc ?_ _) | (refine Below.drew ?_) | (refine bl_drewN ?_ _) | (refine bl_set ?_ (by first | (simp; done) | omega | (simp; omega)) _) | (refine bl_trans ?_ (by assumption)) | (refine bl_step ?_ (by assumption) (by first | omega | exact Below.size (by assumption) | (simp; omega) | (simp; exact Below.size (by assumption))))))⟩
end Go.Proofs.Ytdpamieheefhdaa
