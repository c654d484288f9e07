/-
  Proved: for every number, lists and wires, the program's SkewOf answers as the model's and leaves the lists and the wires alone. No condition.
-/
import Derived.Test.YtijnjcamfbnmgaaSkewL
import Derived.Test.YtijnjcamfbnmgaaSkewS
namespace Go.Proofs.Ytijnjcamfbnmgaa.fnExactSkewOf
set_option linter.unusedSimpArgs false
set_option linter.unusedVariables false
open Go.ChangeShapes Go.WideShapes Go.ChangeAt Go.RowKit

set_option maxRecDepth 100000 in
set_option maxHeartbeats 1600000 in
theorem walk (cnt : Int) (A : Option Addr) (Ls : List SlI) (c : Nat) (AX : Option Addr) (X : List Int) (cX : Nat) (w : World) (_ : (Lit.int .i64 cnt).wf = true) (h : RowsIn w A Ls c) (hx : IntsAt w w.heap.size AX X ∧ (∀ n ∈ X, Fits n) ∧ X.length ≤ cX ∧ cX ≤ maxLen) :
    Calls Try.prog 6 #[.int .i64 cnt, .slice A Ls.length c, .slice AX X.length cX] w fun e w' => e = .returned (.bool true) ∧ Below w.heap.size w w' := by
  obtain ⟨hp, _, hlc, hcm⟩ := h
  obtain ⟨hX, _, lX1, lX2⟩ := hx
  have hXm : X.length ≤ maxLen := by omega
  obtain ⟨v, u, hv⟩ : ∃ v u, skV cnt (heldI Ls) X = .tuple #[.int .i64 v, .bool u] := ⟨_, _, rfl⟩
  have csz := szInt64SS_any A Ls c 1048576 w hp (Nat.le_trans hlc hcm) (by omega) (by omega)
  have HX := Lib.hid hX
  clear hX lX1 lX2
  unfold maxLen at hXm
  by_cases hbig : 1048576 < X.length
  · have hbI : (1048576 : Int) < (X.length : Int) := by omega
    clear csz hbig
    go_enter Try.func6, Try.ntmps6
    go_wp2
    go_ret
    exact ⟨rfl, Below.refl _ _⟩
  have hbI : (X.length : Int) ≤ 1048576 := by omega
  have lX : X.length ≤ 1048576 := by omega
  clear hbig hXm
  have CS : Hid (∀ (w : World) (A : Option Addr) (Ms : List SlI) (gx : Nat), heldI Ms = heldI Ls → Ms.length = Ls.length → Ls.length ≤ 1048576 → ISAt w w.heap.size A Ms → IntsAt w w.heap.size (some ⟨gx, 0, none⟩) X → Calls Try.prog 31 #[.int .i64 cnt, .slice A Ls.length Ls.length, .slice (some ⟨gx, 0, none⟩) X.length X.length] w fun e w' => e = .returned (.tuple #[.int .i64 v, .bool u]) ∧ Below w.heap.size w w') :=
    fun w A Ms gx hM hl hl2 hp hX => by
      have := SkewOfS_any A Ms Ms.length (some ⟨gx, 0, none⟩) X X.length cnt w hp (by omega) hX lX
      rw [hM, hv, hl] at this
      exact this
  have CI : Hid (∀ (w : World) (A : Option Addr) (Ms : List SlI) (gx : Nat), heldI Ms = heldI Ls → Ms.length = Ls.length → Ls.length ≤ 1048576 → ISAt w w.heap.size A Ms → IntsAt w w.heap.size (some ⟨gx, 0, none⟩) X → Calls Try.prog 33 #[.int .i64 cnt, .slice A Ls.length Ls.length, .slice (some ⟨gx, 0, none⟩) X.length X.length] w fun e w' => e = .returned (.tuple #[.int .i64 v, .bool u]) ∧ Below w.heap.size w w') :=
    fun w A Ms gx hM hl hl2 hp hX => by
      have := SkewOfI_any cnt A Ms Ms.length (some ⟨gx, 0, none⟩) X X.length w hp (by omega) hX lX
      rw [hM, hv, hl] at this
      exact this
  have CXN := Lib.hid (fun (wx : World) (hx : Below w.heap.size w wx) => toInt64S_new AX X cX wx (HX.out.to hx) lX)
  clear hv hlc hcm
  go_enter Try.func6, Try.ntmps6
  go_wp2_with fail
  refine csz.mono ?_
  rintro e w1 ⟨r, rfl, rfl, hr1, hr2, hr3⟩
  by_cases hr : r < 0
  · clear hr3
    go_wp2
    go_ret
    exact ⟨rfl, Below.refl _ _⟩
  obtain ⟨hn, hl⟩ := hr3 (by omega)
  have CT := Lib.hid (fun (w1 : World) (hb : Below w.heap.size w w1) => toInt64SS_new A Ls c w1 (hp.to hb) hn hl)
  have HL := Lib.hid hl
  clear hr3 hl hp
  go_wp2_with fail
  refine (CT.out _ (Below.refl _ _)).mono ?_
  rintro e w1 ⟨g1, M1, rfl, hl1, hM1, hI1, hb1⟩
  go_wp2_with fail
  refine (CXN.out _ hb1).mono ?_
  rintro e w2 ⟨gx, rfl, hBx, hb2, _⟩
  have b2 := bl_trans hb1 hb2
  have hI2 := hI1.to hb2
  clear hb1 hb2 hI1
  go_wp2_with fail
  refine (CS.out _ _ M1 gx hM1 hl1 hn hI2 hBx.nums).mono ?_
  rintro e w3 ⟨rfl, hb3⟩
  have b3 := bl_trans b2 hb3
  clear hI2 hM1 hl1 b2 hb3 hBx
  go_wp2_with fail
  refine (CT.out _ b3).mono ?_
  rintro e w4 ⟨g3, M3, rfl, hl3, hM3, hI3, hb4⟩
  have b4 := bl_trans b3 hb4
  have HM3 := Lib.hid hM3
  have Hl3 := Lib.hid hl3
  clear hb4 b3 hM3 hl3
  go_wp2_with fail
  refine (CXN.out _ b4).mono ?_
  rintro e w5 ⟨gy, rfl, hBy, hb5, _⟩
  have b5 := bl_trans b4 hb5
  have hI5 := hI3.to hb5
  clear hb5 b4 hI3
  go_wp2_with fail
  refine (CI.out _ _ M3 gy HM3.out Hl3.out hn hI5 hBy.nums).mono ?_
  rintro e w6 ⟨rfl, hb6⟩
  have b6 := bl_trans b5 hb6
  have hI6 := hI5.to hb6
  have hBy6 := hBy.to hb6
  clear hb6 b5 hI5 hBy
  go_wp2_with fail
  refine (CT.out _ b6).mono ?_
  rintro e w7 ⟨g5, M5, rfl, hl5, hM5, hI5, hb7⟩
  have b7 := bl_trans b6 hb7
  have hI47 := hI6.to hb7
  have hBy7 := hBy6.to hb7
  have HM5 := Lib.hid hM5
  have Hl5 := Lib.hid hl5
  clear hb7 b6 hI6 hBy6 hM5 hl5
  go_wp2_with fail
  refine (eqInt64SS_same _ _ M3 M5 Ls.length _ _ _ hI47 hI5 Hl3.out Hl5.out (HM3.out.trans HM5.out.symm) hn (fun i hi => by
    have h1 : (heldI M3).getD i [] = (heldI Ls).getD i [] := by rw [HM3.out]
    rw [heldI_at, heldI_at] at h1
    rw [h1]
    exact HL.out i hi)).mono ?_
  rintro e w8 ⟨rfl, hb8⟩
  have b8 := bl_trans b7 hb8
  have hBy8 := hBy7.to hb8
  clear hb8 b7 hBy7 hI47 hI5
  go_wp2_with fail
  refine (CXN.out _ b8).mono ?_
  rintro e w9 ⟨gz, rfl, hBz, hb9, _⟩
  have b9 := bl_trans b8 hb9
  have hBy9 := hBy8.to hb9
  clear hb9 b8 hBy8
  go_wp2_with fail
  refine (eqInt64S_same _ _ X X.length X.length _ hBy9.nums hBz.nums lX).mono ?_
  rintro e w10 ⟨rfl, hb10⟩
  go_wp2
  go_ret
  exact ⟨rfl, bl_trans b9 hb10⟩
end Go.Proofs.Ytijnjcamfbnmgaa.fnExactSkewOf
