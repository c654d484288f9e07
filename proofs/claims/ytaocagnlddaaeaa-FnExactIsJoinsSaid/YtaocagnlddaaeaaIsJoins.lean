/-
  Proved: for every number and lists, the program's IsJoins answers as the model's and leaves the lists alone. No condition.
-/
import Derived.Test.YtaocagnlddaaeaaJoinI
import Derived.Test.YtaocagnlddaaeaaJoinS
namespace Go.Proofs.Ytaocagnlddaaeaa.fnExactIsJoins
set_option linter.unusedSimpArgs false
set_option linter.unusedVariables false
open Go.ChangeShapes Go.WideShapes Go.ChangeAt Go.RowKit

set_option maxRecDepth 100000 in
set_option maxHeartbeats 800000 in
theorem walk (cnt : Int) (A : Option Addr) (Ls : List SlI) (c : Nat) (w : World) (_ : (Lit.int .i64 cnt).wf = true) (h : RowsIn w A Ls c) :
    Calls Try.prog 3 #[.int .i64 cnt, .slice A Ls.length c] w fun e w' => e = .returned (.bool true) ∧ Below w.heap.size w w' := by
  obtain ⟨hp, _, hlc, hcm⟩ := h
  obtain ⟨v, hv⟩ : ∃ v, isJ cnt (heldI Ls) = v := ⟨_, rfl⟩
  have csz := szInt64SS_any A Ls c 1048576 w hp (Nat.le_trans hlc hcm) (by omega) (by omega)
  have cS := fun (w : World) (A : Option Addr) (Ms : List SlI) (hM : heldI Ms = heldI Ls) (hl : Ms.length ≤ 1048576) (hp : ISAt w w.heap.size A Ms) => IsJoinsS_any A Ms Ms.length cnt w hp hl
  have cI := fun (w : World) (A : Option Addr) (Ms : List SlI) (hM : heldI Ms = heldI Ls) (hl : Ms.length ≤ 1048576) (hp : ISAt w w.heap.size A Ms) => IsJoinsI_any A Ms Ms.length cnt w hp hl
  have CS : Hid (∀ (w : World) (A : Option Addr) (Ms : List SlI), heldI Ms = heldI Ls → Ms.length = Ls.length → Ls.length ≤ 1048576 → ISAt w w.heap.size A Ms → Calls Try.prog 9 #[.int .i64 cnt, .slice A Ls.length Ls.length] w fun e w' => e = .returned (.bool v) ∧ Below w.heap.size w w') :=
    fun w A Ms hM hl hl2 hp => by
      have := cS w A Ms hM (by omega) hp
      rw [hM, hv, hl] at this
      exact this
  have CI : Hid (∀ (w : World) (A : Option Addr) (Ms : List SlI), heldI Ms = heldI Ls → Ms.length = Ls.length → Ls.length ≤ 1048576 → ISAt w w.heap.size A Ms → Calls Try.prog 11 #[.int .i64 cnt, .slice A Ls.length Ls.length] w fun e w' => e = .returned (.bool v) ∧ Below w.heap.size w w') :=
    fun w A Ms hM hl hl2 hp => by
      have := cI w A Ms hM (by omega) hp
      rw [hM, hv, hl] at this
      exact this
  clear hv cS cI hlc hcm
  go_enter Try.func3, Try.ntmps3
  go_wp2_with fail
  refine csz.mono ?_
  rintro e w1 ⟨r, rfl, rfl, hr1, hr2, hr3⟩
  by_cases hr : r < 0
  · clear hr3
    go_wp2
    go_ret
    exact ⟨rfl, Below.refl _ _⟩
  · obtain ⟨hn, hl⟩ := hr3 (by omega)
    have CT := Lib.hid (fun (w1 : World) (hb : Below w.heap.size w w1) => toInt64SS_new A Ls c w1 (hp.to hb) hn hl)
    have HL := Lib.hid hl
    clear hr3 hl hp
    go_wp2_with fail
    refine (CT.out _ (Below.refl _ _)).mono ?_
    rintro e w1 ⟨g1, M1, rfl, hl1, hM1, hI1, hb1⟩
    go_wp2_with fail
    refine (CS.out _ _ M1 hM1 hl1 hn hI1).mono ?_
    rintro e w2 ⟨rfl, hb2⟩
    have b2 := bl_trans hb1 hb2
    clear hI1 hM1 hl1 hb1 hb2
    go_wp2_with fail
    refine (CT.out _ b2).mono ?_
    rintro e w3 ⟨g3, M3, rfl, hl3, hM3, hI3, hb3⟩
    have b3 := bl_trans b2 hb3
    have HM3 := Lib.hid hM3
    have Hl3 := Lib.hid hl3
    clear hb3 b2 hM3 hl3
    go_wp2_with fail
    refine (CI.out _ _ M3 HM3.out Hl3.out hn hI3).mono ?_
    rintro e w4 ⟨rfl, hb4⟩
    have b4 := bl_trans b3 hb4
    have hI4 := hI3.to hb4
    clear hb4 b3 hI3
    go_wp2_with fail
    refine (CT.out _ b4).mono ?_
    rintro e w5 ⟨g5, M5, rfl, hl5, hM5, hI5, hb5⟩
    have b5 := bl_trans b4 hb5
    have hI45 := hI4.to hb5
    have HM5 := Lib.hid hM5
    have Hl5 := Lib.hid hl5
    clear hb5 b4 hI4 hM5 hl5
    go_wp2_with fail
    refine (eqInt64SS_same _ _ M3 M5 Ls.length _ _ _ hI45 hI5 Hl3.out Hl5.out (HM3.out.trans HM5.out.symm) hn (fun i hi => by
      have h1 : (heldI M3).getD i [] = (heldI Ls).getD i [] := by rw [HM3.out]
      rw [heldI_at, heldI_at] at h1
      rw [h1]
      exact HL.out i hi)).mono ?_
    rintro e w6 ⟨rfl, hb6⟩
    have b6 := bl_trans b5 hb6
    clear hb6 b5
    go_wp2
    go_ret
    exact ⟨rfl, b6⟩
end Go.Proofs.Ytaocagnlddaaeaa.fnExactIsJoins
