/-
  Contracts: math/bits.OnesCount64 below 2^24; the size of a set.
-/
import Derived.Test.YtpcilpcinbamcaaDoorMem
import Derived.Test.YtpcilpcinbamcaaDoorSpan
import Derived.Test.YtpcilpcinbamcaaDoorPop
namespace Go.Proofs.YtpcilpcinbamcaaDoor
set_option linter.unusedSimpArgs false
set_option linter.unusedVariables false
open Go.ChangeShapes Go.WideShapes Go.ChangeAt Go.RowKit

theorem wr64 (n : Int) (h0 : 0 ≤ n) (h1 : n < 2 ^ 31) : IntKind.i64.wrap n = n := IntWalk.i64_in _ (by omega)
set_option maxRecDepth 100000 in
set_option maxHeartbeats 1000000 in
theorem ones_any (x : Nat) (hx : x < 16777216) (w : World) :
    Calls Tryd.prog 35 #[.int .u64 x] w fun e w' => e = .returned (.int .i64 (Lib.popAux 64 x)) ∧ w' = w := by
  obtain ⟨v, hv⟩ : ∃ v, v = q3 (q2 (q1 x)) := ⟨_, rfl⟩
  obtain ⟨v24, q24, r24, hres⟩ := pop_eq x hx v hv
  have a1 : bits .and .u64 ((x : Int) / 2) 6148914691236517205 = ((x / 2 &&& 6148914691236517205 : Nat) : Int) := bits_and_u64_nat (x / 2) 6148914691236517205 (by omega) (by omega)
  have a2 : bits .and .u64 (x : Int) 6148914691236517205 = ((x &&& 6148914691236517205 : Nat) : Int) := bits_and_u64_nat x 6148914691236517205 (by omega) (by omega)
  have l1 : x / 2 &&& 6148914691236517205 ≤ x / 2 := Nat.and_le_left
  have l2 : x &&& 6148914691236517205 ≤ x := Nat.and_le_left
  have e1 : ((x / 2 &&& 6148914691236517205 : Nat) : Int) + ((x &&& 6148914691236517205 : Nat) : Int) = ((q1 x : Nat) : Int) := by unfold q1; omega
  generalize x / 2 &&& 6148914691236517205 = y1 at *
  generalize x &&& 6148914691236517205 = y2 at *
  generalize q1 x = Q1 at *
  have b1 : bits .and .u64 ((Q1 : Int) / 4) 3689348814741910323 = ((Q1 / 4 &&& 3689348814741910323 : Nat) : Int) := bits_and_u64_nat (Q1 / 4) 3689348814741910323 (by omega) (by omega)
  have b2 : bits .and .u64 (Q1 : Int) 3689348814741910323 = ((Q1 &&& 3689348814741910323 : Nat) : Int) := bits_and_u64_nat Q1 3689348814741910323 (by omega) (by omega)
  have m1 : Q1 / 4 &&& 3689348814741910323 ≤ Q1 / 4 := Nat.and_le_left
  have m2 : Q1 &&& 3689348814741910323 ≤ Q1 := Nat.and_le_left
  have e2 : ((Q1 / 4 &&& 3689348814741910323 : Nat) : Int) + ((Q1 &&& 3689348814741910323 : Nat) : Int) = ((q2 Q1 : Nat) : Int) := by unfold q2; omega
  generalize Q1 / 4 &&& 3689348814741910323 = z1 at *
  generalize Q1 &&& 3689348814741910323 = z2 at *
  generalize q2 Q1 = Q2 at *
  have c1 : bits .and .u64 ((Q2 : Int) / 16 + (Q2 : Int)) 1085102592571150095 = (v : Int) := by
    rw [hv]
    exact bits_and_u64_nat (Q2 / 16 + Q2) 1085102592571150095 (by omega) (by omega)
  clear hv
  obtain ⟨s1, h1⟩ : ∃ s1, s1 = v + v / 256 := ⟨_, rfl⟩
  rw [← h1] at hres
  obtain ⟨s2, h2⟩ : ∃ s2, s2 = s1 + s1 / 65536 := ⟨_, rfl⟩
  rw [← h2] at hres
  obtain ⟨s3, h3⟩ : ∃ s3, s3 = s2 + s2 / 4294967296 := ⟨_, rfl⟩
  rw [← h3] at hres
  have E1 : (v : Int) + (v : Int) / 256 = (s1 : Int) := by omega
  have E2 : (s1 : Int) + (s1 : Int) / 65536 = (s2 : Int) := by omega
  have E3 : (s2 : Int) + (s2 : Int) / 4294967296 = (s3 : Int) := by omega
  have hs3 : s3 < 2147483648 := by omega
  have hmk : bits .and .i64 (s3 : Int) 127 = (Lib.popAux 64 x : Int) := by
    have h := bits_mask .i64 31 (by decide) wr64 7 (by omega) (s3 : Int) (by omega) (by omega)
    rw [← hres]
    have e : ((2 : Int) ^ 7 - 1) = 127 := by decide
    rw [e] at h
    rw [h]
    omega
  have HR := Lib.hid hmk
  have d1 : s1 < 33554432 := by omega
  have d2 : s2 < 67108864 := by omega
  clear hres hmk h1 h2 h3
  go_enter Tryd.func35, Tryd.ntmps35
  go_wp2
  go_ret
  exact ⟨by rw [HR.out]; rfl, rfl⟩

theorem size_any (x : Nat) (hx : x < 16777216) (w : World) :
    Calls Tryd.prog 31 #[.int .u64 x] w fun e w' => e = .returned (.int .i64 (Lib.popAux 64 x)) ∧ w' = w := by
  have hc := ones_any x hx w
  generalize Lib.popAux 64 x = r at *
  go_enter Tryd.func31, Tryd.ntmps31
  go_wp2_with (go_at_call 35; refine hc.mono ?_; rintro e w' ⟨rfl, rfl⟩)
  go_ret
  exact ⟨rfl, rfl⟩
end Go.Proofs.YtpcilpcinbamcaaDoor
