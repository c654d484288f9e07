/-
  Contracts: both IsPath, both LengthOf.
-/
import Derived.Test.YtdpamieheefhdaaWhole
namespace Go.Proofs.Ytdpamieheefhdaa
set_option linter.unusedSimpArgs false
set_option linter.unusedVariables false
open Go.ChangeShapes Go.WideShapes Go.ChangeAt Go.RowKit

theorem IsPathI_any (A : Option Addr) (ps : List (Int × Int)) (c : Nat) (w : World) (hp : PtsAt w w.heap.size A ps) (hl : ps.length ≤ 1048576) :
    Calls Try.prog 43 #[.slice A ps.length c] w fun e w' => e = .returned (.bool (isPathB ps)) ∧ Below w.heap.size w w' := by
  go_enter Try.func43, Try.ntmps43
  go_wp2_with (go_at_call 74; refine (isWhole_any _ _ _ _ hp hl).mono ?_; rintro e w' ⟨rfl, hb'⟩)
  go_ret
  exact ⟨rfl, hb'⟩

def lenI (ps : List (Int × Int)) : Int := if isPathB ps = true then (ps.length : Int) - 1 else 0
def lenV (ps : List (Int × Int)) : Value := .tuple #[.int .i64 (lenI ps), .bool (isPathB ps)]
theorem lenV_f {ps : List (Int × Int)} (h : isPathB ps = false) : lenV ps = .tuple #[.int .i64 0, .bool false] := by simp [lenV, lenI, h]
theorem lenV_t {ps : List (Int × Int)} (h : isPathB ps = true) : lenV ps = .tuple #[.int .i64 ((ps.length : Int) - 1), .bool true] := by simp [lenV, lenI, h]
theorem pathLen {ps : List (Int × Int)} (h : isPathB ps = true) : 1 ≤ ps.length ∧ ps.length ≤ 576 := by
  unfold isPathB sizeB at h
  simp only [Bool.and_eq_true, decide_eq_true_eq] at h
  exact h.1

theorem length_any (A : Option Addr) (n c : Nat) (w : World) (hn : n ≤ 1048576) :
    Calls Try.prog 46 #[.slice A n c] w fun e w' => e = .returned (.int .i64 ((n : Int) - 1)) ∧ w = w' := by
  have hI : (n : Int) ≤ 1048576 := by omega
  go_enter Try.func46, Try.ntmps46
  go_wp2
  go_ret
  exact ⟨rfl, rfl⟩
end Go.Proofs.Ytdpamieheefhdaa
