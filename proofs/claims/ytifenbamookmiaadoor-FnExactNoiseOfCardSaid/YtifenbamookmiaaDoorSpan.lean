/-
  Contracts: the columns of a net: spec's l03Span, impl's pinsOf and span; math/bits at them.
-/
import Derived.Test.YtifenbamookmiaaDoorChanI
import Derived.Test.YtifenbamookmiaaDoorMask
import Derived.Test.YtifenbamookmiaaDoorShB
import Derived.Shelf.Spec.TrailingZeros
import Derived.Lib.LaidTab
import Derived.Lib.SmallJoins
import Derived.Test.YtifenbamookmiaaDoorBits
namespace Go.Proofs.YtifenbamookmiaaDoor
set_option linter.unusedSimpArgs false
set_option linter.unusedVariables false
open Go.ChangeShapes Go.WideShapes Go.ChangeAt Go.RowKit

/-- Has the net a pin in the column i? -/
def hasP (T B : List Int) (net : Int) (i : Nat) : Bool := decide (T.getD i 0 = net) || decide (B.getD i 0 = net)

theorem gBru : Tryd.prog.globalNamed "math/bits.deBruijn64tab" = some 0 := by kernel_rfl
def bruTab : List Int := List.map Int.ofNat Lib.deBruijn64tab
/-- The table lies as it is laid. -/
def BruAt (w : World) : Prop := Lib.TabIs Tryd.prog w "math/bits.deBruijn64tab" .u8 bruTab
theorem BruAt.to {w w1 : World} (h : BruAt w) (hb : Below w.heap.size w w1) : BruAt w1 := Go.Joins.tab_stays gBru h hb (Nat.le_refl _)

set_option maxHeartbeats 1000000 in
theorem tz_core (x k idx : Nat) (w : World) (hx0 : ((x : Int) == 0) = false)
    (key : IntKind.u64.wrap (bits BinOp.and IntKind.u64 (x : Int) (IntKind.u64.wrap (-(x : Int))) * 285870213051353865) / 288230376151711744 = (idx : Int))
    (hi : idx < 64) (hk : k < 64) (hcell : w.cell? ⟨0, idx, none⟩ = some (.int .u8 k)) :
    Calls Tryd.prog 78 #[.int .u64 x] w fun e w' => e = .returned (.int .i64 k) ∧ w' = w := by
  go_enter Tryd.func78, Tryd.ntmps78
  go_wp2_with (simp only [key])
  go_ret
  exact ⟨rfl, rfl⟩
theorem tz_any (x : Nat) (hx : x < 18446744073709551616) (h0 : x ≠ 0) (w : World) (hT : BruAt w) :
    Calls Tryd.prog 78 #[.int .u64 x] w fun e w' => e = .returned (.int .i64 (Lib.ctz 64 x)) ∧ w' = w := by
  obtain ⟨hlow, hk⟩ := Lib.lowest_bit 64 x h0 hx
  obtain ⟨hi, htab⟩ := Lib.deBruijn64_at _ hk
  have hcell := Lib.TabIs.cell hT gBru (2 ^ Lib.ctz 64 x * 285870213051353865 % 18446744073709551616 / 288230376151711744) (by simpa [bruTab, Lib.deBruijn64tab] using hi)
  have e : bruTab.getD (2 ^ Lib.ctz 64 x * 285870213051353865 % 18446744073709551616 / 288230376151711744) 0 = (Lib.ctz 64 x : Int) := by
    have h2 := congrArg (fun n : Nat => (n : Int)) htab
    rw [← h2]
    simp only [bruTab, List.getD_eq_getElem?_getD, List.getElem?_map]
    cases Lib.deBruijn64tab[2 ^ Lib.ctz 64 x * 285870213051353865 % 18446744073709551616 / 288230376151711744]? <;> rfl
  rw [e] at hcell
  exact tz_core x _ _ w (by simp; omega) (tz64_key x _ hx h0 hlow) hi hk hcell
theorem or_bit (p : Nat → Bool) (k : Nat) (hk : k < 64) : bits .or .u64 (maskTo p k : Int) ((2 : Int) ^ k) = ((maskTo p k + 2 ^ k : Nat) : Int) := by
  have e : (2 : Int) ^ k = ((2 ^ k : Nat) : Int) := by simp
  have hlt := maskTo_lt p k
  have h64 : 2 ^ (k + 1) ≤ 18446744073709551616 := Nat.pow_le_pow_right (n := 2) (i := k + 1) (j := 64) (by omega) (by omega)
  rw [Nat.pow_succ] at h64
  rw [e, bits_or_u64_nat _ _ (by omega) (by omega), or_two_pow hlt]
end Go.Proofs.YtifenbamookmiaaDoor
