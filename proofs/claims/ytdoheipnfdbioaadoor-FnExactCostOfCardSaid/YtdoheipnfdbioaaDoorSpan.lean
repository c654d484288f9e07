/-
  Contracts: the columns of a net: spec's l03Span, impl's pinsOf and span; math/bits at them.
-/
import Derived.Test.YtdoheipnfdbioaaDoorChanI
import Derived.Test.YtdoheipnfdbioaaDoorMask
import Derived.Test.YtdoheipnfdbioaaDoorShB
import Derived.Shelf.Spec.TrailingZeros
import Derived.Lib.LaidTab
import Derived.Lib.SmallJoins
import Derived.Test.YtdoheipnfdbioaaDoorBits
namespace Go.Proofs.YtdoheipnfdbioaaDoor
set_option linter.unusedSimpArgs false
set_option linter.unusedVariables false
open Go.ChangeShapes Go.WideShapes Go.ChangeAt Go.RowKit

theorem run_span0 (x y : Value) (w : World) : (Instr.field 104 (.agg #[x, y]) 0).run Tryd.prog w = .ok x w := by kernel_rfl
theorem run_span1 (x y : Value) (w : World) : (Instr.field 104 (.agg #[x, y]) 1).run Tryd.prog w = .ok y w := by kernel_rfl
/-- Has the net a pin in the column i? -/
def hasP (T B : List Int) (net : Int) (i : Nat) : Bool := decide (T.getD i 0 = net) || decide (B.getD i 0 = net)

theorem gBru : Tryd.prog.globalNamed "math/bits.deBruijn64tab" = some 0 := by kernel_rfl
def bruTab : List Int := List.map Int.ofNat Lib.deBruijn64tab
/-- The table lies as it is laid. -/
def BruAt (w : World) : Prop := Lib.TabIs Tryd.prog w "math/bits.deBruijn64tab" .u8 bruTab
theorem BruAt.to {w w1 : World} (h : BruAt w) (hb : Below w.heap.size w w1) : BruAt w1 := Go.Joins.tab_stays gBru h hb (Nat.le_refl _)

set_option maxHeartbeats 1000000 in
theorem tz_core (x k idx : Nat) (w : World) (hx0 : ((x : Int) == 0) = false)
    (key : IntKind.u64.wrap (bits BinOp.and IntKind.u64 (x : Int) (IntKind.u64.wrap (-(x : Int))) * 285870213051353865) / 288230376151711744 = (idx : Int))
    (hi : idx < 64) (hk : k < 64) (hcell : w.cell? ⟨0, idx, none⟩ = some (.int .u8 k)) :
    Calls Tryd.prog 97 #[.int .u64 x] w fun e w' => e = .returned (.int .i64 k) ∧ w' = w := by
  go_enter Tryd.func97, Tryd.ntmps97
  go_wp2_with (simp only [key])
  go_ret
  exact ⟨rfl, rfl⟩
theorem tz_any (x : Nat) (hx : x < 18446744073709551616) (h0 : x ≠ 0) (w : World) (hT : BruAt w) :
    Calls Tryd.prog 97 #[.int .u64 x] w fun e w' => e = .returned (.int .i64 (Lib.ctz 64 x)) ∧ w' = w := by
  obtain ⟨hlow, hk⟩ := Lib.lowest_bit 64 x h0 hx
  obtain ⟨hi, htab⟩ := Lib.deBruijn64_at _ hk
  have hcell := Lib.TabIs.cell hT gBru (2 ^ Lib.ctz 64 x * 285870213051353865 % 18446744073709551616 / 288230376151711744) (by simpa [bruTab, Lib.deBruijn64tab] using hi)
  have e : bruTab.getD (2 ^ Lib.ctz 64 x * 285870213051353865 % 18446744073709551616 / 288230376151711744) 0 = (Lib.ctz 64 x : Int) := by
    have h2 := congrArg (fun n : Nat => (n : Int)) htab
    rw [← h2]
    simp only [bruTab, List.getD_eq_getElem?_getD, List.getElem?_map]
    cases Lib.deBruijn64tab[2 ^ Lib.ctz 64 x * 285870213051353865 % 18446744073709551616 / 288230376151711744]? <;> rfl
  rw [e] at hcell
  exact tz_core x _ _ w (by simp; omega) (tz64_key x _ hx h0 hlow) hi hk hcell
theorem len_any (x : Nat) (hx : x < 18446744073709551616) (w : World) :
    Calls Tryd.prog 98 #[.int .u64 x] w fun e w' => e = .returned (.int .i64 (Lib.bitLen x)) ∧ w' = w :=
  Any.bits_Len64 Tryd.lays129 (x : Int) w (by omega) (by omega)

theorem span_any (x l h : Nat) (hx : x < 18446744073709551616) (h0 : x ≠ 0) (hl : Lib.ctz 64 x = l) (hh : Lib.bitLen x = h + 1) (hb : h < 64) (w : World) (hT : BruAt w) :
    Calls Tryd.prog 79 #[.int .u64 x] w fun e w' => e = .returned (.agg #[.int .i64 l, .int .i64 h]) ∧ Below w.heap.size w w' := by
  have hT1 : BruAt (w.alloc (.cells #[.int .i64 0, .int .i64 0] 104)) := hT.to ((Below.refl _ _).alloc (Nat.le_refl _) _)
  have c1 := tz_any x hx h0 _ hT1
  have c2 := len_any x hx (w.alloc (.cells #[.int .i64 0, .int .i64 0] 104))
  rw [hl] at c1
  rw [hh] at c2
  go_enter Tryd.func79, Tryd.ntmps79
  go_wp2_with (first
    | (go_at_call 97; refine c1.mono ?_; rintro e w' ⟨rfl, rfl⟩)
    | (go_at_call 98; refine c2.mono ?_; rintro e w' ⟨rfl, rfl⟩))
  exact bodyPost_ret (v := .agg #[.int .i64 l, .int .i64 h]) (by simp [results, Tryd.results79, go_sem]) rfl ⟨rfl, by (repeat (first | assumption | exact Below.refl _ _ | (refine bl_alloc ?_ _) | (refine Below.drew ?_) | (refine bl_drewN ?_ _) | (refine bl_set ?_ (by first | (simp; done) | omega | (simp; omega)) _) | (refine bl_trans ?_ (by assumption)) | (refine bl_step ?_ (by assumption) (by first | omega | exact Below.size (by assumption) | (simp; omega) | (simp; exact Below.size (by assumption))))))⟩

theorem or_bit (p : Nat → Bool) (k : Nat) (hk : k < 64) : bits .or .u64 (maskTo p k : Int) ((2 : Int) ^ k) = ((maskTo p k + 2 ^ k : Nat) : Int) := by
  have e : (2 : Int) ^ k = ((2 ^ k : Nat) : Int) := by simp
  have hlt := maskTo_lt p k
  have h64 : 2 ^ (k + 1) ≤ 18446744073709551616 := Nat.pow_le_pow_right (n := 2) (i := k + 1) (j := 64) (by omega) (by omega)
  rw [Nat.pow_succ] at h64
  rw [e, bits_or_u64_nat _ _ (by omega) (by omega), or_two_pow hlt]
end Go.Proofs.YtdoheipnfdbioaaDoor
