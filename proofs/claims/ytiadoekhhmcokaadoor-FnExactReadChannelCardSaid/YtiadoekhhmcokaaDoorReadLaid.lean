/-
  What the six laid variables (strconv's table and errors, bits' tables, package errors' type) give a walk.
-/
import Derived.Test.YtiadoekhhmcokaaDoorReadI
import Derived.ProofKit
import Derived.LaidMore
import Derived.OpenShut
import Derived.Stop.Joined
import Derived.Test.YtiadoekhhmcokaaDoorCards
import Derived.Test.YtiadoekhhmcokaaDoorTie
import Derived.SevenTiedAt
import Derived.Stop.LaidErr
namespace Go.Proofs.YtiadoekhhmcokaaDoor
set_option linter.unusedSimpArgs false
set_option linter.unusedVariables false
open Go.ChangeShapes Go.WideShapes Go.ChangeAt Go.RowKit

/-- The rows' list. -/
def laid6 : List (String × DataW Unit) := [("math/bits.deBruijn32tab", Rows.laid_math_bits_deBruijn32tab), ("math/bits.deBruijn64tab", Rows.laid_math_bits_deBruijn64tab), ("internal/strconv.uint64pow10", Rows.laid_internal_strconv_uint64pow10), ("errors.errorType", Rows.laid_errors_errorType), ("strconv.ErrRange", Rows.laid_strconv_ErrRange), ("strconv.ErrSyntax", Rows.laid_strconv_ErrSyntax)]
/-- .. without the type's handle. -/
def laid5 : List (String × DataW Unit) := [("math/bits.deBruijn32tab", Rows.laid_math_bits_deBruijn32tab), ("math/bits.deBruijn64tab", Rows.laid_math_bits_deBruijn64tab), ("internal/strconv.uint64pow10", Rows.laid_internal_strconv_uint64pow10), ("strconv.ErrRange", Rows.laid_strconv_ErrRange), ("strconv.ErrSyntax", Rows.laid_strconv_ErrSyntax)]

/-- The door's own heap meets the condition. -/
theorem door_met6 (os : Os) (args : Array Value) : laidMetH Tryd.prog laid6 ((World.doorLaid Tryd.prog 4000 os).forCall (fun _ _ => 0) ⟨#[], args, []⟩).memory :=
  laidMetH_of_parts3 (fuel := 8) (laidMet_of_run' 8 (by kernel_rfl) (by kernel_rfl)) (by kernel_rfl) (by kernel_rfl)

theorem split6 {W : World} (h : laidMetH Tryd.prog laid6 W) : laidMet Tryd.prog laid5 W ∧ handlesMet Tryd.prog [("errors.errorType", Rows.laid_errors_errorType)] W := h

theorem eT : Tryd.prog.globalNamed "errors.errorType" = some 0 := by kernel_rfl
theorem rT : (Tryd.prog.cutTypes.find? (·.1 == "internal/reflectlite.rtype")).map (·.2) = some 186 := by kernel_rfl
theorem oneRow : ((List.range 262).filter fun t => Tryd.prog.rowNamed t [101, 114, 114, 111, 114]) = [62] := by kernel_rfl
theorem nTypes : Tryd.prog.types.size = 262 := by kernel_rfl
/-- The type's handle. -/
theorem ty_of {W : World} (h : laidMetH Tryd.prog laid6 W) : TypeLaid W := by
  obtain ⟨name, u, ty, e1, e2, e3, e4, e5⟩ := (split6 h).2 _ (List.mem_singleton.2 rfl)
  have en : name = [101, 114, 114, 111, 114] := (Option.some.inj e1).symm
  subst en
  obtain rfl := Option.some.inj (rT.symm.trans e2)
  have hm : ty ∈ (List.range 262).filter fun t => Tryd.prog.rowNamed t [101, 114, 114, 111, 114] := List.mem_filter.2 ⟨List.mem_range.2 (by rw [← nTypes]; exact e3), e4⟩
  rw [oneRow] at hm
  obtain rfl := List.mem_singleton.1 hm
  have hh : typeHandle Tryd.prog 62 = .pointer (some ⟨7, 62, none⟩) := by kernel_rfl
  rw [hh] at e5
  unfold TypeLaid
  simpa using World.var?_cell eT e5 0
theorem starE : "*" ++ "errors.errorString" = "*errors.errorString" := by decide
theorem rowE (u : TypeId) (h : Tryd.prog.typeName? 3 u = some "*errors.errorString") : u = 231 :=
  typeName_ptr_named (nm := "errors.errorString") (by rw [starE]; kernel_rfl) (by kernel_rfl) (by decide) u (by rw [starE]; exact h)
theorem gR : Tryd.prog.globalNamed "strconv.ErrRange" = some 5 := by kernel_rfl
theorem gS : Tryd.prog.globalNamed "strconv.ErrSyntax" = some 4 := by kernel_rfl
/-- All that the walk asks. -/
theorem laid_of {W : World} (h : laidMetH Tryd.prog laid6 W) : ParseLaid W := by
  have h5 := (split6 h).1
  have e : (Rows.laid_internal_strconv_uint64pow10 : DataW Unit) = Lib.tabData .u64 Lib.pow10Tab := by kernel_rfl
  have h2 : laidMet Tryd.prog (("internal/strconv.uint64pow10", Rows.laid_internal_strconv_uint64pow10) :: [("strconv.ErrRange", Rows.laid_strconv_ErrRange), ("strconv.ErrSyntax", Rows.laid_strconv_ErrSyntax)]) W := laidMet.tail (laidMet.tail h5)
  have h3 : laidMet Tryd.prog [("strconv.ErrRange", Rows.laid_strconv_ErrRange), ("strconv.ErrSyntax", Rows.laid_strconv_ErrSyntax)] W := laidMet.tail h2
  have h4 : laidMet Tryd.prog [("strconv.ErrSyntax", Rows.laid_strconv_ErrSyntax)] W := laidMet.tail h3
  obtain ⟨a, s, hv, -⟩ := laid_sentinel (te := 233) h3 gR (by kernel_rfl) Tryd.underlying62 rowE Tryd.underlying231 Tryd.underlying233 rfl rfl Tryd.underlying9 (by kernel_rfl) (by kernel_rfl)
  obtain ⟨a', s', hv', -⟩ := laid_sentinel (te := 233) h4 gS (by kernel_rfl) Tryd.underlying62 rowE Tryd.underlying231 Tryd.underlying233 rfl rfl Tryd.underlying9 (by kernel_rfl) (by kernel_rfl)
  rw [e] at h2
  exact ⟨Lib.tabIs_of_head fnExactDecimal.gPow fnExactDecimal.tPow fnExactDecimal.uArr fnExactDecimal.uU64 (by kernel_rfl) (by kernel_rfl) h2, ty_of h,
    ⟨_, _, by simpa using World.var?_cell gS hv' 0⟩, ⟨_, _, by simpa using World.var?_cell gR hv 0⟩⟩
end Go.Proofs.YtiadoekhhmcokaaDoor
