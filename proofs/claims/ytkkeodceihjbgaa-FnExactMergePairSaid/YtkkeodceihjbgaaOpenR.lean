/-
  Regions and merges as arguments, by value.
-/
import Derived.Test.YtkkeodceihjbgaaOpen
namespace Go.Proofs.Ytkkeodceihjbgaa
set_option linter.unusedSimpArgs false
set_option linter.unusedVariables false
open Go.ChangeShapes Go.WideShapes Go.ChangeAt Go.RowKit

variable {H : Type} {enc : TypeId × Value → H}

set_option maxRecDepth 100000 in
theorem open_region {w : World} {v : Value} {d : DataW H} {p : List MemPlace} {sp : Nat → Bool} {held : Bool} {r : Reach} {b0 base : Nat} (hv : Value.okWide Try.prog w r b0 23 v) (h : DataW.Trod enc Try.prog w base sp held 23 v d p) :
    ∃ a b c e, v = .agg #[.int .i64 a, .int .i64 b, .int .i64 c, .int .i64 e] ∧ (Fits a ∧ Fits b ∧ Fits c ∧ Fits e) := by
  obtain ⟨c0, c1, c2, c3, y0, y1, y2, y3, m, rfl, rfl, rfl, hy0, hy1, hy2, hy3⟩ := Go.Joins.open_agg4 Try.underlying23 (by kernel_rfl) (by kernel_rfl) hv h
  obtain ⟨a, e0, _, wa⟩ := DataW.trod_int Try.underlying2 hy0
  obtain ⟨b, e1, _, wb⟩ := DataW.trod_int Try.underlying2 hy1
  obtain ⟨c, e2, _, wc⟩ := DataW.trod_int Try.underlying2 hy2
  obtain ⟨e, e3, _, we⟩ := DataW.trod_int Try.underlying2 hy3
  simp at e0 e1 e2 e3
  subst e0; subst e1; subst e2; subst e3
  exact ⟨a, b, c, e, rfl, fits_of wa, fits_of wb, fits_of wc, fits_of we⟩

set_option maxRecDepth 100000 in
theorem open_merge {w : World} {v : Value} {d : DataW H} {p : List MemPlace} {sp : Nat → Bool} {held : Bool} {r : Reach} {b0 base : Nat} (hv : Value.okWide Try.prog w r b0 43 v) (h : DataW.Trod enc Try.prog w base sp held 43 v d p) :
    ∃ a b c e f, v = .agg #[.int .i64 a, .int .i64 b, .int .i64 c, .int .i64 e, .int .i64 f] ∧ (Fits a ∧ Fits b ∧ Fits c ∧ Fits e ∧ Fits f) := by
  obtain ⟨cs, rfl, hsz⟩ := okWide_struct Try.underlying43 hv
  have hsz5 : cs.size = 5 := hsz.trans (by kernel_rfl)
  obtain ⟨l⟩ := cs
  obtain ⟨c0, c1, c2, c3, c4, rfl⟩ : ∃ c0 c1 c2 c3 c4, l = [c0, c1, c2, c3, c4] := by
    match l, hsz5 with
    | [c0, c1, c2, c3, c4], _ => exact ⟨c0, c1, c2, c3, c4, rfl⟩
  obtain ⟨fuel, hf⟩ := h
  obtain ⟨y0, y1, n, hx, _, h0, h1⟩ := trod_struct2 Try.underlying43 hf
  have h0' : DataW.trod enc Try.prog w base sp held n 23 [c0, c1, c2, c3] = some y0 := h0
  have h1' : DataW.trod enc Try.prog w base sp held n 2 [c4] = some y1 := h1
  obtain ⟨z0, z1, z2, z3, m, hx2, _, k0, k1, k2, k3⟩ := Go.Joins.trod_struct4 Try.underlying23 h0'
  have k0' : DataW.trod enc Try.prog w base sp held m 2 [c0] = some z0 := k0
  have k1' : DataW.trod enc Try.prog w base sp held m 2 [c1] = some z1 := k1
  have k2' : DataW.trod enc Try.prog w base sp held m 2 [c2] = some z2 := k2
  have k3' : DataW.trod enc Try.prog w base sp held m 2 [c3] = some z3 := k3
  obtain ⟨a, e0, _, wa⟩ := DataW.trod_int Try.underlying2 k0'
  obtain ⟨b, e1, _, wb⟩ := DataW.trod_int Try.underlying2 k1'
  obtain ⟨c, e2, _, wc⟩ := DataW.trod_int Try.underlying2 k2'
  obtain ⟨e, e3, _, we⟩ := DataW.trod_int Try.underlying2 k3'
  obtain ⟨f, e4, _, wf⟩ := DataW.trod_int Try.underlying2 h1'
  simp at e0 e1 e2 e3 e4
  subst e0; subst e1; subst e2; subst e3; subst e4
  exact ⟨a, b, c, e, f, rfl, fits_of wa, fits_of wb, fits_of wc, fits_of we, fits_of wf⟩
end Go.Proofs.Ytkkeodceihjbgaa
