/-
  DERIVED. GIVEN WITH THE SEED: THE CARDS: each row of YtefcfpagbjflbaaDoorRows.lean that lists a variable, with what it lists TIED to the program's text (the seventh form; the later family's looks); each row that meets fmt, with fmt's text TOLD by the authors' own Lean function (tested against real Go, not proved from fmt's source: count such statements apart). THE CARD IS WHAT COUNTS. Prove the row's statement (the work); the ties are given (YtefcfpagbjflbaaDoorTie.lean); close each card by the builder's one call (the guide's Derived/Test/ToyasCard.lean, 'card_holds'). Laid BY PROGRAM, IN A SANDBOX (cutbox-door.mjs). By AI agents, Wed Nov 11 2026. No macro, syntax, notation, axiom, sorry.
-/
import Derived.Test.YtefcfpagbjflbaaDoorRows
import GoSem.ClaimSeven
namespace Go.Proofs.YtefcfpagbjflbaaDoor
namespace Rows

/-- THE TIED CARD OF 'laws.FnExactWiringOf'. -/
def fnExactWiringOfCard : Claim7 := { stood := { row := fnExactWiringOfRow, standIns := [], harness := (true, "59c55e107d8ac7dd9f294d7045a48b94103786737fbe455e08194ff33c9cb191"), looks := false }, kinds := [], alts := [], laidByText := true, laidKinds := [.data], laidTests := true, laidLooks := .later }
def FnExactWiringOfCardSaid : Prop := Claim7.holds Tryd.pinned (.plain (OpenSpec.ofChange fnExactWiringOfSpec)) fnExactWiringOfCard

/-- THE TIED CARD OF 'laws.FnExactOddRing'. -/
def fnExactOddRingCard : Claim7 := { stood := { row := fnExactOddRingRow, standIns := [], harness := (true, "59c55e107d8ac7dd9f294d7045a48b94103786737fbe455e08194ff33c9cb191"), looks := false }, kinds := [], alts := [], laidByText := true, laidKinds := [.data], laidTests := true, laidLooks := .later }
def FnExactOddRingCardSaid : Prop := Claim7.holds Tryd.pinned (.plain (OpenSpec.ofChange fnExactOddRingSpec)) fnExactOddRingCard

/-- THE TIED CARD OF 'laws.FnExactCycleOf'. -/
def fnExactCycleOfCard : Claim7 := { stood := { row := fnExactCycleOfRow, standIns := [], harness := (true, "59c55e107d8ac7dd9f294d7045a48b94103786737fbe455e08194ff33c9cb191"), looks := false }, kinds := [], alts := [], laidByText := true, laidKinds := [.data], laidTests := true, laidLooks := .later }
def FnExactCycleOfCardSaid : Prop := Claim7.holds Tryd.pinned (.plain (OpenSpec.ofChange fnExactCycleOfSpec)) fnExactCycleOfCard

/-- THE TIED CARD OF 'laws.FnExactMustBeAbove'. -/
def fnExactMustBeAboveCard : Claim7 := { stood := { row := fnExactMustBeAboveRow, standIns := [], harness := (true, "59c55e107d8ac7dd9f294d7045a48b94103786737fbe455e08194ff33c9cb191"), looks := false }, kinds := [], alts := [], laidByText := true, laidKinds := [.data], laidTests := true, laidLooks := .later }
def FnExactMustBeAboveCardSaid : Prop := Claim7.holds Tryd.pinned (.plain (OpenSpec.ofChange fnExactMustBeAboveSpec)) fnExactMustBeAboveCard

/-- THE SECOND FORM's CARD OF 'laws.FnExactWiringOf'. -/
def fnExactWiringOfUptoCard : Claim7 := { stood := { row := fnExactWiringOfUptoRow, standIns := [], harness := (true, "59c55e107d8ac7dd9f294d7045a48b94103786737fbe455e08194ff33c9cb191"), looks := false }, kinds := [], alts := [], laidByText := true, laidKinds := [.data], laidTests := true, laidLooks := .later }
def FnExactWiringOfUptoCardSaid : Prop := Claim7.holds Tryd.pinned (.plain (OpenSpec.upto fnExactWiringOfSpec)) fnExactWiringOfUptoCard

/-- THE SECOND FORM's CARD OF 'laws.FnExactOddRing'. -/
def fnExactOddRingUptoCard : Claim7 := { stood := { row := fnExactOddRingUptoRow, standIns := [], harness := (true, "59c55e107d8ac7dd9f294d7045a48b94103786737fbe455e08194ff33c9cb191"), looks := false }, kinds := [], alts := [], laidByText := true, laidKinds := [.data], laidTests := true, laidLooks := .later }
def FnExactOddRingUptoCardSaid : Prop := Claim7.holds Tryd.pinned (.plain (OpenSpec.upto fnExactOddRingSpec)) fnExactOddRingUptoCard

/-- THE SECOND FORM's CARD OF 'laws.FnExactCycleOf'. -/
def fnExactCycleOfUptoCard : Claim7 := { stood := { row := fnExactCycleOfUptoRow, standIns := [], harness := (true, "59c55e107d8ac7dd9f294d7045a48b94103786737fbe455e08194ff33c9cb191"), looks := false }, kinds := [], alts := [], laidByText := true, laidKinds := [.data], laidTests := true, laidLooks := .later }
def FnExactCycleOfUptoCardSaid : Prop := Claim7.holds Tryd.pinned (.plain (OpenSpec.upto fnExactCycleOfSpec)) fnExactCycleOfUptoCard

/-- THE SECOND FORM's CARD OF 'laws.FnExactMustBeAbove'. -/
def fnExactMustBeAboveUptoCard : Claim7 := { stood := { row := fnExactMustBeAboveUptoRow, standIns := [], harness := (true, "59c55e107d8ac7dd9f294d7045a48b94103786737fbe455e08194ff33c9cb191"), looks := false }, kinds := [], alts := [], laidByText := true, laidKinds := [.data], laidTests := true, laidLooks := .later }
def FnExactMustBeAboveUptoCardSaid : Prop := Claim7.holds Tryd.pinned (.plain (OpenSpec.upto fnExactMustBeAboveSpec)) fnExactMustBeAboveUptoCard
end Rows
end Go.Proofs.YtefcfpagbjflbaaDoor
