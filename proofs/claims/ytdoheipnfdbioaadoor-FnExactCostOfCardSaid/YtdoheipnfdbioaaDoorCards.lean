/-
  DERIVED. GIVEN WITH THE SEED: THE CARDS: each row of YtdoheipnfdbioaaDoorRows.lean that lists a variable, with what it lists TIED to the program's text (the seventh form; the later family's looks); each row that meets fmt, with fmt's text TOLD by the authors' own Lean function (tested against real Go, not proved from fmt's source: count such statements apart). THE CARD IS WHAT COUNTS. Prove the row's statement (the work); the ties are given (YtdoheipnfdbioaaDoorTie.lean); close each card by the builder's one call (the guide's Derived/Test/ToyasCard.lean, 'card_holds'). Laid BY PROGRAM, IN A SANDBOX (cutbox-door.mjs). By AI agents, Wed Nov 11 2026. No macro, syntax, notation, axiom, sorry.
-/
import Derived.Test.YtdoheipnfdbioaaDoorRows
import GoSem.ClaimSeven
namespace Go.Proofs.YtdoheipnfdbioaaDoor
namespace Rows

/-- THE TIED CARD OF 'laws.FnExactIsLayering'. -/
def fnExactIsLayeringCard : Claim7 := { stood := { row := fnExactIsLayeringRow, standIns := [], harness := (true, "1764dc4aed373045d4cda1d514c61d12825e48ede6a35df4df6aa47f0ecb0d84"), looks := false }, kinds := [], alts := [], laidByText := true, laidKinds := [.data], laidTests := true, laidLooks := .later }
def FnExactIsLayeringCardSaid : Prop := Claim7.holds Tryd.pinned (.plain (OpenSpec.ofChange fnExactIsLayeringSpec)) fnExactIsLayeringCard

/-- THE TIED CARD OF 'laws.FnExactCostOf'. -/
def fnExactCostOfCard : Claim7 := { stood := { row := fnExactCostOfRow, standIns := [], harness := (true, "1764dc4aed373045d4cda1d514c61d12825e48ede6a35df4df6aa47f0ecb0d84"), looks := false }, kinds := [], alts := [], laidByText := true, laidKinds := [.data], laidTests := true, laidLooks := .later }
def FnExactCostOfCardSaid : Prop := Claim7.holds Tryd.pinned (.plain (OpenSpec.ofChange fnExactCostOfSpec)) fnExactCostOfCard

/-- THE TIED CARD OF 'laws.FnExactGroupsOf'. -/
def fnExactGroupsOfCard : Claim7 := { stood := { row := fnExactGroupsOfRow, standIns := [], harness := (true, "1764dc4aed373045d4cda1d514c61d12825e48ede6a35df4df6aa47f0ecb0d84"), looks := false }, kinds := [], alts := [], laidByText := true, laidKinds := [.data], laidTests := true, laidLooks := .later }
def FnExactGroupsOfCardSaid : Prop := Claim7.holds Tryd.pinned (.plain (OpenSpec.ofChange fnExactGroupsOfSpec)) fnExactGroupsOfCard

/-- THE TIED CARD OF 'laws.FnExactFlipGroup'. -/
def fnExactFlipGroupCard : Claim7 := { stood := { row := fnExactFlipGroupRow, standIns := [], harness := (true, "1764dc4aed373045d4cda1d514c61d12825e48ede6a35df4df6aa47f0ecb0d84"), looks := false }, kinds := [], alts := [], laidByText := true, laidKinds := [.data], laidTests := true, laidLooks := .later }
def FnExactFlipGroupCardSaid : Prop := Claim7.holds Tryd.pinned (.plain (OpenSpec.ofChange fnExactFlipGroupSpec)) fnExactFlipGroupCard

/-- THE TIED CARD OF 'laws.FnExactFewestVias'. -/
def fnExactFewestViasCard : Claim7 := { stood := { row := fnExactFewestViasRow, standIns := [], harness := (true, "1764dc4aed373045d4cda1d514c61d12825e48ede6a35df4df6aa47f0ecb0d84"), looks := false }, kinds := [], alts := [], laidByText := true, laidKinds := [.data], laidTests := true, laidLooks := .later }
def FnExactFewestViasCardSaid : Prop := Claim7.holds Tryd.pinned (.plain (OpenSpec.ofChange fnExactFewestViasSpec)) fnExactFewestViasCard

/-- THE TIED CARD OF 'laws.FnExactCountBest'. -/
def fnExactCountBestCard : Claim7 := { stood := { row := fnExactCountBestRow, standIns := [], harness := (true, "1764dc4aed373045d4cda1d514c61d12825e48ede6a35df4df6aa47f0ecb0d84"), looks := false }, kinds := [], alts := [], laidByText := true, laidKinds := [.data], laidTests := true, laidLooks := .later }
def FnExactCountBestCardSaid : Prop := Claim7.holds Tryd.pinned (.plain (OpenSpec.ofChange fnExactCountBestSpec)) fnExactCountBestCard

/-- THE SECOND FORM's CARD OF 'laws.FnExactIsLayering'. -/
def fnExactIsLayeringUptoCard : Claim7 := { stood := { row := fnExactIsLayeringUptoRow, standIns := [], harness := (true, "1764dc4aed373045d4cda1d514c61d12825e48ede6a35df4df6aa47f0ecb0d84"), looks := false }, kinds := [], alts := [], laidByText := true, laidKinds := [.data], laidTests := true, laidLooks := .later }
def FnExactIsLayeringUptoCardSaid : Prop := Claim7.holds Tryd.pinned (.plain (OpenSpec.upto fnExactIsLayeringSpec)) fnExactIsLayeringUptoCard

/-- THE SECOND FORM's CARD OF 'laws.FnExactCostOf'. -/
def fnExactCostOfUptoCard : Claim7 := { stood := { row := fnExactCostOfUptoRow, standIns := [], harness := (true, "1764dc4aed373045d4cda1d514c61d12825e48ede6a35df4df6aa47f0ecb0d84"), looks := false }, kinds := [], alts := [], laidByText := true, laidKinds := [.data], laidTests := true, laidLooks := .later }
def FnExactCostOfUptoCardSaid : Prop := Claim7.holds Tryd.pinned (.plain (OpenSpec.upto fnExactCostOfSpec)) fnExactCostOfUptoCard

/-- THE SECOND FORM's CARD OF 'laws.FnExactGroupsOf'. -/
def fnExactGroupsOfUptoCard : Claim7 := { stood := { row := fnExactGroupsOfUptoRow, standIns := [], harness := (true, "1764dc4aed373045d4cda1d514c61d12825e48ede6a35df4df6aa47f0ecb0d84"), looks := false }, kinds := [], alts := [], laidByText := true, laidKinds := [.data], laidTests := true, laidLooks := .later }
def FnExactGroupsOfUptoCardSaid : Prop := Claim7.holds Tryd.pinned (.plain (OpenSpec.upto fnExactGroupsOfSpec)) fnExactGroupsOfUptoCard

/-- THE SECOND FORM's CARD OF 'laws.FnExactFlipGroup'. -/
def fnExactFlipGroupUptoCard : Claim7 := { stood := { row := fnExactFlipGroupUptoRow, standIns := [], harness := (true, "1764dc4aed373045d4cda1d514c61d12825e48ede6a35df4df6aa47f0ecb0d84"), looks := false }, kinds := [], alts := [], laidByText := true, laidKinds := [.data], laidTests := true, laidLooks := .later }
def FnExactFlipGroupUptoCardSaid : Prop := Claim7.holds Tryd.pinned (.plain (OpenSpec.upto fnExactFlipGroupSpec)) fnExactFlipGroupUptoCard

/-- THE SECOND FORM's CARD OF 'laws.FnExactFewestVias'. -/
def fnExactFewestViasUptoCard : Claim7 := { stood := { row := fnExactFewestViasUptoRow, standIns := [], harness := (true, "1764dc4aed373045d4cda1d514c61d12825e48ede6a35df4df6aa47f0ecb0d84"), looks := false }, kinds := [], alts := [], laidByText := true, laidKinds := [.data], laidTests := true, laidLooks := .later }
def FnExactFewestViasUptoCardSaid : Prop := Claim7.holds Tryd.pinned (.plain (OpenSpec.upto fnExactFewestViasSpec)) fnExactFewestViasUptoCard

/-- THE SECOND FORM's CARD OF 'laws.FnExactCountBest'. -/
def fnExactCountBestUptoCard : Claim7 := { stood := { row := fnExactCountBestUptoRow, standIns := [], harness := (true, "1764dc4aed373045d4cda1d514c61d12825e48ede6a35df4df6aa47f0ecb0d84"), looks := false }, kinds := [], alts := [], laidByText := true, laidKinds := [.data], laidTests := true, laidLooks := .later }
def FnExactCountBestUptoCardSaid : Prop := Claim7.holds Tryd.pinned (.plain (OpenSpec.upto fnExactCountBestSpec)) fnExactCountBestUptoCard
end Rows
end Go.Proofs.YtdoheipnfdbioaaDoor
