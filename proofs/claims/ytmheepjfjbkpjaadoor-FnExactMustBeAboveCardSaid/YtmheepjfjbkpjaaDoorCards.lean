/-
  DERIVED. GIVEN WITH THE SEED: THE CARDS: each row of YtmheepjfjbkpjaaDoorRows.lean that lists a variable, with what it lists TIED to the program's text (the seventh form; the later family's looks); each row that meets fmt, with fmt's text TOLD by the authors' own Lean function (tested against real Go, not proved from fmt's source: count such statements apart). THE CARD IS WHAT COUNTS. Prove the row's statement (the work); the ties are given (YtmheepjfjbkpjaaDoorTie.lean); close each card by the builder's one call (the guide's Derived/Test/ToyasCard.lean, 'card_holds'). Laid BY PROGRAM, IN A SANDBOX (cutbox-door.mjs). By AI agents, Wed Nov 11 2026. No macro, syntax, notation, axiom, sorry.
-/
import Derived.Test.YtmheepjfjbkpjaaDoorRows
import GoSem.ClaimSeven
namespace Go.Proofs.YtmheepjfjbkpjaaDoor
namespace Rows

/-- THE TIED CARD OF 'laws.FnExactMustBeAbove'. -/
def fnExactMustBeAboveCard : Claim7 := { stood := { row := fnExactMustBeAboveRow, standIns := [], harness := (true, "4c31e259cd91dd4f20656375faa21b2a854b8d762dbde65d3a605fedc7a85a14"), looks := false }, kinds := [], alts := [], laidByText := true, laidKinds := [.data], laidTests := true, laidLooks := .later }
def FnExactMustBeAboveCardSaid : Prop := Claim7.holds Tryd.pinned (.plain (OpenSpec.ofChange fnExactMustBeAboveSpec)) fnExactMustBeAboveCard

/-- THE TIED CARD OF 'laws.FnExactCycleOf'. -/
def fnExactCycleOfCard : Claim7 := { stood := { row := fnExactCycleOfRow, standIns := [], harness := (true, "4c31e259cd91dd4f20656375faa21b2a854b8d762dbde65d3a605fedc7a85a14"), looks := false }, kinds := [], alts := [], laidByText := true, laidKinds := [.data], laidTests := true, laidLooks := .later }
def FnExactCycleOfCardSaid : Prop := Claim7.holds Tryd.pinned (.plain (OpenSpec.ofChange fnExactCycleOfSpec)) fnExactCycleOfCard

/-- THE TIED CARD OF 'laws.FnExactLongestChain'. -/
def fnExactLongestChainCard : Claim7 := { stood := { row := fnExactLongestChainRow, standIns := [], harness := (true, "4c31e259cd91dd4f20656375faa21b2a854b8d762dbde65d3a605fedc7a85a14"), looks := false }, kinds := [], alts := [], laidByText := true, laidKinds := [.data], laidTests := true, laidLooks := .later }
def FnExactLongestChainCardSaid : Prop := Claim7.holds Tryd.pinned (.plain (OpenSpec.ofChange fnExactLongestChainSpec)) fnExactLongestChainCard

/-- THE TIED CARD OF 'laws.FnExactIsRouting'. -/
def fnExactIsRoutingCard : Claim7 := { stood := { row := fnExactIsRoutingRow, standIns := [], harness := (true, "4c31e259cd91dd4f20656375faa21b2a854b8d762dbde65d3a605fedc7a85a14"), looks := false }, kinds := [], alts := [], laidByText := true, laidKinds := [.data], laidTests := true, laidLooks := .later }
def FnExactIsRoutingCardSaid : Prop := Claim7.holds Tryd.pinned (.plain (OpenSpec.ofChange fnExactIsRoutingSpec)) fnExactIsRoutingCard

/-- THE TIED CARD OF 'laws.FnExactPiecesOf'. -/
def fnExactPiecesOfCard : Claim7 := { stood := { row := fnExactPiecesOfRow, standIns := [], harness := (true, "4c31e259cd91dd4f20656375faa21b2a854b8d762dbde65d3a605fedc7a85a14"), looks := false }, kinds := [], alts := [], laidByText := true, laidKinds := [.data], laidTests := true, laidLooks := .later }
def FnExactPiecesOfCardSaid : Prop := Claim7.holds Tryd.pinned (.plain (OpenSpec.ofChange fnExactPiecesOfSpec)) fnExactPiecesOfCard

/-- THE SECOND FORM's CARD OF 'laws.FnExactMustBeAbove'. -/
def fnExactMustBeAboveUptoCard : Claim7 := { stood := { row := fnExactMustBeAboveUptoRow, standIns := [], harness := (true, "4c31e259cd91dd4f20656375faa21b2a854b8d762dbde65d3a605fedc7a85a14"), looks := false }, kinds := [], alts := [], laidByText := true, laidKinds := [.data], laidTests := true, laidLooks := .later }
def FnExactMustBeAboveUptoCardSaid : Prop := Claim7.holds Tryd.pinned (.plain (OpenSpec.upto fnExactMustBeAboveSpec)) fnExactMustBeAboveUptoCard

/-- THE SECOND FORM's CARD OF 'laws.FnExactCycleOf'. -/
def fnExactCycleOfUptoCard : Claim7 := { stood := { row := fnExactCycleOfUptoRow, standIns := [], harness := (true, "4c31e259cd91dd4f20656375faa21b2a854b8d762dbde65d3a605fedc7a85a14"), looks := false }, kinds := [], alts := [], laidByText := true, laidKinds := [.data], laidTests := true, laidLooks := .later }
def FnExactCycleOfUptoCardSaid : Prop := Claim7.holds Tryd.pinned (.plain (OpenSpec.upto fnExactCycleOfSpec)) fnExactCycleOfUptoCard

/-- THE SECOND FORM's CARD OF 'laws.FnExactLongestChain'. -/
def fnExactLongestChainUptoCard : Claim7 := { stood := { row := fnExactLongestChainUptoRow, standIns := [], harness := (true, "4c31e259cd91dd4f20656375faa21b2a854b8d762dbde65d3a605fedc7a85a14"), looks := false }, kinds := [], alts := [], laidByText := true, laidKinds := [.data], laidTests := true, laidLooks := .later }
def FnExactLongestChainUptoCardSaid : Prop := Claim7.holds Tryd.pinned (.plain (OpenSpec.upto fnExactLongestChainSpec)) fnExactLongestChainUptoCard

/-- THE SECOND FORM's CARD OF 'laws.FnExactIsRouting'. -/
def fnExactIsRoutingUptoCard : Claim7 := { stood := { row := fnExactIsRoutingUptoRow, standIns := [], harness := (true, "4c31e259cd91dd4f20656375faa21b2a854b8d762dbde65d3a605fedc7a85a14"), looks := false }, kinds := [], alts := [], laidByText := true, laidKinds := [.data], laidTests := true, laidLooks := .later }
def FnExactIsRoutingUptoCardSaid : Prop := Claim7.holds Tryd.pinned (.plain (OpenSpec.upto fnExactIsRoutingSpec)) fnExactIsRoutingUptoCard

/-- THE SECOND FORM's CARD OF 'laws.FnExactPiecesOf'. -/
def fnExactPiecesOfUptoCard : Claim7 := { stood := { row := fnExactPiecesOfUptoRow, standIns := [], harness := (true, "4c31e259cd91dd4f20656375faa21b2a854b8d762dbde65d3a605fedc7a85a14"), looks := false }, kinds := [], alts := [], laidByText := true, laidKinds := [.data], laidTests := true, laidLooks := .later }
def FnExactPiecesOfUptoCardSaid : Prop := Claim7.holds Tryd.pinned (.plain (OpenSpec.upto fnExactPiecesOfSpec)) fnExactPiecesOfUptoCard
end Rows
end Go.Proofs.YtmheepjfjbkpjaaDoor
