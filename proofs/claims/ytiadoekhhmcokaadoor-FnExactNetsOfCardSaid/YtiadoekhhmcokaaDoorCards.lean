/-
  DERIVED. GIVEN WITH THE SEED: THE CARDS: each row of YtiadoekhhmcokaaDoorRows.lean that lists a variable, with what it lists TIED to the program's text (the seventh form; the later family's looks); each row that meets fmt, with fmt's text TOLD by the authors' own Lean function (tested against real Go, not proved from fmt's source: count such statements apart). THE CARD IS WHAT COUNTS. Prove the row's statement (the work); the ties are given (YtiadoekhhmcokaaDoorTie.lean); close each card by the builder's one call (the guide's Derived/Test/ToyasCard.lean, 'card_holds'). Laid BY PROGRAM, IN A SANDBOX (cutbox-door.mjs). By AI agents, Wed Nov 11 2026. No macro, syntax, notation, axiom, sorry.
-/
import Derived.Test.YtiadoekhhmcokaaDoorRows
import GoSem.ClaimSeven
namespace Go.Proofs.YtiadoekhhmcokaaDoor
namespace Rows

/-- THE TIED CARD OF 'laws.FnExactReadPoints'. -/
def fnExactReadPointsCard : Claim7 := { stood := { row := fnExactReadPointsRow, standIns := [], harness := (true, "63c6834f93af1ed0bc2374468d90b7beddadc2d86982b73e6453082822868d26"), looks := true }, kinds := [], alts := [], laidByText := true, laidKinds := [.data, .data, .data, .handle, .sentinel, .sentinel], laidTests := true, laidLooks := .later }
def FnExactReadPointsCardSaid : Prop := Claim7.holds Tryd.pinned (.plain (OpenSpec.ofChange fnExactReadPointsSpec)) fnExactReadPointsCard

/-- THE TIED CARD OF 'laws.FnExactNetsOf'. -/
def fnExactNetsOfCard : Claim7 := { stood := { row := fnExactNetsOfRow, standIns := [], harness := (true, "63c6834f93af1ed0bc2374468d90b7beddadc2d86982b73e6453082822868d26"), looks := true }, kinds := [], alts := [], laidByText := true, laidKinds := [.data], laidTests := true, laidLooks := .later }
def FnExactNetsOfCardSaid : Prop := Claim7.holds Tryd.pinned (.plain (OpenSpec.ofChange fnExactNetsOfSpec)) fnExactNetsOfCard

/-- THE TIED CARD OF 'laws.FnExactSpanOf'. -/
def fnExactSpanOfCard : Claim7 := { stood := { row := fnExactSpanOfRow, standIns := [], harness := (true, "63c6834f93af1ed0bc2374468d90b7beddadc2d86982b73e6453082822868d26"), looks := true }, kinds := [], alts := [], laidByText := true, laidKinds := [.data], laidTests := true, laidLooks := .later }
def FnExactSpanOfCardSaid : Prop := Claim7.holds Tryd.pinned (.plain (OpenSpec.ofChange fnExactSpanOfSpec)) fnExactSpanOfCard

/-- THE TIED CARD OF 'laws.FnExactDensityAt'. -/
def fnExactDensityAtCard : Claim7 := { stood := { row := fnExactDensityAtRow, standIns := [], harness := (true, "63c6834f93af1ed0bc2374468d90b7beddadc2d86982b73e6453082822868d26"), looks := true }, kinds := [], alts := [], laidByText := true, laidKinds := [.data], laidTests := true, laidLooks := .later }
def FnExactDensityAtCardSaid : Prop := Claim7.holds Tryd.pinned (.plain (OpenSpec.ofChange fnExactDensityAtSpec)) fnExactDensityAtCard

/-- THE TIED CARD OF 'laws.FnExactDensityOf'. -/
def fnExactDensityOfCard : Claim7 := { stood := { row := fnExactDensityOfRow, standIns := [], harness := (true, "63c6834f93af1ed0bc2374468d90b7beddadc2d86982b73e6453082822868d26"), looks := true }, kinds := [], alts := [], laidByText := true, laidKinds := [.data], laidTests := true, laidLooks := .later }
def FnExactDensityOfCardSaid : Prop := Claim7.holds Tryd.pinned (.plain (OpenSpec.ofChange fnExactDensityOfSpec)) fnExactDensityOfCard

/-- THE TIED CARD OF 'laws.FnExactMustBeAbove'. -/
def fnExactMustBeAboveCard : Claim7 := { stood := { row := fnExactMustBeAboveRow, standIns := [], harness := (true, "63c6834f93af1ed0bc2374468d90b7beddadc2d86982b73e6453082822868d26"), looks := true }, kinds := [], alts := [], laidByText := true, laidKinds := [.data], laidTests := true, laidLooks := .later }
def FnExactMustBeAboveCardSaid : Prop := Claim7.holds Tryd.pinned (.plain (OpenSpec.ofChange fnExactMustBeAboveSpec)) fnExactMustBeAboveCard

/-- THE TIED CARD OF 'laws.FnExactLongestChain'. -/
def fnExactLongestChainCard : Claim7 := { stood := { row := fnExactLongestChainRow, standIns := [], harness := (true, "63c6834f93af1ed0bc2374468d90b7beddadc2d86982b73e6453082822868d26"), looks := true }, kinds := [], alts := [], laidByText := true, laidKinds := [.data], laidTests := true, laidLooks := .later }
def FnExactLongestChainCardSaid : Prop := Claim7.holds Tryd.pinned (.plain (OpenSpec.ofChange fnExactLongestChainSpec)) fnExactLongestChainCard

/-- THE TIED CARD OF 'laws.FnExactIsRouting'. -/
def fnExactIsRoutingCard : Claim7 := { stood := { row := fnExactIsRoutingRow, standIns := [], harness := (true, "63c6834f93af1ed0bc2374468d90b7beddadc2d86982b73e6453082822868d26"), looks := true }, kinds := [], alts := [], laidByText := true, laidKinds := [.data], laidTests := true, laidLooks := .later }
def FnExactIsRoutingCardSaid : Prop := Claim7.holds Tryd.pinned (.plain (OpenSpec.ofChange fnExactIsRoutingSpec)) fnExactIsRoutingCard

/-- THE TIED CARD OF 'laws.FnExactPiecesOf'. -/
def fnExactPiecesOfCard : Claim7 := { stood := { row := fnExactPiecesOfRow, standIns := [], harness := (true, "63c6834f93af1ed0bc2374468d90b7beddadc2d86982b73e6453082822868d26"), looks := true }, kinds := [], alts := [], laidByText := true, laidKinds := [.data], laidTests := true, laidLooks := .later }
def FnExactPiecesOfCardSaid : Prop := Claim7.holds Tryd.pinned (.plain (OpenSpec.ofChange fnExactPiecesOfSpec)) fnExactPiecesOfCard

/-- THE TIED CARD OF 'laws.FnExactChannelText'. -/
def fnExactChannelTextCard : Claim7 := { stood := { row := fnExactChannelTextRow, standIns := [], harness := (true, "63c6834f93af1ed0bc2374468d90b7beddadc2d86982b73e6453082822868d26"), looks := true }, kinds := [], alts := [], laidByText := true, laidKinds := [.data, .data, .data], laidTests := true, laidLooks := .later }
def FnExactChannelTextCardSaid : Prop := Claim7.holds Tryd.pinned (.plain (OpenSpec.ofChange fnExactChannelTextSpec)) fnExactChannelTextCard

/-- THE TIED CARD OF 'laws.FnExactReadChannel'. -/
def fnExactReadChannelCard : Claim7 := { stood := { row := fnExactReadChannelRow, standIns := [], harness := (true, "63c6834f93af1ed0bc2374468d90b7beddadc2d86982b73e6453082822868d26"), looks := true }, kinds := [], alts := [], laidByText := true, laidKinds := [.data, .data, .data, .handle, .sentinel, .sentinel], laidTests := true, laidLooks := .later }
def FnExactReadChannelCardSaid : Prop := Claim7.holds Tryd.pinned (.plain (OpenSpec.ofChange fnExactReadChannelSpec)) fnExactReadChannelCard

/-- THE SECOND FORM's CARD OF 'laws.FnExactReadPoints'. -/
def fnExactReadPointsUptoCard : Claim7 := { stood := { row := fnExactReadPointsUptoRow, standIns := [], harness := (true, "63c6834f93af1ed0bc2374468d90b7beddadc2d86982b73e6453082822868d26"), looks := true }, kinds := [], alts := [], laidByText := true, laidKinds := [.data, .data, .data, .handle, .sentinel, .sentinel], laidTests := true, laidLooks := .later }
def FnExactReadPointsUptoCardSaid : Prop := Claim7.holds Tryd.pinned (.plain (OpenSpec.upto fnExactReadPointsSpec)) fnExactReadPointsUptoCard

/-- THE SECOND FORM's CARD OF 'laws.FnExactNetsOf'. -/
def fnExactNetsOfUptoCard : Claim7 := { stood := { row := fnExactNetsOfUptoRow, standIns := [], harness := (true, "63c6834f93af1ed0bc2374468d90b7beddadc2d86982b73e6453082822868d26"), looks := true }, kinds := [], alts := [], laidByText := true, laidKinds := [.data], laidTests := true, laidLooks := .later }
def FnExactNetsOfUptoCardSaid : Prop := Claim7.holds Tryd.pinned (.plain (OpenSpec.upto fnExactNetsOfSpec)) fnExactNetsOfUptoCard

/-- THE SECOND FORM's CARD OF 'laws.FnExactSpanOf'. -/
def fnExactSpanOfUptoCard : Claim7 := { stood := { row := fnExactSpanOfUptoRow, standIns := [], harness := (true, "63c6834f93af1ed0bc2374468d90b7beddadc2d86982b73e6453082822868d26"), looks := true }, kinds := [], alts := [], laidByText := true, laidKinds := [.data], laidTests := true, laidLooks := .later }
def FnExactSpanOfUptoCardSaid : Prop := Claim7.holds Tryd.pinned (.plain (OpenSpec.upto fnExactSpanOfSpec)) fnExactSpanOfUptoCard

/-- THE SECOND FORM's CARD OF 'laws.FnExactDensityAt'. -/
def fnExactDensityAtUptoCard : Claim7 := { stood := { row := fnExactDensityAtUptoRow, standIns := [], harness := (true, "63c6834f93af1ed0bc2374468d90b7beddadc2d86982b73e6453082822868d26"), looks := true }, kinds := [], alts := [], laidByText := true, laidKinds := [.data], laidTests := true, laidLooks := .later }
def FnExactDensityAtUptoCardSaid : Prop := Claim7.holds Tryd.pinned (.plain (OpenSpec.upto fnExactDensityAtSpec)) fnExactDensityAtUptoCard

/-- THE SECOND FORM's CARD OF 'laws.FnExactDensityOf'. -/
def fnExactDensityOfUptoCard : Claim7 := { stood := { row := fnExactDensityOfUptoRow, standIns := [], harness := (true, "63c6834f93af1ed0bc2374468d90b7beddadc2d86982b73e6453082822868d26"), looks := true }, kinds := [], alts := [], laidByText := true, laidKinds := [.data], laidTests := true, laidLooks := .later }
def FnExactDensityOfUptoCardSaid : Prop := Claim7.holds Tryd.pinned (.plain (OpenSpec.upto fnExactDensityOfSpec)) fnExactDensityOfUptoCard

/-- THE SECOND FORM's CARD OF 'laws.FnExactMustBeAbove'. -/
def fnExactMustBeAboveUptoCard : Claim7 := { stood := { row := fnExactMustBeAboveUptoRow, standIns := [], harness := (true, "63c6834f93af1ed0bc2374468d90b7beddadc2d86982b73e6453082822868d26"), looks := true }, kinds := [], alts := [], laidByText := true, laidKinds := [.data], laidTests := true, laidLooks := .later }
def FnExactMustBeAboveUptoCardSaid : Prop := Claim7.holds Tryd.pinned (.plain (OpenSpec.upto fnExactMustBeAboveSpec)) fnExactMustBeAboveUptoCard

/-- THE SECOND FORM's CARD OF 'laws.FnExactLongestChain'. -/
def fnExactLongestChainUptoCard : Claim7 := { stood := { row := fnExactLongestChainUptoRow, standIns := [], harness := (true, "63c6834f93af1ed0bc2374468d90b7beddadc2d86982b73e6453082822868d26"), looks := true }, kinds := [], alts := [], laidByText := true, laidKinds := [.data], laidTests := true, laidLooks := .later }
def FnExactLongestChainUptoCardSaid : Prop := Claim7.holds Tryd.pinned (.plain (OpenSpec.upto fnExactLongestChainSpec)) fnExactLongestChainUptoCard

/-- THE SECOND FORM's CARD OF 'laws.FnExactIsRouting'. -/
def fnExactIsRoutingUptoCard : Claim7 := { stood := { row := fnExactIsRoutingUptoRow, standIns := [], harness := (true, "63c6834f93af1ed0bc2374468d90b7beddadc2d86982b73e6453082822868d26"), looks := true }, kinds := [], alts := [], laidByText := true, laidKinds := [.data], laidTests := true, laidLooks := .later }
def FnExactIsRoutingUptoCardSaid : Prop := Claim7.holds Tryd.pinned (.plain (OpenSpec.upto fnExactIsRoutingSpec)) fnExactIsRoutingUptoCard

/-- THE SECOND FORM's CARD OF 'laws.FnExactPiecesOf'. -/
def fnExactPiecesOfUptoCard : Claim7 := { stood := { row := fnExactPiecesOfUptoRow, standIns := [], harness := (true, "63c6834f93af1ed0bc2374468d90b7beddadc2d86982b73e6453082822868d26"), looks := true }, kinds := [], alts := [], laidByText := true, laidKinds := [.data], laidTests := true, laidLooks := .later }
def FnExactPiecesOfUptoCardSaid : Prop := Claim7.holds Tryd.pinned (.plain (OpenSpec.upto fnExactPiecesOfSpec)) fnExactPiecesOfUptoCard

/-- THE SECOND FORM's CARD OF 'laws.FnExactChannelText'. -/
def fnExactChannelTextUptoCard : Claim7 := { stood := { row := fnExactChannelTextUptoRow, standIns := [], harness := (true, "63c6834f93af1ed0bc2374468d90b7beddadc2d86982b73e6453082822868d26"), looks := true }, kinds := [], alts := [], laidByText := true, laidKinds := [.data, .data, .data], laidTests := true, laidLooks := .later }
def FnExactChannelTextUptoCardSaid : Prop := Claim7.holds Tryd.pinned (.plain (OpenSpec.upto fnExactChannelTextSpec)) fnExactChannelTextUptoCard

/-- THE SECOND FORM's CARD OF 'laws.FnExactReadChannel'. -/
def fnExactReadChannelUptoCard : Claim7 := { stood := { row := fnExactReadChannelUptoRow, standIns := [], harness := (true, "63c6834f93af1ed0bc2374468d90b7beddadc2d86982b73e6453082822868d26"), looks := true }, kinds := [], alts := [], laidByText := true, laidKinds := [.data, .data, .data, .handle, .sentinel, .sentinel], laidTests := true, laidLooks := .later }
def FnExactReadChannelUptoCardSaid : Prop := Claim7.holds Tryd.pinned (.plain (OpenSpec.upto fnExactReadChannelSpec)) fnExactReadChannelUptoCard
end Rows
end Go.Proofs.YtiadoekhhmcokaaDoor
