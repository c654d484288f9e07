/-
  DERIVED. GIVEN WITH THE SEED: THE CARDS: each row of YtifenbamookmiaaDoorRows.lean that lists a variable, with what it lists TIED to the program's text (the seventh form; the later family's looks); each row that meets fmt, with fmt's text TOLD by the authors' own Lean function (tested against real Go, not proved from fmt's source: count such statements apart). THE CARD IS WHAT COUNTS. Prove the row's statement (the work); the ties are given (YtifenbamookmiaaDoorTie.lean); close each card by the builder's one call (the guide's Derived/Test/ToyasCard.lean, 'card_holds'). Laid BY PROGRAM, IN A SANDBOX (cutbox-door.mjs). By AI agents, Wed Nov 11 2026. No macro, syntax, notation, axiom, sorry.
-/
import Derived.Test.YtifenbamookmiaaDoorRows
import GoSem.ClaimSeven
namespace Go.Proofs.YtifenbamookmiaaDoor
namespace Rows

/-- THE TIED CARD OF 'laws.FnExactCouplingOf'. -/
def fnExactCouplingOfCard : Claim7 := { stood := { row := fnExactCouplingOfRow, standIns := [], harness := (true, "fc37ee497cae45644c6cf3f76eac773cbda54b92ccb284f86fa36d180b34d50c"), looks := false }, kinds := [], alts := [], laidByText := true, laidKinds := [.data], laidTests := true, laidLooks := .later }
def FnExactCouplingOfCardSaid : Prop := Claim7.holds Tryd.pinned (.plain (OpenSpec.ofChange fnExactCouplingOfSpec)) fnExactCouplingOfCard

/-- THE TIED CARD OF 'laws.FnExactNoiseOf'. -/
def fnExactNoiseOfCard : Claim7 := { stood := { row := fnExactNoiseOfRow, standIns := [], harness := (true, "fc37ee497cae45644c6cf3f76eac773cbda54b92ccb284f86fa36d180b34d50c"), looks := false }, kinds := [], alts := [], laidByText := true, laidKinds := [.data], laidTests := true, laidLooks := .later }
def FnExactNoiseOfCardSaid : Prop := Claim7.holds Tryd.pinned (.plain (OpenSpec.ofChange fnExactNoiseOfSpec)) fnExactNoiseOfCard

/-- THE TIED CARD OF 'laws.FnExactSwapGain'. -/
def fnExactSwapGainCard : Claim7 := { stood := { row := fnExactSwapGainRow, standIns := [], harness := (true, "fc37ee497cae45644c6cf3f76eac773cbda54b92ccb284f86fa36d180b34d50c"), looks := false }, kinds := [], alts := [], laidByText := true, laidKinds := [.data], laidTests := true, laidLooks := .later }
def FnExactSwapGainCardSaid : Prop := Claim7.holds Tryd.pinned (.plain (OpenSpec.ofChange fnExactSwapGainSpec)) fnExactSwapGainCard

/-- THE TIED CARD OF 'laws.FnExactSettleOrder'. -/
def fnExactSettleOrderCard : Claim7 := { stood := { row := fnExactSettleOrderRow, standIns := [], harness := (true, "fc37ee497cae45644c6cf3f76eac773cbda54b92ccb284f86fa36d180b34d50c"), looks := false }, kinds := [], alts := [], laidByText := true, laidKinds := [.data], laidTests := true, laidLooks := .later }
def FnExactSettleOrderCardSaid : Prop := Claim7.holds Tryd.pinned (.plain (OpenSpec.ofChange fnExactSettleOrderSpec)) fnExactSettleOrderCard

/-- THE TIED CARD OF 'laws.FnExactCountOrdersOf'. -/
def fnExactCountOrdersOfCard : Claim7 := { stood := { row := fnExactCountOrdersOfRow, standIns := [], harness := (true, "fc37ee497cae45644c6cf3f76eac773cbda54b92ccb284f86fa36d180b34d50c"), looks := false }, kinds := [], alts := [], laidByText := true, laidKinds := [.data], laidTests := true, laidLooks := .later }
def FnExactCountOrdersOfCardSaid : Prop := Claim7.holds Tryd.pinned (.plain (OpenSpec.ofChange fnExactCountOrdersOfSpec)) fnExactCountOrdersOfCard

/-- THE SECOND FORM's CARD OF 'laws.FnExactCouplingOf'. -/
def fnExactCouplingOfUptoCard : Claim7 := { stood := { row := fnExactCouplingOfUptoRow, standIns := [], harness := (true, "fc37ee497cae45644c6cf3f76eac773cbda54b92ccb284f86fa36d180b34d50c"), looks := false }, kinds := [], alts := [], laidByText := true, laidKinds := [.data], laidTests := true, laidLooks := .later }
def FnExactCouplingOfUptoCardSaid : Prop := Claim7.holds Tryd.pinned (.plain (OpenSpec.upto fnExactCouplingOfSpec)) fnExactCouplingOfUptoCard

/-- THE SECOND FORM's CARD OF 'laws.FnExactNoiseOf'. -/
def fnExactNoiseOfUptoCard : Claim7 := { stood := { row := fnExactNoiseOfUptoRow, standIns := [], harness := (true, "fc37ee497cae45644c6cf3f76eac773cbda54b92ccb284f86fa36d180b34d50c"), looks := false }, kinds := [], alts := [], laidByText := true, laidKinds := [.data], laidTests := true, laidLooks := .later }
def FnExactNoiseOfUptoCardSaid : Prop := Claim7.holds Tryd.pinned (.plain (OpenSpec.upto fnExactNoiseOfSpec)) fnExactNoiseOfUptoCard

/-- THE SECOND FORM's CARD OF 'laws.FnExactSwapGain'. -/
def fnExactSwapGainUptoCard : Claim7 := { stood := { row := fnExactSwapGainUptoRow, standIns := [], harness := (true, "fc37ee497cae45644c6cf3f76eac773cbda54b92ccb284f86fa36d180b34d50c"), looks := false }, kinds := [], alts := [], laidByText := true, laidKinds := [.data], laidTests := true, laidLooks := .later }
def FnExactSwapGainUptoCardSaid : Prop := Claim7.holds Tryd.pinned (.plain (OpenSpec.upto fnExactSwapGainSpec)) fnExactSwapGainUptoCard

/-- THE SECOND FORM's CARD OF 'laws.FnExactSettleOrder'. -/
def fnExactSettleOrderUptoCard : Claim7 := { stood := { row := fnExactSettleOrderUptoRow, standIns := [], harness := (true, "fc37ee497cae45644c6cf3f76eac773cbda54b92ccb284f86fa36d180b34d50c"), looks := false }, kinds := [], alts := [], laidByText := true, laidKinds := [.data], laidTests := true, laidLooks := .later }
def FnExactSettleOrderUptoCardSaid : Prop := Claim7.holds Tryd.pinned (.plain (OpenSpec.upto fnExactSettleOrderSpec)) fnExactSettleOrderUptoCard

/-- THE SECOND FORM's CARD OF 'laws.FnExactCountOrdersOf'. -/
def fnExactCountOrdersOfUptoCard : Claim7 := { stood := { row := fnExactCountOrdersOfUptoRow, standIns := [], harness := (true, "fc37ee497cae45644c6cf3f76eac773cbda54b92ccb284f86fa36d180b34d50c"), looks := false }, kinds := [], alts := [], laidByText := true, laidKinds := [.data], laidTests := true, laidLooks := .later }
def FnExactCountOrdersOfUptoCardSaid : Prop := Claim7.holds Tryd.pinned (.plain (OpenSpec.upto fnExactCountOrdersOfSpec)) fnExactCountOrdersOfUptoCard
end Rows
end Go.Proofs.YtifenbamookmiaaDoor
