/-
  DERIVED. GIVEN WITH THE SEED: THE CARDS: each row of YtmhigbomnhdeeaaDoorRows.lean that lists a variable, with what it lists TIED to the program's text (the seventh form; the later family's looks); each row that meets fmt, with fmt's text TOLD by the authors' own Lean function (tested against real Go, not proved from fmt's source: count such statements apart). THE CARD IS WHAT COUNTS. Prove the row's statement (the work); the ties are given (YtmhigbomnhdeeaaDoorTie.lean); close each card by the builder's one call (the guide's Derived/Test/ToyasCard.lean, 'card_holds'). Laid BY PROGRAM, IN A SANDBOX (cutbox-door.mjs). By AI agents, Wed Nov 11 2026. No macro, syntax, notation, axiom, sorry.
-/
import Derived.Test.YtmhigbomnhdeeaaDoorRows
import GoSem.ClaimSeven
namespace Go.Proofs.YtmhigbomnhdeeaaDoor
namespace Rows

/-- THE TIED CARD OF 'laws.FnExactEntryPut'. -/
def fnExactEntryPutCard : Claim7 := { stood := { row := fnExactEntryPutRow, standIns := [], harness := (true, "5ff269cb9c32b32aef942f2bf3a1ed9bc725cdf7780c1e81836eed241b63c088"), looks := true }, kinds := [], alts := [], laidByText := true, laidKinds := [.data, .data, .data, .data, .pinned], laidTests := true, laidLooks := .later }
def FnExactEntryPutCardSaid : Prop := Claim7.holds Tryd.pinned (.plain (OpenSpec.ofChange fnExactEntryPutSpec)) fnExactEntryPutCard

/-- THE TIED CARD OF 'laws.FnExactEntryGet'. -/
def fnExactEntryGetCard : Claim7 := { stood := { row := fnExactEntryGetRow, standIns := [], harness := (true, "5ff269cb9c32b32aef942f2bf3a1ed9bc725cdf7780c1e81836eed241b63c088"), looks := true }, kinds := [], alts := [], laidByText := true, laidKinds := [.data, .data, .data, .data, .sentinel, .sentinel, .pinned], laidTests := true, laidLooks := .later }
def FnExactEntryGetCardSaid : Prop := Claim7.holds Tryd.pinned (.plain (OpenSpec.ofChange fnExactEntryGetSpec)) fnExactEntryGetCard

/-- THE SECOND FORM's CARD OF 'laws.FnExactEntryPut'. -/
def fnExactEntryPutUptoCard : Claim7 := { stood := { row := fnExactEntryPutUptoRow, standIns := [], harness := (true, "5ff269cb9c32b32aef942f2bf3a1ed9bc725cdf7780c1e81836eed241b63c088"), looks := true }, kinds := [], alts := [], laidByText := true, laidKinds := [.data, .data, .data, .data, .pinned], laidTests := true, laidLooks := .later }
def FnExactEntryPutUptoCardSaid : Prop := Claim7.holds Tryd.pinned (.plain (OpenSpec.upto fnExactEntryPutSpec)) fnExactEntryPutUptoCard

/-- THE SECOND FORM's CARD OF 'laws.FnExactEntryGet'. -/
def fnExactEntryGetUptoCard : Claim7 := { stood := { row := fnExactEntryGetUptoRow, standIns := [], harness := (true, "5ff269cb9c32b32aef942f2bf3a1ed9bc725cdf7780c1e81836eed241b63c088"), looks := true }, kinds := [], alts := [], laidByText := true, laidKinds := [.data, .data, .data, .data, .sentinel, .sentinel, .pinned], laidTests := true, laidLooks := .later }
def FnExactEntryGetUptoCardSaid : Prop := Claim7.holds Tryd.pinned (.plain (OpenSpec.upto fnExactEntryGetSpec)) fnExactEntryGetUptoCard
end Rows
end Go.Proofs.YtmhigbomnhdeeaaDoor
