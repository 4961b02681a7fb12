/-
  DERIVED. GIVEN WITH THE SEED: THE CARDS: each row of YtjpebjmjpilbbaaDoorRows.lean that lists a variable, with what it lists TIED to the program's text (the seventh form; the later family's looks); each row that meets fmt, with fmt's text TOLD by the authors' own Lean function (tested against real Go, not proved from fmt's source: count such statements apart). THE CARD IS WHAT COUNTS. Prove the row's statement (the work); the ties are given (YtjpebjmjpilbbaaDoorTie.lean); close each card by the builder's one call (the guide's Derived/Test/ToyasCard.lean, 'card_holds'). Laid BY PROGRAM, IN A SANDBOX (cutbox-door.mjs). By AI agents, Wed Nov 11 2026. No macro, syntax, notation, axiom, sorry.
-/
import Derived.Test.YtjpebjmjpilbbaaDoorRows
import GoSem.ClaimSeven
namespace Go.Proofs.YtjpebjmjpilbbaaDoor
namespace Rows

/-- THE TIED CARD OF 'laws.FnJidParts'. -/
def fnJidPartsCard : Claim7 := { stood := { row := fnJidPartsRow, standIns := [], harness := (true, "9feeca0361151c756ea4ddce3cd145ed47f6c37ae66cd02225916ecfac23fd44"), looks := false }, kinds := [], alts := [], laidByText := true, laidKinds := [.data, .pinned], laidTests := true, laidLooks := .later }
def FnJidPartsCardSaid : Prop := Claim7.holds Tryd.pinned (.plain (OpenSpec.ofChange fnJidPartsSpec)) fnJidPartsCard

/-- THE TIED CARD OF 'laws.FnExactRoomOk'. -/
def fnExactRoomOkCard : Claim7 := { stood := { row := fnExactRoomOkRow, standIns := [], harness := (true, "9feeca0361151c756ea4ddce3cd145ed47f6c37ae66cd02225916ecfac23fd44"), looks := false }, kinds := [], alts := [], laidByText := true, laidKinds := [.data, .pinned], laidTests := true, laidLooks := .later }
def FnExactRoomOkCardSaid : Prop := Claim7.holds Tryd.pinned (.plain (OpenSpec.ofChange fnExactRoomOkSpec)) fnExactRoomOkCard

/-- THE TIED CARD OF 'laws.FnExactEntryOk'. -/
def fnExactEntryOkCard : Claim7 := { stood := { row := fnExactEntryOkRow, standIns := [], harness := (true, "9feeca0361151c756ea4ddce3cd145ed47f6c37ae66cd02225916ecfac23fd44"), looks := false }, kinds := [], alts := [], laidByText := true, laidKinds := [.data, .pinned], laidTests := true, laidLooks := .later }
def FnExactEntryOkCardSaid : Prop := Claim7.holds Tryd.pinned (.plain (OpenSpec.ofChange fnExactEntryOkSpec)) fnExactEntryOkCard

/-- THE SECOND FORM's CARD OF 'laws.FnJidParts'. -/
def fnJidPartsUptoCard : Claim7 := { stood := { row := fnJidPartsUptoRow, standIns := [], harness := (true, "9feeca0361151c756ea4ddce3cd145ed47f6c37ae66cd02225916ecfac23fd44"), looks := false }, kinds := [], alts := [], laidByText := true, laidKinds := [.data, .pinned], laidTests := true, laidLooks := .later }
def FnJidPartsUptoCardSaid : Prop := Claim7.holds Tryd.pinned (.plain (OpenSpec.upto fnJidPartsSpec)) fnJidPartsUptoCard

/-- THE SECOND FORM's CARD OF 'laws.FnExactRoomOk'. -/
def fnExactRoomOkUptoCard : Claim7 := { stood := { row := fnExactRoomOkUptoRow, standIns := [], harness := (true, "9feeca0361151c756ea4ddce3cd145ed47f6c37ae66cd02225916ecfac23fd44"), looks := false }, kinds := [], alts := [], laidByText := true, laidKinds := [.data, .pinned], laidTests := true, laidLooks := .later }
def FnExactRoomOkUptoCardSaid : Prop := Claim7.holds Tryd.pinned (.plain (OpenSpec.upto fnExactRoomOkSpec)) fnExactRoomOkUptoCard

/-- THE SECOND FORM's CARD OF 'laws.FnExactEntryOk'. -/
def fnExactEntryOkUptoCard : Claim7 := { stood := { row := fnExactEntryOkUptoRow, standIns := [], harness := (true, "9feeca0361151c756ea4ddce3cd145ed47f6c37ae66cd02225916ecfac23fd44"), looks := false }, kinds := [], alts := [], laidByText := true, laidKinds := [.data, .pinned], laidTests := true, laidLooks := .later }
def FnExactEntryOkUptoCardSaid : Prop := Claim7.holds Tryd.pinned (.plain (OpenSpec.upto fnExactEntryOkSpec)) fnExactEntryOkUptoCard
end Rows
end Go.Proofs.YtjpebjmjpilbbaaDoor
