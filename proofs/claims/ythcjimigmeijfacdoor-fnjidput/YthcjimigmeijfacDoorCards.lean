/-
  DERIVED. GIVEN WITH THE SEED: THE CARDS: each row of YthcjimigmeijfacDoorRows.lean that lists a variable, with what it lists TIED to the program's text (the seventh form; the later family's looks); each row that meets fmt, with fmt's text TOLD by the authors' own Lean function (tested against real Go, not proved from fmt's source: count such statements apart). THE CARD IS WHAT COUNTS. Prove the row's statement (the work); the ties are given (YthcjimigmeijfacDoorTie.lean); close each card by the builder's one call (the guide's Derived/Test/ToyasCard.lean, 'card_holds'). Laid BY PROGRAM, IN A SANDBOX (cutbox-door.mjs). By AI agents, Wed Nov 11 2026. No macro, syntax, notation, axiom, sorry.
-/
import Derived.Test.YthcjimigmeijfacDoorRows
import GoSem.ClaimSeven
namespace Go.Proofs.YthcjimigmeijfacDoor
namespace Rows

/-- THE TIED CARD OF 'laws.FnJidPut'. -/
def fnJidPutCard : Claim7 := { stood := { row := fnJidPutRow, standIns := [], harness := (true, "5fbe6ade74d4c12dc90945530359e7a95f3bcb5ebdebf2fc00d94e0e27a28fd0"), looks := false }, kinds := [], alts := [], laidByText := true, laidKinds := [.data, .pinned], laidTests := true, laidLooks := .later }
def FnJidPutCardSaid : Prop := Claim7.holds Tryd.pinned (.plain (OpenSpec.ofChange fnJidPutSpec)) fnJidPutCard

/-- THE TIED CARD OF 'laws.FnJidGet'. -/
def fnJidGetCard : Claim7 := { stood := { row := fnJidGetRow, standIns := [], harness := (true, "5fbe6ade74d4c12dc90945530359e7a95f3bcb5ebdebf2fc00d94e0e27a28fd0"), looks := false }, kinds := [], alts := [], laidByText := true, laidKinds := [.data, .pinned], laidTests := true, laidLooks := .later }
def FnJidGetCardSaid : Prop := Claim7.holds Tryd.pinned (.plain (OpenSpec.ofChange fnJidGetSpec)) fnJidGetCard

/-- THE TIED CARD OF 'laws.FnJidParts'. -/
def fnJidPartsCard : Claim7 := { stood := { row := fnJidPartsRow, standIns := [], harness := (true, "5fbe6ade74d4c12dc90945530359e7a95f3bcb5ebdebf2fc00d94e0e27a28fd0"), looks := false }, kinds := [], alts := [], laidByText := true, laidKinds := [.data, .pinned], laidTests := true, laidLooks := .later }
def FnJidPartsCardSaid : Prop := Claim7.holds Tryd.pinned (.plain (OpenSpec.ofChange fnJidPartsSpec)) fnJidPartsCard

/-- THE SECOND FORM's CARD OF 'laws.FnJidPut'. -/
def fnJidPutUptoCard : Claim7 := { stood := { row := fnJidPutUptoRow, standIns := [], harness := (true, "5fbe6ade74d4c12dc90945530359e7a95f3bcb5ebdebf2fc00d94e0e27a28fd0"), looks := false }, kinds := [], alts := [], laidByText := true, laidKinds := [.data, .pinned], laidTests := true, laidLooks := .later }
def FnJidPutUptoCardSaid : Prop := Claim7.holds Tryd.pinned (.plain (OpenSpec.upto fnJidPutSpec)) fnJidPutUptoCard

/-- THE SECOND FORM's CARD OF 'laws.FnJidGet'. -/
def fnJidGetUptoCard : Claim7 := { stood := { row := fnJidGetUptoRow, standIns := [], harness := (true, "5fbe6ade74d4c12dc90945530359e7a95f3bcb5ebdebf2fc00d94e0e27a28fd0"), looks := false }, kinds := [], alts := [], laidByText := true, laidKinds := [.data, .pinned], laidTests := true, laidLooks := .later }
def FnJidGetUptoCardSaid : Prop := Claim7.holds Tryd.pinned (.plain (OpenSpec.upto fnJidGetSpec)) fnJidGetUptoCard

/-- THE SECOND FORM's CARD OF 'laws.FnJidParts'. -/
def fnJidPartsUptoCard : Claim7 := { stood := { row := fnJidPartsUptoRow, standIns := [], harness := (true, "5fbe6ade74d4c12dc90945530359e7a95f3bcb5ebdebf2fc00d94e0e27a28fd0"), looks := false }, kinds := [], alts := [], laidByText := true, laidKinds := [.data, .pinned], laidTests := true, laidLooks := .later }
def FnJidPartsUptoCardSaid : Prop := Claim7.holds Tryd.pinned (.plain (OpenSpec.upto fnJidPartsSpec)) fnJidPartsUptoCard
end Rows
end Go.Proofs.YthcjimigmeijfacDoor
