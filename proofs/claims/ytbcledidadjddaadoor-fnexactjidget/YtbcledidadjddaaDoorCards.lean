/-
  DERIVED. GIVEN WITH THE SEED: THE CARDS: each row of YtbcledidadjddaaDoorRows.lean that lists a variable, with what it lists TIED to the program's text (the seventh form; the later family's looks); each row that meets fmt, with fmt's text TOLD by the authors' own Lean function (tested against real Go, not proved from fmt's source: count such statements apart). THE CARD IS WHAT COUNTS. Prove the row's statement (the work); the ties are given (YtbcledidadjddaaDoorTie.lean); close each card by the builder's one call (the guide's Derived/Test/ToyasCard.lean, 'card_holds'). Laid BY PROGRAM, IN A SANDBOX (cutbox-door.mjs). By AI agents, Wed Nov 11 2026. No macro, syntax, notation, axiom, sorry.
-/
import Derived.Test.YtbcledidadjddaaDoorRows
import GoSem.ClaimSeven
namespace Go.Proofs.YtbcledidadjddaaDoor
namespace Rows

/-- THE TIED CARD OF 'laws.FnExactJidOk'. -/
def fnExactJidOkCard : Claim7 := { stood := { row := fnExactJidOkRow, standIns := [], harness := (true, "2c93e48e31472343b9645471d6c77de7fbf8e0c93548de290039ea0ebadd93e6"), looks := true }, kinds := [], alts := [], laidByText := true, laidKinds := [.data, .pinned], laidTests := true, laidLooks := .later }
def FnExactJidOkCardSaid : Prop := Claim7.holds Tryd.pinned (.plain (OpenSpec.ofChange fnExactJidOkSpec)) fnExactJidOkCard

/-- THE TIED CARD OF 'laws.FnExactJidPut'. -/
def fnExactJidPutCard : Claim7 := { stood := { row := fnExactJidPutRow, standIns := [], harness := (true, "2c93e48e31472343b9645471d6c77de7fbf8e0c93548de290039ea0ebadd93e6"), looks := true }, kinds := [], alts := [], laidByText := true, laidKinds := [.data, .pinned], laidTests := true, laidLooks := .later }
def FnExactJidPutCardSaid : Prop := Claim7.holds Tryd.pinned (.plain (OpenSpec.ofChange fnExactJidPutSpec)) fnExactJidPutCard

/-- THE TIED CARD OF 'laws.FnExactJidGet'. -/
def fnExactJidGetCard : Claim7 := { stood := { row := fnExactJidGetRow, standIns := [], harness := (true, "2c93e48e31472343b9645471d6c77de7fbf8e0c93548de290039ea0ebadd93e6"), looks := true }, kinds := [], alts := [], laidByText := true, laidKinds := [.data, .pinned], laidTests := true, laidLooks := .later }
def FnExactJidGetCardSaid : Prop := Claim7.holds Tryd.pinned (.plain (OpenSpec.ofChange fnExactJidGetSpec)) fnExactJidGetCard

/-- THE TIED CARD OF 'laws.FnSign'. -/
def fnSignCard : Claim7 := { stood := { row := fnSignRow, standIns := [], harness := (true, "2c93e48e31472343b9645471d6c77de7fbf8e0c93548de290039ea0ebadd93e6"), looks := true }, kinds := [], alts := [], laidByText := true, laidKinds := [.data, .data, .data, .data, .sentinel, .sentinel, .pinned], laidTests := true, laidLooks := .later }
def FnSignCardSaid : Prop := Claim7.holds Tryd.pinned (.plain (OpenSpec.ofChange fnSignSpec)) fnSignCard

/-- THE TIED CARD OF 'laws.FnUnescape'. -/
def fnUnescapeCard : Claim7 := { stood := { row := fnUnescapeRow, standIns := [], harness := (true, "2c93e48e31472343b9645471d6c77de7fbf8e0c93548de290039ea0ebadd93e6"), looks := true }, kinds := [], alts := [], laidByText := true, laidKinds := [.data, .data, .data, .data, .sentinel, .sentinel, .pinned], laidTests := true, laidLooks := .later }
def FnUnescapeCardSaid : Prop := Claim7.holds Tryd.pinned (.plain (OpenSpec.ofChange fnUnescapeSpec)) fnUnescapeCard

/-- THE SECOND FORM's CARD OF 'laws.FnExactJidOk'. -/
def fnExactJidOkUptoCard : Claim7 := { stood := { row := fnExactJidOkUptoRow, standIns := [], harness := (true, "2c93e48e31472343b9645471d6c77de7fbf8e0c93548de290039ea0ebadd93e6"), looks := true }, kinds := [], alts := [], laidByText := true, laidKinds := [.data, .pinned], laidTests := true, laidLooks := .later }
def FnExactJidOkUptoCardSaid : Prop := Claim7.holds Tryd.pinned (.plain (OpenSpec.upto fnExactJidOkSpec)) fnExactJidOkUptoCard

/-- THE SECOND FORM's CARD OF 'laws.FnExactJidPut'. -/
def fnExactJidPutUptoCard : Claim7 := { stood := { row := fnExactJidPutUptoRow, standIns := [], harness := (true, "2c93e48e31472343b9645471d6c77de7fbf8e0c93548de290039ea0ebadd93e6"), looks := true }, kinds := [], alts := [], laidByText := true, laidKinds := [.data, .pinned], laidTests := true, laidLooks := .later }
def FnExactJidPutUptoCardSaid : Prop := Claim7.holds Tryd.pinned (.plain (OpenSpec.upto fnExactJidPutSpec)) fnExactJidPutUptoCard

/-- THE SECOND FORM's CARD OF 'laws.FnExactJidGet'. -/
def fnExactJidGetUptoCard : Claim7 := { stood := { row := fnExactJidGetUptoRow, standIns := [], harness := (true, "2c93e48e31472343b9645471d6c77de7fbf8e0c93548de290039ea0ebadd93e6"), looks := true }, kinds := [], alts := [], laidByText := true, laidKinds := [.data, .pinned], laidTests := true, laidLooks := .later }
def FnExactJidGetUptoCardSaid : Prop := Claim7.holds Tryd.pinned (.plain (OpenSpec.upto fnExactJidGetSpec)) fnExactJidGetUptoCard

/-- THE SECOND FORM's CARD OF 'laws.FnSign'. -/
def fnSignUptoCard : Claim7 := { stood := { row := fnSignUptoRow, standIns := [], harness := (true, "2c93e48e31472343b9645471d6c77de7fbf8e0c93548de290039ea0ebadd93e6"), looks := true }, kinds := [], alts := [], laidByText := true, laidKinds := [.data, .data, .data, .data, .sentinel, .sentinel, .pinned], laidTests := true, laidLooks := .later }
def FnSignUptoCardSaid : Prop := Claim7.holds Tryd.pinned (.plain (OpenSpec.upto fnSignSpec)) fnSignUptoCard

/-- THE SECOND FORM's CARD OF 'laws.FnUnescape'. -/
def fnUnescapeUptoCard : Claim7 := { stood := { row := fnUnescapeUptoRow, standIns := [], harness := (true, "2c93e48e31472343b9645471d6c77de7fbf8e0c93548de290039ea0ebadd93e6"), looks := true }, kinds := [], alts := [], laidByText := true, laidKinds := [.data, .data, .data, .data, .sentinel, .sentinel, .pinned], laidTests := true, laidLooks := .later }
def FnUnescapeUptoCardSaid : Prop := Claim7.holds Tryd.pinned (.plain (OpenSpec.upto fnUnescapeSpec)) fnUnescapeUptoCard
end Rows
end Go.Proofs.YtbcledidadjddaaDoor
