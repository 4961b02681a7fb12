/-
  DERIVED. GIVEN WITH THE SEED: THE CARDS: each row of YtglbjibilllopaaDoorRows.lean that lists a variable, with what it lists TIED to the program's text (the seventh form; the later family's looks); each row that meets fmt, with fmt's text TOLD by the authors' own Lean function (tested against real Go, not proved from fmt's source: count such statements apart). THE CARD IS WHAT COUNTS. Prove the row's statement (the work); the ties are given (YtglbjibilllopaaDoorTie.lean); close each card by the builder's one call (the guide's Derived/Test/ToyasCard.lean, 'card_holds'). Laid BY PROGRAM, IN A SANDBOX (cutbox-door.mjs). By AI agents, Wed Nov 11 2026. No macro, syntax, notation, axiom, sorry.
-/
import Derived.Test.YtglbjibilllopaaDoorRows
import GoSem.ClaimSeven
namespace Go.Proofs.YtglbjibilllopaaDoor
namespace Rows

/-- THE TIED CARD OF 'laws.FnExactRoomPut'. -/
def fnExactRoomPutCard : Claim7 := { stood := { row := fnExactRoomPutRow, standIns := [], harness := (true, "db25f6d6a9601d450dd9dc0136fd683b2191e8e9689de5e6c6496407f3501817"), looks := false }, kinds := [], alts := [], laidByText := true, laidKinds := [.data, .data, .data, .data, .pinned], laidTests := true, laidLooks := .later }
def FnExactRoomPutCardSaid : Prop := Claim7.holds Tryd.pinned (.plain (OpenSpec.ofChange fnExactRoomPutSpec)) fnExactRoomPutCard

/-- THE TIED CARD OF 'laws.FnExactWordsOf'. -/
def fnExactWordsOfCard : Claim7 := { stood := { row := fnExactWordsOfRow, standIns := [], harness := (true, "db25f6d6a9601d450dd9dc0136fd683b2191e8e9689de5e6c6496407f3501817"), looks := false }, kinds := [], alts := [], laidByText := true, laidKinds := [.data, .pinned], laidTests := true, laidLooks := .later }
def FnExactWordsOfCardSaid : Prop := Claim7.holds Tryd.pinned (.plain (OpenSpec.ofChange fnExactWordsOfSpec)) fnExactWordsOfCard

/-- THE SECOND FORM's CARD OF 'laws.FnExactRoomPut'. -/
def fnExactRoomPutUptoCard : Claim7 := { stood := { row := fnExactRoomPutUptoRow, standIns := [], harness := (true, "db25f6d6a9601d450dd9dc0136fd683b2191e8e9689de5e6c6496407f3501817"), looks := false }, kinds := [], alts := [], laidByText := true, laidKinds := [.data, .data, .data, .data, .pinned], laidTests := true, laidLooks := .later }
def FnExactRoomPutUptoCardSaid : Prop := Claim7.holds Tryd.pinned (.plain (OpenSpec.upto fnExactRoomPutSpec)) fnExactRoomPutUptoCard

/-- THE SECOND FORM's CARD OF 'laws.FnExactWordsOf'. -/
def fnExactWordsOfUptoCard : Claim7 := { stood := { row := fnExactWordsOfUptoRow, standIns := [], harness := (true, "db25f6d6a9601d450dd9dc0136fd683b2191e8e9689de5e6c6496407f3501817"), looks := false }, kinds := [], alts := [], laidByText := true, laidKinds := [.data, .pinned], laidTests := true, laidLooks := .later }
def FnExactWordsOfUptoCardSaid : Prop := Claim7.holds Tryd.pinned (.plain (OpenSpec.upto fnExactWordsOfSpec)) fnExactWordsOfUptoCard
end Rows
end Go.Proofs.YtglbjibilllopaaDoor
