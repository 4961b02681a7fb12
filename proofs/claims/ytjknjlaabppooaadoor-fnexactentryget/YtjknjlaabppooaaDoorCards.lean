/-
  DERIVED. GIVEN WITH THE SEED: THE CARDS: each row of YtjknjlaabppooaaDoorRows.lean that lists a variable, with what it lists TIED to the program's text (the seventh form; the later family's looks); each row that meets fmt, with fmt's text TOLD by the authors' own Lean function (tested against real Go, not proved from fmt's source: count such statements apart). THE CARD IS WHAT COUNTS. Prove the row's statement (the work); the ties are given (YtjknjlaabppooaaDoorTie.lean); close each card by the builder's one call (the guide's Derived/Test/ToyasCard.lean, 'card_holds'). Laid BY PROGRAM, IN A SANDBOX (cutbox-door.mjs). By AI agents, Wed Nov 11 2026. No macro, syntax, notation, axiom, sorry.
-/
import Derived.Test.YtjknjlaabppooaaDoorRows
import GoSem.ClaimSeven
namespace Go.Proofs.YtjknjlaabppooaaDoor
namespace Rows

/-- THE TIED CARD OF 'laws.FnExactEntryGet'. -/
def fnExactEntryGetCard : Claim7 := { stood := { row := fnExactEntryGetRow, standIns := [], harness := (true, "e9340ecddbab4efd169c631c15c46cefc513f028de4157cbe52a1e3bacb63740"), looks := true }, kinds := [], alts := [], laidByText := true, laidKinds := [.data, .data, .data, .data, .sentinel, .sentinel, .pinned], laidTests := true, laidLooks := .later }
def FnExactEntryGetCardSaid : Prop := Claim7.holds Tryd.pinned (.plain (OpenSpec.ofChange fnExactEntryGetSpec)) fnExactEntryGetCard

/-- THE SECOND FORM's CARD OF 'laws.FnExactEntryGet'. -/
def fnExactEntryGetUptoCard : Claim7 := { stood := { row := fnExactEntryGetUptoRow, standIns := [], harness := (true, "e9340ecddbab4efd169c631c15c46cefc513f028de4157cbe52a1e3bacb63740"), looks := true }, kinds := [], alts := [], laidByText := true, laidKinds := [.data, .data, .data, .data, .sentinel, .sentinel, .pinned], laidTests := true, laidLooks := .later }
def FnExactEntryGetUptoCardSaid : Prop := Claim7.holds Tryd.pinned (.plain (OpenSpec.upto fnExactEntryGetSpec)) fnExactEntryGetUptoCard
end Rows
end Go.Proofs.YtjknjlaabppooaaDoor
