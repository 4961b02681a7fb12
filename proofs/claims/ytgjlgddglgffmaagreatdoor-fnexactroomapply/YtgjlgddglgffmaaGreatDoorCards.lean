/-
  DERIVED. GIVEN WITH THE SEED: THE CARDS: each row of YtgjlgddglgffmaaGreatDoorRows.lean that lists a variable, with what it lists TIED to the program's text (the seventh form; the later family's looks); each row that meets fmt, with fmt's text TOLD by the authors' own Lean function (tested against real Go, not proved from fmt's source: count such statements apart). THE CARD IS WHAT COUNTS. Prove the row's statement (the work); the ties are given (YtgjlgddglgffmaaGreatDoorTie.lean); close each card by the builder's one call (the guide's Derived/Test/ToyasCard.lean, 'card_holds'). Laid BY PROGRAM, IN A SANDBOX (cutbox-door.mjs). By AI agents, Wed Nov 11 2026. No macro, syntax, notation, axiom, sorry.
-/
import Derived.Test.YtgjlgddglgffmaaGreatDoorRows
import GoSem.ClaimSeven
namespace Go.Proofs.YtgjlgddglgffmaaGreatDoor
namespace Rows

/-- THE TIED CARD OF 'laws.FnExactRoomApply'. -/
def fnExactRoomApplyCard : Claim7 := { stood := { row := fnExactRoomApplyRow, standIns := [], harness := (true, "811f83e9b447c653794bbaf16b4af30489aa353853a54123fb316d463c0f2b65"), looks := false }, kinds := [], alts := [], laidByText := true, laidKinds := [.data, .pinned], laidTests := true, laidLooks := .later }
def FnExactRoomApplyCardSaid : Prop := Claim7.holds Tryz.pinned (.plain (OpenSpec.ofChange fnExactRoomApplySpec)) fnExactRoomApplyCard

/-- THE SECOND FORM's CARD OF 'laws.FnExactRoomApply'. -/
def fnExactRoomApplyUptoCard : Claim7 := { stood := { row := fnExactRoomApplyUptoRow, standIns := [], harness := (true, "811f83e9b447c653794bbaf16b4af30489aa353853a54123fb316d463c0f2b65"), looks := false }, kinds := [], alts := [], laidByText := true, laidKinds := [.data, .pinned], laidTests := true, laidLooks := .later }
def FnExactRoomApplyUptoCardSaid : Prop := Claim7.holds Tryz.pinned (.plain (OpenSpec.upto fnExactRoomApplySpec)) fnExactRoomApplyUptoCard
end Rows
end Go.Proofs.YtgjlgddglgffmaaGreatDoor
