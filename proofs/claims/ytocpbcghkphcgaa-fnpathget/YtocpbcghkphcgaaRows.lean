/-
  No cell of these rows narrows 'for every input' (looked for: loops, veiled, ifaces, maps, wideKeys, modest, calm, conditions, laid).
  DERIVED. THE GIVEN ROWS OF THIS SEAT. 3 by the template 'for every input the law returns true; each argument reads behind the call as it read before'; 0 by the template 'total and deterministic' (their statements: YtocpbcghkphcgaaTotals.lean).
  GIVEN WITH THE SEED: the statements are not yours to turn. If you find one false, say at which input.
  Laid BY PROGRAM, IN A SANDBOX (cutbox-rows.mjs): the forced cells as the released guide's own fill.sh prints them over the translation 4642a4dbd5f8566e… (all of the seat's roots in one cut). By AI agents, Wed Nov 11 2026. No macro, syntax, notation, axiom, sorry.
-/
import Derived.Test.YtocpbcghkphcgaaChecked
import GoSem.Claim
import GoSem.ClaimJoined
import GoSem.ClaimMapViews
import Derived.JoinedTies
import Derived.KernelRfl
namespace Go.Proofs.Ytocpbcghkphcgaa
/- THE CELL 'sum', in the pinned program and in every row, IS THE sha256 OF THE DUMP (.gsa) THAT YtocpbcghkphcgaaProg.lean LOADS. Nothing in Lean hashes anything: it is a label: what it is worth is what the hold of that sum in a sandbox is worth. -/
noncomputable def Try.pinned : Pinned := { name := "ytocpbcghkphcgaa", sum := "4642a4dbd5f8566e1dbb784ab543c240b93456e1ef1d13f1afe67bb106abd61b", checked := Try.checked }
namespace Rows
def none {H : Type} : Left H := { results := [], args := [] }

/-- 'laws.FnExactPathGet': WHATEVER THE INPUT: true; the input reads as it did. -/
def fnExactPathGetSpec : ChangeSpec := { name := "fnExactPathGet", fn := fun _ => fun
  | [d] => { results := [.lit (.bool true)], args := [d] }
  | _ => none }
def fnExactPathGetRow : OpenClaim := { program := "ytocpbcghkphcgaa", sum := "4642a4dbd5f8566e1dbb784ab543c240b93456e1ef1d13f1afe67bb106abd61b", func := "loop.example/hubbub/laws.FnExactPathGet", spec := "fnExactPathGet", inPlace := ["internal/bytealg.IndexByteString", "internal/bytealg.IndexString", "internal/abi.NoEscape"], unfollowed := true, recurses := true, named := ["internal/bytealg.MaxLen"], apart := false }
def FnExactPathGetSaid : Prop := fnExactPathGetRow.holds Try.pinned (OpenSpec.ofChange fnExactPathGetSpec)

/-- ITS FALSE NEIGHBOUR: 'it returns false'. Refute it at one input. -/
def fnExactPathGetWrong : ChangeSpec := { name := "fnExactPathGet", fn := fun _ => fun
  | [d] => { results := [.lit (.bool false)], args := [d] }
  | _ => none }
def FnExactPathGetWrongFalsely : Prop := fnExactPathGetRow.holds Try.pinned (OpenSpec.ofChange fnExactPathGetWrong)

/-- 'laws.FnPathPut': WHATEVER THE INPUT: true; the input reads as it did. -/
def fnPathPutSpec : ChangeSpec := { name := "fnPathPut", fn := fun _ => fun
  | [d] => { results := [.lit (.bool true)], args := [d] }
  | _ => none }
def fnPathPutRow : OpenClaim := { program := "ytocpbcghkphcgaa", sum := "4642a4dbd5f8566e1dbb784ab543c240b93456e1ef1d13f1afe67bb106abd61b", func := "loop.example/hubbub/laws.FnPathPut", spec := "fnPathPut", inPlace := ["internal/abi.NoEscape", "internal/bytealg.IndexByteString", "internal/bytealg.IndexString"], unfollowed := true, recurses := true, named := ["internal/bytealg.MaxLen"], apart := false }
def FnPathPutSaid : Prop := fnPathPutRow.holds Try.pinned (OpenSpec.ofChange fnPathPutSpec)

/-- ITS FALSE NEIGHBOUR: 'it returns false'. Refute it at one input. -/
def fnPathPutWrong : ChangeSpec := { name := "fnPathPut", fn := fun _ => fun
  | [d] => { results := [.lit (.bool false)], args := [d] }
  | _ => none }
def FnPathPutWrongFalsely : Prop := fnPathPutRow.holds Try.pinned (OpenSpec.ofChange fnPathPutWrong)

/-- 'laws.FnPathGet': WHATEVER THE INPUT: true; the input reads as it did. -/
def fnPathGetSpec : ChangeSpec := { name := "fnPathGet", fn := fun _ => fun
  | [d] => { results := [.lit (.bool true)], args := [d] }
  | _ => none }
def fnPathGetRow : OpenClaim := { program := "ytocpbcghkphcgaa", sum := "4642a4dbd5f8566e1dbb784ab543c240b93456e1ef1d13f1afe67bb106abd61b", func := "loop.example/hubbub/laws.FnPathGet", spec := "fnPathGet", inPlace := ["internal/bytealg.IndexByteString", "internal/bytealg.IndexString", "internal/abi.NoEscape"], unfollowed := true, recurses := true, named := ["internal/bytealg.MaxLen"], apart := false }
def FnPathGetSaid : Prop := fnPathGetRow.holds Try.pinned (OpenSpec.ofChange fnPathGetSpec)

/-- ITS FALSE NEIGHBOUR: 'it returns false'. Refute it at one input. -/
def fnPathGetWrong : ChangeSpec := { name := "fnPathGet", fn := fun _ => fun
  | [d] => { results := [.lit (.bool false)], args := [d] }
  | _ => none }
def FnPathGetWrongFalsely : Prop := fnPathGetRow.holds Try.pinned (OpenSpec.ofChange fnPathGetWrong)

/- THE SECOND FORM. 'bulk': how many values and letters a reading holds, each counted each time it is reached (what is shared counts as often as it is met; a slice's spare places count too). A statement '..UptoSaid' is the law's where the arguments, and the package variables that the reading takes, are together of bulk at most 1048576: NARROWER than '..Said'. Prove '..Said' where nothing that the law and all that it calls make is longer than what came in: it says more and counts as full. Else prove '..UptoSaid'. A law counts once. -/
mutual
def uptoBulk {H : Type} : DataW H → Nat
  | .lit (.string bytes) => bytes.length + 1
  | .lit _ => 1
  | .nil => 1
  | .ptr d => uptoBulk d + 1
  | .slice elems spare => uptoBulkAll elems + uptoBulkAll spare + 1
  | .agg parts => uptoBulkAll parts + 1
  | .iface _ d => uptoBulk d + 1
  | .map entries => uptoBulkEntries entries + 1
  | .held _ => 1
def uptoBulkAll {H : Type} : List (DataW H) → Nat
  | [] => 0
  | d :: r => uptoBulk d + uptoBulkAll r
def uptoBulkEntries {H : Type} : List (Lit × DataW H) → Nat
  | [] => 0
  | x :: r => uptoBulkEntry x + uptoBulkEntries r
def uptoBulkEntry {H : Type} : Lit × DataW H → Nat
  | (.string bytes, d) => bytes.length + uptoBulk d + 1
  | (_, d) => uptoBulk d + 1
 end
def uptoSmall : (H : Type) → List (DataW H) → Bool := fun _ ds => decide (uptoBulkAll ds ≤ 1048576)
def OpenSpec.upto (s : _root_.Go.ChangeSpec) : _root_.Go.OpenSpec := { _root_.Go.OpenSpec.ofChange s with cond := some uptoSmall }

/-- 'laws.FnExactPathGet', WHERE WHAT IT READS IS OF BULK AT MOST 1048576: true; the input reads as it did. -/
def fnExactPathGetUptoRow : OpenClaim := { program := "ytocpbcghkphcgaa", sum := "4642a4dbd5f8566e1dbb784ab543c240b93456e1ef1d13f1afe67bb106abd61b", func := "loop.example/hubbub/laws.FnExactPathGet", spec := "fnExactPathGet", inPlace := ["internal/bytealg.IndexByteString", "internal/bytealg.IndexString", "internal/abi.NoEscape"], unfollowed := true, recurses := true, named := ["internal/bytealg.MaxLen"], apart := false, narrowed := true }
def FnExactPathGetUptoSaid : Prop := fnExactPathGetUptoRow.holds Try.pinned (OpenSpec.upto fnExactPathGetSpec)

/-- 'laws.FnPathPut', WHERE WHAT IT READS IS OF BULK AT MOST 1048576: true; the input reads as it did. -/
def fnPathPutUptoRow : OpenClaim := { program := "ytocpbcghkphcgaa", sum := "4642a4dbd5f8566e1dbb784ab543c240b93456e1ef1d13f1afe67bb106abd61b", func := "loop.example/hubbub/laws.FnPathPut", spec := "fnPathPut", inPlace := ["internal/abi.NoEscape", "internal/bytealg.IndexByteString", "internal/bytealg.IndexString"], unfollowed := true, recurses := true, named := ["internal/bytealg.MaxLen"], apart := false, narrowed := true }
def FnPathPutUptoSaid : Prop := fnPathPutUptoRow.holds Try.pinned (OpenSpec.upto fnPathPutSpec)

/-- 'laws.FnPathGet', WHERE WHAT IT READS IS OF BULK AT MOST 1048576: true; the input reads as it did. -/
def fnPathGetUptoRow : OpenClaim := { program := "ytocpbcghkphcgaa", sum := "4642a4dbd5f8566e1dbb784ab543c240b93456e1ef1d13f1afe67bb106abd61b", func := "loop.example/hubbub/laws.FnPathGet", spec := "fnPathGet", inPlace := ["internal/bytealg.IndexByteString", "internal/bytealg.IndexString", "internal/abi.NoEscape"], unfollowed := true, recurses := true, named := ["internal/bytealg.MaxLen"], apart := false, narrowed := true }
def FnPathGetUptoSaid : Prop := fnPathGetUptoRow.holds Try.pinned (OpenSpec.upto fnPathGetSpec)

end Rows
end Go.Proofs.Ytocpbcghkphcgaa
