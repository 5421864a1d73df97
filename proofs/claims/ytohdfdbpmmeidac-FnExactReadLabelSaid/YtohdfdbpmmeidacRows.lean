/-
  No cell of these rows narrows 'for every input' (looked for: loops, veiled, ifaces, maps, wideKeys, modest, calm, conditions, laid).
  DERIVED. THE GIVEN ROWS OF THIS SEAT. 4 by the template 'for every input the law returns true; each argument reads behind the call as it read before'; 0 by the template 'total and deterministic' (their statements: YtohdfdbpmmeidacTotals.lean).
  GIVEN WITH THE SEED: the statements are not yours to turn. If you find one false, say at which input.
  Laid BY PROGRAM, IN A SANDBOX (cutbox-rows.mjs): the forced cells as the released guide's own fill.sh prints them over the translation 1e82625ed267cc5d… (all of the seat's roots in one cut). By AI agents, Wed Nov 11 2026. No macro, syntax, notation, axiom, sorry.
-/
import Derived.Test.YtohdfdbpmmeidacChecked
import GoSem.Claim
import GoSem.ClaimJoined
import GoSem.ClaimMapViews
import Derived.JoinedTies
import Derived.KernelRfl
namespace Go.Proofs.Ytohdfdbpmmeidac
/- THE CELL 'sum', in the pinned program and in every row, IS THE sha256 OF THE DUMP (.gsa) THAT YtohdfdbpmmeidacProg.lean LOADS. Nothing in Lean hashes anything: it is a label: what it is worth is what the hold of that sum in a sandbox is worth. -/
noncomputable def Try.pinned : Pinned := { name := "ytohdfdbpmmeidac", sum := "1e82625ed267cc5d56b803b883e4a4c894219346eb569cc367c398fc46bbb73c", checked := Try.checked }
namespace Rows
def none {H : Type} : Left H := { results := [], args := [] }

/-- 'laws.FnExactShaEnd': WHATEVER THE INPUT: true; the input reads as it did. -/
def fnExactShaEndSpec : ChangeSpec := { name := "fnExactShaEnd", fn := fun _ => fun
  | [d] => { results := [.lit (.bool true)], args := [d] }
  | _ => none }
def fnExactShaEndRow : OpenClaim := { program := "ytohdfdbpmmeidac", sum := "1e82625ed267cc5d56b803b883e4a4c894219346eb569cc367c398fc46bbb73c", func := "loop.example/g00651/laws.FnExactShaEnd", spec := "fnExactShaEnd", apart := false }
def FnExactShaEndSaid : Prop := fnExactShaEndRow.holds Try.pinned (OpenSpec.ofChange fnExactShaEndSpec)

/-- ITS FALSE NEIGHBOUR: 'it returns false'. Refute it at one input. -/
def fnExactShaEndWrong : ChangeSpec := { name := "fnExactShaEnd", fn := fun _ => fun
  | [d] => { results := [.lit (.bool false)], args := [d] }
  | _ => none }
def FnExactShaEndWrongFalsely : Prop := fnExactShaEndRow.holds Try.pinned (OpenSpec.ofChange fnExactShaEndWrong)

/-- 'laws.FnExactSha1': WHATEVER THE INPUT: true; the input reads as it did. -/
def fnExactSha1Spec : ChangeSpec := { name := "fnExactSha1", fn := fun _ => fun
  | [d] => { results := [.lit (.bool true)], args := [d] }
  | _ => none }
def fnExactSha1Row : OpenClaim := { program := "ytohdfdbpmmeidac", sum := "1e82625ed267cc5d56b803b883e4a4c894219346eb569cc367c398fc46bbb73c", func := "loop.example/g00651/laws.FnExactSha1", spec := "fnExactSha1", apart := false }
def FnExactSha1Said : Prop := fnExactSha1Row.holds Try.pinned (OpenSpec.ofChange fnExactSha1Spec)

/-- ITS FALSE NEIGHBOUR: 'it returns false'. Refute it at one input. -/
def fnExactSha1Wrong : ChangeSpec := { name := "fnExactSha1", fn := fun _ => fun
  | [d] => { results := [.lit (.bool false)], args := [d] }
  | _ => none }
def FnExactSha1WrongFalsely : Prop := fnExactSha1Row.holds Try.pinned (OpenSpec.ofChange fnExactSha1Wrong)

/-- 'laws.FnExactLabel': WHATEVER THE INPUT: true; the input reads as it did. -/
def fnExactLabelSpec : ChangeSpec := { name := "fnExactLabel", fn := fun _ => fun
  | [d] => { results := [.lit (.bool true)], args := [d] }
  | _ => none }
def fnExactLabelRow : OpenClaim := { program := "ytohdfdbpmmeidac", sum := "1e82625ed267cc5d56b803b883e4a4c894219346eb569cc367c398fc46bbb73c", func := "loop.example/g00651/laws.FnExactLabel", spec := "fnExactLabel", apart := false }
def FnExactLabelSaid : Prop := fnExactLabelRow.holds Try.pinned (OpenSpec.ofChange fnExactLabelSpec)

/-- ITS FALSE NEIGHBOUR: 'it returns false'. Refute it at one input. -/
def fnExactLabelWrong : ChangeSpec := { name := "fnExactLabel", fn := fun _ => fun
  | [d] => { results := [.lit (.bool false)], args := [d] }
  | _ => none }
def FnExactLabelWrongFalsely : Prop := fnExactLabelRow.holds Try.pinned (OpenSpec.ofChange fnExactLabelWrong)

/-- 'laws.FnExactReadLabel': WHATEVER THE INPUT: true; the input reads as it did. -/
def fnExactReadLabelSpec : ChangeSpec := { name := "fnExactReadLabel", fn := fun _ => fun
  | [d] => { results := [.lit (.bool true)], args := [d] }
  | _ => none }
def fnExactReadLabelRow : OpenClaim := { program := "ytohdfdbpmmeidac", sum := "1e82625ed267cc5d56b803b883e4a4c894219346eb569cc367c398fc46bbb73c", func := "loop.example/g00651/laws.FnExactReadLabel", spec := "fnExactReadLabel", apart := false }
def FnExactReadLabelSaid : Prop := fnExactReadLabelRow.holds Try.pinned (OpenSpec.ofChange fnExactReadLabelSpec)

/-- ITS FALSE NEIGHBOUR: 'it returns false'. Refute it at one input. -/
def fnExactReadLabelWrong : ChangeSpec := { name := "fnExactReadLabel", fn := fun _ => fun
  | [d] => { results := [.lit (.bool false)], args := [d] }
  | _ => none }
def FnExactReadLabelWrongFalsely : Prop := fnExactReadLabelRow.holds Try.pinned (OpenSpec.ofChange fnExactReadLabelWrong)

/- THE SECOND FORM. 'bulk': how many values and letters a reading holds, each counted each time it is reached (what is shared counts as often as it is met; a slice's spare places count too). A statement '..UptoSaid' is the law's where the arguments, and the package variables that the reading takes, are together of bulk at most 1048576: NARROWER than '..Said'. Prove '..Said' where nothing that the law and all that it calls make is longer than what came in: it says more and counts as full. Else prove '..UptoSaid'. A law counts once. -/
mutual
def uptoBulk {H : Type} : DataW H → Nat
  | .lit (.string bytes) => bytes.length + 1
  | .lit _ => 1
  | .nil => 1
  | .ptr d => uptoBulk d + 1
  | .slice elems spare => uptoBulkAll elems + uptoBulkAll spare + 1
  | .agg parts => uptoBulkAll parts + 1
  | .iface _ d => uptoBulk d + 1
  | .map entries => uptoBulkEntries entries + 1
  | .held _ => 1
def uptoBulkAll {H : Type} : List (DataW H) → Nat
  | [] => 0
  | d :: r => uptoBulk d + uptoBulkAll r
def uptoBulkEntries {H : Type} : List (Lit × DataW H) → Nat
  | [] => 0
  | x :: r => uptoBulkEntry x + uptoBulkEntries r
def uptoBulkEntry {H : Type} : Lit × DataW H → Nat
  | (.string bytes, d) => bytes.length + uptoBulk d + 1
  | (_, d) => uptoBulk d + 1
 end
def uptoSmall : (H : Type) → List (DataW H) → Bool := fun _ ds => decide (uptoBulkAll ds ≤ 1048576)
def OpenSpec.upto (s : _root_.Go.ChangeSpec) : _root_.Go.OpenSpec := { _root_.Go.OpenSpec.ofChange s with cond := some uptoSmall }

/-- 'laws.FnExactShaEnd', WHERE WHAT IT READS IS OF BULK AT MOST 1048576: true; the input reads as it did. -/
def fnExactShaEndUptoRow : OpenClaim := { program := "ytohdfdbpmmeidac", sum := "1e82625ed267cc5d56b803b883e4a4c894219346eb569cc367c398fc46bbb73c", func := "loop.example/g00651/laws.FnExactShaEnd", spec := "fnExactShaEnd", apart := false, narrowed := true }
def FnExactShaEndUptoSaid : Prop := fnExactShaEndUptoRow.holds Try.pinned (OpenSpec.upto fnExactShaEndSpec)

/-- 'laws.FnExactSha1', WHERE WHAT IT READS IS OF BULK AT MOST 1048576: true; the input reads as it did. -/
def fnExactSha1UptoRow : OpenClaim := { program := "ytohdfdbpmmeidac", sum := "1e82625ed267cc5d56b803b883e4a4c894219346eb569cc367c398fc46bbb73c", func := "loop.example/g00651/laws.FnExactSha1", spec := "fnExactSha1", apart := false, narrowed := true }
def FnExactSha1UptoSaid : Prop := fnExactSha1UptoRow.holds Try.pinned (OpenSpec.upto fnExactSha1Spec)

/-- 'laws.FnExactLabel', WHERE WHAT IT READS IS OF BULK AT MOST 1048576: true; the input reads as it did. -/
def fnExactLabelUptoRow : OpenClaim := { program := "ytohdfdbpmmeidac", sum := "1e82625ed267cc5d56b803b883e4a4c894219346eb569cc367c398fc46bbb73c", func := "loop.example/g00651/laws.FnExactLabel", spec := "fnExactLabel", apart := false, narrowed := true }
def FnExactLabelUptoSaid : Prop := fnExactLabelUptoRow.holds Try.pinned (OpenSpec.upto fnExactLabelSpec)

/-- 'laws.FnExactReadLabel', WHERE WHAT IT READS IS OF BULK AT MOST 1048576: true; the input reads as it did. -/
def fnExactReadLabelUptoRow : OpenClaim := { program := "ytohdfdbpmmeidac", sum := "1e82625ed267cc5d56b803b883e4a4c894219346eb569cc367c398fc46bbb73c", func := "loop.example/g00651/laws.FnExactReadLabel", spec := "fnExactReadLabel", apart := false, narrowed := true }
def FnExactReadLabelUptoSaid : Prop := fnExactReadLabelUptoRow.holds Try.pinned (OpenSpec.upto fnExactReadLabelSpec)

end Rows
end Go.Proofs.Ytohdfdbpmmeidac
