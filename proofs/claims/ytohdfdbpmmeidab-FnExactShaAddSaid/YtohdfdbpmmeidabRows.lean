/-
  No cell of these rows narrows 'for every input' (looked for: loops, veiled, ifaces, maps, wideKeys, modest, calm, conditions, laid).
  DERIVED. THE GIVEN ROWS OF THIS SEAT. 6 by the template 'for every input the law returns true; each argument reads behind the call as it read before'; 0 by the template 'total and deterministic' (their statements: YtohdfdbpmmeidabTotals.lean).
  GIVEN WITH THE SEED: the statements are not yours to turn. If you find one false, say at which input.
  Laid BY PROGRAM, IN A SANDBOX (cutbox-rows.mjs): the forced cells as the released guide's own fill.sh prints them over the translation b9a6271436286430… (all of the seat's roots in one cut). By AI agents, Wed Nov 11 2026. No macro, syntax, notation, axiom, sorry.
-/
import Derived.Test.YtohdfdbpmmeidabChecked
import GoSem.Claim
import GoSem.ClaimJoined
import GoSem.ClaimMapViews
import Derived.JoinedTies
import Derived.KernelRfl
namespace Go.Proofs.Ytohdfdbpmmeidab
/- THE CELL 'sum', in the pinned program and in every row, IS THE sha256 OF THE DUMP (.gsa) THAT YtohdfdbpmmeidabProg.lean LOADS. Nothing in Lean hashes anything: it is a label: what it is worth is what the hold of that sum in a sandbox is worth. -/
noncomputable def Try.pinned : Pinned := { name := "ytohdfdbpmmeidab", sum := "b9a6271436286430fba936589d883bc24d5d53dfb2ff7bff5258a1f4d1917df0", checked := Try.checked }
namespace Rows
def none {H : Type} : Left H := { results := [], args := [] }

/-- 'laws.FnExactShaOk': WHATEVER THE INPUT: true; the input reads as it did. -/
def fnExactShaOkSpec : ChangeSpec := { name := "fnExactShaOk", fn := fun _ => fun
  | [d] => { results := [.lit (.bool true)], args := [d] }
  | _ => none }
def fnExactShaOkRow : OpenClaim := { program := "ytohdfdbpmmeidab", sum := "b9a6271436286430fba936589d883bc24d5d53dfb2ff7bff5258a1f4d1917df0", func := "loop.example/g00651/laws.FnExactShaOk", spec := "fnExactShaOk", apart := false }
def FnExactShaOkSaid : Prop := fnExactShaOkRow.holds Try.pinned (OpenSpec.ofChange fnExactShaOkSpec)

/-- ITS FALSE NEIGHBOUR: 'it returns false'. Refute it at one input. -/
def fnExactShaOkWrong : ChangeSpec := { name := "fnExactShaOk", fn := fun _ => fun
  | [d] => { results := [.lit (.bool false)], args := [d] }
  | _ => none }
def FnExactShaOkWrongFalsely : Prop := fnExactShaOkRow.holds Try.pinned (OpenSpec.ofChange fnExactShaOkWrong)

/-- 'laws.FnExactShaNew': WHATEVER THE INPUT: true; the input reads as it did. -/
def fnExactShaNewSpec : ChangeSpec := { name := "fnExactShaNew", fn := fun _ => fun
  | [] => { results := [.lit (.bool true)], args := [] }
  | _ => none }
def fnExactShaNewRow : OpenClaim := { program := "ytohdfdbpmmeidab", sum := "b9a6271436286430fba936589d883bc24d5d53dfb2ff7bff5258a1f4d1917df0", func := "loop.example/g00651/laws.FnExactShaNew", spec := "fnExactShaNew", apart := false }
def FnExactShaNewSaid : Prop := fnExactShaNewRow.holds Try.pinned (OpenSpec.ofChange fnExactShaNewSpec)

/-- ITS FALSE NEIGHBOUR: 'it returns false'. Refute it at one input. -/
def fnExactShaNewWrong : ChangeSpec := { name := "fnExactShaNew", fn := fun _ => fun
  | [] => { results := [.lit (.bool false)], args := [] }
  | _ => none }
def FnExactShaNewWrongFalsely : Prop := fnExactShaNewRow.holds Try.pinned (OpenSpec.ofChange fnExactShaNewWrong)

/-- 'laws.FnExactTurn': WHATEVER THE INPUT: true; the input reads as it did. -/
def fnExactTurnSpec : ChangeSpec := { name := "fnExactTurn", fn := fun _ => fun
  | [d1, d2] => { results := [.lit (.bool true)], args := [d1, d2] }
  | _ => none }
def fnExactTurnRow : OpenClaim := { program := "ytohdfdbpmmeidab", sum := "b9a6271436286430fba936589d883bc24d5d53dfb2ff7bff5258a1f4d1917df0", func := "loop.example/g00651/laws.FnExactTurn", spec := "fnExactTurn", apart := false }
def FnExactTurnSaid : Prop := fnExactTurnRow.holds Try.pinned (OpenSpec.ofChange fnExactTurnSpec)

/-- ITS FALSE NEIGHBOUR: 'it returns false'. Refute it at one input. -/
def fnExactTurnWrong : ChangeSpec := { name := "fnExactTurn", fn := fun _ => fun
  | [d1, d2] => { results := [.lit (.bool false)], args := [d1, d2] }
  | _ => none }
def FnExactTurnWrongFalsely : Prop := fnExactTurnRow.holds Try.pinned (OpenSpec.ofChange fnExactTurnWrong)

/-- 'laws.FnExactSchedule': WHATEVER THE INPUT: true; the input reads as it did. -/
def fnExactScheduleSpec : ChangeSpec := { name := "fnExactSchedule", fn := fun _ => fun
  | [d] => { results := [.lit (.bool true)], args := [d] }
  | _ => none }
def fnExactScheduleRow : OpenClaim := { program := "ytohdfdbpmmeidab", sum := "b9a6271436286430fba936589d883bc24d5d53dfb2ff7bff5258a1f4d1917df0", func := "loop.example/g00651/laws.FnExactSchedule", spec := "fnExactSchedule", apart := false }
def FnExactScheduleSaid : Prop := fnExactScheduleRow.holds Try.pinned (OpenSpec.ofChange fnExactScheduleSpec)

/-- ITS FALSE NEIGHBOUR: 'it returns false'. Refute it at one input. -/
def fnExactScheduleWrong : ChangeSpec := { name := "fnExactSchedule", fn := fun _ => fun
  | [d] => { results := [.lit (.bool false)], args := [d] }
  | _ => none }
def FnExactScheduleWrongFalsely : Prop := fnExactScheduleRow.holds Try.pinned (OpenSpec.ofChange fnExactScheduleWrong)

/-- 'laws.FnExactCompress': WHATEVER THE INPUT: true; the input reads as it did. -/
def fnExactCompressSpec : ChangeSpec := { name := "fnExactCompress", fn := fun _ => fun
  | [d1, d2] => { results := [.lit (.bool true)], args := [d1, d2] }
  | _ => none }
def fnExactCompressRow : OpenClaim := { program := "ytohdfdbpmmeidab", sum := "b9a6271436286430fba936589d883bc24d5d53dfb2ff7bff5258a1f4d1917df0", func := "loop.example/g00651/laws.FnExactCompress", spec := "fnExactCompress", apart := false }
def FnExactCompressSaid : Prop := fnExactCompressRow.holds Try.pinned (OpenSpec.ofChange fnExactCompressSpec)

/-- ITS FALSE NEIGHBOUR: 'it returns false'. Refute it at one input. -/
def fnExactCompressWrong : ChangeSpec := { name := "fnExactCompress", fn := fun _ => fun
  | [d1, d2] => { results := [.lit (.bool false)], args := [d1, d2] }
  | _ => none }
def FnExactCompressWrongFalsely : Prop := fnExactCompressRow.holds Try.pinned (OpenSpec.ofChange fnExactCompressWrong)

/-- 'laws.FnExactShaAdd': WHATEVER THE INPUT: true; the input reads as it did. -/
def fnExactShaAddSpec : ChangeSpec := { name := "fnExactShaAdd", fn := fun _ => fun
  | [d1, d2] => { results := [.lit (.bool true)], args := [d1, d2] }
  | _ => none }
def fnExactShaAddRow : OpenClaim := { program := "ytohdfdbpmmeidab", sum := "b9a6271436286430fba936589d883bc24d5d53dfb2ff7bff5258a1f4d1917df0", func := "loop.example/g00651/laws.FnExactShaAdd", spec := "fnExactShaAdd", apart := false }
def FnExactShaAddSaid : Prop := fnExactShaAddRow.holds Try.pinned (OpenSpec.ofChange fnExactShaAddSpec)

/-- ITS FALSE NEIGHBOUR: 'it returns false'. Refute it at one input. -/
def fnExactShaAddWrong : ChangeSpec := { name := "fnExactShaAdd", fn := fun _ => fun
  | [d1, d2] => { results := [.lit (.bool false)], args := [d1, d2] }
  | _ => none }
def FnExactShaAddWrongFalsely : Prop := fnExactShaAddRow.holds Try.pinned (OpenSpec.ofChange fnExactShaAddWrong)

/- THE SECOND FORM. 'bulk': how many values and letters a reading holds, each counted each time it is reached (what is shared counts as often as it is met; a slice's spare places count too). A statement '..UptoSaid' is the law's where the arguments, and the package variables that the reading takes, are together of bulk at most 1048576: NARROWER than '..Said'. Prove '..Said' where nothing that the law and all that it calls make is longer than what came in: it says more and counts as full. Else prove '..UptoSaid'. A law counts once. -/
mutual
def uptoBulk {H : Type} : DataW H → Nat
  | .lit (.string bytes) => bytes.length + 1
  | .lit _ => 1
  | .nil => 1
  | .ptr d => uptoBulk d + 1
  | .slice elems spare => uptoBulkAll elems + uptoBulkAll spare + 1
  | .agg parts => uptoBulkAll parts + 1
  | .iface _ d => uptoBulk d + 1
  | .map entries => uptoBulkEntries entries + 1
  | .held _ => 1
def uptoBulkAll {H : Type} : List (DataW H) → Nat
  | [] => 0
  | d :: r => uptoBulk d + uptoBulkAll r
def uptoBulkEntries {H : Type} : List (Lit × DataW H) → Nat
  | [] => 0
  | x :: r => uptoBulkEntry x + uptoBulkEntries r
def uptoBulkEntry {H : Type} : Lit × DataW H → Nat
  | (.string bytes, d) => bytes.length + uptoBulk d + 1
  | (_, d) => uptoBulk d + 1
 end
def uptoSmall : (H : Type) → List (DataW H) → Bool := fun _ ds => decide (uptoBulkAll ds ≤ 1048576)
def OpenSpec.upto (s : _root_.Go.ChangeSpec) : _root_.Go.OpenSpec := { _root_.Go.OpenSpec.ofChange s with cond := some uptoSmall }

/-- 'laws.FnExactShaOk', WHERE WHAT IT READS IS OF BULK AT MOST 1048576: true; the input reads as it did. -/
def fnExactShaOkUptoRow : OpenClaim := { program := "ytohdfdbpmmeidab", sum := "b9a6271436286430fba936589d883bc24d5d53dfb2ff7bff5258a1f4d1917df0", func := "loop.example/g00651/laws.FnExactShaOk", spec := "fnExactShaOk", apart := false, narrowed := true }
def FnExactShaOkUptoSaid : Prop := fnExactShaOkUptoRow.holds Try.pinned (OpenSpec.upto fnExactShaOkSpec)

/-- 'laws.FnExactShaNew', WHERE WHAT IT READS IS OF BULK AT MOST 1048576: true; the input reads as it did. -/
def fnExactShaNewUptoRow : OpenClaim := { program := "ytohdfdbpmmeidab", sum := "b9a6271436286430fba936589d883bc24d5d53dfb2ff7bff5258a1f4d1917df0", func := "loop.example/g00651/laws.FnExactShaNew", spec := "fnExactShaNew", apart := false, narrowed := true }
def FnExactShaNewUptoSaid : Prop := fnExactShaNewUptoRow.holds Try.pinned (OpenSpec.upto fnExactShaNewSpec)

/-- 'laws.FnExactTurn', WHERE WHAT IT READS IS OF BULK AT MOST 1048576: true; the input reads as it did. -/
def fnExactTurnUptoRow : OpenClaim := { program := "ytohdfdbpmmeidab", sum := "b9a6271436286430fba936589d883bc24d5d53dfb2ff7bff5258a1f4d1917df0", func := "loop.example/g00651/laws.FnExactTurn", spec := "fnExactTurn", apart := false, narrowed := true }
def FnExactTurnUptoSaid : Prop := fnExactTurnUptoRow.holds Try.pinned (OpenSpec.upto fnExactTurnSpec)

/-- 'laws.FnExactSchedule', WHERE WHAT IT READS IS OF BULK AT MOST 1048576: true; the input reads as it did. -/
def fnExactScheduleUptoRow : OpenClaim := { program := "ytohdfdbpmmeidab", sum := "b9a6271436286430fba936589d883bc24d5d53dfb2ff7bff5258a1f4d1917df0", func := "loop.example/g00651/laws.FnExactSchedule", spec := "fnExactSchedule", apart := false, narrowed := true }
def FnExactScheduleUptoSaid : Prop := fnExactScheduleUptoRow.holds Try.pinned (OpenSpec.upto fnExactScheduleSpec)

/-- 'laws.FnExactCompress', WHERE WHAT IT READS IS OF BULK AT MOST 1048576: true; the input reads as it did. -/
def fnExactCompressUptoRow : OpenClaim := { program := "ytohdfdbpmmeidab", sum := "b9a6271436286430fba936589d883bc24d5d53dfb2ff7bff5258a1f4d1917df0", func := "loop.example/g00651/laws.FnExactCompress", spec := "fnExactCompress", apart := false, narrowed := true }
def FnExactCompressUptoSaid : Prop := fnExactCompressUptoRow.holds Try.pinned (OpenSpec.upto fnExactCompressSpec)

/-- 'laws.FnExactShaAdd', WHERE WHAT IT READS IS OF BULK AT MOST 1048576: true; the input reads as it did. -/
def fnExactShaAddUptoRow : OpenClaim := { program := "ytohdfdbpmmeidab", sum := "b9a6271436286430fba936589d883bc24d5d53dfb2ff7bff5258a1f4d1917df0", func := "loop.example/g00651/laws.FnExactShaAdd", spec := "fnExactShaAdd", apart := false, narrowed := true }
def FnExactShaAddUptoSaid : Prop := fnExactShaAddUptoRow.holds Try.pinned (OpenSpec.upto fnExactShaAddSpec)

end Rows
end Go.Proofs.Ytohdfdbpmmeidab
