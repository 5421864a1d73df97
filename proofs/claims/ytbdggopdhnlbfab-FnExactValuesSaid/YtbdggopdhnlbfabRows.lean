/-
  No cell of these rows narrows 'for every input' (looked for: loops, veiled, ifaces, maps, wideKeys, modest, calm, conditions, laid).
  DERIVED. THE GIVEN ROWS OF THIS SEAT. 6 by the template 'for every input the law returns true; each argument reads behind the call as it read before'; 0 by the template 'total and deterministic' (their statements: YtbdggopdhnlbfabTotals.lean).
  GIVEN WITH THE SEED: the statements are not yours to turn. If you find one false, say at which input.
  Laid BY PROGRAM, IN A SANDBOX (cutbox-rows.mjs): the forced cells as the released guide's own fill.sh prints them over the translation 8b45abe20ccd18b3… (all of the seat's roots in one cut). By AI agents, Wed Nov 11 2026. No macro, syntax, notation, axiom, sorry.
-/
import Derived.Test.YtbdggopdhnlbfabChecked
import GoSem.Claim
import GoSem.ClaimJoined
import GoSem.ClaimMapViews
import Derived.JoinedTies
import Derived.KernelRfl
namespace Go.Proofs.Ytbdggopdhnlbfab
/- THE CELL 'sum', in the pinned program and in every row, IS THE sha256 OF THE DUMP (.gsa) THAT YtbdggopdhnlbfabProg.lean LOADS. Nothing in Lean hashes anything: it is a label: what it is worth is what the hold of that sum in a sandbox is worth. -/
noncomputable def Try.pinned : Pinned := { name := "ytbdggopdhnlbfab", sum := "8b45abe20ccd18b384d2e235de6c7269d480b0b82a5677bbf443a6ba9f9b6272", checked := Try.checked }
namespace Rows
def none {H : Type} : Left H := { results := [], args := [] }

/-- 'laws.FnExactFieldOk': WHATEVER THE INPUT: true; the input reads as it did. -/
def fnExactFieldOkSpec : ChangeSpec := { name := "fnExactFieldOk", fn := fun _ => fun
  | [d] => { results := [.lit (.bool true)], args := [d] }
  | _ => none }
def fnExactFieldOkRow : OpenClaim := { program := "ytbdggopdhnlbfab", sum := "8b45abe20ccd18b384d2e235de6c7269d480b0b82a5677bbf443a6ba9f9b6272", func := "loop.example/g00651/laws.FnExactFieldOk", spec := "fnExactFieldOk", apart := false }
def FnExactFieldOkSaid : Prop := fnExactFieldOkRow.holds Try.pinned (OpenSpec.ofChange fnExactFieldOkSpec)

/-- ITS FALSE NEIGHBOUR: 'it returns false'. Refute it at one input. -/
def fnExactFieldOkWrong : ChangeSpec := { name := "fnExactFieldOk", fn := fun _ => fun
  | [d] => { results := [.lit (.bool false)], args := [d] }
  | _ => none }
def FnExactFieldOkWrongFalsely : Prop := fnExactFieldOkRow.holds Try.pinned (OpenSpec.ofChange fnExactFieldOkWrong)

/-- 'laws.FnExactFieldsOk': WHATEVER THE INPUT: true; the input reads as it did. -/
def fnExactFieldsOkSpec : ChangeSpec := { name := "fnExactFieldsOk", fn := fun _ => fun
  | [d] => { results := [.lit (.bool true)], args := [d] }
  | _ => none }
def fnExactFieldsOkRow : OpenClaim := { program := "ytbdggopdhnlbfab", sum := "8b45abe20ccd18b384d2e235de6c7269d480b0b82a5677bbf443a6ba9f9b6272", func := "loop.example/g00651/laws.FnExactFieldsOk", spec := "fnExactFieldsOk", apart := false }
def FnExactFieldsOkSaid : Prop := fnExactFieldsOkRow.holds Try.pinned (OpenSpec.ofChange fnExactFieldsOkSpec)

/-- ITS FALSE NEIGHBOUR: 'it returns false'. Refute it at one input. -/
def fnExactFieldsOkWrong : ChangeSpec := { name := "fnExactFieldsOk", fn := fun _ => fun
  | [d] => { results := [.lit (.bool false)], args := [d] }
  | _ => none }
def FnExactFieldsOkWrongFalsely : Prop := fnExactFieldsOkRow.holds Try.pinned (OpenSpec.ofChange fnExactFieldsOkWrong)

/-- 'laws.FnExactFieldText': WHATEVER THE INPUT: true; the input reads as it did. -/
def fnExactFieldTextSpec : ChangeSpec := { name := "fnExactFieldText", fn := fun _ => fun
  | [d] => { results := [.lit (.bool true)], args := [d] }
  | _ => none }
def fnExactFieldTextRow : OpenClaim := { program := "ytbdggopdhnlbfab", sum := "8b45abe20ccd18b384d2e235de6c7269d480b0b82a5677bbf443a6ba9f9b6272", func := "loop.example/g00651/laws.FnExactFieldText", spec := "fnExactFieldText", apart := false }
def FnExactFieldTextSaid : Prop := fnExactFieldTextRow.holds Try.pinned (OpenSpec.ofChange fnExactFieldTextSpec)

/-- ITS FALSE NEIGHBOUR: 'it returns false'. Refute it at one input. -/
def fnExactFieldTextWrong : ChangeSpec := { name := "fnExactFieldText", fn := fun _ => fun
  | [d] => { results := [.lit (.bool false)], args := [d] }
  | _ => none }
def FnExactFieldTextWrongFalsely : Prop := fnExactFieldTextRow.holds Try.pinned (OpenSpec.ofChange fnExactFieldTextWrong)

/-- 'laws.FnExactReadField': WHATEVER THE INPUT: true; the input reads as it did. -/
def fnExactReadFieldSpec : ChangeSpec := { name := "fnExactReadField", fn := fun _ => fun
  | [d] => { results := [.lit (.bool true)], args := [d] }
  | _ => none }
def fnExactReadFieldRow : OpenClaim := { program := "ytbdggopdhnlbfab", sum := "8b45abe20ccd18b384d2e235de6c7269d480b0b82a5677bbf443a6ba9f9b6272", func := "loop.example/g00651/laws.FnExactReadField", spec := "fnExactReadField", inPlace := ["internal/bytealg.IndexByteString", "internal/bytealg.IndexString"], named := ["internal/bytealg.MaxLen"], apart := false }
def FnExactReadFieldSaid : Prop := fnExactReadFieldRow.holds Try.pinned (OpenSpec.ofChange fnExactReadFieldSpec)

/-- ITS FALSE NEIGHBOUR: 'it returns false'. Refute it at one input. -/
def fnExactReadFieldWrong : ChangeSpec := { name := "fnExactReadField", fn := fun _ => fun
  | [d] => { results := [.lit (.bool false)], args := [d] }
  | _ => none }
def FnExactReadFieldWrongFalsely : Prop := fnExactReadFieldRow.holds Try.pinned (OpenSpec.ofChange fnExactReadFieldWrong)

/-- 'laws.FnExactGet': WHATEVER THE INPUT: true; the input reads as it did. -/
def fnExactGetSpec : ChangeSpec := { name := "fnExactGet", fn := fun _ => fun
  | [d1, d2] => { results := [.lit (.bool true)], args := [d1, d2] }
  | _ => none }
def fnExactGetRow : OpenClaim := { program := "ytbdggopdhnlbfab", sum := "8b45abe20ccd18b384d2e235de6c7269d480b0b82a5677bbf443a6ba9f9b6272", func := "loop.example/g00651/laws.FnExactGet", spec := "fnExactGet", apart := false }
def FnExactGetSaid : Prop := fnExactGetRow.holds Try.pinned (OpenSpec.ofChange fnExactGetSpec)

/-- ITS FALSE NEIGHBOUR: 'it returns false'. Refute it at one input. -/
def fnExactGetWrong : ChangeSpec := { name := "fnExactGet", fn := fun _ => fun
  | [d1, d2] => { results := [.lit (.bool false)], args := [d1, d2] }
  | _ => none }
def FnExactGetWrongFalsely : Prop := fnExactGetRow.holds Try.pinned (OpenSpec.ofChange fnExactGetWrong)

/-- 'laws.FnExactValues': WHATEVER THE INPUT: true; the input reads as it did. -/
def fnExactValuesSpec : ChangeSpec := { name := "fnExactValues", fn := fun _ => fun
  | [d1, d2] => { results := [.lit (.bool true)], args := [d1, d2] }
  | _ => none }
def fnExactValuesRow : OpenClaim := { program := "ytbdggopdhnlbfab", sum := "8b45abe20ccd18b384d2e235de6c7269d480b0b82a5677bbf443a6ba9f9b6272", func := "loop.example/g00651/laws.FnExactValues", spec := "fnExactValues", apart := false }
def FnExactValuesSaid : Prop := fnExactValuesRow.holds Try.pinned (OpenSpec.ofChange fnExactValuesSpec)

/-- ITS FALSE NEIGHBOUR: 'it returns false'. Refute it at one input. -/
def fnExactValuesWrong : ChangeSpec := { name := "fnExactValues", fn := fun _ => fun
  | [d1, d2] => { results := [.lit (.bool false)], args := [d1, d2] }
  | _ => none }
def FnExactValuesWrongFalsely : Prop := fnExactValuesRow.holds Try.pinned (OpenSpec.ofChange fnExactValuesWrong)

/- THE SECOND FORM. 'bulk': how many values and letters a reading holds, each counted each time it is reached (what is shared counts as often as it is met; a slice's spare places count too). A statement '..UptoSaid' is the law's where the arguments, and the package variables that the reading takes, are together of bulk at most 1048576: NARROWER than '..Said'. Prove '..Said' where nothing that the law and all that it calls make is longer than what came in: it says more and counts as full. Else prove '..UptoSaid'. A law counts once. -/
mutual
def uptoBulk {H : Type} : DataW H → Nat
  | .lit (.string bytes) => bytes.length + 1
  | .lit _ => 1
  | .nil => 1
  | .ptr d => uptoBulk d + 1
  | .slice elems spare => uptoBulkAll elems + uptoBulkAll spare + 1
  | .agg parts => uptoBulkAll parts + 1
  | .iface _ d => uptoBulk d + 1
  | .map entries => uptoBulkEntries entries + 1
  | .held _ => 1
def uptoBulkAll {H : Type} : List (DataW H) → Nat
  | [] => 0
  | d :: r => uptoBulk d + uptoBulkAll r
def uptoBulkEntries {H : Type} : List (Lit × DataW H) → Nat
  | [] => 0
  | x :: r => uptoBulkEntry x + uptoBulkEntries r
def uptoBulkEntry {H : Type} : Lit × DataW H → Nat
  | (.string bytes, d) => bytes.length + uptoBulk d + 1
  | (_, d) => uptoBulk d + 1
 end
def uptoSmall : (H : Type) → List (DataW H) → Bool := fun _ ds => decide (uptoBulkAll ds ≤ 1048576)
def OpenSpec.upto (s : _root_.Go.ChangeSpec) : _root_.Go.OpenSpec := { _root_.Go.OpenSpec.ofChange s with cond := some uptoSmall }

/-- 'laws.FnExactFieldOk', WHERE WHAT IT READS IS OF BULK AT MOST 1048576: true; the input reads as it did. -/
def fnExactFieldOkUptoRow : OpenClaim := { program := "ytbdggopdhnlbfab", sum := "8b45abe20ccd18b384d2e235de6c7269d480b0b82a5677bbf443a6ba9f9b6272", func := "loop.example/g00651/laws.FnExactFieldOk", spec := "fnExactFieldOk", apart := false, narrowed := true }
def FnExactFieldOkUptoSaid : Prop := fnExactFieldOkUptoRow.holds Try.pinned (OpenSpec.upto fnExactFieldOkSpec)

/-- 'laws.FnExactFieldsOk', WHERE WHAT IT READS IS OF BULK AT MOST 1048576: true; the input reads as it did. -/
def fnExactFieldsOkUptoRow : OpenClaim := { program := "ytbdggopdhnlbfab", sum := "8b45abe20ccd18b384d2e235de6c7269d480b0b82a5677bbf443a6ba9f9b6272", func := "loop.example/g00651/laws.FnExactFieldsOk", spec := "fnExactFieldsOk", apart := false, narrowed := true }
def FnExactFieldsOkUptoSaid : Prop := fnExactFieldsOkUptoRow.holds Try.pinned (OpenSpec.upto fnExactFieldsOkSpec)

/-- 'laws.FnExactFieldText', WHERE WHAT IT READS IS OF BULK AT MOST 1048576: true; the input reads as it did. -/
def fnExactFieldTextUptoRow : OpenClaim := { program := "ytbdggopdhnlbfab", sum := "8b45abe20ccd18b384d2e235de6c7269d480b0b82a5677bbf443a6ba9f9b6272", func := "loop.example/g00651/laws.FnExactFieldText", spec := "fnExactFieldText", apart := false, narrowed := true }
def FnExactFieldTextUptoSaid : Prop := fnExactFieldTextUptoRow.holds Try.pinned (OpenSpec.upto fnExactFieldTextSpec)

/-- 'laws.FnExactReadField', WHERE WHAT IT READS IS OF BULK AT MOST 1048576: true; the input reads as it did. -/
def fnExactReadFieldUptoRow : OpenClaim := { program := "ytbdggopdhnlbfab", sum := "8b45abe20ccd18b384d2e235de6c7269d480b0b82a5677bbf443a6ba9f9b6272", func := "loop.example/g00651/laws.FnExactReadField", spec := "fnExactReadField", inPlace := ["internal/bytealg.IndexByteString", "internal/bytealg.IndexString"], named := ["internal/bytealg.MaxLen"], apart := false, narrowed := true }
def FnExactReadFieldUptoSaid : Prop := fnExactReadFieldUptoRow.holds Try.pinned (OpenSpec.upto fnExactReadFieldSpec)

/-- 'laws.FnExactGet', WHERE WHAT IT READS IS OF BULK AT MOST 1048576: true; the input reads as it did. -/
def fnExactGetUptoRow : OpenClaim := { program := "ytbdggopdhnlbfab", sum := "8b45abe20ccd18b384d2e235de6c7269d480b0b82a5677bbf443a6ba9f9b6272", func := "loop.example/g00651/laws.FnExactGet", spec := "fnExactGet", apart := false, narrowed := true }
def FnExactGetUptoSaid : Prop := fnExactGetUptoRow.holds Try.pinned (OpenSpec.upto fnExactGetSpec)

/-- 'laws.FnExactValues', WHERE WHAT IT READS IS OF BULK AT MOST 1048576: true; the input reads as it did. -/
def fnExactValuesUptoRow : OpenClaim := { program := "ytbdggopdhnlbfab", sum := "8b45abe20ccd18b384d2e235de6c7269d480b0b82a5677bbf443a6ba9f9b6272", func := "loop.example/g00651/laws.FnExactValues", spec := "fnExactValues", apart := false, narrowed := true }
def FnExactValuesUptoSaid : Prop := fnExactValuesUptoRow.holds Try.pinned (OpenSpec.upto fnExactValuesSpec)

end Rows
end Go.Proofs.Ytbdggopdhnlbfab
