/-
  No cell of these rows narrows 'for every input' (looked for: loops, veiled, ifaces, maps, wideKeys, modest, calm, conditions, laid).
  DERIVED. THE GIVEN ROWS OF THIS SEAT. 4 by the template 'for every input the law returns true; each argument reads behind the call as it read before'; 0 by the template 'total and deterministic' (their statements: YtpjjgdhcidngfapTotals.lean).
  GIVEN WITH THE SEED: the statements are not yours to turn. If you find one false, say at which input.
  Laid BY PROGRAM, IN A SANDBOX (cutbox-rows.mjs): the forced cells as the released guide's own fill.sh prints them over the translation 2720725afefd402b… (all of the seat's roots in one cut). By AI agents, Wed Nov 11 2026. No macro, syntax, notation, axiom, sorry.
-/
import Derived.Test.YtpjjgdhcidngfapChecked
import GoSem.Claim
import GoSem.ClaimJoined
import GoSem.ClaimMapViews
import Derived.JoinedTies
import Derived.KernelRfl
namespace Go.Proofs.Ytpjjgdhcidngfap
/- THE CELL 'sum', in the pinned program and in every row, IS THE sha256 OF THE DUMP (.gsa) THAT YtpjjgdhcidngfapProg.lean LOADS. Nothing in Lean hashes anything: it is a label: what it is worth is what the hold of that sum in a sandbox is worth. -/
noncomputable def Try.pinned : Pinned := { name := "ytpjjgdhcidngfap", sum := "2720725afefd402b7594273e892875dbaba1e0035adcb59edaab6910fbdaff31", checked := Try.checked }
namespace Rows
def none {H : Type} : Left H := { results := [], args := [] }

/-- 'laws.FnExactSameFold': WHATEVER THE INPUT: true; the input reads as it did. -/
def fnExactSameFoldSpec : ChangeSpec := { name := "fnExactSameFold", fn := fun _ => fun
  | [d1, d2] => { results := [.lit (.bool true)], args := [d1, d2] }
  | _ => none }
def fnExactSameFoldRow : OpenClaim := { program := "ytpjjgdhcidngfap", sum := "2720725afefd402b7594273e892875dbaba1e0035adcb59edaab6910fbdaff31", func := "loop.example/g00651/laws.FnExactSameFold", spec := "fnExactSameFold", apart := false }
def FnExactSameFoldSaid : Prop := fnExactSameFoldRow.holds Try.pinned (OpenSpec.ofChange fnExactSameFoldSpec)

/-- ITS FALSE NEIGHBOUR: 'it returns false'. Refute it at one input. -/
def fnExactSameFoldWrong : ChangeSpec := { name := "fnExactSameFold", fn := fun _ => fun
  | [d1, d2] => { results := [.lit (.bool false)], args := [d1, d2] }
  | _ => none }
def FnExactSameFoldWrongFalsely : Prop := fnExactSameFoldRow.holds Try.pinned (OpenSpec.ofChange fnExactSameFoldWrong)

/-- 'laws.FnExactTrim': WHATEVER THE INPUT: true; the input reads as it did. -/
def fnExactTrimSpec : ChangeSpec := { name := "fnExactTrim", fn := fun _ => fun
  | [d] => { results := [.lit (.bool true)], args := [d] }
  | _ => none }
def fnExactTrimRow : OpenClaim := { program := "ytpjjgdhcidngfap", sum := "2720725afefd402b7594273e892875dbaba1e0035adcb59edaab6910fbdaff31", func := "loop.example/g00651/laws.FnExactTrim", spec := "fnExactTrim", apart := false }
def FnExactTrimSaid : Prop := fnExactTrimRow.holds Try.pinned (OpenSpec.ofChange fnExactTrimSpec)

/-- ITS FALSE NEIGHBOUR: 'it returns false'. Refute it at one input. -/
def fnExactTrimWrong : ChangeSpec := { name := "fnExactTrim", fn := fun _ => fun
  | [d] => { results := [.lit (.bool false)], args := [d] }
  | _ => none }
def FnExactTrimWrongFalsely : Prop := fnExactTrimRow.holds Try.pinned (OpenSpec.ofChange fnExactTrimWrong)

/-- 'laws.FnExactToken': WHATEVER THE INPUT: true; the input reads as it did. -/
def fnExactTokenSpec : ChangeSpec := { name := "fnExactToken", fn := fun _ => fun
  | [d] => { results := [.lit (.bool true)], args := [d] }
  | _ => none }
def fnExactTokenRow : OpenClaim := { program := "ytpjjgdhcidngfap", sum := "2720725afefd402b7594273e892875dbaba1e0035adcb59edaab6910fbdaff31", func := "loop.example/g00651/laws.FnExactToken", spec := "fnExactToken", apart := false }
def FnExactTokenSaid : Prop := fnExactTokenRow.holds Try.pinned (OpenSpec.ofChange fnExactTokenSpec)

/-- ITS FALSE NEIGHBOUR: 'it returns false'. Refute it at one input. -/
def fnExactTokenWrong : ChangeSpec := { name := "fnExactToken", fn := fun _ => fun
  | [d] => { results := [.lit (.bool false)], args := [d] }
  | _ => none }
def FnExactTokenWrongFalsely : Prop := fnExactTokenRow.holds Try.pinned (OpenSpec.ofChange fnExactTokenWrong)

/-- 'laws.FnExactReadDec': WHATEVER THE INPUT: true; the input reads as it did. -/
def fnExactReadDecSpec : ChangeSpec := { name := "fnExactReadDec", fn := fun _ => fun
  | [d] => { results := [.lit (.bool true)], args := [d] }
  | _ => none }
def fnExactReadDecRow : OpenClaim := { program := "ytpjjgdhcidngfap", sum := "2720725afefd402b7594273e892875dbaba1e0035adcb59edaab6910fbdaff31", func := "loop.example/g00651/laws.FnExactReadDec", spec := "fnExactReadDec", recurses := true, apart := false }
def FnExactReadDecSaid : Prop := fnExactReadDecRow.holds Try.pinned (OpenSpec.ofChange fnExactReadDecSpec)

/-- ITS FALSE NEIGHBOUR: 'it returns false'. Refute it at one input. -/
def fnExactReadDecWrong : ChangeSpec := { name := "fnExactReadDec", fn := fun _ => fun
  | [d] => { results := [.lit (.bool false)], args := [d] }
  | _ => none }
def FnExactReadDecWrongFalsely : Prop := fnExactReadDecRow.holds Try.pinned (OpenSpec.ofChange fnExactReadDecWrong)

/- THE SECOND FORM. 'bulk': how many values and letters a reading holds, each counted each time it is reached (what is shared counts as often as it is met; a slice's spare places count too). A statement '..UptoSaid' is the law's where the arguments, and the package variables that the reading takes, are together of bulk at most 1048576: NARROWER than '..Said'. Prove '..Said' where nothing that the law and all that it calls make is longer than what came in: it says more and counts as full. Else prove '..UptoSaid'. A law counts once. -/
mutual
def uptoBulk {H : Type} : DataW H → Nat
  | .lit (.string bytes) => bytes.length + 1
  | .lit _ => 1
  | .nil => 1
  | .ptr d => uptoBulk d + 1
  | .slice elems spare => uptoBulkAll elems + uptoBulkAll spare + 1
  | .agg parts => uptoBulkAll parts + 1
  | .iface _ d => uptoBulk d + 1
  | .map entries => uptoBulkEntries entries + 1
  | .held _ => 1
def uptoBulkAll {H : Type} : List (DataW H) → Nat
  | [] => 0
  | d :: r => uptoBulk d + uptoBulkAll r
def uptoBulkEntries {H : Type} : List (Lit × DataW H) → Nat
  | [] => 0
  | x :: r => uptoBulkEntry x + uptoBulkEntries r
def uptoBulkEntry {H : Type} : Lit × DataW H → Nat
  | (.string bytes, d) => bytes.length + uptoBulk d + 1
  | (_, d) => uptoBulk d + 1
 end
def uptoSmall : (H : Type) → List (DataW H) → Bool := fun _ ds => decide (uptoBulkAll ds ≤ 1048576)
def OpenSpec.upto (s : _root_.Go.ChangeSpec) : _root_.Go.OpenSpec := { _root_.Go.OpenSpec.ofChange s with cond := some uptoSmall }

/-- 'laws.FnExactSameFold', WHERE WHAT IT READS IS OF BULK AT MOST 1048576: true; the input reads as it did. -/
def fnExactSameFoldUptoRow : OpenClaim := { program := "ytpjjgdhcidngfap", sum := "2720725afefd402b7594273e892875dbaba1e0035adcb59edaab6910fbdaff31", func := "loop.example/g00651/laws.FnExactSameFold", spec := "fnExactSameFold", apart := false, narrowed := true }
def FnExactSameFoldUptoSaid : Prop := fnExactSameFoldUptoRow.holds Try.pinned (OpenSpec.upto fnExactSameFoldSpec)

/-- 'laws.FnExactTrim', WHERE WHAT IT READS IS OF BULK AT MOST 1048576: true; the input reads as it did. -/
def fnExactTrimUptoRow : OpenClaim := { program := "ytpjjgdhcidngfap", sum := "2720725afefd402b7594273e892875dbaba1e0035adcb59edaab6910fbdaff31", func := "loop.example/g00651/laws.FnExactTrim", spec := "fnExactTrim", apart := false, narrowed := true }
def FnExactTrimUptoSaid : Prop := fnExactTrimUptoRow.holds Try.pinned (OpenSpec.upto fnExactTrimSpec)

/-- 'laws.FnExactToken', WHERE WHAT IT READS IS OF BULK AT MOST 1048576: true; the input reads as it did. -/
def fnExactTokenUptoRow : OpenClaim := { program := "ytpjjgdhcidngfap", sum := "2720725afefd402b7594273e892875dbaba1e0035adcb59edaab6910fbdaff31", func := "loop.example/g00651/laws.FnExactToken", spec := "fnExactToken", apart := false, narrowed := true }
def FnExactTokenUptoSaid : Prop := fnExactTokenUptoRow.holds Try.pinned (OpenSpec.upto fnExactTokenSpec)

/-- 'laws.FnExactReadDec', WHERE WHAT IT READS IS OF BULK AT MOST 1048576: true; the input reads as it did. -/
def fnExactReadDecUptoRow : OpenClaim := { program := "ytpjjgdhcidngfap", sum := "2720725afefd402b7594273e892875dbaba1e0035adcb59edaab6910fbdaff31", func := "loop.example/g00651/laws.FnExactReadDec", spec := "fnExactReadDec", recurses := true, apart := false, narrowed := true }
def FnExactReadDecUptoSaid : Prop := fnExactReadDecUptoRow.holds Try.pinned (OpenSpec.upto fnExactReadDecSpec)

end Rows
end Go.Proofs.Ytpjjgdhcidngfap
