/-
  No cell of these rows narrows 'for every input' (looked for: loops, veiled, ifaces, maps, wideKeys, modest, calm, conditions, laid).
  DERIVED. THE GIVEN ROWS OF THIS SEAT. 6 by the template 'for every input the law returns true; each argument reads behind the call as it read before'; 0 by the template 'total and deterministic' (their statements: YtpjjgdhcidngfaqTotals.lean).
  GIVEN WITH THE SEED: the statements are not yours to turn. If you find one false, say at which input.
  Laid BY PROGRAM, IN A SANDBOX (cutbox-rows.mjs): the forced cells as the released guide's own fill.sh prints them over the translation 9cac56be0b1e79cb… (all of the seat's roots in one cut). By AI agents, Wed Nov 11 2026. No macro, syntax, notation, axiom, sorry.
-/
import Derived.Test.YtpjjgdhcidngfaqChecked
import GoSem.Claim
import GoSem.ClaimJoined
import GoSem.ClaimMapViews
import Derived.JoinedTies
import Derived.KernelRfl
namespace Go.Proofs.Ytpjjgdhcidngfaq
/- THE CELL 'sum', in the pinned program and in every row, IS THE sha256 OF THE DUMP (.gsa) THAT YtpjjgdhcidngfaqProg.lean LOADS. Nothing in Lean hashes anything: it is a label: what it is worth is what the hold of that sum in a sandbox is worth. -/
noncomputable def Try.pinned : Pinned := { name := "ytpjjgdhcidngfaq", sum := "9cac56be0b1e79cbe905250b92d07d0595a5fb4ab0a161e042ab61f156e7de34", checked := Try.checked }
namespace Rows
def none {H : Type} : Left H := { results := [], args := [] }

/-- 'laws.FnExactReadHex': WHATEVER THE INPUT: true; the input reads as it did. -/
def fnExactReadHexSpec : ChangeSpec := { name := "fnExactReadHex", fn := fun _ => fun
  | [d] => { results := [.lit (.bool true)], args := [d] }
  | _ => none }
def fnExactReadHexRow : OpenClaim := { program := "ytpjjgdhcidngfaq", sum := "9cac56be0b1e79cbe905250b92d07d0595a5fb4ab0a161e042ab61f156e7de34", func := "loop.example/g00651/laws.FnExactReadHex", spec := "fnExactReadHex", apart := false }
def FnExactReadHexSaid : Prop := fnExactReadHexRow.holds Try.pinned (OpenSpec.ofChange fnExactReadHexSpec)

/-- ITS FALSE NEIGHBOUR: 'it returns false'. Refute it at one input. -/
def fnExactReadHexWrong : ChangeSpec := { name := "fnExactReadHex", fn := fun _ => fun
  | [d] => { results := [.lit (.bool false)], args := [d] }
  | _ => none }
def FnExactReadHexWrongFalsely : Prop := fnExactReadHexRow.holds Try.pinned (OpenSpec.ofChange fnExactReadHexWrong)

/-- 'laws.FnExactBase32': WHATEVER THE INPUT: true; the input reads as it did. -/
def fnExactBase32Spec : ChangeSpec := { name := "fnExactBase32", fn := fun _ => fun
  | [d] => { results := [.lit (.bool true)], args := [d] }
  | _ => none }
def fnExactBase32Row : OpenClaim := { program := "ytpjjgdhcidngfaq", sum := "9cac56be0b1e79cbe905250b92d07d0595a5fb4ab0a161e042ab61f156e7de34", func := "loop.example/g00651/laws.FnExactBase32", spec := "fnExactBase32", apart := false }
def FnExactBase32Said : Prop := fnExactBase32Row.holds Try.pinned (OpenSpec.ofChange fnExactBase32Spec)

/-- ITS FALSE NEIGHBOUR: 'it returns false'. Refute it at one input. -/
def fnExactBase32Wrong : ChangeSpec := { name := "fnExactBase32", fn := fun _ => fun
  | [d] => { results := [.lit (.bool false)], args := [d] }
  | _ => none }
def FnExactBase32WrongFalsely : Prop := fnExactBase32Row.holds Try.pinned (OpenSpec.ofChange fnExactBase32Wrong)

/-- 'laws.FnExactReadBase32': WHATEVER THE INPUT: true; the input reads as it did. -/
def fnExactReadBase32Spec : ChangeSpec := { name := "fnExactReadBase32", fn := fun _ => fun
  | [d] => { results := [.lit (.bool true)], args := [d] }
  | _ => none }
def fnExactReadBase32Row : OpenClaim := { program := "ytpjjgdhcidngfaq", sum := "9cac56be0b1e79cbe905250b92d07d0595a5fb4ab0a161e042ab61f156e7de34", func := "loop.example/g00651/laws.FnExactReadBase32", spec := "fnExactReadBase32", apart := false }
def FnExactReadBase32Said : Prop := fnExactReadBase32Row.holds Try.pinned (OpenSpec.ofChange fnExactReadBase32Spec)

/-- ITS FALSE NEIGHBOUR: 'it returns false'. Refute it at one input. -/
def fnExactReadBase32Wrong : ChangeSpec := { name := "fnExactReadBase32", fn := fun _ => fun
  | [d] => { results := [.lit (.bool false)], args := [d] }
  | _ => none }
def FnExactReadBase32WrongFalsely : Prop := fnExactReadBase32Row.holds Try.pinned (OpenSpec.ofChange fnExactReadBase32Wrong)

/-- 'laws.FnExactElements': WHATEVER THE INPUT: true; the input reads as it did. -/
def fnExactElementsSpec : ChangeSpec := { name := "fnExactElements", fn := fun _ => fun
  | [d] => { results := [.lit (.bool true)], args := [d] }
  | _ => none }
def fnExactElementsRow : OpenClaim := { program := "ytpjjgdhcidngfaq", sum := "9cac56be0b1e79cbe905250b92d07d0595a5fb4ab0a161e042ab61f156e7de34", func := "loop.example/g00651/laws.FnExactElements", spec := "fnExactElements", apart := false }
def FnExactElementsSaid : Prop := fnExactElementsRow.holds Try.pinned (OpenSpec.ofChange fnExactElementsSpec)

/-- ITS FALSE NEIGHBOUR: 'it returns false'. Refute it at one input. -/
def fnExactElementsWrong : ChangeSpec := { name := "fnExactElements", fn := fun _ => fun
  | [d] => { results := [.lit (.bool false)], args := [d] }
  | _ => none }
def FnExactElementsWrongFalsely : Prop := fnExactElementsRow.holds Try.pinned (OpenSpec.ofChange fnExactElementsWrong)

/-- 'laws.FnExactQuote': WHATEVER THE INPUT: true; the input reads as it did. -/
def fnExactQuoteSpec : ChangeSpec := { name := "fnExactQuote", fn := fun _ => fun
  | [d] => { results := [.lit (.bool true)], args := [d] }
  | _ => none }
def fnExactQuoteRow : OpenClaim := { program := "ytpjjgdhcidngfaq", sum := "9cac56be0b1e79cbe905250b92d07d0595a5fb4ab0a161e042ab61f156e7de34", func := "loop.example/g00651/laws.FnExactQuote", spec := "fnExactQuote", apart := false }
def FnExactQuoteSaid : Prop := fnExactQuoteRow.holds Try.pinned (OpenSpec.ofChange fnExactQuoteSpec)

/-- ITS FALSE NEIGHBOUR: 'it returns false'. Refute it at one input. -/
def fnExactQuoteWrong : ChangeSpec := { name := "fnExactQuote", fn := fun _ => fun
  | [d] => { results := [.lit (.bool false)], args := [d] }
  | _ => none }
def FnExactQuoteWrongFalsely : Prop := fnExactQuoteRow.holds Try.pinned (OpenSpec.ofChange fnExactQuoteWrong)

/-- 'laws.FnExactUnquote': WHATEVER THE INPUT: true; the input reads as it did. -/
def fnExactUnquoteSpec : ChangeSpec := { name := "fnExactUnquote", fn := fun _ => fun
  | [d] => { results := [.lit (.bool true)], args := [d] }
  | _ => none }
def fnExactUnquoteRow : OpenClaim := { program := "ytpjjgdhcidngfaq", sum := "9cac56be0b1e79cbe905250b92d07d0595a5fb4ab0a161e042ab61f156e7de34", func := "loop.example/g00651/laws.FnExactUnquote", spec := "fnExactUnquote", apart := false }
def FnExactUnquoteSaid : Prop := fnExactUnquoteRow.holds Try.pinned (OpenSpec.ofChange fnExactUnquoteSpec)

/-- ITS FALSE NEIGHBOUR: 'it returns false'. Refute it at one input. -/
def fnExactUnquoteWrong : ChangeSpec := { name := "fnExactUnquote", fn := fun _ => fun
  | [d] => { results := [.lit (.bool false)], args := [d] }
  | _ => none }
def FnExactUnquoteWrongFalsely : Prop := fnExactUnquoteRow.holds Try.pinned (OpenSpec.ofChange fnExactUnquoteWrong)

/- THE SECOND FORM. 'bulk': how many values and letters a reading holds, each counted each time it is reached (what is shared counts as often as it is met; a slice's spare places count too). A statement '..UptoSaid' is the law's where the arguments, and the package variables that the reading takes, are together of bulk at most 1048576: NARROWER than '..Said'. Prove '..Said' where nothing that the law and all that it calls make is longer than what came in: it says more and counts as full. Else prove '..UptoSaid'. A law counts once. -/
mutual
def uptoBulk {H : Type} : DataW H → Nat
  | .lit (.string bytes) => bytes.length + 1
  | .lit _ => 1
  | .nil => 1
  | .ptr d => uptoBulk d + 1
  | .slice elems spare => uptoBulkAll elems + uptoBulkAll spare + 1
  | .agg parts => uptoBulkAll parts + 1
  | .iface _ d => uptoBulk d + 1
  | .map entries => uptoBulkEntries entries + 1
  | .held _ => 1
def uptoBulkAll {H : Type} : List (DataW H) → Nat
  | [] => 0
  | d :: r => uptoBulk d + uptoBulkAll r
def uptoBulkEntries {H : Type} : List (Lit × DataW H) → Nat
  | [] => 0
  | x :: r => uptoBulkEntry x + uptoBulkEntries r
def uptoBulkEntry {H : Type} : Lit × DataW H → Nat
  | (.string bytes, d) => bytes.length + uptoBulk d + 1
  | (_, d) => uptoBulk d + 1
 end
def uptoSmall : (H : Type) → List (DataW H) → Bool := fun _ ds => decide (uptoBulkAll ds ≤ 1048576)
def OpenSpec.upto (s : _root_.Go.ChangeSpec) : _root_.Go.OpenSpec := { _root_.Go.OpenSpec.ofChange s with cond := some uptoSmall }

/-- 'laws.FnExactReadHex', WHERE WHAT IT READS IS OF BULK AT MOST 1048576: true; the input reads as it did. -/
def fnExactReadHexUptoRow : OpenClaim := { program := "ytpjjgdhcidngfaq", sum := "9cac56be0b1e79cbe905250b92d07d0595a5fb4ab0a161e042ab61f156e7de34", func := "loop.example/g00651/laws.FnExactReadHex", spec := "fnExactReadHex", apart := false, narrowed := true }
def FnExactReadHexUptoSaid : Prop := fnExactReadHexUptoRow.holds Try.pinned (OpenSpec.upto fnExactReadHexSpec)

/-- 'laws.FnExactBase32', WHERE WHAT IT READS IS OF BULK AT MOST 1048576: true; the input reads as it did. -/
def fnExactBase32UptoRow : OpenClaim := { program := "ytpjjgdhcidngfaq", sum := "9cac56be0b1e79cbe905250b92d07d0595a5fb4ab0a161e042ab61f156e7de34", func := "loop.example/g00651/laws.FnExactBase32", spec := "fnExactBase32", apart := false, narrowed := true }
def FnExactBase32UptoSaid : Prop := fnExactBase32UptoRow.holds Try.pinned (OpenSpec.upto fnExactBase32Spec)

/-- 'laws.FnExactReadBase32', WHERE WHAT IT READS IS OF BULK AT MOST 1048576: true; the input reads as it did. -/
def fnExactReadBase32UptoRow : OpenClaim := { program := "ytpjjgdhcidngfaq", sum := "9cac56be0b1e79cbe905250b92d07d0595a5fb4ab0a161e042ab61f156e7de34", func := "loop.example/g00651/laws.FnExactReadBase32", spec := "fnExactReadBase32", apart := false, narrowed := true }
def FnExactReadBase32UptoSaid : Prop := fnExactReadBase32UptoRow.holds Try.pinned (OpenSpec.upto fnExactReadBase32Spec)

/-- 'laws.FnExactElements', WHERE WHAT IT READS IS OF BULK AT MOST 1048576: true; the input reads as it did. -/
def fnExactElementsUptoRow : OpenClaim := { program := "ytpjjgdhcidngfaq", sum := "9cac56be0b1e79cbe905250b92d07d0595a5fb4ab0a161e042ab61f156e7de34", func := "loop.example/g00651/laws.FnExactElements", spec := "fnExactElements", apart := false, narrowed := true }
def FnExactElementsUptoSaid : Prop := fnExactElementsUptoRow.holds Try.pinned (OpenSpec.upto fnExactElementsSpec)

/-- 'laws.FnExactQuote', WHERE WHAT IT READS IS OF BULK AT MOST 1048576: true; the input reads as it did. -/
def fnExactQuoteUptoRow : OpenClaim := { program := "ytpjjgdhcidngfaq", sum := "9cac56be0b1e79cbe905250b92d07d0595a5fb4ab0a161e042ab61f156e7de34", func := "loop.example/g00651/laws.FnExactQuote", spec := "fnExactQuote", apart := false, narrowed := true }
def FnExactQuoteUptoSaid : Prop := fnExactQuoteUptoRow.holds Try.pinned (OpenSpec.upto fnExactQuoteSpec)

/-- 'laws.FnExactUnquote', WHERE WHAT IT READS IS OF BULK AT MOST 1048576: true; the input reads as it did. -/
def fnExactUnquoteUptoRow : OpenClaim := { program := "ytpjjgdhcidngfaq", sum := "9cac56be0b1e79cbe905250b92d07d0595a5fb4ab0a161e042ab61f156e7de34", func := "loop.example/g00651/laws.FnExactUnquote", spec := "fnExactUnquote", apart := false, narrowed := true }
def FnExactUnquoteUptoSaid : Prop := fnExactUnquoteUptoRow.holds Try.pinned (OpenSpec.upto fnExactUnquoteSpec)

end Rows
end Go.Proofs.Ytpjjgdhcidngfaq
