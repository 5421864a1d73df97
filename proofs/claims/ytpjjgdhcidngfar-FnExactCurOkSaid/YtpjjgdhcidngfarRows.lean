/-
  No cell of these rows narrows 'for every input' (looked for: loops, veiled, ifaces, maps, wideKeys, modest, calm, conditions, laid).
  DERIVED. THE GIVEN ROWS OF THIS SEAT. 5 by the template 'for every input the law returns true; each argument reads behind the call as it read before'; 0 by the template 'total and deterministic' (their statements: YtpjjgdhcidngfarTotals.lean).
  GIVEN WITH THE SEED: the statements are not yours to turn. If you find one false, say at which input.
  Laid BY PROGRAM, IN A SANDBOX (cutbox-rows.mjs): the forced cells as the released guide's own fill.sh prints them over the translation de37f504642a7f82… (all of the seat's roots in one cut). By AI agents, Wed Nov 11 2026. No macro, syntax, notation, axiom, sorry.
-/
import Derived.Test.YtpjjgdhcidngfarChecked
import GoSem.Claim
import GoSem.ClaimJoined
import GoSem.ClaimMapViews
import Derived.JoinedTies
import Derived.KernelRfl
namespace Go.Proofs.Ytpjjgdhcidngfar
/- THE CELL 'sum', in the pinned program and in every row, IS THE sha256 OF THE DUMP (.gsa) THAT YtpjjgdhcidngfarProg.lean LOADS. Nothing in Lean hashes anything: it is a label: what it is worth is what the hold of that sum in a sandbox is worth. -/
noncomputable def Try.pinned : Pinned := { name := "ytpjjgdhcidngfar", sum := "de37f504642a7f82b9d1afc5fc9f468a778dd1e22bd0b98d82b3cee10b4923da", checked := Try.checked }
namespace Rows
def none {H : Type} : Left H := { results := [], args := [] }

/-- 'laws.FnExactCurOk': WHATEVER THE INPUT: true; the input reads as it did. -/
def fnExactCurOkSpec : ChangeSpec := { name := "fnExactCurOk", fn := fun _ => fun
  | [d] => { results := [.lit (.bool true)], args := [d] }
  | _ => none }
def fnExactCurOkRow : OpenClaim := { program := "ytpjjgdhcidngfar", sum := "de37f504642a7f82b9d1afc5fc9f468a778dd1e22bd0b98d82b3cee10b4923da", func := "loop.example/g00651/laws.FnExactCurOk", spec := "fnExactCurOk", apart := false }
def FnExactCurOkSaid : Prop := fnExactCurOkRow.holds Try.pinned (OpenSpec.ofChange fnExactCurOkSpec)

/-- ITS FALSE NEIGHBOUR: 'it returns false'. Refute it at one input. -/
def fnExactCurOkWrong : ChangeSpec := { name := "fnExactCurOk", fn := fun _ => fun
  | [d] => { results := [.lit (.bool false)], args := [d] }
  | _ => none }
def FnExactCurOkWrongFalsely : Prop := fnExactCurOkRow.holds Try.pinned (OpenSpec.ofChange fnExactCurOkWrong)

/-- 'laws.FnExactTakeLine': WHATEVER THE INPUT: true; the input reads as it did. -/
def fnExactTakeLineSpec : ChangeSpec := { name := "fnExactTakeLine", fn := fun _ => fun
  | [d] => { results := [.lit (.bool true)], args := [d] }
  | _ => none }
def fnExactTakeLineRow : OpenClaim := { program := "ytpjjgdhcidngfar", sum := "de37f504642a7f82b9d1afc5fc9f468a778dd1e22bd0b98d82b3cee10b4923da", func := "loop.example/g00651/laws.FnExactTakeLine", spec := "fnExactTakeLine", apart := false }
def FnExactTakeLineSaid : Prop := fnExactTakeLineRow.holds Try.pinned (OpenSpec.ofChange fnExactTakeLineSpec)

/-- ITS FALSE NEIGHBOUR: 'it returns false'. Refute it at one input. -/
def fnExactTakeLineWrong : ChangeSpec := { name := "fnExactTakeLine", fn := fun _ => fun
  | [d] => { results := [.lit (.bool false)], args := [d] }
  | _ => none }
def FnExactTakeLineWrongFalsely : Prop := fnExactTakeLineRow.holds Try.pinned (OpenSpec.ofChange fnExactTakeLineWrong)

/-- 'laws.FnExactTakeN': WHATEVER THE INPUT: true; the input reads as it did. -/
def fnExactTakeNSpec : ChangeSpec := { name := "fnExactTakeN", fn := fun _ => fun
  | [d1, d2] => { results := [.lit (.bool true)], args := [d1, d2] }
  | _ => none }
def fnExactTakeNRow : OpenClaim := { program := "ytpjjgdhcidngfar", sum := "de37f504642a7f82b9d1afc5fc9f468a778dd1e22bd0b98d82b3cee10b4923da", func := "loop.example/g00651/laws.FnExactTakeN", spec := "fnExactTakeN", apart := false }
def FnExactTakeNSaid : Prop := fnExactTakeNRow.holds Try.pinned (OpenSpec.ofChange fnExactTakeNSpec)

/-- ITS FALSE NEIGHBOUR: 'it returns false'. Refute it at one input. -/
def fnExactTakeNWrong : ChangeSpec := { name := "fnExactTakeN", fn := fun _ => fun
  | [d1, d2] => { results := [.lit (.bool false)], args := [d1, d2] }
  | _ => none }
def FnExactTakeNWrongFalsely : Prop := fnExactTakeNRow.holds Try.pinned (OpenSpec.ofChange fnExactTakeNWrong)

/-- 'laws.FnExactCivilOk': WHATEVER THE INPUT: true; the input reads as it did. -/
def fnExactCivilOkSpec : ChangeSpec := { name := "fnExactCivilOk", fn := fun _ => fun
  | [d] => { results := [.lit (.bool true)], args := [d] }
  | _ => none }
def fnExactCivilOkRow : OpenClaim := { program := "ytpjjgdhcidngfar", sum := "de37f504642a7f82b9d1afc5fc9f468a778dd1e22bd0b98d82b3cee10b4923da", func := "loop.example/g00651/laws.FnExactCivilOk", spec := "fnExactCivilOk", apart := false }
def FnExactCivilOkSaid : Prop := fnExactCivilOkRow.holds Try.pinned (OpenSpec.ofChange fnExactCivilOkSpec)

/-- ITS FALSE NEIGHBOUR: 'it returns false'. Refute it at one input. -/
def fnExactCivilOkWrong : ChangeSpec := { name := "fnExactCivilOk", fn := fun _ => fun
  | [d] => { results := [.lit (.bool false)], args := [d] }
  | _ => none }
def FnExactCivilOkWrongFalsely : Prop := fnExactCivilOkRow.holds Try.pinned (OpenSpec.ofChange fnExactCivilOkWrong)

/-- 'laws.FnExactSecondsOf': WHATEVER THE INPUT: true; the input reads as it did. -/
def fnExactSecondsOfSpec : ChangeSpec := { name := "fnExactSecondsOf", fn := fun _ => fun
  | [d] => { results := [.lit (.bool true)], args := [d] }
  | _ => none }
def fnExactSecondsOfRow : OpenClaim := { program := "ytpjjgdhcidngfar", sum := "de37f504642a7f82b9d1afc5fc9f468a778dd1e22bd0b98d82b3cee10b4923da", func := "loop.example/g00651/laws.FnExactSecondsOf", spec := "fnExactSecondsOf", apart := false }
def FnExactSecondsOfSaid : Prop := fnExactSecondsOfRow.holds Try.pinned (OpenSpec.ofChange fnExactSecondsOfSpec)

/-- ITS FALSE NEIGHBOUR: 'it returns false'. Refute it at one input. -/
def fnExactSecondsOfWrong : ChangeSpec := { name := "fnExactSecondsOf", fn := fun _ => fun
  | [d] => { results := [.lit (.bool false)], args := [d] }
  | _ => none }
def FnExactSecondsOfWrongFalsely : Prop := fnExactSecondsOfRow.holds Try.pinned (OpenSpec.ofChange fnExactSecondsOfWrong)

/- THE SECOND FORM. 'bulk': how many values and letters a reading holds, each counted each time it is reached (what is shared counts as often as it is met; a slice's spare places count too). A statement '..UptoSaid' is the law's where the arguments, and the package variables that the reading takes, are together of bulk at most 1048576: NARROWER than '..Said'. Prove '..Said' where nothing that the law and all that it calls make is longer than what came in: it says more and counts as full. Else prove '..UptoSaid'. A law counts once. -/
mutual
def uptoBulk {H : Type} : DataW H → Nat
  | .lit (.string bytes) => bytes.length + 1
  | .lit _ => 1
  | .nil => 1
  | .ptr d => uptoBulk d + 1
  | .slice elems spare => uptoBulkAll elems + uptoBulkAll spare + 1
  | .agg parts => uptoBulkAll parts + 1
  | .iface _ d => uptoBulk d + 1
  | .map entries => uptoBulkEntries entries + 1
  | .held _ => 1
def uptoBulkAll {H : Type} : List (DataW H) → Nat
  | [] => 0
  | d :: r => uptoBulk d + uptoBulkAll r
def uptoBulkEntries {H : Type} : List (Lit × DataW H) → Nat
  | [] => 0
  | x :: r => uptoBulkEntry x + uptoBulkEntries r
def uptoBulkEntry {H : Type} : Lit × DataW H → Nat
  | (.string bytes, d) => bytes.length + uptoBulk d + 1
  | (_, d) => uptoBulk d + 1
 end
def uptoSmall : (H : Type) → List (DataW H) → Bool := fun _ ds => decide (uptoBulkAll ds ≤ 1048576)
def OpenSpec.upto (s : _root_.Go.ChangeSpec) : _root_.Go.OpenSpec := { _root_.Go.OpenSpec.ofChange s with cond := some uptoSmall }

/-- 'laws.FnExactCurOk', WHERE WHAT IT READS IS OF BULK AT MOST 1048576: true; the input reads as it did. -/
def fnExactCurOkUptoRow : OpenClaim := { program := "ytpjjgdhcidngfar", sum := "de37f504642a7f82b9d1afc5fc9f468a778dd1e22bd0b98d82b3cee10b4923da", func := "loop.example/g00651/laws.FnExactCurOk", spec := "fnExactCurOk", apart := false, narrowed := true }
def FnExactCurOkUptoSaid : Prop := fnExactCurOkUptoRow.holds Try.pinned (OpenSpec.upto fnExactCurOkSpec)

/-- 'laws.FnExactTakeLine', WHERE WHAT IT READS IS OF BULK AT MOST 1048576: true; the input reads as it did. -/
def fnExactTakeLineUptoRow : OpenClaim := { program := "ytpjjgdhcidngfar", sum := "de37f504642a7f82b9d1afc5fc9f468a778dd1e22bd0b98d82b3cee10b4923da", func := "loop.example/g00651/laws.FnExactTakeLine", spec := "fnExactTakeLine", apart := false, narrowed := true }
def FnExactTakeLineUptoSaid : Prop := fnExactTakeLineUptoRow.holds Try.pinned (OpenSpec.upto fnExactTakeLineSpec)

/-- 'laws.FnExactTakeN', WHERE WHAT IT READS IS OF BULK AT MOST 1048576: true; the input reads as it did. -/
def fnExactTakeNUptoRow : OpenClaim := { program := "ytpjjgdhcidngfar", sum := "de37f504642a7f82b9d1afc5fc9f468a778dd1e22bd0b98d82b3cee10b4923da", func := "loop.example/g00651/laws.FnExactTakeN", spec := "fnExactTakeN", apart := false, narrowed := true }
def FnExactTakeNUptoSaid : Prop := fnExactTakeNUptoRow.holds Try.pinned (OpenSpec.upto fnExactTakeNSpec)

/-- 'laws.FnExactCivilOk', WHERE WHAT IT READS IS OF BULK AT MOST 1048576: true; the input reads as it did. -/
def fnExactCivilOkUptoRow : OpenClaim := { program := "ytpjjgdhcidngfar", sum := "de37f504642a7f82b9d1afc5fc9f468a778dd1e22bd0b98d82b3cee10b4923da", func := "loop.example/g00651/laws.FnExactCivilOk", spec := "fnExactCivilOk", apart := false, narrowed := true }
def FnExactCivilOkUptoSaid : Prop := fnExactCivilOkUptoRow.holds Try.pinned (OpenSpec.upto fnExactCivilOkSpec)

/-- 'laws.FnExactSecondsOf', WHERE WHAT IT READS IS OF BULK AT MOST 1048576: true; the input reads as it did. -/
def fnExactSecondsOfUptoRow : OpenClaim := { program := "ytpjjgdhcidngfar", sum := "de37f504642a7f82b9d1afc5fc9f468a778dd1e22bd0b98d82b3cee10b4923da", func := "loop.example/g00651/laws.FnExactSecondsOf", spec := "fnExactSecondsOf", apart := false, narrowed := true }
def FnExactSecondsOfUptoSaid : Prop := fnExactSecondsOfUptoRow.holds Try.pinned (OpenSpec.upto fnExactSecondsOfSpec)

end Rows
end Go.Proofs.Ytpjjgdhcidngfar
