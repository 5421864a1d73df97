/-
  NARROWER THAN 'FOR EVERY INPUT', by the rows' own cells (each row's printed sentence says how): FnWiths: laid.
  DERIVED. THE GIVEN ROWS OF THIS SEAT. 1 by the template 'for every input the law returns true; each argument reads behind the call as it read before'; 0 by the template 'total and deterministic' (their statements: YtmhohponikolfaaDoorTotals.lean).
  GIVEN WITH THE SEED: the statements are not yours to turn. If you find one false, say at which input.
  Laid BY PROGRAM, IN A SANDBOX (cutbox-rows.mjs): the forced cells as the released guide's own fill.sh prints them over the translation 2c869f0438475f9f… (all of the seat's roots in one cut). By AI agents, Wed Nov 11 2026. No macro, syntax, notation, axiom, sorry.
-/
import Derived.Test.YtmhohponikolfaaDoorChecked
import GoSem.Claim
import GoSem.ClaimJoined
import GoSem.ClaimMapViews
import Derived.JoinedTies
import Derived.KernelRfl
namespace Go.Proofs.YtmhohponikolfaaDoor
/- THE CELL 'sum', in the pinned program and in every row, IS THE sha256 OF THE DUMP (.gsa) THAT YtmhohponikolfaaDoorProg.lean LOADS. Nothing in Lean hashes anything: it is a label: what it is worth is what the hold of that sum in a sandbox is worth. -/
noncomputable def Tryd.pinned : Pinned := { name := "ytmhohponikolfaadoor", sum := "2c869f0438475f9f9845a6e7b8f3a23b6e60325e2d24f0c50288b8eb2df9dd1b", checked := Tryd.checked }
namespace Rows
def none {H : Type} : Left H := { results := [], args := [] }

/- WHAT THE LISTED PACKAGE-LEVEL VARIABLES READ AS WHEN THE CALL BEGINS. Each datum BY PROGRAM (the guide's laid-datum.mjs) off the statement by which the dump's own 'gosem.cut.vars' lays the variable. In a bare row this is a premise. The card (YtmhohponikolfaaDoorCards.lean) ties it to the program's text. -/
def laid_loop_example_g00651_impl_fixedHopNames {H : Type} : DataW H := .agg [.lit (.string [99, 111, 110, 110, 101, 99, 116, 105, 111, 110]), .lit (.string [107, 101, 101, 112, 45, 97, 108, 105, 118, 101]), .lit (.string [112, 114, 111, 120, 121, 45, 99, 111, 110, 110, 101, 99, 116, 105, 111, 110]), .lit (.string [116, 101]), .lit (.string [116, 114, 97, 105, 108, 101, 114]), .lit (.string [116, 114, 97, 110, 115, 102, 101, 114, 45, 101, 110, 99, 111, 100, 105, 110, 103]), .lit (.string [117, 112, 103, 114, 97, 100, 101])]

/-- 'laws.FnWiths': WHATEVER THE INPUT: true; the input reads as it did. -/
def fnWithsSpec : ChangeSpec := { name := "fnWiths", vars := ["loop.example/g00651/impl.fixedHopNames"], fn := fun _ => fun
  | [d, g1] => { results := [.lit (.bool true)], args := [d], vars := [g1] }
  | _ => none }
def fnWithsRow : OpenClaim := { program := "ytmhohponikolfaadoor", sum := "2c869f0438475f9f9845a6e7b8f3a23b6e60325e2d24f0c50288b8eb2df9dd1b", func := "loop.example/g00651/laws.FnWiths", spec := "fnWiths", inPlace := ["internal/bytealg.IndexByteString", "internal/bytealg.IndexString", "internal/abi.NoEscape", "internal/bytealg.MakeNoZero"], unfollowed := true, recurses := true, named := ["internal/bytealg.MaxLen", "loop.example/g00651/impl.fixedHopNames"], apart := false, laid := [("loop.example/g00651/impl.fixedHopNames", laid_loop_example_g00651_impl_fixedHopNames)] }
def FnWithsSaid : Prop := fnWithsRow.holds Tryd.pinned (OpenSpec.ofChange fnWithsSpec)

/-- ITS FALSE NEIGHBOUR: 'it returns false'. Refute it at one input. -/
def fnWithsWrong : ChangeSpec := { name := "fnWiths", vars := ["loop.example/g00651/impl.fixedHopNames"], fn := fun _ => fun
  | [d, g1] => { results := [.lit (.bool false)], args := [d], vars := [g1] }
  | _ => none }
def FnWithsWrongFalsely : Prop := fnWithsRow.holds Tryd.pinned (OpenSpec.ofChange fnWithsWrong)

/- THE SECOND FORM. 'bulk': how many values and letters a reading holds, each counted each time it is reached (what is shared counts as often as it is met; a slice's spare places count too). A statement '..UptoSaid' is the law's where the arguments, and the package variables that the reading takes, are together of bulk at most 1048576: NARROWER than '..Said'. Prove '..Said' where nothing that the law and all that it calls make is longer than what came in: it says more and counts as full. Else prove '..UptoSaid'. A law counts once. -/
mutual
def uptoBulk {H : Type} : DataW H → Nat
  | .lit (.string bytes) => bytes.length + 1
  | .lit _ => 1
  | .nil => 1
  | .ptr d => uptoBulk d + 1
  | .slice elems spare => uptoBulkAll elems + uptoBulkAll spare + 1
  | .agg parts => uptoBulkAll parts + 1
  | .iface _ d => uptoBulk d + 1
  | .map entries => uptoBulkEntries entries + 1
  | .held _ => 1
def uptoBulkAll {H : Type} : List (DataW H) → Nat
  | [] => 0
  | d :: r => uptoBulk d + uptoBulkAll r
def uptoBulkEntries {H : Type} : List (Lit × DataW H) → Nat
  | [] => 0
  | x :: r => uptoBulkEntry x + uptoBulkEntries r
def uptoBulkEntry {H : Type} : Lit × DataW H → Nat
  | (.string bytes, d) => bytes.length + uptoBulk d + 1
  | (_, d) => uptoBulk d + 1
 end
def uptoSmall : (H : Type) → List (DataW H) → Bool := fun _ ds => decide (uptoBulkAll ds ≤ 1048576)
def OpenSpec.upto (s : _root_.Go.ChangeSpec) : _root_.Go.OpenSpec := { _root_.Go.OpenSpec.ofChange s with cond := some uptoSmall }

/-- 'laws.FnWiths', WHERE WHAT IT READS IS OF BULK AT MOST 1048576: true; the input reads as it did. -/
def fnWithsUptoRow : OpenClaim := { program := "ytmhohponikolfaadoor", sum := "2c869f0438475f9f9845a6e7b8f3a23b6e60325e2d24f0c50288b8eb2df9dd1b", func := "loop.example/g00651/laws.FnWiths", spec := "fnWiths", inPlace := ["internal/bytealg.IndexByteString", "internal/bytealg.IndexString", "internal/abi.NoEscape", "internal/bytealg.MakeNoZero"], unfollowed := true, recurses := true, named := ["internal/bytealg.MaxLen", "loop.example/g00651/impl.fixedHopNames"], apart := false, laid := [("loop.example/g00651/impl.fixedHopNames", laid_loop_example_g00651_impl_fixedHopNames)], narrowed := true }
def FnWithsUptoSaid : Prop := fnWithsUptoRow.holds Tryd.pinned (OpenSpec.upto fnWithsSpec)

end Rows
end Go.Proofs.YtmhohponikolfaaDoor
