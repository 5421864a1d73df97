/-
  NARROWER THAN 'FOR EVERY INPUT', by the rows' own cells (each row's printed sentence says how): FnExactSecondsOf: laid · FnExactCivilOf: laid · FnExactHttpDate: laid · FnExactLongDate: laid · FnExactLineDate: laid.
  DERIVED. THE GIVEN ROWS OF THIS SEAT. 5 by the template 'for every input the law returns true; each argument reads behind the call as it read before'; 0 by the template 'total and deterministic' (their statements: YtohaghlhdkfkbabDoorTotals.lean).
  GIVEN WITH THE SEED: the statements are not yours to turn. If you find one false, say at which input.
  Laid BY PROGRAM, IN A SANDBOX (cutbox-rows.mjs): the forced cells as the released guide's own fill.sh prints them over the translation 4b652ed8f2642959… (all of the seat's roots in one cut). By AI agents, Wed Nov 11 2026. No macro, syntax, notation, axiom, sorry.
-/
import Derived.Test.YtohaghlhdkfkbabDoorChecked
import GoSem.Claim
import GoSem.ClaimJoined
import GoSem.ClaimMapViews
import Derived.JoinedTies
import Derived.KernelRfl
namespace Go.Proofs.YtohaghlhdkfkbabDoor
/- THE CELL 'sum', in the pinned program and in every row, IS THE sha256 OF THE DUMP (.gsa) THAT YtohaghlhdkfkbabDoorProg.lean LOADS. Nothing in Lean hashes anything: it is a label: what it is worth is what the hold of that sum in a sandbox is worth. -/
noncomputable def Tryd.pinned : Pinned := { name := "ytohaghlhdkfkbabdoor", sum := "4b652ed8f264295955f714febd7285e921cfa78eedd21b7c8224e9c11c9279ca", checked := Tryd.checked }
namespace Rows
def none {H : Type} : Left H := { results := [], args := [] }

/- WHAT THE LISTED PACKAGE-LEVEL VARIABLES READ AS WHEN THE CALL BEGINS. Each datum BY PROGRAM (the guide's laid-datum.mjs) off the statement by which the dump's own 'gosem.cut.vars' lays the variable. In a bare row this is a premise. The card (YtohaghlhdkfkbabDoorCards.lean) ties it to the program's text. -/
def laid_loop_example_g00651_impl_monthLengths {H : Type} : DataW H := .agg [.lit (.int .i64 0), .lit (.int .i64 31), .lit (.int .i64 28), .lit (.int .i64 31), .lit (.int .i64 30), .lit (.int .i64 31), .lit (.int .i64 30), .lit (.int .i64 31), .lit (.int .i64 31), .lit (.int .i64 30), .lit (.int .i64 31), .lit (.int .i64 30), .lit (.int .i64 31)]
def laid_loop_example_g00651_impl_dayNames {H : Type} : DataW H := .agg [.lit (.string [77, 111, 110, 100, 97, 121]), .lit (.string [84, 117, 101, 115, 100, 97, 121]), .lit (.string [87, 101, 100, 110, 101, 115, 100, 97, 121]), .lit (.string [84, 104, 117, 114, 115, 100, 97, 121]), .lit (.string [70, 114, 105, 100, 97, 121]), .lit (.string [83, 97, 116, 117, 114, 100, 97, 121]), .lit (.string [83, 117, 110, 100, 97, 121])]
def laid_loop_example_g00651_impl_monthNames {H : Type} : DataW H := .agg [.lit (.string []), .lit (.string [74, 97, 110]), .lit (.string [70, 101, 98]), .lit (.string [77, 97, 114]), .lit (.string [65, 112, 114]), .lit (.string [77, 97, 121]), .lit (.string [74, 117, 110]), .lit (.string [74, 117, 108]), .lit (.string [65, 117, 103]), .lit (.string [83, 101, 112]), .lit (.string [79, 99, 116]), .lit (.string [78, 111, 118]), .lit (.string [68, 101, 99])]

/-- 'laws.FnExactSecondsOf': WHATEVER THE INPUT: true; the input reads as it did. -/
def fnExactSecondsOfSpec : ChangeSpec := { name := "fnExactSecondsOf", vars := ["loop.example/g00651/impl.monthLengths"], fn := fun _ => fun
  | [d, g1] => { results := [.lit (.bool true)], args := [d], vars := [g1] }
  | _ => none }
def fnExactSecondsOfRow : OpenClaim := { program := "ytohaghlhdkfkbabdoor", sum := "4b652ed8f264295955f714febd7285e921cfa78eedd21b7c8224e9c11c9279ca", func := "loop.example/g00651/laws.FnExactSecondsOf", spec := "fnExactSecondsOf", named := ["loop.example/g00651/impl.monthLengths"], apart := false, laid := [("loop.example/g00651/impl.monthLengths", laid_loop_example_g00651_impl_monthLengths)] }
def FnExactSecondsOfSaid : Prop := fnExactSecondsOfRow.holds Tryd.pinned (OpenSpec.ofChange fnExactSecondsOfSpec)

/-- ITS FALSE NEIGHBOUR: 'it returns false'. Refute it at one input. -/
def fnExactSecondsOfWrong : ChangeSpec := { name := "fnExactSecondsOf", vars := ["loop.example/g00651/impl.monthLengths"], fn := fun _ => fun
  | [d, g1] => { results := [.lit (.bool false)], args := [d], vars := [g1] }
  | _ => none }
def FnExactSecondsOfWrongFalsely : Prop := fnExactSecondsOfRow.holds Tryd.pinned (OpenSpec.ofChange fnExactSecondsOfWrong)

/-- 'laws.FnExactCivilOf': WHATEVER THE INPUT: true; the input reads as it did. -/
def fnExactCivilOfSpec : ChangeSpec := { name := "fnExactCivilOf", vars := ["loop.example/g00651/impl.monthLengths"], fn := fun _ => fun
  | [d, g1] => { results := [.lit (.bool true)], args := [d], vars := [g1] }
  | _ => none }
def fnExactCivilOfRow : OpenClaim := { program := "ytohaghlhdkfkbabdoor", sum := "4b652ed8f264295955f714febd7285e921cfa78eedd21b7c8224e9c11c9279ca", func := "loop.example/g00651/laws.FnExactCivilOf", spec := "fnExactCivilOf", named := ["loop.example/g00651/impl.monthLengths"], apart := false, laid := [("loop.example/g00651/impl.monthLengths", laid_loop_example_g00651_impl_monthLengths)] }
def FnExactCivilOfSaid : Prop := fnExactCivilOfRow.holds Tryd.pinned (OpenSpec.ofChange fnExactCivilOfSpec)

/-- ITS FALSE NEIGHBOUR: 'it returns false'. Refute it at one input. -/
def fnExactCivilOfWrong : ChangeSpec := { name := "fnExactCivilOf", vars := ["loop.example/g00651/impl.monthLengths"], fn := fun _ => fun
  | [d, g1] => { results := [.lit (.bool false)], args := [d], vars := [g1] }
  | _ => none }
def FnExactCivilOfWrongFalsely : Prop := fnExactCivilOfRow.holds Tryd.pinned (OpenSpec.ofChange fnExactCivilOfWrong)

/-- 'laws.FnExactHttpDate': WHATEVER THE INPUT: true; the input reads as it did. -/
def fnExactHttpDateSpec : ChangeSpec := { name := "fnExactHttpDate", vars := ["loop.example/g00651/impl.monthNames", "loop.example/g00651/impl.monthLengths", "loop.example/g00651/impl.dayNames"], fn := fun _ => fun
  | [d, g1, g2, g3] => { results := [.lit (.bool true)], args := [d], vars := [g1, g2, g3] }
  | _ => none }
def fnExactHttpDateRow : OpenClaim := { program := "ytohaghlhdkfkbabdoor", sum := "4b652ed8f264295955f714febd7285e921cfa78eedd21b7c8224e9c11c9279ca", func := "loop.example/g00651/laws.FnExactHttpDate", spec := "fnExactHttpDate", recurses := true, named := ["loop.example/g00651/impl.monthNames", "loop.example/g00651/impl.monthLengths", "loop.example/g00651/impl.dayNames"], apart := false, laid := [("loop.example/g00651/impl.dayNames", laid_loop_example_g00651_impl_dayNames), ("loop.example/g00651/impl.monthNames", laid_loop_example_g00651_impl_monthNames), ("loop.example/g00651/impl.monthLengths", laid_loop_example_g00651_impl_monthLengths)] }
def FnExactHttpDateSaid : Prop := fnExactHttpDateRow.holds Tryd.pinned (OpenSpec.ofChange fnExactHttpDateSpec)

/-- ITS FALSE NEIGHBOUR: 'it returns false'. Refute it at one input. -/
def fnExactHttpDateWrong : ChangeSpec := { name := "fnExactHttpDate", vars := ["loop.example/g00651/impl.monthNames", "loop.example/g00651/impl.monthLengths", "loop.example/g00651/impl.dayNames"], fn := fun _ => fun
  | [d, g1, g2, g3] => { results := [.lit (.bool false)], args := [d], vars := [g1, g2, g3] }
  | _ => none }
def FnExactHttpDateWrongFalsely : Prop := fnExactHttpDateRow.holds Tryd.pinned (OpenSpec.ofChange fnExactHttpDateWrong)

/-- 'laws.FnExactLongDate': WHATEVER THE INPUT: true; the input reads as it did. -/
def fnExactLongDateSpec : ChangeSpec := { name := "fnExactLongDate", vars := ["loop.example/g00651/impl.dayNames", "loop.example/g00651/impl.monthNames", "loop.example/g00651/impl.monthLengths"], fn := fun _ => fun
  | [d, g1, g2, g3] => { results := [.lit (.bool true)], args := [d], vars := [g1, g2, g3] }
  | _ => none }
def fnExactLongDateRow : OpenClaim := { program := "ytohaghlhdkfkbabdoor", sum := "4b652ed8f264295955f714febd7285e921cfa78eedd21b7c8224e9c11c9279ca", func := "loop.example/g00651/laws.FnExactLongDate", spec := "fnExactLongDate", recurses := true, named := ["loop.example/g00651/impl.dayNames", "loop.example/g00651/impl.monthNames", "loop.example/g00651/impl.monthLengths"], apart := false, laid := [("loop.example/g00651/impl.dayNames", laid_loop_example_g00651_impl_dayNames), ("loop.example/g00651/impl.monthNames", laid_loop_example_g00651_impl_monthNames), ("loop.example/g00651/impl.monthLengths", laid_loop_example_g00651_impl_monthLengths)] }
def FnExactLongDateSaid : Prop := fnExactLongDateRow.holds Tryd.pinned (OpenSpec.ofChange fnExactLongDateSpec)

/-- ITS FALSE NEIGHBOUR: 'it returns false'. Refute it at one input. -/
def fnExactLongDateWrong : ChangeSpec := { name := "fnExactLongDate", vars := ["loop.example/g00651/impl.dayNames", "loop.example/g00651/impl.monthNames", "loop.example/g00651/impl.monthLengths"], fn := fun _ => fun
  | [d, g1, g2, g3] => { results := [.lit (.bool false)], args := [d], vars := [g1, g2, g3] }
  | _ => none }
def FnExactLongDateWrongFalsely : Prop := fnExactLongDateRow.holds Tryd.pinned (OpenSpec.ofChange fnExactLongDateWrong)

/-- 'laws.FnExactLineDate': WHATEVER THE INPUT: true; the input reads as it did. -/
def fnExactLineDateSpec : ChangeSpec := { name := "fnExactLineDate", vars := ["loop.example/g00651/impl.monthNames", "loop.example/g00651/impl.monthLengths", "loop.example/g00651/impl.dayNames"], fn := fun _ => fun
  | [d, g1, g2, g3] => { results := [.lit (.bool true)], args := [d], vars := [g1, g2, g3] }
  | _ => none }
def fnExactLineDateRow : OpenClaim := { program := "ytohaghlhdkfkbabdoor", sum := "4b652ed8f264295955f714febd7285e921cfa78eedd21b7c8224e9c11c9279ca", func := "loop.example/g00651/laws.FnExactLineDate", spec := "fnExactLineDate", recurses := true, named := ["loop.example/g00651/impl.monthNames", "loop.example/g00651/impl.monthLengths", "loop.example/g00651/impl.dayNames"], apart := false, laid := [("loop.example/g00651/impl.dayNames", laid_loop_example_g00651_impl_dayNames), ("loop.example/g00651/impl.monthNames", laid_loop_example_g00651_impl_monthNames), ("loop.example/g00651/impl.monthLengths", laid_loop_example_g00651_impl_monthLengths)] }
def FnExactLineDateSaid : Prop := fnExactLineDateRow.holds Tryd.pinned (OpenSpec.ofChange fnExactLineDateSpec)

/-- ITS FALSE NEIGHBOUR: 'it returns false'. Refute it at one input. -/
def fnExactLineDateWrong : ChangeSpec := { name := "fnExactLineDate", vars := ["loop.example/g00651/impl.monthNames", "loop.example/g00651/impl.monthLengths", "loop.example/g00651/impl.dayNames"], fn := fun _ => fun
  | [d, g1, g2, g3] => { results := [.lit (.bool false)], args := [d], vars := [g1, g2, g3] }
  | _ => none }
def FnExactLineDateWrongFalsely : Prop := fnExactLineDateRow.holds Tryd.pinned (OpenSpec.ofChange fnExactLineDateWrong)

/- THE SECOND FORM. 'bulk': how many values and letters a reading holds, each counted each time it is reached (what is shared counts as often as it is met; a slice's spare places count too). A statement '..UptoSaid' is the law's where the arguments, and the package variables that the reading takes, are together of bulk at most 1048576: NARROWER than '..Said'. Prove '..Said' where nothing that the law and all that it calls make is longer than what came in: it says more and counts as full. Else prove '..UptoSaid'. A law counts once. -/
mutual
def uptoBulk {H : Type} : DataW H → Nat
  | .lit (.string bytes) => bytes.length + 1
  | .lit _ => 1
  | .nil => 1
  | .ptr d => uptoBulk d + 1
  | .slice elems spare => uptoBulkAll elems + uptoBulkAll spare + 1
  | .agg parts => uptoBulkAll parts + 1
  | .iface _ d => uptoBulk d + 1
  | .map entries => uptoBulkEntries entries + 1
  | .held _ => 1
def uptoBulkAll {H : Type} : List (DataW H) → Nat
  | [] => 0
  | d :: r => uptoBulk d + uptoBulkAll r
def uptoBulkEntries {H : Type} : List (Lit × DataW H) → Nat
  | [] => 0
  | x :: r => uptoBulkEntry x + uptoBulkEntries r
def uptoBulkEntry {H : Type} : Lit × DataW H → Nat
  | (.string bytes, d) => bytes.length + uptoBulk d + 1
  | (_, d) => uptoBulk d + 1
 end
def uptoSmall : (H : Type) → List (DataW H) → Bool := fun _ ds => decide (uptoBulkAll ds ≤ 1048576)
def OpenSpec.upto (s : _root_.Go.ChangeSpec) : _root_.Go.OpenSpec := { _root_.Go.OpenSpec.ofChange s with cond := some uptoSmall }

/-- 'laws.FnExactSecondsOf', WHERE WHAT IT READS IS OF BULK AT MOST 1048576: true; the input reads as it did. -/
def fnExactSecondsOfUptoRow : OpenClaim := { program := "ytohaghlhdkfkbabdoor", sum := "4b652ed8f264295955f714febd7285e921cfa78eedd21b7c8224e9c11c9279ca", func := "loop.example/g00651/laws.FnExactSecondsOf", spec := "fnExactSecondsOf", named := ["loop.example/g00651/impl.monthLengths"], apart := false, laid := [("loop.example/g00651/impl.monthLengths", laid_loop_example_g00651_impl_monthLengths)], narrowed := true }
def FnExactSecondsOfUptoSaid : Prop := fnExactSecondsOfUptoRow.holds Tryd.pinned (OpenSpec.upto fnExactSecondsOfSpec)

/-- 'laws.FnExactCivilOf', WHERE WHAT IT READS IS OF BULK AT MOST 1048576: true; the input reads as it did. -/
def fnExactCivilOfUptoRow : OpenClaim := { program := "ytohaghlhdkfkbabdoor", sum := "4b652ed8f264295955f714febd7285e921cfa78eedd21b7c8224e9c11c9279ca", func := "loop.example/g00651/laws.FnExactCivilOf", spec := "fnExactCivilOf", named := ["loop.example/g00651/impl.monthLengths"], apart := false, laid := [("loop.example/g00651/impl.monthLengths", laid_loop_example_g00651_impl_monthLengths)], narrowed := true }
def FnExactCivilOfUptoSaid : Prop := fnExactCivilOfUptoRow.holds Tryd.pinned (OpenSpec.upto fnExactCivilOfSpec)

/-- 'laws.FnExactHttpDate', WHERE WHAT IT READS IS OF BULK AT MOST 1048576: true; the input reads as it did. -/
def fnExactHttpDateUptoRow : OpenClaim := { program := "ytohaghlhdkfkbabdoor", sum := "4b652ed8f264295955f714febd7285e921cfa78eedd21b7c8224e9c11c9279ca", func := "loop.example/g00651/laws.FnExactHttpDate", spec := "fnExactHttpDate", recurses := true, named := ["loop.example/g00651/impl.monthNames", "loop.example/g00651/impl.monthLengths", "loop.example/g00651/impl.dayNames"], apart := false, laid := [("loop.example/g00651/impl.dayNames", laid_loop_example_g00651_impl_dayNames), ("loop.example/g00651/impl.monthNames", laid_loop_example_g00651_impl_monthNames), ("loop.example/g00651/impl.monthLengths", laid_loop_example_g00651_impl_monthLengths)], narrowed := true }
def FnExactHttpDateUptoSaid : Prop := fnExactHttpDateUptoRow.holds Tryd.pinned (OpenSpec.upto fnExactHttpDateSpec)

/-- 'laws.FnExactLongDate', WHERE WHAT IT READS IS OF BULK AT MOST 1048576: true; the input reads as it did. -/
def fnExactLongDateUptoRow : OpenClaim := { program := "ytohaghlhdkfkbabdoor", sum := "4b652ed8f264295955f714febd7285e921cfa78eedd21b7c8224e9c11c9279ca", func := "loop.example/g00651/laws.FnExactLongDate", spec := "fnExactLongDate", recurses := true, named := ["loop.example/g00651/impl.dayNames", "loop.example/g00651/impl.monthNames", "loop.example/g00651/impl.monthLengths"], apart := false, laid := [("loop.example/g00651/impl.dayNames", laid_loop_example_g00651_impl_dayNames), ("loop.example/g00651/impl.monthNames", laid_loop_example_g00651_impl_monthNames), ("loop.example/g00651/impl.monthLengths", laid_loop_example_g00651_impl_monthLengths)], narrowed := true }
def FnExactLongDateUptoSaid : Prop := fnExactLongDateUptoRow.holds Tryd.pinned (OpenSpec.upto fnExactLongDateSpec)

/-- 'laws.FnExactLineDate', WHERE WHAT IT READS IS OF BULK AT MOST 1048576: true; the input reads as it did. -/
def fnExactLineDateUptoRow : OpenClaim := { program := "ytohaghlhdkfkbabdoor", sum := "4b652ed8f264295955f714febd7285e921cfa78eedd21b7c8224e9c11c9279ca", func := "loop.example/g00651/laws.FnExactLineDate", spec := "fnExactLineDate", recurses := true, named := ["loop.example/g00651/impl.monthNames", "loop.example/g00651/impl.monthLengths", "loop.example/g00651/impl.dayNames"], apart := false, laid := [("loop.example/g00651/impl.dayNames", laid_loop_example_g00651_impl_dayNames), ("loop.example/g00651/impl.monthNames", laid_loop_example_g00651_impl_monthNames), ("loop.example/g00651/impl.monthLengths", laid_loop_example_g00651_impl_monthLengths)], narrowed := true }
def FnExactLineDateUptoSaid : Prop := fnExactLineDateUptoRow.holds Tryd.pinned (OpenSpec.upto fnExactLineDateSpec)

end Rows
end Go.Proofs.YtohaghlhdkfkbabDoor
