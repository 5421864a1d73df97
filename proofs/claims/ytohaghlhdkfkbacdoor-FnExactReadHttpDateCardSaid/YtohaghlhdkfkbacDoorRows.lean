/-
  NARROWER THAN 'FOR EVERY INPUT', by the rows' own cells (each row's printed sentence says how): FnExactReadHttpDate: laid · FnExactWarcDate: laid · FnExactReadWarcDate: laid · FnExactStamp: laid · FnExactReadStamp: laid.
  DERIVED. THE GIVEN ROWS OF THIS SEAT. 5 by the template 'for every input the law returns true; each argument reads behind the call as it read before'; 0 by the template 'total and deterministic' (their statements: YtohaghlhdkfkbacDoorTotals.lean).
  GIVEN WITH THE SEED: the statements are not yours to turn. If you find one false, say at which input.
  Laid BY PROGRAM, IN A SANDBOX (cutbox-rows.mjs): the forced cells as the released guide's own fill.sh prints them over the translation f2b981094cd90035… (all of the seat's roots in one cut). By AI agents, Wed Nov 11 2026. No macro, syntax, notation, axiom, sorry.
-/
import Derived.Test.YtohaghlhdkfkbacDoorChecked
import GoSem.Claim
import GoSem.ClaimJoined
import GoSem.ClaimMapViews
import Derived.JoinedTies
import Derived.KernelRfl
namespace Go.Proofs.YtohaghlhdkfkbacDoor
/- THE CELL 'sum', in the pinned program and in every row, IS THE sha256 OF THE DUMP (.gsa) THAT YtohaghlhdkfkbacDoorProg.lean LOADS. Nothing in Lean hashes anything: it is a label: what it is worth is what the hold of that sum in a sandbox is worth. -/
noncomputable def Tryd.pinned : Pinned := { name := "ytohaghlhdkfkbacdoor", sum := "f2b981094cd900350b37dcef1ab6914c894a2e69b76348d1cbbc4bba0c1214b0", checked := Tryd.checked }
namespace Rows
def none {H : Type} : Left H := { results := [], args := [] }

/- WHAT THE LISTED PACKAGE-LEVEL VARIABLES READ AS WHEN THE CALL BEGINS. Each datum BY PROGRAM (the guide's laid-datum.mjs) off the statement by which the dump's own 'gosem.cut.vars' lays the variable. In a bare row this is a premise. The card (YtohaghlhdkfkbacDoorCards.lean) ties it to the program's text. -/
def laid_loop_example_g00651_impl_dayNames {H : Type} : DataW H := .agg [.lit (.string [77, 111, 110, 100, 97, 121]), .lit (.string [84, 117, 101, 115, 100, 97, 121]), .lit (.string [87, 101, 100, 110, 101, 115, 100, 97, 121]), .lit (.string [84, 104, 117, 114, 115, 100, 97, 121]), .lit (.string [70, 114, 105, 100, 97, 121]), .lit (.string [83, 97, 116, 117, 114, 100, 97, 121]), .lit (.string [83, 117, 110, 100, 97, 121])]
def laid_loop_example_g00651_impl_monthNames {H : Type} : DataW H := .agg [.lit (.string []), .lit (.string [74, 97, 110]), .lit (.string [70, 101, 98]), .lit (.string [77, 97, 114]), .lit (.string [65, 112, 114]), .lit (.string [77, 97, 121]), .lit (.string [74, 117, 110]), .lit (.string [74, 117, 108]), .lit (.string [65, 117, 103]), .lit (.string [83, 101, 112]), .lit (.string [79, 99, 116]), .lit (.string [78, 111, 118]), .lit (.string [68, 101, 99])]
def laid_loop_example_g00651_impl_monthLengths {H : Type} : DataW H := .agg [.lit (.int .i64 0), .lit (.int .i64 31), .lit (.int .i64 28), .lit (.int .i64 31), .lit (.int .i64 30), .lit (.int .i64 31), .lit (.int .i64 30), .lit (.int .i64 31), .lit (.int .i64 31), .lit (.int .i64 30), .lit (.int .i64 31), .lit (.int .i64 30), .lit (.int .i64 31)]

/-- 'laws.FnExactReadHttpDate': WHATEVER THE INPUT: true; the input reads as it did. -/
def fnExactReadHttpDateSpec : ChangeSpec := { name := "fnExactReadHttpDate", vars := ["loop.example/g00651/impl.monthNames", "loop.example/g00651/impl.monthLengths", "loop.example/g00651/impl.dayNames"], fn := fun _ => fun
  | [d, g1, g2, g3] => { results := [.lit (.bool true)], args := [d], vars := [g1, g2, g3] }
  | _ => none }
def fnExactReadHttpDateRow : OpenClaim := { program := "ytohaghlhdkfkbacdoor", sum := "f2b981094cd900350b37dcef1ab6914c894a2e69b76348d1cbbc4bba0c1214b0", func := "loop.example/g00651/laws.FnExactReadHttpDate", spec := "fnExactReadHttpDate", unfollowed := true, recurses := true, named := ["loop.example/g00651/impl.monthNames", "loop.example/g00651/impl.monthLengths", "loop.example/g00651/impl.dayNames"], apart := false, laid := [("loop.example/g00651/impl.dayNames", laid_loop_example_g00651_impl_dayNames), ("loop.example/g00651/impl.monthNames", laid_loop_example_g00651_impl_monthNames), ("loop.example/g00651/impl.monthLengths", laid_loop_example_g00651_impl_monthLengths)] }
def FnExactReadHttpDateSaid : Prop := fnExactReadHttpDateRow.holds Tryd.pinned (OpenSpec.ofChange fnExactReadHttpDateSpec)

/-- ITS FALSE NEIGHBOUR: 'it returns false'. Refute it at one input. -/
def fnExactReadHttpDateWrong : ChangeSpec := { name := "fnExactReadHttpDate", vars := ["loop.example/g00651/impl.monthNames", "loop.example/g00651/impl.monthLengths", "loop.example/g00651/impl.dayNames"], fn := fun _ => fun
  | [d, g1, g2, g3] => { results := [.lit (.bool false)], args := [d], vars := [g1, g2, g3] }
  | _ => none }
def FnExactReadHttpDateWrongFalsely : Prop := fnExactReadHttpDateRow.holds Tryd.pinned (OpenSpec.ofChange fnExactReadHttpDateWrong)

/-- 'laws.FnExactWarcDate': WHATEVER THE INPUT: true; the input reads as it did. -/
def fnExactWarcDateSpec : ChangeSpec := { name := "fnExactWarcDate", vars := ["loop.example/g00651/impl.monthLengths"], fn := fun _ => fun
  | [d, g1] => { results := [.lit (.bool true)], args := [d], vars := [g1] }
  | _ => none }
def fnExactWarcDateRow : OpenClaim := { program := "ytohaghlhdkfkbacdoor", sum := "f2b981094cd900350b37dcef1ab6914c894a2e69b76348d1cbbc4bba0c1214b0", func := "loop.example/g00651/laws.FnExactWarcDate", spec := "fnExactWarcDate", recurses := true, named := ["loop.example/g00651/impl.monthLengths"], apart := false, laid := [("loop.example/g00651/impl.monthLengths", laid_loop_example_g00651_impl_monthLengths)] }
def FnExactWarcDateSaid : Prop := fnExactWarcDateRow.holds Tryd.pinned (OpenSpec.ofChange fnExactWarcDateSpec)

/-- ITS FALSE NEIGHBOUR: 'it returns false'. Refute it at one input. -/
def fnExactWarcDateWrong : ChangeSpec := { name := "fnExactWarcDate", vars := ["loop.example/g00651/impl.monthLengths"], fn := fun _ => fun
  | [d, g1] => { results := [.lit (.bool false)], args := [d], vars := [g1] }
  | _ => none }
def FnExactWarcDateWrongFalsely : Prop := fnExactWarcDateRow.holds Tryd.pinned (OpenSpec.ofChange fnExactWarcDateWrong)

/-- 'laws.FnExactReadWarcDate': WHATEVER THE INPUT: true; the input reads as it did. -/
def fnExactReadWarcDateSpec : ChangeSpec := { name := "fnExactReadWarcDate", vars := ["loop.example/g00651/impl.monthLengths"], fn := fun _ => fun
  | [d, g1] => { results := [.lit (.bool true)], args := [d], vars := [g1] }
  | _ => none }
def fnExactReadWarcDateRow : OpenClaim := { program := "ytohaghlhdkfkbacdoor", sum := "f2b981094cd900350b37dcef1ab6914c894a2e69b76348d1cbbc4bba0c1214b0", func := "loop.example/g00651/laws.FnExactReadWarcDate", spec := "fnExactReadWarcDate", unfollowed := true, recurses := true, named := ["loop.example/g00651/impl.monthLengths"], apart := false, laid := [("loop.example/g00651/impl.monthLengths", laid_loop_example_g00651_impl_monthLengths)] }
def FnExactReadWarcDateSaid : Prop := fnExactReadWarcDateRow.holds Tryd.pinned (OpenSpec.ofChange fnExactReadWarcDateSpec)

/-- ITS FALSE NEIGHBOUR: 'it returns false'. Refute it at one input. -/
def fnExactReadWarcDateWrong : ChangeSpec := { name := "fnExactReadWarcDate", vars := ["loop.example/g00651/impl.monthLengths"], fn := fun _ => fun
  | [d, g1] => { results := [.lit (.bool false)], args := [d], vars := [g1] }
  | _ => none }
def FnExactReadWarcDateWrongFalsely : Prop := fnExactReadWarcDateRow.holds Tryd.pinned (OpenSpec.ofChange fnExactReadWarcDateWrong)

/-- 'laws.FnExactStamp': WHATEVER THE INPUT: true; the input reads as it did. -/
def fnExactStampSpec : ChangeSpec := { name := "fnExactStamp", vars := ["loop.example/g00651/impl.monthLengths"], fn := fun _ => fun
  | [d, g1] => { results := [.lit (.bool true)], args := [d], vars := [g1] }
  | _ => none }
def fnExactStampRow : OpenClaim := { program := "ytohaghlhdkfkbacdoor", sum := "f2b981094cd900350b37dcef1ab6914c894a2e69b76348d1cbbc4bba0c1214b0", func := "loop.example/g00651/laws.FnExactStamp", spec := "fnExactStamp", recurses := true, named := ["loop.example/g00651/impl.monthLengths"], apart := false, laid := [("loop.example/g00651/impl.monthLengths", laid_loop_example_g00651_impl_monthLengths)] }
def FnExactStampSaid : Prop := fnExactStampRow.holds Tryd.pinned (OpenSpec.ofChange fnExactStampSpec)

/-- ITS FALSE NEIGHBOUR: 'it returns false'. Refute it at one input. -/
def fnExactStampWrong : ChangeSpec := { name := "fnExactStamp", vars := ["loop.example/g00651/impl.monthLengths"], fn := fun _ => fun
  | [d, g1] => { results := [.lit (.bool false)], args := [d], vars := [g1] }
  | _ => none }
def FnExactStampWrongFalsely : Prop := fnExactStampRow.holds Tryd.pinned (OpenSpec.ofChange fnExactStampWrong)

/-- 'laws.FnExactReadStamp': WHATEVER THE INPUT: true; the input reads as it did. -/
def fnExactReadStampSpec : ChangeSpec := { name := "fnExactReadStamp", vars := ["loop.example/g00651/impl.monthLengths"], fn := fun _ => fun
  | [d, g1] => { results := [.lit (.bool true)], args := [d], vars := [g1] }
  | _ => none }
def fnExactReadStampRow : OpenClaim := { program := "ytohaghlhdkfkbacdoor", sum := "f2b981094cd900350b37dcef1ab6914c894a2e69b76348d1cbbc4bba0c1214b0", func := "loop.example/g00651/laws.FnExactReadStamp", spec := "fnExactReadStamp", unfollowed := true, recurses := true, named := ["loop.example/g00651/impl.monthLengths"], apart := false, laid := [("loop.example/g00651/impl.monthLengths", laid_loop_example_g00651_impl_monthLengths)] }
def FnExactReadStampSaid : Prop := fnExactReadStampRow.holds Tryd.pinned (OpenSpec.ofChange fnExactReadStampSpec)

/-- ITS FALSE NEIGHBOUR: 'it returns false'. Refute it at one input. -/
def fnExactReadStampWrong : ChangeSpec := { name := "fnExactReadStamp", vars := ["loop.example/g00651/impl.monthLengths"], fn := fun _ => fun
  | [d, g1] => { results := [.lit (.bool false)], args := [d], vars := [g1] }
  | _ => none }
def FnExactReadStampWrongFalsely : Prop := fnExactReadStampRow.holds Tryd.pinned (OpenSpec.ofChange fnExactReadStampWrong)

/- THE SECOND FORM. 'bulk': how many values and letters a reading holds, each counted each time it is reached (what is shared counts as often as it is met; a slice's spare places count too). A statement '..UptoSaid' is the law's where the arguments, and the package variables that the reading takes, are together of bulk at most 1048576: NARROWER than '..Said'. Prove '..Said' where nothing that the law and all that it calls make is longer than what came in: it says more and counts as full. Else prove '..UptoSaid'. A law counts once. -/
mutual
def uptoBulk {H : Type} : DataW H → Nat
  | .lit (.string bytes) => bytes.length + 1
  | .lit _ => 1
  | .nil => 1
  | .ptr d => uptoBulk d + 1
  | .slice elems spare => uptoBulkAll elems + uptoBulkAll spare + 1
  | .agg parts => uptoBulkAll parts + 1
  | .iface _ d => uptoBulk d + 1
  | .map entries => uptoBulkEntries entries + 1
  | .held _ => 1
def uptoBulkAll {H : Type} : List (DataW H) → Nat
  | [] => 0
  | d :: r => uptoBulk d + uptoBulkAll r
def uptoBulkEntries {H : Type} : List (Lit × DataW H) → Nat
  | [] => 0
  | x :: r => uptoBulkEntry x + uptoBulkEntries r
def uptoBulkEntry {H : Type} : Lit × DataW H → Nat
  | (.string bytes, d) => bytes.length + uptoBulk d + 1
  | (_, d) => uptoBulk d + 1
 end
def uptoSmall : (H : Type) → List (DataW H) → Bool := fun _ ds => decide (uptoBulkAll ds ≤ 1048576)
def OpenSpec.upto (s : _root_.Go.ChangeSpec) : _root_.Go.OpenSpec := { _root_.Go.OpenSpec.ofChange s with cond := some uptoSmall }

/-- 'laws.FnExactReadHttpDate', WHERE WHAT IT READS IS OF BULK AT MOST 1048576: true; the input reads as it did. -/
def fnExactReadHttpDateUptoRow : OpenClaim := { program := "ytohaghlhdkfkbacdoor", sum := "f2b981094cd900350b37dcef1ab6914c894a2e69b76348d1cbbc4bba0c1214b0", func := "loop.example/g00651/laws.FnExactReadHttpDate", spec := "fnExactReadHttpDate", unfollowed := true, recurses := true, named := ["loop.example/g00651/impl.monthNames", "loop.example/g00651/impl.monthLengths", "loop.example/g00651/impl.dayNames"], apart := false, laid := [("loop.example/g00651/impl.dayNames", laid_loop_example_g00651_impl_dayNames), ("loop.example/g00651/impl.monthNames", laid_loop_example_g00651_impl_monthNames), ("loop.example/g00651/impl.monthLengths", laid_loop_example_g00651_impl_monthLengths)], narrowed := true }
def FnExactReadHttpDateUptoSaid : Prop := fnExactReadHttpDateUptoRow.holds Tryd.pinned (OpenSpec.upto fnExactReadHttpDateSpec)

/-- 'laws.FnExactWarcDate', WHERE WHAT IT READS IS OF BULK AT MOST 1048576: true; the input reads as it did. -/
def fnExactWarcDateUptoRow : OpenClaim := { program := "ytohaghlhdkfkbacdoor", sum := "f2b981094cd900350b37dcef1ab6914c894a2e69b76348d1cbbc4bba0c1214b0", func := "loop.example/g00651/laws.FnExactWarcDate", spec := "fnExactWarcDate", recurses := true, named := ["loop.example/g00651/impl.monthLengths"], apart := false, laid := [("loop.example/g00651/impl.monthLengths", laid_loop_example_g00651_impl_monthLengths)], narrowed := true }
def FnExactWarcDateUptoSaid : Prop := fnExactWarcDateUptoRow.holds Tryd.pinned (OpenSpec.upto fnExactWarcDateSpec)

/-- 'laws.FnExactReadWarcDate', WHERE WHAT IT READS IS OF BULK AT MOST 1048576: true; the input reads as it did. -/
def fnExactReadWarcDateUptoRow : OpenClaim := { program := "ytohaghlhdkfkbacdoor", sum := "f2b981094cd900350b37dcef1ab6914c894a2e69b76348d1cbbc4bba0c1214b0", func := "loop.example/g00651/laws.FnExactReadWarcDate", spec := "fnExactReadWarcDate", unfollowed := true, recurses := true, named := ["loop.example/g00651/impl.monthLengths"], apart := false, laid := [("loop.example/g00651/impl.monthLengths", laid_loop_example_g00651_impl_monthLengths)], narrowed := true }
def FnExactReadWarcDateUptoSaid : Prop := fnExactReadWarcDateUptoRow.holds Tryd.pinned (OpenSpec.upto fnExactReadWarcDateSpec)

/-- 'laws.FnExactStamp', WHERE WHAT IT READS IS OF BULK AT MOST 1048576: true; the input reads as it did. -/
def fnExactStampUptoRow : OpenClaim := { program := "ytohaghlhdkfkbacdoor", sum := "f2b981094cd900350b37dcef1ab6914c894a2e69b76348d1cbbc4bba0c1214b0", func := "loop.example/g00651/laws.FnExactStamp", spec := "fnExactStamp", recurses := true, named := ["loop.example/g00651/impl.monthLengths"], apart := false, laid := [("loop.example/g00651/impl.monthLengths", laid_loop_example_g00651_impl_monthLengths)], narrowed := true }
def FnExactStampUptoSaid : Prop := fnExactStampUptoRow.holds Tryd.pinned (OpenSpec.upto fnExactStampSpec)

/-- 'laws.FnExactReadStamp', WHERE WHAT IT READS IS OF BULK AT MOST 1048576: true; the input reads as it did. -/
def fnExactReadStampUptoRow : OpenClaim := { program := "ytohaghlhdkfkbacdoor", sum := "f2b981094cd900350b37dcef1ab6914c894a2e69b76348d1cbbc4bba0c1214b0", func := "loop.example/g00651/laws.FnExactReadStamp", spec := "fnExactReadStamp", unfollowed := true, recurses := true, named := ["loop.example/g00651/impl.monthLengths"], apart := false, laid := [("loop.example/g00651/impl.monthLengths", laid_loop_example_g00651_impl_monthLengths)], narrowed := true }
def FnExactReadStampUptoSaid : Prop := fnExactReadStampUptoRow.holds Tryd.pinned (OpenSpec.upto fnExactReadStampSpec)

end Rows
end Go.Proofs.YtohaghlhdkfkbacDoor
