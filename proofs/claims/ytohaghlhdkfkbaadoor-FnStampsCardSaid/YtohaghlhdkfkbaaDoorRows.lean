/-
  NARROWER THAN 'FOR EVERY INPUT', by the rows' own cells (each row's printed sentence says how): FnHexes: laid · FnDates: laid · FnCivils: laid · FnStamps: laid · FnExactHexText: laid · FnExactCivilOk: laid.
  DERIVED. THE GIVEN ROWS OF THIS SEAT. 6 by the template 'for every input the law returns true; each argument reads behind the call as it read before'; 0 by the template 'total and deterministic' (their statements: YtohaghlhdkfkbaaDoorTotals.lean).
  GIVEN WITH THE SEED: the statements are not yours to turn. If you find one false, say at which input.
  Laid BY PROGRAM, IN A SANDBOX (cutbox-rows.mjs): the forced cells as the released guide's own fill.sh prints them over the translation c274ff133a85e3b6… (all of the seat's roots in one cut). By AI agents, Wed Nov 11 2026. No macro, syntax, notation, axiom, sorry.
-/
import Derived.Test.YtohaghlhdkfkbaaDoorChecked
import GoSem.Claim
import GoSem.ClaimJoined
import GoSem.ClaimMapViews
import Derived.JoinedTies
import Derived.KernelRfl
namespace Go.Proofs.YtohaghlhdkfkbaaDoor
/- THE CELL 'sum', in the pinned program and in every row, IS THE sha256 OF THE DUMP (.gsa) THAT YtohaghlhdkfkbaaDoorProg.lean LOADS. Nothing in Lean hashes anything: it is a label: what it is worth is what the hold of that sum in a sandbox is worth. -/
noncomputable def Tryd.pinned : Pinned := { name := "ytohaghlhdkfkbaadoor", sum := "c274ff133a85e3b6d9735175588f8f175c115891d1a9183d5de155c87077546d", checked := Tryd.checked }
namespace Rows
def none {H : Type} : Left H := { results := [], args := [] }

/- WHAT THE LISTED PACKAGE-LEVEL VARIABLES READ AS WHEN THE CALL BEGINS. Each datum BY PROGRAM (the guide's laid-datum.mjs) off the statement by which the dump's own 'gosem.cut.vars' lays the variable. In a bare row this is a premise. The card (YtohaghlhdkfkbaaDoorCards.lean) ties it to the program's text. -/
def laid_math_bits_deBruijn32tab {H : Type} : DataW H := .agg [.lit (.int .u8 0), .lit (.int .u8 1), .lit (.int .u8 28), .lit (.int .u8 2), .lit (.int .u8 29), .lit (.int .u8 14), .lit (.int .u8 24), .lit (.int .u8 3), .lit (.int .u8 30), .lit (.int .u8 22), .lit (.int .u8 20), .lit (.int .u8 15), .lit (.int .u8 25), .lit (.int .u8 17), .lit (.int .u8 4), .lit (.int .u8 8), .lit (.int .u8 31), .lit (.int .u8 27), .lit (.int .u8 13), .lit (.int .u8 23), .lit (.int .u8 21), .lit (.int .u8 19), .lit (.int .u8 16), .lit (.int .u8 7), .lit (.int .u8 26), .lit (.int .u8 12), .lit (.int .u8 18), .lit (.int .u8 6), .lit (.int .u8 11), .lit (.int .u8 5), .lit (.int .u8 10), .lit (.int .u8 9)]
def laid_math_bits_deBruijn64tab {H : Type} : DataW H := .agg [.lit (.int .u8 0), .lit (.int .u8 1), .lit (.int .u8 56), .lit (.int .u8 2), .lit (.int .u8 57), .lit (.int .u8 49), .lit (.int .u8 28), .lit (.int .u8 3), .lit (.int .u8 61), .lit (.int .u8 58), .lit (.int .u8 42), .lit (.int .u8 50), .lit (.int .u8 38), .lit (.int .u8 29), .lit (.int .u8 17), .lit (.int .u8 4), .lit (.int .u8 62), .lit (.int .u8 47), .lit (.int .u8 59), .lit (.int .u8 36), .lit (.int .u8 45), .lit (.int .u8 43), .lit (.int .u8 51), .lit (.int .u8 22), .lit (.int .u8 53), .lit (.int .u8 39), .lit (.int .u8 33), .lit (.int .u8 30), .lit (.int .u8 24), .lit (.int .u8 18), .lit (.int .u8 12), .lit (.int .u8 5), .lit (.int .u8 63), .lit (.int .u8 55), .lit (.int .u8 48), .lit (.int .u8 27), .lit (.int .u8 60), .lit (.int .u8 41), .lit (.int .u8 37), .lit (.int .u8 16), .lit (.int .u8 46), .lit (.int .u8 35), .lit (.int .u8 44), .lit (.int .u8 21), .lit (.int .u8 52), .lit (.int .u8 32), .lit (.int .u8 23), .lit (.int .u8 11), .lit (.int .u8 54), .lit (.int .u8 26), .lit (.int .u8 40), .lit (.int .u8 15), .lit (.int .u8 34), .lit (.int .u8 20), .lit (.int .u8 31), .lit (.int .u8 10), .lit (.int .u8 25), .lit (.int .u8 14), .lit (.int .u8 19), .lit (.int .u8 9), .lit (.int .u8 13), .lit (.int .u8 8), .lit (.int .u8 7), .lit (.int .u8 6)]
def laid_internal_strconv_uint64pow10 {H : Type} : DataW H := .agg [.lit (.int .u64 1), .lit (.int .u64 10), .lit (.int .u64 100), .lit (.int .u64 1000), .lit (.int .u64 10000), .lit (.int .u64 100000), .lit (.int .u64 1000000), .lit (.int .u64 10000000), .lit (.int .u64 100000000), .lit (.int .u64 1000000000), .lit (.int .u64 10000000000), .lit (.int .u64 100000000000), .lit (.int .u64 1000000000000), .lit (.int .u64 10000000000000), .lit (.int .u64 100000000000000), .lit (.int .u64 1000000000000000), .lit (.int .u64 10000000000000000), .lit (.int .u64 100000000000000000), .lit (.int .u64 1000000000000000000), .lit (.int .u64 10000000000000000000)]
def laid_loop_example_g00651_impl_dayNames {H : Type} : DataW H := .agg [.lit (.string [77, 111, 110, 100, 97, 121]), .lit (.string [84, 117, 101, 115, 100, 97, 121]), .lit (.string [87, 101, 100, 110, 101, 115, 100, 97, 121]), .lit (.string [84, 104, 117, 114, 115, 100, 97, 121]), .lit (.string [70, 114, 105, 100, 97, 121]), .lit (.string [83, 97, 116, 117, 114, 100, 97, 121]), .lit (.string [83, 117, 110, 100, 97, 121])]
def laid_loop_example_g00651_impl_monthNames {H : Type} : DataW H := .agg [.lit (.string []), .lit (.string [74, 97, 110]), .lit (.string [70, 101, 98]), .lit (.string [77, 97, 114]), .lit (.string [65, 112, 114]), .lit (.string [77, 97, 121]), .lit (.string [74, 117, 110]), .lit (.string [74, 117, 108]), .lit (.string [65, 117, 103]), .lit (.string [83, 101, 112]), .lit (.string [79, 99, 116]), .lit (.string [78, 111, 118]), .lit (.string [68, 101, 99])]
def laid_loop_example_g00651_impl_monthLengths {H : Type} : DataW H := .agg [.lit (.int .i64 0), .lit (.int .i64 31), .lit (.int .i64 28), .lit (.int .i64 31), .lit (.int .i64 30), .lit (.int .i64 31), .lit (.int .i64 30), .lit (.int .i64 31), .lit (.int .i64 31), .lit (.int .i64 30), .lit (.int .i64 31), .lit (.int .i64 30), .lit (.int .i64 31)]

/-- 'laws.FnHexes': WHATEVER THE INPUT: true; the input reads as it did. -/
def fnHexesSpec : ChangeSpec := { name := "fnHexes", fn := fun _ => fun
  | [d] => { results := [.lit (.bool true)], args := [d] }
  | _ => none }
def fnHexesRow : OpenClaim := { program := "ytohaghlhdkfkbaadoor", sum := "c274ff133a85e3b6d9735175588f8f175c115891d1a9183d5de155c87077546d", func := "loop.example/g00651/laws.FnHexes", spec := "fnHexes", named := ["internal/strconv.uint64pow10", "math/bits.deBruijn32tab", "math/bits.deBruijn64tab"], apart := false, laid := [("math/bits.deBruijn32tab", laid_math_bits_deBruijn32tab), ("math/bits.deBruijn64tab", laid_math_bits_deBruijn64tab), ("internal/strconv.uint64pow10", laid_internal_strconv_uint64pow10)] }
def FnHexesSaid : Prop := fnHexesRow.holds Tryd.pinned (OpenSpec.ofChange fnHexesSpec)

/-- ITS FALSE NEIGHBOUR: 'it returns false'. Refute it at one input. -/
def fnHexesWrong : ChangeSpec := { name := "fnHexes", fn := fun _ => fun
  | [d] => { results := [.lit (.bool false)], args := [d] }
  | _ => none }
def FnHexesWrongFalsely : Prop := fnHexesRow.holds Tryd.pinned (OpenSpec.ofChange fnHexesWrong)

/-- 'laws.FnDates': WHATEVER THE INPUT: true; the input reads as it did. -/
def fnDatesSpec : ChangeSpec := { name := "fnDates", vars := ["loop.example/g00651/impl.monthNames", "loop.example/g00651/impl.monthLengths", "loop.example/g00651/impl.dayNames"], fn := fun _ => fun
  | [d, g1, g2, g3] => { results := [.lit (.bool true)], args := [d], vars := [g1, g2, g3] }
  | _ => none }
def fnDatesRow : OpenClaim := { program := "ytohaghlhdkfkbaadoor", sum := "c274ff133a85e3b6d9735175588f8f175c115891d1a9183d5de155c87077546d", func := "loop.example/g00651/laws.FnDates", spec := "fnDates", unfollowed := true, recurses := true, named := ["loop.example/g00651/impl.monthNames", "loop.example/g00651/impl.monthLengths", "loop.example/g00651/impl.dayNames"], apart := false, laid := [("loop.example/g00651/impl.dayNames", laid_loop_example_g00651_impl_dayNames), ("loop.example/g00651/impl.monthNames", laid_loop_example_g00651_impl_monthNames), ("loop.example/g00651/impl.monthLengths", laid_loop_example_g00651_impl_monthLengths)] }
def FnDatesSaid : Prop := fnDatesRow.holds Tryd.pinned (OpenSpec.ofChange fnDatesSpec)

/-- ITS FALSE NEIGHBOUR: 'it returns false'. Refute it at one input. -/
def fnDatesWrong : ChangeSpec := { name := "fnDates", vars := ["loop.example/g00651/impl.monthNames", "loop.example/g00651/impl.monthLengths", "loop.example/g00651/impl.dayNames"], fn := fun _ => fun
  | [d, g1, g2, g3] => { results := [.lit (.bool false)], args := [d], vars := [g1, g2, g3] }
  | _ => none }
def FnDatesWrongFalsely : Prop := fnDatesRow.holds Tryd.pinned (OpenSpec.ofChange fnDatesWrong)

/-- 'laws.FnCivils': WHATEVER THE INPUT: true; the input reads as it did. -/
def fnCivilsSpec : ChangeSpec := { name := "fnCivils", vars := ["loop.example/g00651/impl.monthLengths", "loop.example/g00651/impl.monthNames", "loop.example/g00651/impl.dayNames"], fn := fun _ => fun
  | [d, g1, g2, g3] => { results := [.lit (.bool true)], args := [d], vars := [g1, g2, g3] }
  | _ => none }
def fnCivilsRow : OpenClaim := { program := "ytohaghlhdkfkbaadoor", sum := "c274ff133a85e3b6d9735175588f8f175c115891d1a9183d5de155c87077546d", func := "loop.example/g00651/laws.FnCivils", spec := "fnCivils", named := ["loop.example/g00651/impl.monthLengths", "loop.example/g00651/impl.monthNames", "loop.example/g00651/impl.dayNames"], apart := false, laid := [("loop.example/g00651/impl.dayNames", laid_loop_example_g00651_impl_dayNames), ("loop.example/g00651/impl.monthNames", laid_loop_example_g00651_impl_monthNames), ("loop.example/g00651/impl.monthLengths", laid_loop_example_g00651_impl_monthLengths)] }
def FnCivilsSaid : Prop := fnCivilsRow.holds Tryd.pinned (OpenSpec.ofChange fnCivilsSpec)

/-- ITS FALSE NEIGHBOUR: 'it returns false'. Refute it at one input. -/
def fnCivilsWrong : ChangeSpec := { name := "fnCivils", vars := ["loop.example/g00651/impl.monthLengths", "loop.example/g00651/impl.monthNames", "loop.example/g00651/impl.dayNames"], fn := fun _ => fun
  | [d, g1, g2, g3] => { results := [.lit (.bool false)], args := [d], vars := [g1, g2, g3] }
  | _ => none }
def FnCivilsWrongFalsely : Prop := fnCivilsRow.holds Tryd.pinned (OpenSpec.ofChange fnCivilsWrong)

/-- 'laws.FnStamps': WHATEVER THE INPUT: true; the input reads as it did. -/
def fnStampsSpec : ChangeSpec := { name := "fnStamps", vars := ["loop.example/g00651/impl.monthNames", "loop.example/g00651/impl.monthLengths", "loop.example/g00651/impl.dayNames"], fn := fun _ => fun
  | [d, g1, g2, g3] => { results := [.lit (.bool true)], args := [d], vars := [g1, g2, g3] }
  | _ => none }
def fnStampsRow : OpenClaim := { program := "ytohaghlhdkfkbaadoor", sum := "c274ff133a85e3b6d9735175588f8f175c115891d1a9183d5de155c87077546d", func := "loop.example/g00651/laws.FnStamps", spec := "fnStamps", named := ["loop.example/g00651/impl.monthNames", "loop.example/g00651/impl.monthLengths", "loop.example/g00651/impl.dayNames"], apart := false, laid := [("loop.example/g00651/impl.dayNames", laid_loop_example_g00651_impl_dayNames), ("loop.example/g00651/impl.monthNames", laid_loop_example_g00651_impl_monthNames), ("loop.example/g00651/impl.monthLengths", laid_loop_example_g00651_impl_monthLengths)] }
def FnStampsSaid : Prop := fnStampsRow.holds Tryd.pinned (OpenSpec.ofChange fnStampsSpec)

/-- ITS FALSE NEIGHBOUR: 'it returns false'. Refute it at one input. -/
def fnStampsWrong : ChangeSpec := { name := "fnStamps", vars := ["loop.example/g00651/impl.monthNames", "loop.example/g00651/impl.monthLengths", "loop.example/g00651/impl.dayNames"], fn := fun _ => fun
  | [d, g1, g2, g3] => { results := [.lit (.bool false)], args := [d], vars := [g1, g2, g3] }
  | _ => none }
def FnStampsWrongFalsely : Prop := fnStampsRow.holds Tryd.pinned (OpenSpec.ofChange fnStampsWrong)

/-- 'laws.FnExactHexText': WHATEVER THE INPUT: true; the input reads as it did. -/
def fnExactHexTextSpec : ChangeSpec := { name := "fnExactHexText", fn := fun _ => fun
  | [d] => { results := [.lit (.bool true)], args := [d] }
  | _ => none }
def fnExactHexTextRow : OpenClaim := { program := "ytohaghlhdkfkbaadoor", sum := "c274ff133a85e3b6d9735175588f8f175c115891d1a9183d5de155c87077546d", func := "loop.example/g00651/laws.FnExactHexText", spec := "fnExactHexText", recurses := true, named := ["internal/strconv.uint64pow10", "math/bits.deBruijn32tab", "math/bits.deBruijn64tab"], apart := false, laid := [("math/bits.deBruijn32tab", laid_math_bits_deBruijn32tab), ("math/bits.deBruijn64tab", laid_math_bits_deBruijn64tab), ("internal/strconv.uint64pow10", laid_internal_strconv_uint64pow10)] }
def FnExactHexTextSaid : Prop := fnExactHexTextRow.holds Tryd.pinned (OpenSpec.ofChange fnExactHexTextSpec)

/-- ITS FALSE NEIGHBOUR: 'it returns false'. Refute it at one input. -/
def fnExactHexTextWrong : ChangeSpec := { name := "fnExactHexText", fn := fun _ => fun
  | [d] => { results := [.lit (.bool false)], args := [d] }
  | _ => none }
def FnExactHexTextWrongFalsely : Prop := fnExactHexTextRow.holds Tryd.pinned (OpenSpec.ofChange fnExactHexTextWrong)

/-- 'laws.FnExactCivilOk': WHATEVER THE INPUT: true; the input reads as it did. -/
def fnExactCivilOkSpec : ChangeSpec := { name := "fnExactCivilOk", vars := ["loop.example/g00651/impl.monthLengths"], fn := fun _ => fun
  | [d, g1] => { results := [.lit (.bool true)], args := [d], vars := [g1] }
  | _ => none }
def fnExactCivilOkRow : OpenClaim := { program := "ytohaghlhdkfkbaadoor", sum := "c274ff133a85e3b6d9735175588f8f175c115891d1a9183d5de155c87077546d", func := "loop.example/g00651/laws.FnExactCivilOk", spec := "fnExactCivilOk", named := ["loop.example/g00651/impl.monthLengths"], apart := false, laid := [("loop.example/g00651/impl.monthLengths", laid_loop_example_g00651_impl_monthLengths)] }
def FnExactCivilOkSaid : Prop := fnExactCivilOkRow.holds Tryd.pinned (OpenSpec.ofChange fnExactCivilOkSpec)

/-- ITS FALSE NEIGHBOUR: 'it returns false'. Refute it at one input. -/
def fnExactCivilOkWrong : ChangeSpec := { name := "fnExactCivilOk", vars := ["loop.example/g00651/impl.monthLengths"], fn := fun _ => fun
  | [d, g1] => { results := [.lit (.bool false)], args := [d], vars := [g1] }
  | _ => none }
def FnExactCivilOkWrongFalsely : Prop := fnExactCivilOkRow.holds Tryd.pinned (OpenSpec.ofChange fnExactCivilOkWrong)

/- THE SECOND FORM. 'bulk': how many values and letters a reading holds, each counted each time it is reached (what is shared counts as often as it is met; a slice's spare places count too). A statement '..UptoSaid' is the law's where the arguments, and the package variables that the reading takes, are together of bulk at most 1048576: NARROWER than '..Said'. Prove '..Said' where nothing that the law and all that it calls make is longer than what came in: it says more and counts as full. Else prove '..UptoSaid'. A law counts once. -/
mutual
def uptoBulk {H : Type} : DataW H → Nat
  | .lit (.string bytes) => bytes.length + 1
  | .lit _ => 1
  | .nil => 1
  | .ptr d => uptoBulk d + 1
  | .slice elems spare => uptoBulkAll elems + uptoBulkAll spare + 1
  | .agg parts => uptoBulkAll parts + 1
  | .iface _ d => uptoBulk d + 1
  | .map entries => uptoBulkEntries entries + 1
  | .held _ => 1
def uptoBulkAll {H : Type} : List (DataW H) → Nat
  | [] => 0
  | d :: r => uptoBulk d + uptoBulkAll r
def uptoBulkEntries {H : Type} : List (Lit × DataW H) → Nat
  | [] => 0
  | x :: r => uptoBulkEntry x + uptoBulkEntries r
def uptoBulkEntry {H : Type} : Lit × DataW H → Nat
  | (.string bytes, d) => bytes.length + uptoBulk d + 1
  | (_, d) => uptoBulk d + 1
 end
def uptoSmall : (H : Type) → List (DataW H) → Bool := fun _ ds => decide (uptoBulkAll ds ≤ 1048576)
def OpenSpec.upto (s : _root_.Go.ChangeSpec) : _root_.Go.OpenSpec := { _root_.Go.OpenSpec.ofChange s with cond := some uptoSmall }

/-- 'laws.FnHexes', WHERE WHAT IT READS IS OF BULK AT MOST 1048576: true; the input reads as it did. -/
def fnHexesUptoRow : OpenClaim := { program := "ytohaghlhdkfkbaadoor", sum := "c274ff133a85e3b6d9735175588f8f175c115891d1a9183d5de155c87077546d", func := "loop.example/g00651/laws.FnHexes", spec := "fnHexes", named := ["internal/strconv.uint64pow10", "math/bits.deBruijn32tab", "math/bits.deBruijn64tab"], apart := false, laid := [("math/bits.deBruijn32tab", laid_math_bits_deBruijn32tab), ("math/bits.deBruijn64tab", laid_math_bits_deBruijn64tab), ("internal/strconv.uint64pow10", laid_internal_strconv_uint64pow10)], narrowed := true }
def FnHexesUptoSaid : Prop := fnHexesUptoRow.holds Tryd.pinned (OpenSpec.upto fnHexesSpec)

/-- 'laws.FnDates', WHERE WHAT IT READS IS OF BULK AT MOST 1048576: true; the input reads as it did. -/
def fnDatesUptoRow : OpenClaim := { program := "ytohaghlhdkfkbaadoor", sum := "c274ff133a85e3b6d9735175588f8f175c115891d1a9183d5de155c87077546d", func := "loop.example/g00651/laws.FnDates", spec := "fnDates", unfollowed := true, recurses := true, named := ["loop.example/g00651/impl.monthNames", "loop.example/g00651/impl.monthLengths", "loop.example/g00651/impl.dayNames"], apart := false, laid := [("loop.example/g00651/impl.dayNames", laid_loop_example_g00651_impl_dayNames), ("loop.example/g00651/impl.monthNames", laid_loop_example_g00651_impl_monthNames), ("loop.example/g00651/impl.monthLengths", laid_loop_example_g00651_impl_monthLengths)], narrowed := true }
def FnDatesUptoSaid : Prop := fnDatesUptoRow.holds Tryd.pinned (OpenSpec.upto fnDatesSpec)

/-- 'laws.FnCivils', WHERE WHAT IT READS IS OF BULK AT MOST 1048576: true; the input reads as it did. -/
def fnCivilsUptoRow : OpenClaim := { program := "ytohaghlhdkfkbaadoor", sum := "c274ff133a85e3b6d9735175588f8f175c115891d1a9183d5de155c87077546d", func := "loop.example/g00651/laws.FnCivils", spec := "fnCivils", named := ["loop.example/g00651/impl.monthLengths", "loop.example/g00651/impl.monthNames", "loop.example/g00651/impl.dayNames"], apart := false, laid := [("loop.example/g00651/impl.dayNames", laid_loop_example_g00651_impl_dayNames), ("loop.example/g00651/impl.monthNames", laid_loop_example_g00651_impl_monthNames), ("loop.example/g00651/impl.monthLengths", laid_loop_example_g00651_impl_monthLengths)], narrowed := true }
def FnCivilsUptoSaid : Prop := fnCivilsUptoRow.holds Tryd.pinned (OpenSpec.upto fnCivilsSpec)

/-- 'laws.FnStamps', WHERE WHAT IT READS IS OF BULK AT MOST 1048576: true; the input reads as it did. -/
def fnStampsUptoRow : OpenClaim := { program := "ytohaghlhdkfkbaadoor", sum := "c274ff133a85e3b6d9735175588f8f175c115891d1a9183d5de155c87077546d", func := "loop.example/g00651/laws.FnStamps", spec := "fnStamps", named := ["loop.example/g00651/impl.monthNames", "loop.example/g00651/impl.monthLengths", "loop.example/g00651/impl.dayNames"], apart := false, laid := [("loop.example/g00651/impl.dayNames", laid_loop_example_g00651_impl_dayNames), ("loop.example/g00651/impl.monthNames", laid_loop_example_g00651_impl_monthNames), ("loop.example/g00651/impl.monthLengths", laid_loop_example_g00651_impl_monthLengths)], narrowed := true }
def FnStampsUptoSaid : Prop := fnStampsUptoRow.holds Tryd.pinned (OpenSpec.upto fnStampsSpec)

/-- 'laws.FnExactHexText', WHERE WHAT IT READS IS OF BULK AT MOST 1048576: true; the input reads as it did. -/
def fnExactHexTextUptoRow : OpenClaim := { program := "ytohaghlhdkfkbaadoor", sum := "c274ff133a85e3b6d9735175588f8f175c115891d1a9183d5de155c87077546d", func := "loop.example/g00651/laws.FnExactHexText", spec := "fnExactHexText", recurses := true, named := ["internal/strconv.uint64pow10", "math/bits.deBruijn32tab", "math/bits.deBruijn64tab"], apart := false, laid := [("math/bits.deBruijn32tab", laid_math_bits_deBruijn32tab), ("math/bits.deBruijn64tab", laid_math_bits_deBruijn64tab), ("internal/strconv.uint64pow10", laid_internal_strconv_uint64pow10)], narrowed := true }
def FnExactHexTextUptoSaid : Prop := fnExactHexTextUptoRow.holds Tryd.pinned (OpenSpec.upto fnExactHexTextSpec)

/-- 'laws.FnExactCivilOk', WHERE WHAT IT READS IS OF BULK AT MOST 1048576: true; the input reads as it did. -/
def fnExactCivilOkUptoRow : OpenClaim := { program := "ytohaghlhdkfkbaadoor", sum := "c274ff133a85e3b6d9735175588f8f175c115891d1a9183d5de155c87077546d", func := "loop.example/g00651/laws.FnExactCivilOk", spec := "fnExactCivilOk", named := ["loop.example/g00651/impl.monthLengths"], apart := false, laid := [("loop.example/g00651/impl.monthLengths", laid_loop_example_g00651_impl_monthLengths)], narrowed := true }
def FnExactCivilOkUptoSaid : Prop := fnExactCivilOkUptoRow.holds Tryd.pinned (OpenSpec.upto fnExactCivilOkSpec)

end Rows
end Go.Proofs.YtohaghlhdkfkbaaDoor
