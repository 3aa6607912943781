/-
  NARROWER THAN 'FOR EVERY INPUT', by the rows' own cells (each row's printed sentence says how): ExpectTables: laid · ExpectLegs: laid · ExpectReaches: laid · ExpectReach: laid · DependCovers: laid · DependRests: laid · DependAverages: laid · DependGrids: laid · DependCurves: laid · DependUnasked: laid.
  DERIVED. THE GIVEN ROWS OF THIS SEAT. 10 by the template 'for every input the law returns true; each argument reads behind the call as it read before'; 0 by the template 'total and deterministic' (their statements: YtgddiimnpliolaaGreatDoorTotals.lean).
  GIVEN WITH THE SEED: the statements are not yours to turn. If you find one false, say at which input.
  Laid BY PROGRAM, IN A SANDBOX (cutbox-rows.mjs): the forced cells as the released guide's own fill.sh prints them over the translation d7b47c9ee21bab13… (all of the seat's roots in one cut). By AI agents, Wed Nov 11 2026. No macro, syntax, notation, axiom, sorry.
-/
import Derived.Test.YtgddiimnpliolaaGreatDoorChecked
import GoSem.Claim
import GoSem.ClaimJoined
import GoSem.ClaimMapViews
import Derived.JoinedTies
import Derived.KernelRfl
namespace Go.Proofs.YtgddiimnpliolaaGreatDoor
/- THE CELL 'sum', in the pinned program and in every row, IS THE sha256 OF THE DUMP (.gsa) THAT YtgddiimnpliolaaGreatDoorProg.lean LOADS. Nothing in Lean hashes anything: it is a label: what it is worth is what the hold of that sum in a sandbox is worth. -/
noncomputable def Tryz.pinned : Pinned := { name := "ytgddiimnpliolaagreatdoor", sum := "d7b47c9ee21bab13c69e8e7380704de6f7686949b53ef3aa33c1450243696b32", checked := Tryz.checked }
namespace Rows
def none {H : Type} : Left H := { results := [], args := [] }

/- WHAT THE LISTED PACKAGE-LEVEL VARIABLES READ AS WHEN THE CALL BEGINS. Each datum BY PROGRAM (the guide's laid-datum.mjs) off the statement by which the dump's own 'gosem.cut.vars' lays the variable. In a bare row this is a premise. The card (YtgddiimnpliolaaGreatDoorCards.lean) ties it to the program's text. -/
def laid_math_bits_deBruijn64tab {H : Type} : DataW H := .agg [.lit (.int .u8 0), .lit (.int .u8 1), .lit (.int .u8 56), .lit (.int .u8 2), .lit (.int .u8 57), .lit (.int .u8 49), .lit (.int .u8 28), .lit (.int .u8 3), .lit (.int .u8 61), .lit (.int .u8 58), .lit (.int .u8 42), .lit (.int .u8 50), .lit (.int .u8 38), .lit (.int .u8 29), .lit (.int .u8 17), .lit (.int .u8 4), .lit (.int .u8 62), .lit (.int .u8 47), .lit (.int .u8 59), .lit (.int .u8 36), .lit (.int .u8 45), .lit (.int .u8 43), .lit (.int .u8 51), .lit (.int .u8 22), .lit (.int .u8 53), .lit (.int .u8 39), .lit (.int .u8 33), .lit (.int .u8 30), .lit (.int .u8 24), .lit (.int .u8 18), .lit (.int .u8 12), .lit (.int .u8 5), .lit (.int .u8 63), .lit (.int .u8 55), .lit (.int .u8 48), .lit (.int .u8 27), .lit (.int .u8 60), .lit (.int .u8 41), .lit (.int .u8 37), .lit (.int .u8 16), .lit (.int .u8 46), .lit (.int .u8 35), .lit (.int .u8 44), .lit (.int .u8 21), .lit (.int .u8 52), .lit (.int .u8 32), .lit (.int .u8 23), .lit (.int .u8 11), .lit (.int .u8 54), .lit (.int .u8 26), .lit (.int .u8 40), .lit (.int .u8 15), .lit (.int .u8 34), .lit (.int .u8 20), .lit (.int .u8 31), .lit (.int .u8 10), .lit (.int .u8 25), .lit (.int .u8 14), .lit (.int .u8 19), .lit (.int .u8 9), .lit (.int .u8 13), .lit (.int .u8 8), .lit (.int .u8 7), .lit (.int .u8 6)]

/-- 'dendronlaw11.ExpectTables': WHATEVER THE INPUT: true; the input reads as it did. -/
def expectTablesSpec : ChangeSpec := { name := "expectTables", fn := fun _ => fun
  | [d1, d2] => { results := [.lit (.bool true)], args := [d1, d2] }
  | _ => none }
def expectTablesRow : OpenClaim := { program := "ytgddiimnpliolaagreatdoor", sum := "d7b47c9ee21bab13c69e8e7380704de6f7686949b53ef3aa33c1450243696b32", func := "dendron/dendronlaw11.ExpectTables", spec := "expectTables", unfollowed := true, recurses := true, named := ["math/bits.deBruijn64tab"], apart := false, laid := [("math/bits.deBruijn64tab", laid_math_bits_deBruijn64tab)] }
def ExpectTablesSaid : Prop := expectTablesRow.holds Tryz.pinned (OpenSpec.ofChange expectTablesSpec)

/-- ITS FALSE NEIGHBOUR: 'it returns false'. Refute it at one input. -/
def expectTablesWrong : ChangeSpec := { name := "expectTables", fn := fun _ => fun
  | [d1, d2] => { results := [.lit (.bool false)], args := [d1, d2] }
  | _ => none }
def ExpectTablesWrongFalsely : Prop := expectTablesRow.holds Tryz.pinned (OpenSpec.ofChange expectTablesWrong)

/-- 'dendronlaw11.ExpectLegs': WHATEVER THE INPUT: true; the input reads as it did. -/
def expectLegsSpec : ChangeSpec := { name := "expectLegs", fn := fun _ => fun
  | [d1, d2] => { results := [.lit (.bool true)], args := [d1, d2] }
  | _ => none }
def expectLegsRow : OpenClaim := { program := "ytgddiimnpliolaagreatdoor", sum := "d7b47c9ee21bab13c69e8e7380704de6f7686949b53ef3aa33c1450243696b32", func := "dendron/dendronlaw11.ExpectLegs", spec := "expectLegs", unfollowed := true, recurses := true, named := ["math/bits.deBruijn64tab"], apart := false, laid := [("math/bits.deBruijn64tab", laid_math_bits_deBruijn64tab)] }
def ExpectLegsSaid : Prop := expectLegsRow.holds Tryz.pinned (OpenSpec.ofChange expectLegsSpec)

/-- ITS FALSE NEIGHBOUR: 'it returns false'. Refute it at one input. -/
def expectLegsWrong : ChangeSpec := { name := "expectLegs", fn := fun _ => fun
  | [d1, d2] => { results := [.lit (.bool false)], args := [d1, d2] }
  | _ => none }
def ExpectLegsWrongFalsely : Prop := expectLegsRow.holds Tryz.pinned (OpenSpec.ofChange expectLegsWrong)

/-- 'dendronlaw11.ExpectReaches': WHATEVER THE INPUT: true; the input reads as it did. -/
def expectReachesSpec : ChangeSpec := { name := "expectReaches", fn := fun _ => fun
  | [d1, d2, d3] => { results := [.lit (.bool true)], args := [d1, d2, d3] }
  | _ => none }
def expectReachesRow : OpenClaim := { program := "ytgddiimnpliolaagreatdoor", sum := "d7b47c9ee21bab13c69e8e7380704de6f7686949b53ef3aa33c1450243696b32", func := "dendron/dendronlaw11.ExpectReaches", spec := "expectReaches", unfollowed := true, recurses := true, named := ["math/bits.deBruijn64tab"], apart := false, laid := [("math/bits.deBruijn64tab", laid_math_bits_deBruijn64tab)] }
def ExpectReachesSaid : Prop := expectReachesRow.holds Tryz.pinned (OpenSpec.ofChange expectReachesSpec)

/-- ITS FALSE NEIGHBOUR: 'it returns false'. Refute it at one input. -/
def expectReachesWrong : ChangeSpec := { name := "expectReaches", fn := fun _ => fun
  | [d1, d2, d3] => { results := [.lit (.bool false)], args := [d1, d2, d3] }
  | _ => none }
def ExpectReachesWrongFalsely : Prop := expectReachesRow.holds Tryz.pinned (OpenSpec.ofChange expectReachesWrong)

/-- 'dendronlaw11.ExpectReach': WHATEVER THE INPUT: true; the input reads as it did. -/
def expectReachSpec : ChangeSpec := { name := "expectReach", fn := fun _ => fun
  | [d1, d2] => { results := [.lit (.bool true)], args := [d1, d2] }
  | _ => none }
def expectReachRow : OpenClaim := { program := "ytgddiimnpliolaagreatdoor", sum := "d7b47c9ee21bab13c69e8e7380704de6f7686949b53ef3aa33c1450243696b32", func := "dendron/dendronlaw11.ExpectReach", spec := "expectReach", unfollowed := true, recurses := true, named := ["math/bits.deBruijn64tab"], apart := false, laid := [("math/bits.deBruijn64tab", laid_math_bits_deBruijn64tab)] }
def ExpectReachSaid : Prop := expectReachRow.holds Tryz.pinned (OpenSpec.ofChange expectReachSpec)

/-- ITS FALSE NEIGHBOUR: 'it returns false'. Refute it at one input. -/
def expectReachWrong : ChangeSpec := { name := "expectReach", fn := fun _ => fun
  | [d1, d2] => { results := [.lit (.bool false)], args := [d1, d2] }
  | _ => none }
def ExpectReachWrongFalsely : Prop := expectReachRow.holds Tryz.pinned (OpenSpec.ofChange expectReachWrong)

/-- 'dendronlaw13.DependCovers': WHATEVER THE INPUT: true; the input reads as it did. -/
def dependCoversSpec : ChangeSpec := { name := "dependCovers", fn := fun _ => fun
  | [d1, d2, d3] => { results := [.lit (.bool true)], args := [d1, d2, d3] }
  | _ => none }
def dependCoversRow : OpenClaim := { program := "ytgddiimnpliolaagreatdoor", sum := "d7b47c9ee21bab13c69e8e7380704de6f7686949b53ef3aa33c1450243696b32", func := "dendron/dendronlaw13.DependCovers", spec := "dependCovers", unfollowed := true, recurses := true, named := ["math/bits.deBruijn64tab"], apart := false, laid := [("math/bits.deBruijn64tab", laid_math_bits_deBruijn64tab)] }
def DependCoversSaid : Prop := dependCoversRow.holds Tryz.pinned (OpenSpec.ofChange dependCoversSpec)

/-- ITS FALSE NEIGHBOUR: 'it returns false'. Refute it at one input. -/
def dependCoversWrong : ChangeSpec := { name := "dependCovers", fn := fun _ => fun
  | [d1, d2, d3] => { results := [.lit (.bool false)], args := [d1, d2, d3] }
  | _ => none }
def DependCoversWrongFalsely : Prop := dependCoversRow.holds Tryz.pinned (OpenSpec.ofChange dependCoversWrong)

/-- 'dendronlaw13.DependRests': WHATEVER THE INPUT: true; the input reads as it did. -/
def dependRestsSpec : ChangeSpec := { name := "dependRests", fn := fun _ => fun
  | [d1, d2, d3] => { results := [.lit (.bool true)], args := [d1, d2, d3] }
  | _ => none }
def dependRestsRow : OpenClaim := { program := "ytgddiimnpliolaagreatdoor", sum := "d7b47c9ee21bab13c69e8e7380704de6f7686949b53ef3aa33c1450243696b32", func := "dendron/dendronlaw13.DependRests", spec := "dependRests", unfollowed := true, recurses := true, named := ["math/bits.deBruijn64tab"], apart := false, laid := [("math/bits.deBruijn64tab", laid_math_bits_deBruijn64tab)] }
def DependRestsSaid : Prop := dependRestsRow.holds Tryz.pinned (OpenSpec.ofChange dependRestsSpec)

/-- ITS FALSE NEIGHBOUR: 'it returns false'. Refute it at one input. -/
def dependRestsWrong : ChangeSpec := { name := "dependRests", fn := fun _ => fun
  | [d1, d2, d3] => { results := [.lit (.bool false)], args := [d1, d2, d3] }
  | _ => none }
def DependRestsWrongFalsely : Prop := dependRestsRow.holds Tryz.pinned (OpenSpec.ofChange dependRestsWrong)

/-- 'dendronlaw13.DependAverages': WHATEVER THE INPUT: true; the input reads as it did. -/
def dependAveragesSpec : ChangeSpec := { name := "dependAverages", fn := fun _ => fun
  | [d1, d2, d3, d4] => { results := [.lit (.bool true)], args := [d1, d2, d3, d4] }
  | _ => none }
def dependAveragesRow : OpenClaim := { program := "ytgddiimnpliolaagreatdoor", sum := "d7b47c9ee21bab13c69e8e7380704de6f7686949b53ef3aa33c1450243696b32", func := "dendron/dendronlaw13.DependAverages", spec := "dependAverages", unfollowed := true, recurses := true, named := ["math/bits.deBruijn64tab"], apart := false, laid := [("math/bits.deBruijn64tab", laid_math_bits_deBruijn64tab)] }
def DependAveragesSaid : Prop := dependAveragesRow.holds Tryz.pinned (OpenSpec.ofChange dependAveragesSpec)

/-- ITS FALSE NEIGHBOUR: 'it returns false'. Refute it at one input. -/
def dependAveragesWrong : ChangeSpec := { name := "dependAverages", fn := fun _ => fun
  | [d1, d2, d3, d4] => { results := [.lit (.bool false)], args := [d1, d2, d3, d4] }
  | _ => none }
def DependAveragesWrongFalsely : Prop := dependAveragesRow.holds Tryz.pinned (OpenSpec.ofChange dependAveragesWrong)

/-- 'dendronlaw13.DependGrids': WHATEVER THE INPUT: true; the input reads as it did. -/
def dependGridsSpec : ChangeSpec := { name := "dependGrids", fn := fun _ => fun
  | [d1, d2, d3, d4] => { results := [.lit (.bool true)], args := [d1, d2, d3, d4] }
  | _ => none }
def dependGridsRow : OpenClaim := { program := "ytgddiimnpliolaagreatdoor", sum := "d7b47c9ee21bab13c69e8e7380704de6f7686949b53ef3aa33c1450243696b32", func := "dendron/dendronlaw13.DependGrids", spec := "dependGrids", unfollowed := true, recurses := true, named := ["math/bits.deBruijn64tab"], apart := false, laid := [("math/bits.deBruijn64tab", laid_math_bits_deBruijn64tab)] }
def DependGridsSaid : Prop := dependGridsRow.holds Tryz.pinned (OpenSpec.ofChange dependGridsSpec)

/-- ITS FALSE NEIGHBOUR: 'it returns false'. Refute it at one input. -/
def dependGridsWrong : ChangeSpec := { name := "dependGrids", fn := fun _ => fun
  | [d1, d2, d3, d4] => { results := [.lit (.bool false)], args := [d1, d2, d3, d4] }
  | _ => none }
def DependGridsWrongFalsely : Prop := dependGridsRow.holds Tryz.pinned (OpenSpec.ofChange dependGridsWrong)

/-- 'dendronlaw13.DependCurves': WHATEVER THE INPUT: true; the input reads as it did. -/
def dependCurvesSpec : ChangeSpec := { name := "dependCurves", fn := fun _ => fun
  | [d1, d2, d3] => { results := [.lit (.bool true)], args := [d1, d2, d3] }
  | _ => none }
def dependCurvesRow : OpenClaim := { program := "ytgddiimnpliolaagreatdoor", sum := "d7b47c9ee21bab13c69e8e7380704de6f7686949b53ef3aa33c1450243696b32", func := "dendron/dendronlaw13.DependCurves", spec := "dependCurves", unfollowed := true, recurses := true, named := ["math/bits.deBruijn64tab"], apart := false, laid := [("math/bits.deBruijn64tab", laid_math_bits_deBruijn64tab)] }
def DependCurvesSaid : Prop := dependCurvesRow.holds Tryz.pinned (OpenSpec.ofChange dependCurvesSpec)

/-- ITS FALSE NEIGHBOUR: 'it returns false'. Refute it at one input. -/
def dependCurvesWrong : ChangeSpec := { name := "dependCurves", fn := fun _ => fun
  | [d1, d2, d3] => { results := [.lit (.bool false)], args := [d1, d2, d3] }
  | _ => none }
def DependCurvesWrongFalsely : Prop := dependCurvesRow.holds Tryz.pinned (OpenSpec.ofChange dependCurvesWrong)

/-- 'dendronlaw13.DependUnasked': WHATEVER THE INPUT: true; the input reads as it did. -/
def dependUnaskedSpec : ChangeSpec := { name := "dependUnasked", fn := fun _ => fun
  | [d1, d2, d3] => { results := [.lit (.bool true)], args := [d1, d2, d3] }
  | _ => none }
def dependUnaskedRow : OpenClaim := { program := "ytgddiimnpliolaagreatdoor", sum := "d7b47c9ee21bab13c69e8e7380704de6f7686949b53ef3aa33c1450243696b32", func := "dendron/dendronlaw13.DependUnasked", spec := "dependUnasked", unfollowed := true, recurses := true, named := ["math/bits.deBruijn64tab"], apart := false, laid := [("math/bits.deBruijn64tab", laid_math_bits_deBruijn64tab)] }
def DependUnaskedSaid : Prop := dependUnaskedRow.holds Tryz.pinned (OpenSpec.ofChange dependUnaskedSpec)

/-- ITS FALSE NEIGHBOUR: 'it returns false'. Refute it at one input. -/
def dependUnaskedWrong : ChangeSpec := { name := "dependUnasked", fn := fun _ => fun
  | [d1, d2, d3] => { results := [.lit (.bool false)], args := [d1, d2, d3] }
  | _ => none }
def DependUnaskedWrongFalsely : Prop := dependUnaskedRow.holds Tryz.pinned (OpenSpec.ofChange dependUnaskedWrong)

/- THE SECOND FORM. 'bulk': how many values and letters a reading holds, each counted each time it is reached (what is shared counts as often as it is met; a slice's spare places count too). A statement '..UptoSaid' is the law's where the arguments, and the package variables that the reading takes, are together of bulk at most 1048576: NARROWER than '..Said'. Prove '..Said' where nothing that the law and all that it calls make is longer than what came in: it says more and counts as full. Else prove '..UptoSaid'. A law counts once. -/
mutual
def uptoBulk {H : Type} : DataW H → Nat
  | .lit (.string bytes) => bytes.length + 1
  | .lit _ => 1
  | .nil => 1
  | .ptr d => uptoBulk d + 1
  | .slice elems spare => uptoBulkAll elems + uptoBulkAll spare + 1
  | .agg parts => uptoBulkAll parts + 1
  | .iface _ d => uptoBulk d + 1
  | .map entries => uptoBulkEntries entries + 1
  | .held _ => 1
def uptoBulkAll {H : Type} : List (DataW H) → Nat
  | [] => 0
  | d :: r => uptoBulk d + uptoBulkAll r
def uptoBulkEntries {H : Type} : List (Lit × DataW H) → Nat
  | [] => 0
  | x :: r => uptoBulkEntry x + uptoBulkEntries r
def uptoBulkEntry {H : Type} : Lit × DataW H → Nat
  | (.string bytes, d) => bytes.length + uptoBulk d + 1
  | (_, d) => uptoBulk d + 1
 end
def uptoSmall : (H : Type) → List (DataW H) → Bool := fun _ ds => decide (uptoBulkAll ds ≤ 1048576)
def OpenSpec.upto (s : _root_.Go.ChangeSpec) : _root_.Go.OpenSpec := { _root_.Go.OpenSpec.ofChange s with cond := some uptoSmall }

/-- 'dendronlaw11.ExpectTables', WHERE WHAT IT READS IS OF BULK AT MOST 1048576: true; the input reads as it did. -/
def expectTablesUptoRow : OpenClaim := { program := "ytgddiimnpliolaagreatdoor", sum := "d7b47c9ee21bab13c69e8e7380704de6f7686949b53ef3aa33c1450243696b32", func := "dendron/dendronlaw11.ExpectTables", spec := "expectTables", unfollowed := true, recurses := true, named := ["math/bits.deBruijn64tab"], apart := false, laid := [("math/bits.deBruijn64tab", laid_math_bits_deBruijn64tab)], narrowed := true }
def ExpectTablesUptoSaid : Prop := expectTablesUptoRow.holds Tryz.pinned (OpenSpec.upto expectTablesSpec)

/-- 'dendronlaw11.ExpectLegs', WHERE WHAT IT READS IS OF BULK AT MOST 1048576: true; the input reads as it did. -/
def expectLegsUptoRow : OpenClaim := { program := "ytgddiimnpliolaagreatdoor", sum := "d7b47c9ee21bab13c69e8e7380704de6f7686949b53ef3aa33c1450243696b32", func := "dendron/dendronlaw11.ExpectLegs", spec := "expectLegs", unfollowed := true, recurses := true, named := ["math/bits.deBruijn64tab"], apart := false, laid := [("math/bits.deBruijn64tab", laid_math_bits_deBruijn64tab)], narrowed := true }
def ExpectLegsUptoSaid : Prop := expectLegsUptoRow.holds Tryz.pinned (OpenSpec.upto expectLegsSpec)

/-- 'dendronlaw11.ExpectReaches', WHERE WHAT IT READS IS OF BULK AT MOST 1048576: true; the input reads as it did. -/
def expectReachesUptoRow : OpenClaim := { program := "ytgddiimnpliolaagreatdoor", sum := "d7b47c9ee21bab13c69e8e7380704de6f7686949b53ef3aa33c1450243696b32", func := "dendron/dendronlaw11.ExpectReaches", spec := "expectReaches", unfollowed := true, recurses := true, named := ["math/bits.deBruijn64tab"], apart := false, laid := [("math/bits.deBruijn64tab", laid_math_bits_deBruijn64tab)], narrowed := true }
def ExpectReachesUptoSaid : Prop := expectReachesUptoRow.holds Tryz.pinned (OpenSpec.upto expectReachesSpec)

/-- 'dendronlaw11.ExpectReach', WHERE WHAT IT READS IS OF BULK AT MOST 1048576: true; the input reads as it did. -/
def expectReachUptoRow : OpenClaim := { program := "ytgddiimnpliolaagreatdoor", sum := "d7b47c9ee21bab13c69e8e7380704de6f7686949b53ef3aa33c1450243696b32", func := "dendron/dendronlaw11.ExpectReach", spec := "expectReach", unfollowed := true, recurses := true, named := ["math/bits.deBruijn64tab"], apart := false, laid := [("math/bits.deBruijn64tab", laid_math_bits_deBruijn64tab)], narrowed := true }
def ExpectReachUptoSaid : Prop := expectReachUptoRow.holds Tryz.pinned (OpenSpec.upto expectReachSpec)

/-- 'dendronlaw13.DependCovers', WHERE WHAT IT READS IS OF BULK AT MOST 1048576: true; the input reads as it did. -/
def dependCoversUptoRow : OpenClaim := { program := "ytgddiimnpliolaagreatdoor", sum := "d7b47c9ee21bab13c69e8e7380704de6f7686949b53ef3aa33c1450243696b32", func := "dendron/dendronlaw13.DependCovers", spec := "dependCovers", unfollowed := true, recurses := true, named := ["math/bits.deBruijn64tab"], apart := false, laid := [("math/bits.deBruijn64tab", laid_math_bits_deBruijn64tab)], narrowed := true }
def DependCoversUptoSaid : Prop := dependCoversUptoRow.holds Tryz.pinned (OpenSpec.upto dependCoversSpec)

/-- 'dendronlaw13.DependRests', WHERE WHAT IT READS IS OF BULK AT MOST 1048576: true; the input reads as it did. -/
def dependRestsUptoRow : OpenClaim := { program := "ytgddiimnpliolaagreatdoor", sum := "d7b47c9ee21bab13c69e8e7380704de6f7686949b53ef3aa33c1450243696b32", func := "dendron/dendronlaw13.DependRests", spec := "dependRests", unfollowed := true, recurses := true, named := ["math/bits.deBruijn64tab"], apart := false, laid := [("math/bits.deBruijn64tab", laid_math_bits_deBruijn64tab)], narrowed := true }
def DependRestsUptoSaid : Prop := dependRestsUptoRow.holds Tryz.pinned (OpenSpec.upto dependRestsSpec)

/-- 'dendronlaw13.DependAverages', WHERE WHAT IT READS IS OF BULK AT MOST 1048576: true; the input reads as it did. -/
def dependAveragesUptoRow : OpenClaim := { program := "ytgddiimnpliolaagreatdoor", sum := "d7b47c9ee21bab13c69e8e7380704de6f7686949b53ef3aa33c1450243696b32", func := "dendron/dendronlaw13.DependAverages", spec := "dependAverages", unfollowed := true, recurses := true, named := ["math/bits.deBruijn64tab"], apart := false, laid := [("math/bits.deBruijn64tab", laid_math_bits_deBruijn64tab)], narrowed := true }
def DependAveragesUptoSaid : Prop := dependAveragesUptoRow.holds Tryz.pinned (OpenSpec.upto dependAveragesSpec)

/-- 'dendronlaw13.DependGrids', WHERE WHAT IT READS IS OF BULK AT MOST 1048576: true; the input reads as it did. -/
def dependGridsUptoRow : OpenClaim := { program := "ytgddiimnpliolaagreatdoor", sum := "d7b47c9ee21bab13c69e8e7380704de6f7686949b53ef3aa33c1450243696b32", func := "dendron/dendronlaw13.DependGrids", spec := "dependGrids", unfollowed := true, recurses := true, named := ["math/bits.deBruijn64tab"], apart := false, laid := [("math/bits.deBruijn64tab", laid_math_bits_deBruijn64tab)], narrowed := true }
def DependGridsUptoSaid : Prop := dependGridsUptoRow.holds Tryz.pinned (OpenSpec.upto dependGridsSpec)

/-- 'dendronlaw13.DependCurves', WHERE WHAT IT READS IS OF BULK AT MOST 1048576: true; the input reads as it did. -/
def dependCurvesUptoRow : OpenClaim := { program := "ytgddiimnpliolaagreatdoor", sum := "d7b47c9ee21bab13c69e8e7380704de6f7686949b53ef3aa33c1450243696b32", func := "dendron/dendronlaw13.DependCurves", spec := "dependCurves", unfollowed := true, recurses := true, named := ["math/bits.deBruijn64tab"], apart := false, laid := [("math/bits.deBruijn64tab", laid_math_bits_deBruijn64tab)], narrowed := true }
def DependCurvesUptoSaid : Prop := dependCurvesUptoRow.holds Tryz.pinned (OpenSpec.upto dependCurvesSpec)

/-- 'dendronlaw13.DependUnasked', WHERE WHAT IT READS IS OF BULK AT MOST 1048576: true; the input reads as it did. -/
def dependUnaskedUptoRow : OpenClaim := { program := "ytgddiimnpliolaagreatdoor", sum := "d7b47c9ee21bab13c69e8e7380704de6f7686949b53ef3aa33c1450243696b32", func := "dendron/dendronlaw13.DependUnasked", spec := "dependUnasked", unfollowed := true, recurses := true, named := ["math/bits.deBruijn64tab"], apart := false, laid := [("math/bits.deBruijn64tab", laid_math_bits_deBruijn64tab)], narrowed := true }
def DependUnaskedUptoSaid : Prop := dependUnaskedUptoRow.holds Tryz.pinned (OpenSpec.upto dependUnaskedSpec)

end Rows
end Go.Proofs.YtgddiimnpliolaaGreatDoor
