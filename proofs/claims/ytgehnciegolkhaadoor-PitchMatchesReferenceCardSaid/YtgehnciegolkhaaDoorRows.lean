/-
  NARROWER THAN 'FOR EVERY INPUT', by the rows' own cells (each row's printed sentence says how): PitchMatchesReference: laid · PitchBack: laid · PitchBetween: laid · PitchNumbers: laid · PitchJoins: laid · PitchTexts: laid.
  DERIVED. THE GIVEN ROWS OF THIS SEAT. 6 by the template 'for every input the law returns true; each argument reads behind the call as it read before'; 0 by the template 'total and deterministic' (their statements: YtgehnciegolkhaaDoorTotals.lean).
  GIVEN WITH THE SEED: the statements are not yours to turn. If you find one false, say at which input.
  Laid BY PROGRAM, IN A SANDBOX (cutbox-rows.mjs): the forced cells as the released guide's own fill.sh prints them over the translation 2ea77269ceaa4185… (all of the seat's roots in one cut). By AI agents, Wed Nov 11 2026. No macro, syntax, notation, axiom, sorry.
-/
import Derived.Test.YtgehnciegolkhaaDoorChecked
import GoSem.Claim
import GoSem.ClaimJoined
import GoSem.ClaimMapViews
import Derived.JoinedTies
import Derived.KernelRfl
namespace Go.Proofs.YtgehnciegolkhaaDoor
/- THE CELL 'sum', in the pinned program and in every row, IS THE sha256 OF THE DUMP (.gsa) THAT YtgehnciegolkhaaDoorProg.lean LOADS. Nothing in Lean hashes anything: it is a label: what it is worth is what the hold of that sum in a sandbox is worth. -/
noncomputable def Tryd.pinned : Pinned := { name := "ytgehnciegolkhaadoor", sum := "2ea77269ceaa4185e88e05b2a99f4c0fef9b97b9c9e6336e416e0cd730ba7104", checked := Tryd.checked }
namespace Rows
def none {H : Type} : Left H := { results := [], args := [] }

/- WHAT THE LISTED PACKAGE-LEVEL VARIABLES READ AS WHEN THE CALL BEGINS. Each datum BY PROGRAM (the guide's laid-datum.mjs) off the statement by which the dump's own 'gosem.cut.vars' lays the variable. In a bare row this is a premise. The card (YtgehnciegolkhaaDoorCards.lean) ties it to the program's text. -/
def laid_math_bits_deBruijn32tab {H : Type} : DataW H := .agg [.lit (.int .u8 0), .lit (.int .u8 1), .lit (.int .u8 28), .lit (.int .u8 2), .lit (.int .u8 29), .lit (.int .u8 14), .lit (.int .u8 24), .lit (.int .u8 3), .lit (.int .u8 30), .lit (.int .u8 22), .lit (.int .u8 20), .lit (.int .u8 15), .lit (.int .u8 25), .lit (.int .u8 17), .lit (.int .u8 4), .lit (.int .u8 8), .lit (.int .u8 31), .lit (.int .u8 27), .lit (.int .u8 13), .lit (.int .u8 23), .lit (.int .u8 21), .lit (.int .u8 19), .lit (.int .u8 16), .lit (.int .u8 7), .lit (.int .u8 26), .lit (.int .u8 12), .lit (.int .u8 18), .lit (.int .u8 6), .lit (.int .u8 11), .lit (.int .u8 5), .lit (.int .u8 10), .lit (.int .u8 9)]
def laid_math_bits_deBruijn64tab {H : Type} : DataW H := .agg [.lit (.int .u8 0), .lit (.int .u8 1), .lit (.int .u8 56), .lit (.int .u8 2), .lit (.int .u8 57), .lit (.int .u8 49), .lit (.int .u8 28), .lit (.int .u8 3), .lit (.int .u8 61), .lit (.int .u8 58), .lit (.int .u8 42), .lit (.int .u8 50), .lit (.int .u8 38), .lit (.int .u8 29), .lit (.int .u8 17), .lit (.int .u8 4), .lit (.int .u8 62), .lit (.int .u8 47), .lit (.int .u8 59), .lit (.int .u8 36), .lit (.int .u8 45), .lit (.int .u8 43), .lit (.int .u8 51), .lit (.int .u8 22), .lit (.int .u8 53), .lit (.int .u8 39), .lit (.int .u8 33), .lit (.int .u8 30), .lit (.int .u8 24), .lit (.int .u8 18), .lit (.int .u8 12), .lit (.int .u8 5), .lit (.int .u8 63), .lit (.int .u8 55), .lit (.int .u8 48), .lit (.int .u8 27), .lit (.int .u8 60), .lit (.int .u8 41), .lit (.int .u8 37), .lit (.int .u8 16), .lit (.int .u8 46), .lit (.int .u8 35), .lit (.int .u8 44), .lit (.int .u8 21), .lit (.int .u8 52), .lit (.int .u8 32), .lit (.int .u8 23), .lit (.int .u8 11), .lit (.int .u8 54), .lit (.int .u8 26), .lit (.int .u8 40), .lit (.int .u8 15), .lit (.int .u8 34), .lit (.int .u8 20), .lit (.int .u8 31), .lit (.int .u8 10), .lit (.int .u8 25), .lit (.int .u8 14), .lit (.int .u8 19), .lit (.int .u8 9), .lit (.int .u8 13), .lit (.int .u8 8), .lit (.int .u8 7), .lit (.int .u8 6)]
def laid_internal_strconv_uint64pow10 {H : Type} : DataW H := .agg [.lit (.int .u64 1), .lit (.int .u64 10), .lit (.int .u64 100), .lit (.int .u64 1000), .lit (.int .u64 10000), .lit (.int .u64 100000), .lit (.int .u64 1000000), .lit (.int .u64 10000000), .lit (.int .u64 100000000), .lit (.int .u64 1000000000), .lit (.int .u64 10000000000), .lit (.int .u64 100000000000), .lit (.int .u64 1000000000000), .lit (.int .u64 10000000000000), .lit (.int .u64 100000000000000), .lit (.int .u64 1000000000000000), .lit (.int .u64 10000000000000000), .lit (.int .u64 100000000000000000), .lit (.int .u64 1000000000000000000), .lit (.int .u64 10000000000000000000)]
def laid_partbook_pitch_numbers {H : Type} : DataW H := .agg [.lit (.int .i64 0), .lit (.int .i64 2), .lit (.int .i64 4), .lit (.int .i64 5), .lit (.int .i64 7), .lit (.int .i64 9), .lit (.int .i64 11)]

/-- 'partbooklaw02.PitchMatchesReference': WHATEVER THE INPUT: true; the input reads as it did. -/
def pitchMatchesReferenceSpec : ChangeSpec := { name := "pitchMatchesReference", fn := fun _ => fun
  | [d1, d2, d3, d4, d5] => { results := [.lit (.bool true)], args := [d1, d2, d3, d4, d5] }
  | _ => none }
def pitchMatchesReferenceRow : OpenClaim := { program := "ytgehnciegolkhaadoor", sum := "2ea77269ceaa4185e88e05b2a99f4c0fef9b97b9c9e6336e416e0cd730ba7104", func := "partbook/partbooklaw02.PitchMatchesReference", spec := "pitchMatchesReference", inPlace := ["internal/abi.NoEscape", "internal/bytealg.MakeNoZero", "internal/bytealg.IndexByteString", "internal/bytealg.IndexString"], recurses := true, named := ["partbook/pitch.numbers", "internal/strconv.uint64pow10", "math/bits.deBruijn32tab", "math/bits.deBruijn64tab", "internal/bytealg.MaxLen"], apart := false, laid := [("math/bits.deBruijn32tab", laid_math_bits_deBruijn32tab), ("math/bits.deBruijn64tab", laid_math_bits_deBruijn64tab), ("internal/strconv.uint64pow10", laid_internal_strconv_uint64pow10), ("partbook/pitch.numbers", laid_partbook_pitch_numbers)] }
def PitchMatchesReferenceSaid : Prop := pitchMatchesReferenceRow.holds Tryd.pinned (OpenSpec.ofChange pitchMatchesReferenceSpec)

/-- ITS FALSE NEIGHBOUR: 'it returns false'. Refute it at one input. -/
def pitchMatchesReferenceWrong : ChangeSpec := { name := "pitchMatchesReference", fn := fun _ => fun
  | [d1, d2, d3, d4, d5] => { results := [.lit (.bool false)], args := [d1, d2, d3, d4, d5] }
  | _ => none }
def PitchMatchesReferenceWrongFalsely : Prop := pitchMatchesReferenceRow.holds Tryd.pinned (OpenSpec.ofChange pitchMatchesReferenceWrong)

/-- 'partbooklaw02.PitchBack': WHATEVER THE INPUT: true; the input reads as it did. -/
def pitchBackSpec : ChangeSpec := { name := "pitchBack", fn := fun _ => fun
  | [d1, d2] => { results := [.lit (.bool true)], args := [d1, d2] }
  | _ => none }
def pitchBackRow : OpenClaim := { program := "ytgehnciegolkhaadoor", sum := "2ea77269ceaa4185e88e05b2a99f4c0fef9b97b9c9e6336e416e0cd730ba7104", func := "partbook/partbooklaw02.PitchBack", spec := "pitchBack", inPlace := ["internal/abi.NoEscape", "internal/bytealg.MakeNoZero", "internal/bytealg.IndexByteString", "internal/bytealg.IndexString"], named := ["partbook/pitch.numbers", "internal/strconv.uint64pow10", "math/bits.deBruijn32tab", "math/bits.deBruijn64tab", "internal/bytealg.MaxLen"], apart := false, laid := [("math/bits.deBruijn32tab", laid_math_bits_deBruijn32tab), ("math/bits.deBruijn64tab", laid_math_bits_deBruijn64tab), ("internal/strconv.uint64pow10", laid_internal_strconv_uint64pow10), ("partbook/pitch.numbers", laid_partbook_pitch_numbers)] }
def PitchBackSaid : Prop := pitchBackRow.holds Tryd.pinned (OpenSpec.ofChange pitchBackSpec)

/-- ITS FALSE NEIGHBOUR: 'it returns false'. Refute it at one input. -/
def pitchBackWrong : ChangeSpec := { name := "pitchBack", fn := fun _ => fun
  | [d1, d2] => { results := [.lit (.bool false)], args := [d1, d2] }
  | _ => none }
def PitchBackWrongFalsely : Prop := pitchBackRow.holds Tryd.pinned (OpenSpec.ofChange pitchBackWrong)

/-- 'partbooklaw02.PitchBetween': WHATEVER THE INPUT: true; the input reads as it did. -/
def pitchBetweenSpec : ChangeSpec := { name := "pitchBetween", fn := fun _ => fun
  | [d1, d2, d3] => { results := [.lit (.bool true)], args := [d1, d2, d3] }
  | _ => none }
def pitchBetweenRow : OpenClaim := { program := "ytgehnciegolkhaadoor", sum := "2ea77269ceaa4185e88e05b2a99f4c0fef9b97b9c9e6336e416e0cd730ba7104", func := "partbook/partbooklaw02.PitchBetween", spec := "pitchBetween", inPlace := ["internal/abi.NoEscape", "internal/bytealg.MakeNoZero", "internal/bytealg.IndexByteString", "internal/bytealg.IndexString"], named := ["partbook/pitch.numbers", "internal/strconv.uint64pow10", "math/bits.deBruijn32tab", "math/bits.deBruijn64tab", "internal/bytealg.MaxLen"], apart := false, laid := [("math/bits.deBruijn32tab", laid_math_bits_deBruijn32tab), ("math/bits.deBruijn64tab", laid_math_bits_deBruijn64tab), ("internal/strconv.uint64pow10", laid_internal_strconv_uint64pow10), ("partbook/pitch.numbers", laid_partbook_pitch_numbers)] }
def PitchBetweenSaid : Prop := pitchBetweenRow.holds Tryd.pinned (OpenSpec.ofChange pitchBetweenSpec)

/-- ITS FALSE NEIGHBOUR: 'it returns false'. Refute it at one input. -/
def pitchBetweenWrong : ChangeSpec := { name := "pitchBetween", fn := fun _ => fun
  | [d1, d2, d3] => { results := [.lit (.bool false)], args := [d1, d2, d3] }
  | _ => none }
def PitchBetweenWrongFalsely : Prop := pitchBetweenRow.holds Tryd.pinned (OpenSpec.ofChange pitchBetweenWrong)

/-- 'partbooklaw02.PitchNumbers': WHATEVER THE INPUT: true; the input reads as it did. -/
def pitchNumbersSpec : ChangeSpec := { name := "pitchNumbers", fn := fun _ => fun
  | [d1, d2, d3] => { results := [.lit (.bool true)], args := [d1, d2, d3] }
  | _ => none }
def pitchNumbersRow : OpenClaim := { program := "ytgehnciegolkhaadoor", sum := "2ea77269ceaa4185e88e05b2a99f4c0fef9b97b9c9e6336e416e0cd730ba7104", func := "partbook/partbooklaw02.PitchNumbers", spec := "pitchNumbers", inPlace := ["internal/abi.NoEscape", "internal/bytealg.MakeNoZero", "internal/bytealg.IndexByteString", "internal/bytealg.IndexString"], named := ["partbook/pitch.numbers", "internal/strconv.uint64pow10", "math/bits.deBruijn32tab", "math/bits.deBruijn64tab", "internal/bytealg.MaxLen"], apart := false, laid := [("math/bits.deBruijn32tab", laid_math_bits_deBruijn32tab), ("math/bits.deBruijn64tab", laid_math_bits_deBruijn64tab), ("internal/strconv.uint64pow10", laid_internal_strconv_uint64pow10), ("partbook/pitch.numbers", laid_partbook_pitch_numbers)] }
def PitchNumbersSaid : Prop := pitchNumbersRow.holds Tryd.pinned (OpenSpec.ofChange pitchNumbersSpec)

/-- ITS FALSE NEIGHBOUR: 'it returns false'. Refute it at one input. -/
def pitchNumbersWrong : ChangeSpec := { name := "pitchNumbers", fn := fun _ => fun
  | [d1, d2, d3] => { results := [.lit (.bool false)], args := [d1, d2, d3] }
  | _ => none }
def PitchNumbersWrongFalsely : Prop := pitchNumbersRow.holds Tryd.pinned (OpenSpec.ofChange pitchNumbersWrong)

/-- 'partbooklaw02.PitchJoins': WHATEVER THE INPUT: true; the input reads as it did. -/
def pitchJoinsSpec : ChangeSpec := { name := "pitchJoins", fn := fun _ => fun
  | [d1, d2, d3] => { results := [.lit (.bool true)], args := [d1, d2, d3] }
  | _ => none }
def pitchJoinsRow : OpenClaim := { program := "ytgehnciegolkhaadoor", sum := "2ea77269ceaa4185e88e05b2a99f4c0fef9b97b9c9e6336e416e0cd730ba7104", func := "partbook/partbooklaw02.PitchJoins", spec := "pitchJoins", inPlace := ["internal/abi.NoEscape", "internal/bytealg.MakeNoZero", "internal/bytealg.IndexByteString", "internal/bytealg.IndexString"], named := ["partbook/pitch.numbers", "internal/strconv.uint64pow10", "math/bits.deBruijn32tab", "math/bits.deBruijn64tab", "internal/bytealg.MaxLen"], apart := false, laid := [("math/bits.deBruijn32tab", laid_math_bits_deBruijn32tab), ("math/bits.deBruijn64tab", laid_math_bits_deBruijn64tab), ("internal/strconv.uint64pow10", laid_internal_strconv_uint64pow10), ("partbook/pitch.numbers", laid_partbook_pitch_numbers)] }
def PitchJoinsSaid : Prop := pitchJoinsRow.holds Tryd.pinned (OpenSpec.ofChange pitchJoinsSpec)

/-- ITS FALSE NEIGHBOUR: 'it returns false'. Refute it at one input. -/
def pitchJoinsWrong : ChangeSpec := { name := "pitchJoins", fn := fun _ => fun
  | [d1, d2, d3] => { results := [.lit (.bool false)], args := [d1, d2, d3] }
  | _ => none }
def PitchJoinsWrongFalsely : Prop := pitchJoinsRow.holds Tryd.pinned (OpenSpec.ofChange pitchJoinsWrong)

/-- 'partbooklaw02.PitchTexts': WHATEVER THE INPUT: true; the input reads as it did. -/
def pitchTextsSpec : ChangeSpec := { name := "pitchTexts", fn := fun _ => fun
  | [d1, d2, d3] => { results := [.lit (.bool true)], args := [d1, d2, d3] }
  | _ => none }
def pitchTextsRow : OpenClaim := { program := "ytgehnciegolkhaadoor", sum := "2ea77269ceaa4185e88e05b2a99f4c0fef9b97b9c9e6336e416e0cd730ba7104", func := "partbook/partbooklaw02.PitchTexts", spec := "pitchTexts", inPlace := ["internal/abi.NoEscape", "internal/bytealg.MakeNoZero", "internal/bytealg.IndexByteString", "internal/bytealg.IndexString"], named := ["partbook/pitch.numbers", "internal/strconv.uint64pow10", "math/bits.deBruijn32tab", "math/bits.deBruijn64tab", "internal/bytealg.MaxLen"], apart := false, laid := [("math/bits.deBruijn32tab", laid_math_bits_deBruijn32tab), ("math/bits.deBruijn64tab", laid_math_bits_deBruijn64tab), ("internal/strconv.uint64pow10", laid_internal_strconv_uint64pow10), ("partbook/pitch.numbers", laid_partbook_pitch_numbers)] }
def PitchTextsSaid : Prop := pitchTextsRow.holds Tryd.pinned (OpenSpec.ofChange pitchTextsSpec)

/-- ITS FALSE NEIGHBOUR: 'it returns false'. Refute it at one input. -/
def pitchTextsWrong : ChangeSpec := { name := "pitchTexts", fn := fun _ => fun
  | [d1, d2, d3] => { results := [.lit (.bool false)], args := [d1, d2, d3] }
  | _ => none }
def PitchTextsWrongFalsely : Prop := pitchTextsRow.holds Tryd.pinned (OpenSpec.ofChange pitchTextsWrong)

/- THE SECOND FORM. 'bulk': how many values and letters a reading holds, each counted each time it is reached (what is shared counts as often as it is met; a slice's spare places count too). A statement '..UptoSaid' is the law's where the arguments, and the package variables that the reading takes, are together of bulk at most 1048576: NARROWER than '..Said'. Prove '..Said' where nothing that the law and all that it calls make is longer than what came in: it says more and counts as full. Else prove '..UptoSaid'. A law counts once. -/
mutual
def uptoBulk {H : Type} : DataW H → Nat
  | .lit (.string bytes) => bytes.length + 1
  | .lit _ => 1
  | .nil => 1
  | .ptr d => uptoBulk d + 1
  | .slice elems spare => uptoBulkAll elems + uptoBulkAll spare + 1
  | .agg parts => uptoBulkAll parts + 1
  | .iface _ d => uptoBulk d + 1
  | .map entries => uptoBulkEntries entries + 1
  | .held _ => 1
def uptoBulkAll {H : Type} : List (DataW H) → Nat
  | [] => 0
  | d :: r => uptoBulk d + uptoBulkAll r
def uptoBulkEntries {H : Type} : List (Lit × DataW H) → Nat
  | [] => 0
  | x :: r => uptoBulkEntry x + uptoBulkEntries r
def uptoBulkEntry {H : Type} : Lit × DataW H → Nat
  | (.string bytes, d) => bytes.length + uptoBulk d + 1
  | (_, d) => uptoBulk d + 1
 end
def uptoSmall : (H : Type) → List (DataW H) → Bool := fun _ ds => decide (uptoBulkAll ds ≤ 1048576)
def OpenSpec.upto (s : _root_.Go.ChangeSpec) : _root_.Go.OpenSpec := { _root_.Go.OpenSpec.ofChange s with cond := some uptoSmall }

/-- 'partbooklaw02.PitchMatchesReference', WHERE WHAT IT READS IS OF BULK AT MOST 1048576: true; the input reads as it did. -/
def pitchMatchesReferenceUptoRow : OpenClaim := { program := "ytgehnciegolkhaadoor", sum := "2ea77269ceaa4185e88e05b2a99f4c0fef9b97b9c9e6336e416e0cd730ba7104", func := "partbook/partbooklaw02.PitchMatchesReference", spec := "pitchMatchesReference", inPlace := ["internal/abi.NoEscape", "internal/bytealg.MakeNoZero", "internal/bytealg.IndexByteString", "internal/bytealg.IndexString"], recurses := true, named := ["partbook/pitch.numbers", "internal/strconv.uint64pow10", "math/bits.deBruijn32tab", "math/bits.deBruijn64tab", "internal/bytealg.MaxLen"], apart := false, laid := [("math/bits.deBruijn32tab", laid_math_bits_deBruijn32tab), ("math/bits.deBruijn64tab", laid_math_bits_deBruijn64tab), ("internal/strconv.uint64pow10", laid_internal_strconv_uint64pow10), ("partbook/pitch.numbers", laid_partbook_pitch_numbers)], narrowed := true }
def PitchMatchesReferenceUptoSaid : Prop := pitchMatchesReferenceUptoRow.holds Tryd.pinned (OpenSpec.upto pitchMatchesReferenceSpec)

/-- 'partbooklaw02.PitchBack', WHERE WHAT IT READS IS OF BULK AT MOST 1048576: true; the input reads as it did. -/
def pitchBackUptoRow : OpenClaim := { program := "ytgehnciegolkhaadoor", sum := "2ea77269ceaa4185e88e05b2a99f4c0fef9b97b9c9e6336e416e0cd730ba7104", func := "partbook/partbooklaw02.PitchBack", spec := "pitchBack", inPlace := ["internal/abi.NoEscape", "internal/bytealg.MakeNoZero", "internal/bytealg.IndexByteString", "internal/bytealg.IndexString"], named := ["partbook/pitch.numbers", "internal/strconv.uint64pow10", "math/bits.deBruijn32tab", "math/bits.deBruijn64tab", "internal/bytealg.MaxLen"], apart := false, laid := [("math/bits.deBruijn32tab", laid_math_bits_deBruijn32tab), ("math/bits.deBruijn64tab", laid_math_bits_deBruijn64tab), ("internal/strconv.uint64pow10", laid_internal_strconv_uint64pow10), ("partbook/pitch.numbers", laid_partbook_pitch_numbers)], narrowed := true }
def PitchBackUptoSaid : Prop := pitchBackUptoRow.holds Tryd.pinned (OpenSpec.upto pitchBackSpec)

/-- 'partbooklaw02.PitchBetween', WHERE WHAT IT READS IS OF BULK AT MOST 1048576: true; the input reads as it did. -/
def pitchBetweenUptoRow : OpenClaim := { program := "ytgehnciegolkhaadoor", sum := "2ea77269ceaa4185e88e05b2a99f4c0fef9b97b9c9e6336e416e0cd730ba7104", func := "partbook/partbooklaw02.PitchBetween", spec := "pitchBetween", inPlace := ["internal/abi.NoEscape", "internal/bytealg.MakeNoZero", "internal/bytealg.IndexByteString", "internal/bytealg.IndexString"], named := ["partbook/pitch.numbers", "internal/strconv.uint64pow10", "math/bits.deBruijn32tab", "math/bits.deBruijn64tab", "internal/bytealg.MaxLen"], apart := false, laid := [("math/bits.deBruijn32tab", laid_math_bits_deBruijn32tab), ("math/bits.deBruijn64tab", laid_math_bits_deBruijn64tab), ("internal/strconv.uint64pow10", laid_internal_strconv_uint64pow10), ("partbook/pitch.numbers", laid_partbook_pitch_numbers)], narrowed := true }
def PitchBetweenUptoSaid : Prop := pitchBetweenUptoRow.holds Tryd.pinned (OpenSpec.upto pitchBetweenSpec)

/-- 'partbooklaw02.PitchNumbers', WHERE WHAT IT READS IS OF BULK AT MOST 1048576: true; the input reads as it did. -/
def pitchNumbersUptoRow : OpenClaim := { program := "ytgehnciegolkhaadoor", sum := "2ea77269ceaa4185e88e05b2a99f4c0fef9b97b9c9e6336e416e0cd730ba7104", func := "partbook/partbooklaw02.PitchNumbers", spec := "pitchNumbers", inPlace := ["internal/abi.NoEscape", "internal/bytealg.MakeNoZero", "internal/bytealg.IndexByteString", "internal/bytealg.IndexString"], named := ["partbook/pitch.numbers", "internal/strconv.uint64pow10", "math/bits.deBruijn32tab", "math/bits.deBruijn64tab", "internal/bytealg.MaxLen"], apart := false, laid := [("math/bits.deBruijn32tab", laid_math_bits_deBruijn32tab), ("math/bits.deBruijn64tab", laid_math_bits_deBruijn64tab), ("internal/strconv.uint64pow10", laid_internal_strconv_uint64pow10), ("partbook/pitch.numbers", laid_partbook_pitch_numbers)], narrowed := true }
def PitchNumbersUptoSaid : Prop := pitchNumbersUptoRow.holds Tryd.pinned (OpenSpec.upto pitchNumbersSpec)

/-- 'partbooklaw02.PitchJoins', WHERE WHAT IT READS IS OF BULK AT MOST 1048576: true; the input reads as it did. -/
def pitchJoinsUptoRow : OpenClaim := { program := "ytgehnciegolkhaadoor", sum := "2ea77269ceaa4185e88e05b2a99f4c0fef9b97b9c9e6336e416e0cd730ba7104", func := "partbook/partbooklaw02.PitchJoins", spec := "pitchJoins", inPlace := ["internal/abi.NoEscape", "internal/bytealg.MakeNoZero", "internal/bytealg.IndexByteString", "internal/bytealg.IndexString"], named := ["partbook/pitch.numbers", "internal/strconv.uint64pow10", "math/bits.deBruijn32tab", "math/bits.deBruijn64tab", "internal/bytealg.MaxLen"], apart := false, laid := [("math/bits.deBruijn32tab", laid_math_bits_deBruijn32tab), ("math/bits.deBruijn64tab", laid_math_bits_deBruijn64tab), ("internal/strconv.uint64pow10", laid_internal_strconv_uint64pow10), ("partbook/pitch.numbers", laid_partbook_pitch_numbers)], narrowed := true }
def PitchJoinsUptoSaid : Prop := pitchJoinsUptoRow.holds Tryd.pinned (OpenSpec.upto pitchJoinsSpec)

/-- 'partbooklaw02.PitchTexts', WHERE WHAT IT READS IS OF BULK AT MOST 1048576: true; the input reads as it did. -/
def pitchTextsUptoRow : OpenClaim := { program := "ytgehnciegolkhaadoor", sum := "2ea77269ceaa4185e88e05b2a99f4c0fef9b97b9c9e6336e416e0cd730ba7104", func := "partbook/partbooklaw02.PitchTexts", spec := "pitchTexts", inPlace := ["internal/abi.NoEscape", "internal/bytealg.MakeNoZero", "internal/bytealg.IndexByteString", "internal/bytealg.IndexString"], named := ["partbook/pitch.numbers", "internal/strconv.uint64pow10", "math/bits.deBruijn32tab", "math/bits.deBruijn64tab", "internal/bytealg.MaxLen"], apart := false, laid := [("math/bits.deBruijn32tab", laid_math_bits_deBruijn32tab), ("math/bits.deBruijn64tab", laid_math_bits_deBruijn64tab), ("internal/strconv.uint64pow10", laid_internal_strconv_uint64pow10), ("partbook/pitch.numbers", laid_partbook_pitch_numbers)], narrowed := true }
def PitchTextsUptoSaid : Prop := pitchTextsUptoRow.holds Tryd.pinned (OpenSpec.upto pitchTextsSpec)

end Rows
end Go.Proofs.YtgehnciegolkhaaDoor
