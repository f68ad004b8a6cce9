/-
  NARROWER THAN 'FOR EVERY INPUT', by the rows' own cells (each row's printed sentence says how): FnExactReadLawn: laid · FnExactWeatherText: laid · FnExactReadWeather: laid · FnExactWalkText: laid · FnExactReadWalk: laid · FnExactSidesText: laid · FnExactReadSides: laid · FnExactLevelsText: laid · FnExactReadLevels: laid · FnExactRoundsText: laid · FnExactReadRounds: laid.
  DERIVED. THE GIVEN ROWS OF THIS SEAT. 11 by the template 'for every input the law returns true; each argument reads behind the call as it read before'; 0 by the template 'total and deterministic' (their statements: YthfhpcigjnjkdaaDoorTotals.lean).
  GIVEN WITH THE SEED: the statements are not yours to turn. If you find one false, say at which input.
  Laid BY PROGRAM, IN A SANDBOX (cutbox-rows.mjs): the forced cells as the released guide's own fill.sh prints them over the translation 3b7d20a3ad91e3cd… (all of the seat's roots in one cut). By AI agents, Wed Nov 11 2026. No macro, syntax, notation, axiom, sorry.
-/
import Derived.Test.YthfhpcigjnjkdaaDoorChecked
import GoSem.PinnedTables
import GoSem.Claim
import GoSem.ClaimJoined
import GoSem.ClaimMapViews
import Derived.JoinedTies
import Derived.KernelRfl
namespace Go.Proofs.YthfhpcigjnjkdaaDoor
/- THE CELL 'sum', in the pinned program and in every row, IS THE sha256 OF THE DUMP (.gsa) THAT YthfhpcigjnjkdaaDoorProg.lean LOADS. Nothing in Lean hashes anything: it is a label: what it is worth is what the hold of that sum in a sandbox is worth. -/
noncomputable def Tryd.pinned : Pinned := { name := "ythfhpcigjnjkdaadoor", sum := "3b7d20a3ad91e3cd93552d0e089f4f24e8ca20cbea39a423914bbacaea4bd84c", checked := Tryd.checked }
namespace Rows
def none {H : Type} : Left H := { results := [], args := [] }

/- WHAT THE LISTED PACKAGE-LEVEL VARIABLES READ AS WHEN THE CALL BEGINS. Each datum BY PROGRAM (the guide's laid-datum.mjs) off the statement by which the dump's own 'gosem.cut.vars' lays the variable. In a bare row this is a premise. The card (YthfhpcigjnjkdaaDoorCards.lean) ties it to the program's text. -/
def laid_unicode_utf8_acceptRanges {H : Type} : DataW H := .agg [.agg [.lit (.int .u8 128), .lit (.int .u8 191)], .agg [.lit (.int .u8 160), .lit (.int .u8 191)], .agg [.lit (.int .u8 128), .lit (.int .u8 159)], .agg [.lit (.int .u8 144), .lit (.int .u8 191)], .agg [.lit (.int .u8 128), .lit (.int .u8 143)], .agg [.lit (.int .u8 0), .lit (.int .u8 0)], .agg [.lit (.int .u8 0), .lit (.int .u8 0)], .agg [.lit (.int .u8 0), .lit (.int .u8 0)], .agg [.lit (.int .u8 0), .lit (.int .u8 0)], .agg [.lit (.int .u8 0), .lit (.int .u8 0)], .agg [.lit (.int .u8 0), .lit (.int .u8 0)], .agg [.lit (.int .u8 0), .lit (.int .u8 0)], .agg [.lit (.int .u8 0), .lit (.int .u8 0)], .agg [.lit (.int .u8 0), .lit (.int .u8 0)], .agg [.lit (.int .u8 0), .lit (.int .u8 0)], .agg [.lit (.int .u8 0), .lit (.int .u8 0)]]
/-- One of Go's own tables, pinned by name: the form's constant. -/
def laid_unicode_utf8_first : DataW Unit := Go.Pinned.utf8First
def laid_math_bits_deBruijn32tab {H : Type} : DataW H := .agg [.lit (.int .u8 0), .lit (.int .u8 1), .lit (.int .u8 28), .lit (.int .u8 2), .lit (.int .u8 29), .lit (.int .u8 14), .lit (.int .u8 24), .lit (.int .u8 3), .lit (.int .u8 30), .lit (.int .u8 22), .lit (.int .u8 20), .lit (.int .u8 15), .lit (.int .u8 25), .lit (.int .u8 17), .lit (.int .u8 4), .lit (.int .u8 8), .lit (.int .u8 31), .lit (.int .u8 27), .lit (.int .u8 13), .lit (.int .u8 23), .lit (.int .u8 21), .lit (.int .u8 19), .lit (.int .u8 16), .lit (.int .u8 7), .lit (.int .u8 26), .lit (.int .u8 12), .lit (.int .u8 18), .lit (.int .u8 6), .lit (.int .u8 11), .lit (.int .u8 5), .lit (.int .u8 10), .lit (.int .u8 9)]
def laid_math_bits_deBruijn64tab {H : Type} : DataW H := .agg [.lit (.int .u8 0), .lit (.int .u8 1), .lit (.int .u8 56), .lit (.int .u8 2), .lit (.int .u8 57), .lit (.int .u8 49), .lit (.int .u8 28), .lit (.int .u8 3), .lit (.int .u8 61), .lit (.int .u8 58), .lit (.int .u8 42), .lit (.int .u8 50), .lit (.int .u8 38), .lit (.int .u8 29), .lit (.int .u8 17), .lit (.int .u8 4), .lit (.int .u8 62), .lit (.int .u8 47), .lit (.int .u8 59), .lit (.int .u8 36), .lit (.int .u8 45), .lit (.int .u8 43), .lit (.int .u8 51), .lit (.int .u8 22), .lit (.int .u8 53), .lit (.int .u8 39), .lit (.int .u8 33), .lit (.int .u8 30), .lit (.int .u8 24), .lit (.int .u8 18), .lit (.int .u8 12), .lit (.int .u8 5), .lit (.int .u8 63), .lit (.int .u8 55), .lit (.int .u8 48), .lit (.int .u8 27), .lit (.int .u8 60), .lit (.int .u8 41), .lit (.int .u8 37), .lit (.int .u8 16), .lit (.int .u8 46), .lit (.int .u8 35), .lit (.int .u8 44), .lit (.int .u8 21), .lit (.int .u8 52), .lit (.int .u8 32), .lit (.int .u8 23), .lit (.int .u8 11), .lit (.int .u8 54), .lit (.int .u8 26), .lit (.int .u8 40), .lit (.int .u8 15), .lit (.int .u8 34), .lit (.int .u8 20), .lit (.int .u8 31), .lit (.int .u8 10), .lit (.int .u8 25), .lit (.int .u8 14), .lit (.int .u8 19), .lit (.int .u8 9), .lit (.int .u8 13), .lit (.int .u8 8), .lit (.int .u8 7), .lit (.int .u8 6)]
def laid_internal_strconv_uint64pow10 {H : Type} : DataW H := .agg [.lit (.int .u64 1), .lit (.int .u64 10), .lit (.int .u64 100), .lit (.int .u64 1000), .lit (.int .u64 10000), .lit (.int .u64 100000), .lit (.int .u64 1000000), .lit (.int .u64 10000000), .lit (.int .u64 100000000), .lit (.int .u64 1000000000), .lit (.int .u64 10000000000), .lit (.int .u64 100000000000), .lit (.int .u64 1000000000000), .lit (.int .u64 10000000000000), .lit (.int .u64 100000000000000), .lit (.int .u64 1000000000000000), .lit (.int .u64 10000000000000000), .lit (.int .u64 100000000000000000), .lit (.int .u64 1000000000000000000), .lit (.int .u64 10000000000000000000)]
def laid_strconv_ErrRange {H : Type} : DataW H := .iface "*errors.errorString" (.ptr (.agg [.lit (.string [118, 97, 108, 117, 101, 32, 111, 117, 116, 32, 111, 102, 32, 114, 97, 110, 103, 101])]))
def laid_strconv_ErrSyntax {H : Type} : DataW H := .iface "*errors.errorString" (.ptr (.agg [.lit (.string [105, 110, 118, 97, 108, 105, 100, 32, 115, 121, 110, 116, 97, 120])]))

/-- 'laws.FnExactReadLawn': WHATEVER THE INPUT: true; the input reads as it did. -/
def fnExactReadLawnSpec : ChangeSpec := { name := "fnExactReadLawn", fn := fun _ => fun
  | [d] => { results := [.lit (.bool true)], args := [d] }
  | _ => none }
def fnExactReadLawnRow : OpenClaim := { program := "ythfhpcigjnjkdaadoor", sum := "3b7d20a3ad91e3cd93552d0e089f4f24e8ca20cbea39a423914bbacaea4bd84c", func := "loop.example/g01405/laws.FnExactReadLawn", spec := "fnExactReadLawn", inPlace := ["internal/bytealg.CountString", "internal/bytealg.IndexByteString", "internal/bytealg.IndexString"], named := ["unicode/utf8.first", "unicode/utf8.acceptRanges", "internal/bytealg.MaxLen"], apart := false, laid := [("unicode/utf8.acceptRanges", laid_unicode_utf8_acceptRanges), ("unicode/utf8.first", laid_unicode_utf8_first)] }
def FnExactReadLawnSaid : Prop := fnExactReadLawnRow.holds Tryd.pinned (OpenSpec.ofChange fnExactReadLawnSpec)

/-- ITS FALSE NEIGHBOUR: 'it returns false'. Refute it at one input. -/
def fnExactReadLawnWrong : ChangeSpec := { name := "fnExactReadLawn", fn := fun _ => fun
  | [d] => { results := [.lit (.bool false)], args := [d] }
  | _ => none }
def FnExactReadLawnWrongFalsely : Prop := fnExactReadLawnRow.holds Tryd.pinned (OpenSpec.ofChange fnExactReadLawnWrong)

/-- 'laws.FnExactWeatherText': WHATEVER THE INPUT: true; the input reads as it did. -/
def fnExactWeatherTextSpec : ChangeSpec := { name := "fnExactWeatherText", fn := fun _ => fun
  | [d] => { results := [.lit (.bool true)], args := [d] }
  | _ => none }
def fnExactWeatherTextRow : OpenClaim := { program := "ythfhpcigjnjkdaadoor", sum := "3b7d20a3ad91e3cd93552d0e089f4f24e8ca20cbea39a423914bbacaea4bd84c", func := "loop.example/g01405/laws.FnExactWeatherText", spec := "fnExactWeatherText", inPlace := ["internal/abi.NoEscape", "internal/bytealg.MakeNoZero"], unfollowed := true, recurses := true, named := ["internal/strconv.uint64pow10", "math/bits.deBruijn32tab", "math/bits.deBruijn64tab"], apart := false, laid := [("math/bits.deBruijn32tab", laid_math_bits_deBruijn32tab), ("math/bits.deBruijn64tab", laid_math_bits_deBruijn64tab), ("internal/strconv.uint64pow10", laid_internal_strconv_uint64pow10)] }
def FnExactWeatherTextSaid : Prop := fnExactWeatherTextRow.holds Tryd.pinned (OpenSpec.ofChange fnExactWeatherTextSpec)

/-- ITS FALSE NEIGHBOUR: 'it returns false'. Refute it at one input. -/
def fnExactWeatherTextWrong : ChangeSpec := { name := "fnExactWeatherText", fn := fun _ => fun
  | [d] => { results := [.lit (.bool false)], args := [d] }
  | _ => none }
def FnExactWeatherTextWrongFalsely : Prop := fnExactWeatherTextRow.holds Tryd.pinned (OpenSpec.ofChange fnExactWeatherTextWrong)

/-- 'laws.FnExactReadWeather': WHATEVER THE INPUT: true; the input reads as it did. -/
def fnExactReadWeatherSpec : ChangeSpec := { name := "fnExactReadWeather", fn := fun _ => fun
  | [d] => { results := [.lit (.bool true)], args := [d] }
  | _ => none }
def fnExactReadWeatherRow : OpenClaim := { program := "ythfhpcigjnjkdaadoor", sum := "3b7d20a3ad91e3cd93552d0e089f4f24e8ca20cbea39a423914bbacaea4bd84c", func := "loop.example/g01405/laws.FnExactReadWeather", spec := "fnExactReadWeather", inPlace := ["internal/bytealg.CountString", "internal/bytealg.IndexByteString", "internal/bytealg.IndexString", "internal/abi.NoEscape", "internal/bytealg.MakeNoZero"], unfollowed := true, recurses := true, named := ["unicode/utf8.first", "unicode/utf8.acceptRanges", "internal/bytealg.MaxLen", "strconv.ErrSyntax", "strconv.ErrRange", "internal/strconv.uint64pow10", "math/bits.deBruijn32tab", "math/bits.deBruijn64tab"], apart := false, laid := [("math/bits.deBruijn32tab", laid_math_bits_deBruijn32tab), ("math/bits.deBruijn64tab", laid_math_bits_deBruijn64tab), ("internal/strconv.uint64pow10", laid_internal_strconv_uint64pow10), ("unicode/utf8.acceptRanges", laid_unicode_utf8_acceptRanges), ("strconv.ErrRange", laid_strconv_ErrRange), ("strconv.ErrSyntax", laid_strconv_ErrSyntax), ("unicode/utf8.first", laid_unicode_utf8_first)] }
def FnExactReadWeatherSaid : Prop := fnExactReadWeatherRow.holds Tryd.pinned (OpenSpec.ofChange fnExactReadWeatherSpec)

/-- ITS FALSE NEIGHBOUR: 'it returns false'. Refute it at one input. -/
def fnExactReadWeatherWrong : ChangeSpec := { name := "fnExactReadWeather", fn := fun _ => fun
  | [d] => { results := [.lit (.bool false)], args := [d] }
  | _ => none }
def FnExactReadWeatherWrongFalsely : Prop := fnExactReadWeatherRow.holds Tryd.pinned (OpenSpec.ofChange fnExactReadWeatherWrong)

/-- 'laws.FnExactWalkText': WHATEVER THE INPUT: true; the input reads as it did. -/
def fnExactWalkTextSpec : ChangeSpec := { name := "fnExactWalkText", fn := fun _ => fun
  | [d] => { results := [.lit (.bool true)], args := [d] }
  | _ => none }
def fnExactWalkTextRow : OpenClaim := { program := "ythfhpcigjnjkdaadoor", sum := "3b7d20a3ad91e3cd93552d0e089f4f24e8ca20cbea39a423914bbacaea4bd84c", func := "loop.example/g01405/laws.FnExactWalkText", spec := "fnExactWalkText", inPlace := ["internal/abi.NoEscape", "internal/bytealg.MakeNoZero"], recurses := true, named := ["internal/strconv.uint64pow10", "math/bits.deBruijn32tab", "math/bits.deBruijn64tab"], apart := false, laid := [("math/bits.deBruijn32tab", laid_math_bits_deBruijn32tab), ("math/bits.deBruijn64tab", laid_math_bits_deBruijn64tab), ("internal/strconv.uint64pow10", laid_internal_strconv_uint64pow10)] }
def FnExactWalkTextSaid : Prop := fnExactWalkTextRow.holds Tryd.pinned (OpenSpec.ofChange fnExactWalkTextSpec)

/-- ITS FALSE NEIGHBOUR: 'it returns false'. Refute it at one input. -/
def fnExactWalkTextWrong : ChangeSpec := { name := "fnExactWalkText", fn := fun _ => fun
  | [d] => { results := [.lit (.bool false)], args := [d] }
  | _ => none }
def FnExactWalkTextWrongFalsely : Prop := fnExactWalkTextRow.holds Tryd.pinned (OpenSpec.ofChange fnExactWalkTextWrong)

/-- 'laws.FnExactReadWalk': WHATEVER THE INPUT: true; the input reads as it did. -/
def fnExactReadWalkSpec : ChangeSpec := { name := "fnExactReadWalk", fn := fun _ => fun
  | [d] => { results := [.lit (.bool true)], args := [d] }
  | _ => none }
def fnExactReadWalkRow : OpenClaim := { program := "ythfhpcigjnjkdaadoor", sum := "3b7d20a3ad91e3cd93552d0e089f4f24e8ca20cbea39a423914bbacaea4bd84c", func := "loop.example/g01405/laws.FnExactReadWalk", spec := "fnExactReadWalk", inPlace := ["internal/bytealg.CountString", "internal/bytealg.IndexByteString", "internal/bytealg.IndexString", "internal/abi.NoEscape", "internal/bytealg.MakeNoZero"], named := ["unicode/utf8.first", "unicode/utf8.acceptRanges", "internal/bytealg.MaxLen", "strconv.ErrSyntax", "strconv.ErrRange", "internal/strconv.uint64pow10", "math/bits.deBruijn32tab", "math/bits.deBruijn64tab"], apart := false, laid := [("math/bits.deBruijn32tab", laid_math_bits_deBruijn32tab), ("math/bits.deBruijn64tab", laid_math_bits_deBruijn64tab), ("internal/strconv.uint64pow10", laid_internal_strconv_uint64pow10), ("unicode/utf8.acceptRanges", laid_unicode_utf8_acceptRanges), ("strconv.ErrRange", laid_strconv_ErrRange), ("strconv.ErrSyntax", laid_strconv_ErrSyntax), ("unicode/utf8.first", laid_unicode_utf8_first)] }
def FnExactReadWalkSaid : Prop := fnExactReadWalkRow.holds Tryd.pinned (OpenSpec.ofChange fnExactReadWalkSpec)

/-- ITS FALSE NEIGHBOUR: 'it returns false'. Refute it at one input. -/
def fnExactReadWalkWrong : ChangeSpec := { name := "fnExactReadWalk", fn := fun _ => fun
  | [d] => { results := [.lit (.bool false)], args := [d] }
  | _ => none }
def FnExactReadWalkWrongFalsely : Prop := fnExactReadWalkRow.holds Tryd.pinned (OpenSpec.ofChange fnExactReadWalkWrong)

/-- 'laws.FnExactSidesText': WHATEVER THE INPUT: true; the input reads as it did. -/
def fnExactSidesTextSpec : ChangeSpec := { name := "fnExactSidesText", fn := fun _ => fun
  | [d] => { results := [.lit (.bool true)], args := [d] }
  | _ => none }
def fnExactSidesTextRow : OpenClaim := { program := "ythfhpcigjnjkdaadoor", sum := "3b7d20a3ad91e3cd93552d0e089f4f24e8ca20cbea39a423914bbacaea4bd84c", func := "loop.example/g01405/laws.FnExactSidesText", spec := "fnExactSidesText", inPlace := ["internal/abi.NoEscape", "internal/bytealg.MakeNoZero"], recurses := true, named := ["internal/strconv.uint64pow10", "math/bits.deBruijn32tab", "math/bits.deBruijn64tab"], apart := false, laid := [("math/bits.deBruijn32tab", laid_math_bits_deBruijn32tab), ("math/bits.deBruijn64tab", laid_math_bits_deBruijn64tab), ("internal/strconv.uint64pow10", laid_internal_strconv_uint64pow10)] }
def FnExactSidesTextSaid : Prop := fnExactSidesTextRow.holds Tryd.pinned (OpenSpec.ofChange fnExactSidesTextSpec)

/-- ITS FALSE NEIGHBOUR: 'it returns false'. Refute it at one input. -/
def fnExactSidesTextWrong : ChangeSpec := { name := "fnExactSidesText", fn := fun _ => fun
  | [d] => { results := [.lit (.bool false)], args := [d] }
  | _ => none }
def FnExactSidesTextWrongFalsely : Prop := fnExactSidesTextRow.holds Tryd.pinned (OpenSpec.ofChange fnExactSidesTextWrong)

/-- 'laws.FnExactReadSides': WHATEVER THE INPUT: true; the input reads as it did. -/
def fnExactReadSidesSpec : ChangeSpec := { name := "fnExactReadSides", fn := fun _ => fun
  | [d] => { results := [.lit (.bool true)], args := [d] }
  | _ => none }
def fnExactReadSidesRow : OpenClaim := { program := "ythfhpcigjnjkdaadoor", sum := "3b7d20a3ad91e3cd93552d0e089f4f24e8ca20cbea39a423914bbacaea4bd84c", func := "loop.example/g01405/laws.FnExactReadSides", spec := "fnExactReadSides", inPlace := ["internal/bytealg.CountString", "internal/bytealg.IndexByteString", "internal/bytealg.IndexString", "internal/abi.NoEscape", "internal/bytealg.MakeNoZero"], named := ["unicode/utf8.first", "unicode/utf8.acceptRanges", "internal/bytealg.MaxLen", "strconv.ErrSyntax", "strconv.ErrRange", "internal/strconv.uint64pow10", "math/bits.deBruijn32tab", "math/bits.deBruijn64tab"], apart := false, laid := [("math/bits.deBruijn32tab", laid_math_bits_deBruijn32tab), ("math/bits.deBruijn64tab", laid_math_bits_deBruijn64tab), ("internal/strconv.uint64pow10", laid_internal_strconv_uint64pow10), ("unicode/utf8.acceptRanges", laid_unicode_utf8_acceptRanges), ("strconv.ErrRange", laid_strconv_ErrRange), ("strconv.ErrSyntax", laid_strconv_ErrSyntax), ("unicode/utf8.first", laid_unicode_utf8_first)] }
def FnExactReadSidesSaid : Prop := fnExactReadSidesRow.holds Tryd.pinned (OpenSpec.ofChange fnExactReadSidesSpec)

/-- ITS FALSE NEIGHBOUR: 'it returns false'. Refute it at one input. -/
def fnExactReadSidesWrong : ChangeSpec := { name := "fnExactReadSides", fn := fun _ => fun
  | [d] => { results := [.lit (.bool false)], args := [d] }
  | _ => none }
def FnExactReadSidesWrongFalsely : Prop := fnExactReadSidesRow.holds Tryd.pinned (OpenSpec.ofChange fnExactReadSidesWrong)

/-- 'laws.FnExactLevelsText': WHATEVER THE INPUT: true; the input reads as it did. -/
def fnExactLevelsTextSpec : ChangeSpec := { name := "fnExactLevelsText", fn := fun _ => fun
  | [d1, d2] => { results := [.lit (.bool true)], args := [d1, d2] }
  | _ => none }
def fnExactLevelsTextRow : OpenClaim := { program := "ythfhpcigjnjkdaadoor", sum := "3b7d20a3ad91e3cd93552d0e089f4f24e8ca20cbea39a423914bbacaea4bd84c", func := "loop.example/g01405/laws.FnExactLevelsText", spec := "fnExactLevelsText", inPlace := ["internal/abi.NoEscape", "internal/bytealg.MakeNoZero"], unfollowed := true, recurses := true, named := ["internal/strconv.uint64pow10", "math/bits.deBruijn32tab", "math/bits.deBruijn64tab"], apart := false, laid := [("math/bits.deBruijn32tab", laid_math_bits_deBruijn32tab), ("math/bits.deBruijn64tab", laid_math_bits_deBruijn64tab), ("internal/strconv.uint64pow10", laid_internal_strconv_uint64pow10)] }
def FnExactLevelsTextSaid : Prop := fnExactLevelsTextRow.holds Tryd.pinned (OpenSpec.ofChange fnExactLevelsTextSpec)

/-- ITS FALSE NEIGHBOUR: 'it returns false'. Refute it at one input. -/
def fnExactLevelsTextWrong : ChangeSpec := { name := "fnExactLevelsText", fn := fun _ => fun
  | [d1, d2] => { results := [.lit (.bool false)], args := [d1, d2] }
  | _ => none }
def FnExactLevelsTextWrongFalsely : Prop := fnExactLevelsTextRow.holds Tryd.pinned (OpenSpec.ofChange fnExactLevelsTextWrong)

/-- 'laws.FnExactReadLevels': WHATEVER THE INPUT: true; the input reads as it did. -/
def fnExactReadLevelsSpec : ChangeSpec := { name := "fnExactReadLevels", fn := fun _ => fun
  | [d1, d2] => { results := [.lit (.bool true)], args := [d1, d2] }
  | _ => none }
def fnExactReadLevelsRow : OpenClaim := { program := "ythfhpcigjnjkdaadoor", sum := "3b7d20a3ad91e3cd93552d0e089f4f24e8ca20cbea39a423914bbacaea4bd84c", func := "loop.example/g01405/laws.FnExactReadLevels", spec := "fnExactReadLevels", inPlace := ["internal/bytealg.CountString", "internal/bytealg.IndexByteString", "internal/bytealg.IndexString", "internal/abi.NoEscape", "internal/bytealg.MakeNoZero"], unfollowed := true, recurses := true, named := ["unicode/utf8.first", "unicode/utf8.acceptRanges", "internal/bytealg.MaxLen", "strconv.ErrSyntax", "strconv.ErrRange", "internal/strconv.uint64pow10", "math/bits.deBruijn32tab", "math/bits.deBruijn64tab"], apart := false, laid := [("math/bits.deBruijn32tab", laid_math_bits_deBruijn32tab), ("math/bits.deBruijn64tab", laid_math_bits_deBruijn64tab), ("internal/strconv.uint64pow10", laid_internal_strconv_uint64pow10), ("unicode/utf8.acceptRanges", laid_unicode_utf8_acceptRanges), ("strconv.ErrRange", laid_strconv_ErrRange), ("strconv.ErrSyntax", laid_strconv_ErrSyntax), ("unicode/utf8.first", laid_unicode_utf8_first)] }
def FnExactReadLevelsSaid : Prop := fnExactReadLevelsRow.holds Tryd.pinned (OpenSpec.ofChange fnExactReadLevelsSpec)

/-- ITS FALSE NEIGHBOUR: 'it returns false'. Refute it at one input. -/
def fnExactReadLevelsWrong : ChangeSpec := { name := "fnExactReadLevels", fn := fun _ => fun
  | [d1, d2] => { results := [.lit (.bool false)], args := [d1, d2] }
  | _ => none }
def FnExactReadLevelsWrongFalsely : Prop := fnExactReadLevelsRow.holds Tryd.pinned (OpenSpec.ofChange fnExactReadLevelsWrong)

/-- 'laws.FnExactRoundsText': WHATEVER THE INPUT: true; the input reads as it did. -/
def fnExactRoundsTextSpec : ChangeSpec := { name := "fnExactRoundsText", fn := fun _ => fun
  | [d] => { results := [.lit (.bool true)], args := [d] }
  | _ => none }
def fnExactRoundsTextRow : OpenClaim := { program := "ythfhpcigjnjkdaadoor", sum := "3b7d20a3ad91e3cd93552d0e089f4f24e8ca20cbea39a423914bbacaea4bd84c", func := "loop.example/g01405/laws.FnExactRoundsText", spec := "fnExactRoundsText", inPlace := ["internal/abi.NoEscape", "internal/bytealg.MakeNoZero"], recurses := true, named := ["internal/strconv.uint64pow10", "math/bits.deBruijn32tab", "math/bits.deBruijn64tab"], apart := false, laid := [("math/bits.deBruijn32tab", laid_math_bits_deBruijn32tab), ("math/bits.deBruijn64tab", laid_math_bits_deBruijn64tab), ("internal/strconv.uint64pow10", laid_internal_strconv_uint64pow10)] }
def FnExactRoundsTextSaid : Prop := fnExactRoundsTextRow.holds Tryd.pinned (OpenSpec.ofChange fnExactRoundsTextSpec)

/-- ITS FALSE NEIGHBOUR: 'it returns false'. Refute it at one input. -/
def fnExactRoundsTextWrong : ChangeSpec := { name := "fnExactRoundsText", fn := fun _ => fun
  | [d] => { results := [.lit (.bool false)], args := [d] }
  | _ => none }
def FnExactRoundsTextWrongFalsely : Prop := fnExactRoundsTextRow.holds Tryd.pinned (OpenSpec.ofChange fnExactRoundsTextWrong)

/-- 'laws.FnExactReadRounds': WHATEVER THE INPUT: true; the input reads as it did. -/
def fnExactReadRoundsSpec : ChangeSpec := { name := "fnExactReadRounds", fn := fun _ => fun
  | [d] => { results := [.lit (.bool true)], args := [d] }
  | _ => none }
def fnExactReadRoundsRow : OpenClaim := { program := "ythfhpcigjnjkdaadoor", sum := "3b7d20a3ad91e3cd93552d0e089f4f24e8ca20cbea39a423914bbacaea4bd84c", func := "loop.example/g01405/laws.FnExactReadRounds", spec := "fnExactReadRounds", inPlace := ["internal/bytealg.CountString", "internal/bytealg.IndexByteString", "internal/bytealg.IndexString", "internal/abi.NoEscape", "internal/bytealg.MakeNoZero"], named := ["unicode/utf8.first", "unicode/utf8.acceptRanges", "internal/bytealg.MaxLen", "strconv.ErrSyntax", "strconv.ErrRange", "internal/strconv.uint64pow10", "math/bits.deBruijn32tab", "math/bits.deBruijn64tab"], apart := false, laid := [("math/bits.deBruijn32tab", laid_math_bits_deBruijn32tab), ("math/bits.deBruijn64tab", laid_math_bits_deBruijn64tab), ("internal/strconv.uint64pow10", laid_internal_strconv_uint64pow10), ("unicode/utf8.acceptRanges", laid_unicode_utf8_acceptRanges), ("strconv.ErrRange", laid_strconv_ErrRange), ("strconv.ErrSyntax", laid_strconv_ErrSyntax), ("unicode/utf8.first", laid_unicode_utf8_first)] }
def FnExactReadRoundsSaid : Prop := fnExactReadRoundsRow.holds Tryd.pinned (OpenSpec.ofChange fnExactReadRoundsSpec)

/-- ITS FALSE NEIGHBOUR: 'it returns false'. Refute it at one input. -/
def fnExactReadRoundsWrong : ChangeSpec := { name := "fnExactReadRounds", fn := fun _ => fun
  | [d] => { results := [.lit (.bool false)], args := [d] }
  | _ => none }
def FnExactReadRoundsWrongFalsely : Prop := fnExactReadRoundsRow.holds Tryd.pinned (OpenSpec.ofChange fnExactReadRoundsWrong)

/- THE SECOND FORM. 'bulk': how many values and letters a reading holds, each counted each time it is reached (what is shared counts as often as it is met; a slice's spare places count too). A statement '..UptoSaid' is the law's where the arguments, and the package variables that the reading takes, are together of bulk at most 1048576: NARROWER than '..Said'. Prove '..Said' where nothing that the law and all that it calls make is longer than what came in: it says more and counts as full. Else prove '..UptoSaid'. A law counts once. -/
mutual
def uptoBulk {H : Type} : DataW H → Nat
  | .lit (.string bytes) => bytes.length + 1
  | .lit _ => 1
  | .nil => 1
  | .ptr d => uptoBulk d + 1
  | .slice elems spare => uptoBulkAll elems + uptoBulkAll spare + 1
  | .agg parts => uptoBulkAll parts + 1
  | .iface _ d => uptoBulk d + 1
  | .map entries => uptoBulkEntries entries + 1
  | .held _ => 1
def uptoBulkAll {H : Type} : List (DataW H) → Nat
  | [] => 0
  | d :: r => uptoBulk d + uptoBulkAll r
def uptoBulkEntries {H : Type} : List (Lit × DataW H) → Nat
  | [] => 0
  | x :: r => uptoBulkEntry x + uptoBulkEntries r
def uptoBulkEntry {H : Type} : Lit × DataW H → Nat
  | (.string bytes, d) => bytes.length + uptoBulk d + 1
  | (_, d) => uptoBulk d + 1
 end
def uptoSmall : (H : Type) → List (DataW H) → Bool := fun _ ds => decide (uptoBulkAll ds ≤ 1048576)
def OpenSpec.upto (s : _root_.Go.ChangeSpec) : _root_.Go.OpenSpec := { _root_.Go.OpenSpec.ofChange s with cond := some uptoSmall }

/-- 'laws.FnExactReadLawn', WHERE WHAT IT READS IS OF BULK AT MOST 1048576: true; the input reads as it did. -/
def fnExactReadLawnUptoRow : OpenClaim := { program := "ythfhpcigjnjkdaadoor", sum := "3b7d20a3ad91e3cd93552d0e089f4f24e8ca20cbea39a423914bbacaea4bd84c", func := "loop.example/g01405/laws.FnExactReadLawn", spec := "fnExactReadLawn", inPlace := ["internal/bytealg.CountString", "internal/bytealg.IndexByteString", "internal/bytealg.IndexString"], named := ["unicode/utf8.first", "unicode/utf8.acceptRanges", "internal/bytealg.MaxLen"], apart := false, laid := [("unicode/utf8.acceptRanges", laid_unicode_utf8_acceptRanges), ("unicode/utf8.first", laid_unicode_utf8_first)], narrowed := true }
def FnExactReadLawnUptoSaid : Prop := fnExactReadLawnUptoRow.holds Tryd.pinned (OpenSpec.upto fnExactReadLawnSpec)

/-- 'laws.FnExactWeatherText', WHERE WHAT IT READS IS OF BULK AT MOST 1048576: true; the input reads as it did. -/
def fnExactWeatherTextUptoRow : OpenClaim := { program := "ythfhpcigjnjkdaadoor", sum := "3b7d20a3ad91e3cd93552d0e089f4f24e8ca20cbea39a423914bbacaea4bd84c", func := "loop.example/g01405/laws.FnExactWeatherText", spec := "fnExactWeatherText", inPlace := ["internal/abi.NoEscape", "internal/bytealg.MakeNoZero"], unfollowed := true, recurses := true, named := ["internal/strconv.uint64pow10", "math/bits.deBruijn32tab", "math/bits.deBruijn64tab"], apart := false, laid := [("math/bits.deBruijn32tab", laid_math_bits_deBruijn32tab), ("math/bits.deBruijn64tab", laid_math_bits_deBruijn64tab), ("internal/strconv.uint64pow10", laid_internal_strconv_uint64pow10)], narrowed := true }
def FnExactWeatherTextUptoSaid : Prop := fnExactWeatherTextUptoRow.holds Tryd.pinned (OpenSpec.upto fnExactWeatherTextSpec)

/-- 'laws.FnExactReadWeather', WHERE WHAT IT READS IS OF BULK AT MOST 1048576: true; the input reads as it did. -/
def fnExactReadWeatherUptoRow : OpenClaim := { program := "ythfhpcigjnjkdaadoor", sum := "3b7d20a3ad91e3cd93552d0e089f4f24e8ca20cbea39a423914bbacaea4bd84c", func := "loop.example/g01405/laws.FnExactReadWeather", spec := "fnExactReadWeather", inPlace := ["internal/bytealg.CountString", "internal/bytealg.IndexByteString", "internal/bytealg.IndexString", "internal/abi.NoEscape", "internal/bytealg.MakeNoZero"], unfollowed := true, recurses := true, named := ["unicode/utf8.first", "unicode/utf8.acceptRanges", "internal/bytealg.MaxLen", "strconv.ErrSyntax", "strconv.ErrRange", "internal/strconv.uint64pow10", "math/bits.deBruijn32tab", "math/bits.deBruijn64tab"], apart := false, laid := [("math/bits.deBruijn32tab", laid_math_bits_deBruijn32tab), ("math/bits.deBruijn64tab", laid_math_bits_deBruijn64tab), ("internal/strconv.uint64pow10", laid_internal_strconv_uint64pow10), ("unicode/utf8.acceptRanges", laid_unicode_utf8_acceptRanges), ("strconv.ErrRange", laid_strconv_ErrRange), ("strconv.ErrSyntax", laid_strconv_ErrSyntax), ("unicode/utf8.first", laid_unicode_utf8_first)], narrowed := true }
def FnExactReadWeatherUptoSaid : Prop := fnExactReadWeatherUptoRow.holds Tryd.pinned (OpenSpec.upto fnExactReadWeatherSpec)

/-- 'laws.FnExactWalkText', WHERE WHAT IT READS IS OF BULK AT MOST 1048576: true; the input reads as it did. -/
def fnExactWalkTextUptoRow : OpenClaim := { program := "ythfhpcigjnjkdaadoor", sum := "3b7d20a3ad91e3cd93552d0e089f4f24e8ca20cbea39a423914bbacaea4bd84c", func := "loop.example/g01405/laws.FnExactWalkText", spec := "fnExactWalkText", inPlace := ["internal/abi.NoEscape", "internal/bytealg.MakeNoZero"], recurses := true, named := ["internal/strconv.uint64pow10", "math/bits.deBruijn32tab", "math/bits.deBruijn64tab"], apart := false, laid := [("math/bits.deBruijn32tab", laid_math_bits_deBruijn32tab), ("math/bits.deBruijn64tab", laid_math_bits_deBruijn64tab), ("internal/strconv.uint64pow10", laid_internal_strconv_uint64pow10)], narrowed := true }
def FnExactWalkTextUptoSaid : Prop := fnExactWalkTextUptoRow.holds Tryd.pinned (OpenSpec.upto fnExactWalkTextSpec)

/-- 'laws.FnExactReadWalk', WHERE WHAT IT READS IS OF BULK AT MOST 1048576: true; the input reads as it did. -/
def fnExactReadWalkUptoRow : OpenClaim := { program := "ythfhpcigjnjkdaadoor", sum := "3b7d20a3ad91e3cd93552d0e089f4f24e8ca20cbea39a423914bbacaea4bd84c", func := "loop.example/g01405/laws.FnExactReadWalk", spec := "fnExactReadWalk", inPlace := ["internal/bytealg.CountString", "internal/bytealg.IndexByteString", "internal/bytealg.IndexString", "internal/abi.NoEscape", "internal/bytealg.MakeNoZero"], named := ["unicode/utf8.first", "unicode/utf8.acceptRanges", "internal/bytealg.MaxLen", "strconv.ErrSyntax", "strconv.ErrRange", "internal/strconv.uint64pow10", "math/bits.deBruijn32tab", "math/bits.deBruijn64tab"], apart := false, laid := [("math/bits.deBruijn32tab", laid_math_bits_deBruijn32tab), ("math/bits.deBruijn64tab", laid_math_bits_deBruijn64tab), ("internal/strconv.uint64pow10", laid_internal_strconv_uint64pow10), ("unicode/utf8.acceptRanges", laid_unicode_utf8_acceptRanges), ("strconv.ErrRange", laid_strconv_ErrRange), ("strconv.ErrSyntax", laid_strconv_ErrSyntax), ("unicode/utf8.first", laid_unicode_utf8_first)], narrowed := true }
def FnExactReadWalkUptoSaid : Prop := fnExactReadWalkUptoRow.holds Tryd.pinned (OpenSpec.upto fnExactReadWalkSpec)

/-- 'laws.FnExactSidesText', WHERE WHAT IT READS IS OF BULK AT MOST 1048576: true; the input reads as it did. -/
def fnExactSidesTextUptoRow : OpenClaim := { program := "ythfhpcigjnjkdaadoor", sum := "3b7d20a3ad91e3cd93552d0e089f4f24e8ca20cbea39a423914bbacaea4bd84c", func := "loop.example/g01405/laws.FnExactSidesText", spec := "fnExactSidesText", inPlace := ["internal/abi.NoEscape", "internal/bytealg.MakeNoZero"], recurses := true, named := ["internal/strconv.uint64pow10", "math/bits.deBruijn32tab", "math/bits.deBruijn64tab"], apart := false, laid := [("math/bits.deBruijn32tab", laid_math_bits_deBruijn32tab), ("math/bits.deBruijn64tab", laid_math_bits_deBruijn64tab), ("internal/strconv.uint64pow10", laid_internal_strconv_uint64pow10)], narrowed := true }
def FnExactSidesTextUptoSaid : Prop := fnExactSidesTextUptoRow.holds Tryd.pinned (OpenSpec.upto fnExactSidesTextSpec)

/-- 'laws.FnExactReadSides', WHERE WHAT IT READS IS OF BULK AT MOST 1048576: true; the input reads as it did. -/
def fnExactReadSidesUptoRow : OpenClaim := { program := "ythfhpcigjnjkdaadoor", sum := "3b7d20a3ad91e3cd93552d0e089f4f24e8ca20cbea39a423914bbacaea4bd84c", func := "loop.example/g01405/laws.FnExactReadSides", spec := "fnExactReadSides", inPlace := ["internal/bytealg.CountString", "internal/bytealg.IndexByteString", "internal/bytealg.IndexString", "internal/abi.NoEscape", "internal/bytealg.MakeNoZero"], named := ["unicode/utf8.first", "unicode/utf8.acceptRanges", "internal/bytealg.MaxLen", "strconv.ErrSyntax", "strconv.ErrRange", "internal/strconv.uint64pow10", "math/bits.deBruijn32tab", "math/bits.deBruijn64tab"], apart := false, laid := [("math/bits.deBruijn32tab", laid_math_bits_deBruijn32tab), ("math/bits.deBruijn64tab", laid_math_bits_deBruijn64tab), ("internal/strconv.uint64pow10", laid_internal_strconv_uint64pow10), ("unicode/utf8.acceptRanges", laid_unicode_utf8_acceptRanges), ("strconv.ErrRange", laid_strconv_ErrRange), ("strconv.ErrSyntax", laid_strconv_ErrSyntax), ("unicode/utf8.first", laid_unicode_utf8_first)], narrowed := true }
def FnExactReadSidesUptoSaid : Prop := fnExactReadSidesUptoRow.holds Tryd.pinned (OpenSpec.upto fnExactReadSidesSpec)

/-- 'laws.FnExactLevelsText', WHERE WHAT IT READS IS OF BULK AT MOST 1048576: true; the input reads as it did. -/
def fnExactLevelsTextUptoRow : OpenClaim := { program := "ythfhpcigjnjkdaadoor", sum := "3b7d20a3ad91e3cd93552d0e089f4f24e8ca20cbea39a423914bbacaea4bd84c", func := "loop.example/g01405/laws.FnExactLevelsText", spec := "fnExactLevelsText", inPlace := ["internal/abi.NoEscape", "internal/bytealg.MakeNoZero"], unfollowed := true, recurses := true, named := ["internal/strconv.uint64pow10", "math/bits.deBruijn32tab", "math/bits.deBruijn64tab"], apart := false, laid := [("math/bits.deBruijn32tab", laid_math_bits_deBruijn32tab), ("math/bits.deBruijn64tab", laid_math_bits_deBruijn64tab), ("internal/strconv.uint64pow10", laid_internal_strconv_uint64pow10)], narrowed := true }
def FnExactLevelsTextUptoSaid : Prop := fnExactLevelsTextUptoRow.holds Tryd.pinned (OpenSpec.upto fnExactLevelsTextSpec)

/-- 'laws.FnExactReadLevels', WHERE WHAT IT READS IS OF BULK AT MOST 1048576: true; the input reads as it did. -/
def fnExactReadLevelsUptoRow : OpenClaim := { program := "ythfhpcigjnjkdaadoor", sum := "3b7d20a3ad91e3cd93552d0e089f4f24e8ca20cbea39a423914bbacaea4bd84c", func := "loop.example/g01405/laws.FnExactReadLevels", spec := "fnExactReadLevels", inPlace := ["internal/bytealg.CountString", "internal/bytealg.IndexByteString", "internal/bytealg.IndexString", "internal/abi.NoEscape", "internal/bytealg.MakeNoZero"], unfollowed := true, recurses := true, named := ["unicode/utf8.first", "unicode/utf8.acceptRanges", "internal/bytealg.MaxLen", "strconv.ErrSyntax", "strconv.ErrRange", "internal/strconv.uint64pow10", "math/bits.deBruijn32tab", "math/bits.deBruijn64tab"], apart := false, laid := [("math/bits.deBruijn32tab", laid_math_bits_deBruijn32tab), ("math/bits.deBruijn64tab", laid_math_bits_deBruijn64tab), ("internal/strconv.uint64pow10", laid_internal_strconv_uint64pow10), ("unicode/utf8.acceptRanges", laid_unicode_utf8_acceptRanges), ("strconv.ErrRange", laid_strconv_ErrRange), ("strconv.ErrSyntax", laid_strconv_ErrSyntax), ("unicode/utf8.first", laid_unicode_utf8_first)], narrowed := true }
def FnExactReadLevelsUptoSaid : Prop := fnExactReadLevelsUptoRow.holds Tryd.pinned (OpenSpec.upto fnExactReadLevelsSpec)

/-- 'laws.FnExactRoundsText', WHERE WHAT IT READS IS OF BULK AT MOST 1048576: true; the input reads as it did. -/
def fnExactRoundsTextUptoRow : OpenClaim := { program := "ythfhpcigjnjkdaadoor", sum := "3b7d20a3ad91e3cd93552d0e089f4f24e8ca20cbea39a423914bbacaea4bd84c", func := "loop.example/g01405/laws.FnExactRoundsText", spec := "fnExactRoundsText", inPlace := ["internal/abi.NoEscape", "internal/bytealg.MakeNoZero"], recurses := true, named := ["internal/strconv.uint64pow10", "math/bits.deBruijn32tab", "math/bits.deBruijn64tab"], apart := false, laid := [("math/bits.deBruijn32tab", laid_math_bits_deBruijn32tab), ("math/bits.deBruijn64tab", laid_math_bits_deBruijn64tab), ("internal/strconv.uint64pow10", laid_internal_strconv_uint64pow10)], narrowed := true }
def FnExactRoundsTextUptoSaid : Prop := fnExactRoundsTextUptoRow.holds Tryd.pinned (OpenSpec.upto fnExactRoundsTextSpec)

/-- 'laws.FnExactReadRounds', WHERE WHAT IT READS IS OF BULK AT MOST 1048576: true; the input reads as it did. -/
def fnExactReadRoundsUptoRow : OpenClaim := { program := "ythfhpcigjnjkdaadoor", sum := "3b7d20a3ad91e3cd93552d0e089f4f24e8ca20cbea39a423914bbacaea4bd84c", func := "loop.example/g01405/laws.FnExactReadRounds", spec := "fnExactReadRounds", inPlace := ["internal/bytealg.CountString", "internal/bytealg.IndexByteString", "internal/bytealg.IndexString", "internal/abi.NoEscape", "internal/bytealg.MakeNoZero"], named := ["unicode/utf8.first", "unicode/utf8.acceptRanges", "internal/bytealg.MaxLen", "strconv.ErrSyntax", "strconv.ErrRange", "internal/strconv.uint64pow10", "math/bits.deBruijn32tab", "math/bits.deBruijn64tab"], apart := false, laid := [("math/bits.deBruijn32tab", laid_math_bits_deBruijn32tab), ("math/bits.deBruijn64tab", laid_math_bits_deBruijn64tab), ("internal/strconv.uint64pow10", laid_internal_strconv_uint64pow10), ("unicode/utf8.acceptRanges", laid_unicode_utf8_acceptRanges), ("strconv.ErrRange", laid_strconv_ErrRange), ("strconv.ErrSyntax", laid_strconv_ErrSyntax), ("unicode/utf8.first", laid_unicode_utf8_first)], narrowed := true }
def FnExactReadRoundsUptoSaid : Prop := fnExactReadRoundsUptoRow.holds Tryd.pinned (OpenSpec.upto fnExactReadRoundsSpec)

end Rows
end Go.Proofs.YthfhpcigjnjkdaaDoor
