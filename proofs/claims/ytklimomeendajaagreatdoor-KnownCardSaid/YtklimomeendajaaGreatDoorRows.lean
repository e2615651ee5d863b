/-
  NARROWER THAN 'FOR EVERY INPUT', by the rows' own cells (each row's printed sentence says how): Reads: laid · Types: laid · Plainly: laid · Runs: laid · Sliced: laid · Roomy: laid · Sound: laid · Wrapped: laid · Known: laid · All: laid.
  DERIVED. THE GIVEN ROWS OF THIS SEAT. 10 by the template 'for every input the law returns true; each argument reads behind the call as it read before'; 0 by the template 'total and deterministic' (their statements: YtklimomeendajaaGreatDoorTotals.lean).
  GIVEN WITH THE SEED: the statements are not yours to turn. If you find one false, say at which input.
  Laid BY PROGRAM, IN A SANDBOX (cutbox-rows.mjs): the forced cells as the released guide's own fill.sh prints them over the translation 2cd46053a863b754… (all of the seat's roots in one cut). By AI agents, Wed Nov 11 2026. No macro, syntax, notation, axiom, sorry.
-/
import Derived.Test.YtklimomeendajaaGreatDoorChecked
import GoSem.Claim
import GoSem.ClaimJoined
import GoSem.ClaimMapViews
import Derived.JoinedTies
import Derived.KernelRfl
namespace Go.Proofs.YtklimomeendajaaGreatDoor
/- THE CELL 'sum', in the pinned program and in every row, IS THE sha256 OF THE DUMP (.gsa) THAT YtklimomeendajaaGreatDoorProg.lean LOADS. Nothing in Lean hashes anything: it is a label: what it is worth is what the hold of that sum in a sandbox is worth. -/
noncomputable def Tryz.pinned : Pinned := { name := "ytklimomeendajaagreatdoor", sum := "2cd46053a863b754c52186d9f72da2623e0f1bd7d4a61f8a5a12044cc9f75a1d", checked := Tryz.checked }
namespace Rows
def none {H : Type} : Left H := { results := [], args := [] }

/- WHAT THE LISTED PACKAGE-LEVEL VARIABLES READ AS WHEN THE CALL BEGINS. Each datum BY PROGRAM (the guide's laid-datum.mjs) off the statement by which the dump's own 'gosem.cut.vars' lays the variable. In a bare row this is a premise. The card (YtklimomeendajaaGreatDoorCards.lean) ties it to the program's text. -/
def laid_resume_words_keywords {H : Type} : DataW H := .agg [.lit (.string [108, 101, 116]), .lit (.string [114, 101, 99]), .lit (.string [97, 110, 100]), .lit (.string [105, 110]), .lit (.string [102, 110]), .lit (.string [105, 102]), .lit (.string [116, 104, 101, 110]), .lit (.string [101, 108, 115, 101]), .lit (.string [109, 97, 116, 99, 104]), .lit (.string [119, 105, 116, 104]), .lit (.string [101, 110, 100]), .lit (.string [116, 114, 121]), .lit (.string [114, 97, 105, 115, 101]), .lit (.string [99, 97, 108, 108, 99, 99]), .lit (.string [116, 104, 114, 111, 119]), .lit (.string [112, 114, 105, 110, 116]), .lit (.string [114, 101, 97, 100]), .lit (.string [116, 114, 117, 101]), .lit (.string [102, 97, 108, 115, 101]), .lit (.string [95])]
def laid_resume_words_signs {H : Type} : DataW H := .agg [.lit (.string [45, 62]), .lit (.string [58, 58]), .lit (.string [91, 93]), .lit (.string [61]), .lit (.string [60]), .lit (.string [43]), .lit (.string [45]), .lit (.string [42]), .lit (.string [47]), .lit (.string [40]), .lit (.string [41]), .lit (.string [44]), .lit (.string [124])]
def laid_math_bits_deBruijn32tab {H : Type} : DataW H := .agg [.lit (.int .u8 0), .lit (.int .u8 1), .lit (.int .u8 28), .lit (.int .u8 2), .lit (.int .u8 29), .lit (.int .u8 14), .lit (.int .u8 24), .lit (.int .u8 3), .lit (.int .u8 30), .lit (.int .u8 22), .lit (.int .u8 20), .lit (.int .u8 15), .lit (.int .u8 25), .lit (.int .u8 17), .lit (.int .u8 4), .lit (.int .u8 8), .lit (.int .u8 31), .lit (.int .u8 27), .lit (.int .u8 13), .lit (.int .u8 23), .lit (.int .u8 21), .lit (.int .u8 19), .lit (.int .u8 16), .lit (.int .u8 7), .lit (.int .u8 26), .lit (.int .u8 12), .lit (.int .u8 18), .lit (.int .u8 6), .lit (.int .u8 11), .lit (.int .u8 5), .lit (.int .u8 10), .lit (.int .u8 9)]
def laid_math_bits_deBruijn64tab {H : Type} : DataW H := .agg [.lit (.int .u8 0), .lit (.int .u8 1), .lit (.int .u8 56), .lit (.int .u8 2), .lit (.int .u8 57), .lit (.int .u8 49), .lit (.int .u8 28), .lit (.int .u8 3), .lit (.int .u8 61), .lit (.int .u8 58), .lit (.int .u8 42), .lit (.int .u8 50), .lit (.int .u8 38), .lit (.int .u8 29), .lit (.int .u8 17), .lit (.int .u8 4), .lit (.int .u8 62), .lit (.int .u8 47), .lit (.int .u8 59), .lit (.int .u8 36), .lit (.int .u8 45), .lit (.int .u8 43), .lit (.int .u8 51), .lit (.int .u8 22), .lit (.int .u8 53), .lit (.int .u8 39), .lit (.int .u8 33), .lit (.int .u8 30), .lit (.int .u8 24), .lit (.int .u8 18), .lit (.int .u8 12), .lit (.int .u8 5), .lit (.int .u8 63), .lit (.int .u8 55), .lit (.int .u8 48), .lit (.int .u8 27), .lit (.int .u8 60), .lit (.int .u8 41), .lit (.int .u8 37), .lit (.int .u8 16), .lit (.int .u8 46), .lit (.int .u8 35), .lit (.int .u8 44), .lit (.int .u8 21), .lit (.int .u8 52), .lit (.int .u8 32), .lit (.int .u8 23), .lit (.int .u8 11), .lit (.int .u8 54), .lit (.int .u8 26), .lit (.int .u8 40), .lit (.int .u8 15), .lit (.int .u8 34), .lit (.int .u8 20), .lit (.int .u8 31), .lit (.int .u8 10), .lit (.int .u8 25), .lit (.int .u8 14), .lit (.int .u8 19), .lit (.int .u8 9), .lit (.int .u8 13), .lit (.int .u8 8), .lit (.int .u8 7), .lit (.int .u8 6)]
def laid_internal_strconv_uint64pow10 {H : Type} : DataW H := .agg [.lit (.int .u64 1), .lit (.int .u64 10), .lit (.int .u64 100), .lit (.int .u64 1000), .lit (.int .u64 10000), .lit (.int .u64 100000), .lit (.int .u64 1000000), .lit (.int .u64 10000000), .lit (.int .u64 100000000), .lit (.int .u64 1000000000), .lit (.int .u64 10000000000), .lit (.int .u64 100000000000), .lit (.int .u64 1000000000000), .lit (.int .u64 10000000000000), .lit (.int .u64 100000000000000), .lit (.int .u64 1000000000000000), .lit (.int .u64 10000000000000000), .lit (.int .u64 100000000000000000), .lit (.int .u64 1000000000000000000), .lit (.int .u64 10000000000000000000)]

/-- 'resumelaw.Reads': WHATEVER THE INPUT: true; the input reads as it did. -/
def readsSpec : ChangeSpec := { name := "reads", fn := fun _ => fun
  | [d] => { results := [.lit (.bool true)], args := [d] }
  | _ => none }
def readsRow : OpenClaim := { program := "ytklimomeendajaagreatdoor", sum := "2cd46053a863b754c52186d9f72da2623e0f1bd7d4a61f8a5a12044cc9f75a1d", func := "resume/resumelaw.Reads", spec := "reads", recurses := true, named := ["resume/words.keywords", "resume/words.signs"], apart := false, laid := [("resume/words.keywords", laid_resume_words_keywords), ("resume/words.signs", laid_resume_words_signs)] }
def ReadsSaid : Prop := readsRow.holds Tryz.pinned (OpenSpec.ofChange readsSpec)

/-- ITS FALSE NEIGHBOUR: 'it returns false'. Refute it at one input. -/
def readsWrong : ChangeSpec := { name := "reads", fn := fun _ => fun
  | [d] => { results := [.lit (.bool false)], args := [d] }
  | _ => none }
def ReadsWrongFalsely : Prop := readsRow.holds Tryz.pinned (OpenSpec.ofChange readsWrong)

/-- 'resumelaw.Types': WHATEVER THE INPUT: true; the input reads as it did. -/
def typesSpec : ChangeSpec := { name := "types", fn := fun _ => fun
  | [d] => { results := [.lit (.bool true)], args := [d] }
  | _ => none }
def typesRow : OpenClaim := { program := "ytklimomeendajaagreatdoor", sum := "2cd46053a863b754c52186d9f72da2623e0f1bd7d4a61f8a5a12044cc9f75a1d", func := "resume/resumelaw.Types", spec := "types", recurses := true, named := ["resume/words.keywords", "resume/words.signs"], apart := false, laid := [("resume/words.keywords", laid_resume_words_keywords), ("resume/words.signs", laid_resume_words_signs)] }
def TypesSaid : Prop := typesRow.holds Tryz.pinned (OpenSpec.ofChange typesSpec)

/-- ITS FALSE NEIGHBOUR: 'it returns false'. Refute it at one input. -/
def typesWrong : ChangeSpec := { name := "types", fn := fun _ => fun
  | [d] => { results := [.lit (.bool false)], args := [d] }
  | _ => none }
def TypesWrongFalsely : Prop := typesRow.holds Tryz.pinned (OpenSpec.ofChange typesWrong)

/-- 'resumelaw.Plainly': WHATEVER THE INPUT: true; the input reads as it did. -/
def plainlySpec : ChangeSpec := { name := "plainly", fn := fun _ => fun
  | [d1, d2, d3, d4] => { results := [.lit (.bool true)], args := [d1, d2, d3, d4] }
  | _ => none }
def plainlyRow : OpenClaim := { program := "ytklimomeendajaagreatdoor", sum := "2cd46053a863b754c52186d9f72da2623e0f1bd7d4a61f8a5a12044cc9f75a1d", func := "resume/resumelaw.Plainly", spec := "plainly", recurses := true, named := ["resume/words.keywords", "resume/words.signs", "internal/strconv.uint64pow10", "math/bits.deBruijn32tab", "math/bits.deBruijn64tab"], apart := false, laid := [("math/bits.deBruijn32tab", laid_math_bits_deBruijn32tab), ("math/bits.deBruijn64tab", laid_math_bits_deBruijn64tab), ("internal/strconv.uint64pow10", laid_internal_strconv_uint64pow10), ("resume/words.keywords", laid_resume_words_keywords), ("resume/words.signs", laid_resume_words_signs)] }
def PlainlySaid : Prop := plainlyRow.holds Tryz.pinned (OpenSpec.ofChange plainlySpec)

/-- ITS FALSE NEIGHBOUR: 'it returns false'. Refute it at one input. -/
def plainlyWrong : ChangeSpec := { name := "plainly", fn := fun _ => fun
  | [d1, d2, d3, d4] => { results := [.lit (.bool false)], args := [d1, d2, d3, d4] }
  | _ => none }
def PlainlyWrongFalsely : Prop := plainlyRow.holds Tryz.pinned (OpenSpec.ofChange plainlyWrong)

/-- 'resumelaw.Runs': WHATEVER THE INPUT: true; the input reads as it did. -/
def runsSpec : ChangeSpec := { name := "runs", fn := fun _ => fun
  | [d1, d2, d3, d4] => { results := [.lit (.bool true)], args := [d1, d2, d3, d4] }
  | _ => none }
def runsRow : OpenClaim := { program := "ytklimomeendajaagreatdoor", sum := "2cd46053a863b754c52186d9f72da2623e0f1bd7d4a61f8a5a12044cc9f75a1d", func := "resume/resumelaw.Runs", spec := "runs", recurses := true, named := ["resume/words.keywords", "resume/words.signs", "internal/strconv.uint64pow10", "math/bits.deBruijn32tab", "math/bits.deBruijn64tab"], apart := false, laid := [("math/bits.deBruijn32tab", laid_math_bits_deBruijn32tab), ("math/bits.deBruijn64tab", laid_math_bits_deBruijn64tab), ("internal/strconv.uint64pow10", laid_internal_strconv_uint64pow10), ("resume/words.keywords", laid_resume_words_keywords), ("resume/words.signs", laid_resume_words_signs)] }
def RunsSaid : Prop := runsRow.holds Tryz.pinned (OpenSpec.ofChange runsSpec)

/-- ITS FALSE NEIGHBOUR: 'it returns false'. Refute it at one input. -/
def runsWrong : ChangeSpec := { name := "runs", fn := fun _ => fun
  | [d1, d2, d3, d4] => { results := [.lit (.bool false)], args := [d1, d2, d3, d4] }
  | _ => none }
def RunsWrongFalsely : Prop := runsRow.holds Tryz.pinned (OpenSpec.ofChange runsWrong)

/-- 'resumekeep.Sliced': WHATEVER THE INPUT: true; the input reads as it did. -/
def slicedSpec : ChangeSpec := { name := "sliced", fn := fun _ => fun
  | [d1, d2, d3, d4, d5] => { results := [.lit (.bool true)], args := [d1, d2, d3, d4, d5] }
  | _ => none }
def slicedRow : OpenClaim := { program := "ytklimomeendajaagreatdoor", sum := "2cd46053a863b754c52186d9f72da2623e0f1bd7d4a61f8a5a12044cc9f75a1d", func := "resume/resumekeep.Sliced", spec := "sliced", recurses := true, named := ["resume/words.keywords", "resume/words.signs", "internal/strconv.uint64pow10", "math/bits.deBruijn32tab", "math/bits.deBruijn64tab"], apart := false, laid := [("math/bits.deBruijn32tab", laid_math_bits_deBruijn32tab), ("math/bits.deBruijn64tab", laid_math_bits_deBruijn64tab), ("internal/strconv.uint64pow10", laid_internal_strconv_uint64pow10), ("resume/words.keywords", laid_resume_words_keywords), ("resume/words.signs", laid_resume_words_signs)] }
def SlicedSaid : Prop := slicedRow.holds Tryz.pinned (OpenSpec.ofChange slicedSpec)

/-- ITS FALSE NEIGHBOUR: 'it returns false'. Refute it at one input. -/
def slicedWrong : ChangeSpec := { name := "sliced", fn := fun _ => fun
  | [d1, d2, d3, d4, d5] => { results := [.lit (.bool false)], args := [d1, d2, d3, d4, d5] }
  | _ => none }
def SlicedWrongFalsely : Prop := slicedRow.holds Tryz.pinned (OpenSpec.ofChange slicedWrong)

/-- 'resumekeep.Roomy': WHATEVER THE INPUT: true; the input reads as it did. -/
def roomySpec : ChangeSpec := { name := "roomy", fn := fun _ => fun
  | [d1, d2, d3, d4] => { results := [.lit (.bool true)], args := [d1, d2, d3, d4] }
  | _ => none }
def roomyRow : OpenClaim := { program := "ytklimomeendajaagreatdoor", sum := "2cd46053a863b754c52186d9f72da2623e0f1bd7d4a61f8a5a12044cc9f75a1d", func := "resume/resumekeep.Roomy", spec := "roomy", recurses := true, named := ["resume/words.keywords", "resume/words.signs", "internal/strconv.uint64pow10", "math/bits.deBruijn32tab", "math/bits.deBruijn64tab"], apart := false, laid := [("math/bits.deBruijn32tab", laid_math_bits_deBruijn32tab), ("math/bits.deBruijn64tab", laid_math_bits_deBruijn64tab), ("internal/strconv.uint64pow10", laid_internal_strconv_uint64pow10), ("resume/words.keywords", laid_resume_words_keywords), ("resume/words.signs", laid_resume_words_signs)] }
def RoomySaid : Prop := roomyRow.holds Tryz.pinned (OpenSpec.ofChange roomySpec)

/-- ITS FALSE NEIGHBOUR: 'it returns false'. Refute it at one input. -/
def roomyWrong : ChangeSpec := { name := "roomy", fn := fun _ => fun
  | [d1, d2, d3, d4] => { results := [.lit (.bool false)], args := [d1, d2, d3, d4] }
  | _ => none }
def RoomyWrongFalsely : Prop := roomyRow.holds Tryz.pinned (OpenSpec.ofChange roomyWrong)

/-- 'resumekeep.Sound': WHATEVER THE INPUT: true; the input reads as it did. -/
def soundSpec : ChangeSpec := { name := "sound", fn := fun _ => fun
  | [d1, d2, d3] => { results := [.lit (.bool true)], args := [d1, d2, d3] }
  | _ => none }
def soundRow : OpenClaim := { program := "ytklimomeendajaagreatdoor", sum := "2cd46053a863b754c52186d9f72da2623e0f1bd7d4a61f8a5a12044cc9f75a1d", func := "resume/resumekeep.Sound", spec := "sound", recurses := true, named := ["resume/words.keywords", "resume/words.signs", "internal/strconv.uint64pow10", "math/bits.deBruijn32tab", "math/bits.deBruijn64tab"], apart := false, laid := [("math/bits.deBruijn32tab", laid_math_bits_deBruijn32tab), ("math/bits.deBruijn64tab", laid_math_bits_deBruijn64tab), ("internal/strconv.uint64pow10", laid_internal_strconv_uint64pow10), ("resume/words.keywords", laid_resume_words_keywords), ("resume/words.signs", laid_resume_words_signs)] }
def SoundSaid : Prop := soundRow.holds Tryz.pinned (OpenSpec.ofChange soundSpec)

/-- ITS FALSE NEIGHBOUR: 'it returns false'. Refute it at one input. -/
def soundWrong : ChangeSpec := { name := "sound", fn := fun _ => fun
  | [d1, d2, d3] => { results := [.lit (.bool false)], args := [d1, d2, d3] }
  | _ => none }
def SoundWrongFalsely : Prop := soundRow.holds Tryz.pinned (OpenSpec.ofChange soundWrong)

/-- 'resumekeep.Wrapped': WHATEVER THE INPUT: true; the input reads as it did. -/
def wrappedSpec : ChangeSpec := { name := "wrapped", fn := fun _ => fun
  | [d1, d2, d3] => { results := [.lit (.bool true)], args := [d1, d2, d3] }
  | _ => none }
def wrappedRow : OpenClaim := { program := "ytklimomeendajaagreatdoor", sum := "2cd46053a863b754c52186d9f72da2623e0f1bd7d4a61f8a5a12044cc9f75a1d", func := "resume/resumekeep.Wrapped", spec := "wrapped", recurses := true, named := ["resume/words.keywords", "resume/words.signs", "internal/strconv.uint64pow10", "math/bits.deBruijn32tab", "math/bits.deBruijn64tab"], apart := false, laid := [("math/bits.deBruijn32tab", laid_math_bits_deBruijn32tab), ("math/bits.deBruijn64tab", laid_math_bits_deBruijn64tab), ("internal/strconv.uint64pow10", laid_internal_strconv_uint64pow10), ("resume/words.keywords", laid_resume_words_keywords), ("resume/words.signs", laid_resume_words_signs)] }
def WrappedSaid : Prop := wrappedRow.holds Tryz.pinned (OpenSpec.ofChange wrappedSpec)

/-- ITS FALSE NEIGHBOUR: 'it returns false'. Refute it at one input. -/
def wrappedWrong : ChangeSpec := { name := "wrapped", fn := fun _ => fun
  | [d1, d2, d3] => { results := [.lit (.bool false)], args := [d1, d2, d3] }
  | _ => none }
def WrappedWrongFalsely : Prop := wrappedRow.holds Tryz.pinned (OpenSpec.ofChange wrappedWrong)

/-- 'resumekeep.Known': WHATEVER THE INPUT: true; the input reads as it did. -/
def knownSpec : ChangeSpec := { name := "known", fn := fun _ => fun
  | [d] => { results := [.lit (.bool true)], args := [d] }
  | _ => none }
def knownRow : OpenClaim := { program := "ytklimomeendajaagreatdoor", sum := "2cd46053a863b754c52186d9f72da2623e0f1bd7d4a61f8a5a12044cc9f75a1d", func := "resume/resumekeep.Known", spec := "known", recurses := true, named := ["resume/words.keywords", "resume/words.signs", "internal/strconv.uint64pow10", "math/bits.deBruijn32tab", "math/bits.deBruijn64tab"], apart := false, laid := [("math/bits.deBruijn32tab", laid_math_bits_deBruijn32tab), ("math/bits.deBruijn64tab", laid_math_bits_deBruijn64tab), ("internal/strconv.uint64pow10", laid_internal_strconv_uint64pow10), ("resume/words.keywords", laid_resume_words_keywords), ("resume/words.signs", laid_resume_words_signs)] }
def KnownSaid : Prop := knownRow.holds Tryz.pinned (OpenSpec.ofChange knownSpec)

/-- ITS FALSE NEIGHBOUR: 'it returns false'. Refute it at one input. -/
def knownWrong : ChangeSpec := { name := "known", fn := fun _ => fun
  | [d] => { results := [.lit (.bool false)], args := [d] }
  | _ => none }
def KnownWrongFalsely : Prop := knownRow.holds Tryz.pinned (OpenSpec.ofChange knownWrong)

/-- 'resumelaw.All': WHATEVER THE INPUT: true; the input reads as it did. -/
def allSpec : ChangeSpec := { name := "all", fn := fun _ => fun
  | [d] => { results := [.lit (.bool true)], args := [d] }
  | _ => none }
def allRow : OpenClaim := { program := "ytklimomeendajaagreatdoor", sum := "2cd46053a863b754c52186d9f72da2623e0f1bd7d4a61f8a5a12044cc9f75a1d", func := "resume/resumelaw.All", spec := "all", recurses := true, named := ["resume/words.keywords", "resume/words.signs", "internal/strconv.uint64pow10", "math/bits.deBruijn32tab", "math/bits.deBruijn64tab"], apart := false, laid := [("math/bits.deBruijn32tab", laid_math_bits_deBruijn32tab), ("math/bits.deBruijn64tab", laid_math_bits_deBruijn64tab), ("internal/strconv.uint64pow10", laid_internal_strconv_uint64pow10), ("resume/words.keywords", laid_resume_words_keywords), ("resume/words.signs", laid_resume_words_signs)] }
def AllSaid : Prop := allRow.holds Tryz.pinned (OpenSpec.ofChange allSpec)

/-- ITS FALSE NEIGHBOUR: 'it returns false'. Refute it at one input. -/
def allWrong : ChangeSpec := { name := "all", fn := fun _ => fun
  | [d] => { results := [.lit (.bool false)], args := [d] }
  | _ => none }
def AllWrongFalsely : Prop := allRow.holds Tryz.pinned (OpenSpec.ofChange allWrong)

/- THE SECOND FORM. 'bulk': how many values and letters a reading holds, each counted each time it is reached (what is shared counts as often as it is met; a slice's spare places count too). A statement '..UptoSaid' is the law's where the arguments, and the package variables that the reading takes, are together of bulk at most 1048576: NARROWER than '..Said'. Prove '..Said' where nothing that the law and all that it calls make is longer than what came in: it says more and counts as full. Else prove '..UptoSaid'. A law counts once. -/
mutual
def uptoBulk {H : Type} : DataW H → Nat
  | .lit (.string bytes) => bytes.length + 1
  | .lit _ => 1
  | .nil => 1
  | .ptr d => uptoBulk d + 1
  | .slice elems spare => uptoBulkAll elems + uptoBulkAll spare + 1
  | .agg parts => uptoBulkAll parts + 1
  | .iface _ d => uptoBulk d + 1
  | .map entries => uptoBulkEntries entries + 1
  | .held _ => 1
def uptoBulkAll {H : Type} : List (DataW H) → Nat
  | [] => 0
  | d :: r => uptoBulk d + uptoBulkAll r
def uptoBulkEntries {H : Type} : List (Lit × DataW H) → Nat
  | [] => 0
  | x :: r => uptoBulkEntry x + uptoBulkEntries r
def uptoBulkEntry {H : Type} : Lit × DataW H → Nat
  | (.string bytes, d) => bytes.length + uptoBulk d + 1
  | (_, d) => uptoBulk d + 1
 end
def uptoSmall : (H : Type) → List (DataW H) → Bool := fun _ ds => decide (uptoBulkAll ds ≤ 1048576)
def OpenSpec.upto (s : _root_.Go.ChangeSpec) : _root_.Go.OpenSpec := { _root_.Go.OpenSpec.ofChange s with cond := some uptoSmall }

/-- 'resumelaw.Reads', WHERE WHAT IT READS IS OF BULK AT MOST 1048576: true; the input reads as it did. -/
def readsUptoRow : OpenClaim := { program := "ytklimomeendajaagreatdoor", sum := "2cd46053a863b754c52186d9f72da2623e0f1bd7d4a61f8a5a12044cc9f75a1d", func := "resume/resumelaw.Reads", spec := "reads", recurses := true, named := ["resume/words.keywords", "resume/words.signs"], apart := false, laid := [("resume/words.keywords", laid_resume_words_keywords), ("resume/words.signs", laid_resume_words_signs)], narrowed := true }
def ReadsUptoSaid : Prop := readsUptoRow.holds Tryz.pinned (OpenSpec.upto readsSpec)

/-- 'resumelaw.Types', WHERE WHAT IT READS IS OF BULK AT MOST 1048576: true; the input reads as it did. -/
def typesUptoRow : OpenClaim := { program := "ytklimomeendajaagreatdoor", sum := "2cd46053a863b754c52186d9f72da2623e0f1bd7d4a61f8a5a12044cc9f75a1d", func := "resume/resumelaw.Types", spec := "types", recurses := true, named := ["resume/words.keywords", "resume/words.signs"], apart := false, laid := [("resume/words.keywords", laid_resume_words_keywords), ("resume/words.signs", laid_resume_words_signs)], narrowed := true }
def TypesUptoSaid : Prop := typesUptoRow.holds Tryz.pinned (OpenSpec.upto typesSpec)

/-- 'resumelaw.Plainly', WHERE WHAT IT READS IS OF BULK AT MOST 1048576: true; the input reads as it did. -/
def plainlyUptoRow : OpenClaim := { program := "ytklimomeendajaagreatdoor", sum := "2cd46053a863b754c52186d9f72da2623e0f1bd7d4a61f8a5a12044cc9f75a1d", func := "resume/resumelaw.Plainly", spec := "plainly", recurses := true, named := ["resume/words.keywords", "resume/words.signs", "internal/strconv.uint64pow10", "math/bits.deBruijn32tab", "math/bits.deBruijn64tab"], apart := false, laid := [("math/bits.deBruijn32tab", laid_math_bits_deBruijn32tab), ("math/bits.deBruijn64tab", laid_math_bits_deBruijn64tab), ("internal/strconv.uint64pow10", laid_internal_strconv_uint64pow10), ("resume/words.keywords", laid_resume_words_keywords), ("resume/words.signs", laid_resume_words_signs)], narrowed := true }
def PlainlyUptoSaid : Prop := plainlyUptoRow.holds Tryz.pinned (OpenSpec.upto plainlySpec)

/-- 'resumelaw.Runs', WHERE WHAT IT READS IS OF BULK AT MOST 1048576: true; the input reads as it did. -/
def runsUptoRow : OpenClaim := { program := "ytklimomeendajaagreatdoor", sum := "2cd46053a863b754c52186d9f72da2623e0f1bd7d4a61f8a5a12044cc9f75a1d", func := "resume/resumelaw.Runs", spec := "runs", recurses := true, named := ["resume/words.keywords", "resume/words.signs", "internal/strconv.uint64pow10", "math/bits.deBruijn32tab", "math/bits.deBruijn64tab"], apart := false, laid := [("math/bits.deBruijn32tab", laid_math_bits_deBruijn32tab), ("math/bits.deBruijn64tab", laid_math_bits_deBruijn64tab), ("internal/strconv.uint64pow10", laid_internal_strconv_uint64pow10), ("resume/words.keywords", laid_resume_words_keywords), ("resume/words.signs", laid_resume_words_signs)], narrowed := true }
def RunsUptoSaid : Prop := runsUptoRow.holds Tryz.pinned (OpenSpec.upto runsSpec)

/-- 'resumekeep.Sliced', WHERE WHAT IT READS IS OF BULK AT MOST 1048576: true; the input reads as it did. -/
def slicedUptoRow : OpenClaim := { program := "ytklimomeendajaagreatdoor", sum := "2cd46053a863b754c52186d9f72da2623e0f1bd7d4a61f8a5a12044cc9f75a1d", func := "resume/resumekeep.Sliced", spec := "sliced", recurses := true, named := ["resume/words.keywords", "resume/words.signs", "internal/strconv.uint64pow10", "math/bits.deBruijn32tab", "math/bits.deBruijn64tab"], apart := false, laid := [("math/bits.deBruijn32tab", laid_math_bits_deBruijn32tab), ("math/bits.deBruijn64tab", laid_math_bits_deBruijn64tab), ("internal/strconv.uint64pow10", laid_internal_strconv_uint64pow10), ("resume/words.keywords", laid_resume_words_keywords), ("resume/words.signs", laid_resume_words_signs)], narrowed := true }
def SlicedUptoSaid : Prop := slicedUptoRow.holds Tryz.pinned (OpenSpec.upto slicedSpec)

/-- 'resumekeep.Roomy', WHERE WHAT IT READS IS OF BULK AT MOST 1048576: true; the input reads as it did. -/
def roomyUptoRow : OpenClaim := { program := "ytklimomeendajaagreatdoor", sum := "2cd46053a863b754c52186d9f72da2623e0f1bd7d4a61f8a5a12044cc9f75a1d", func := "resume/resumekeep.Roomy", spec := "roomy", recurses := true, named := ["resume/words.keywords", "resume/words.signs", "internal/strconv.uint64pow10", "math/bits.deBruijn32tab", "math/bits.deBruijn64tab"], apart := false, laid := [("math/bits.deBruijn32tab", laid_math_bits_deBruijn32tab), ("math/bits.deBruijn64tab", laid_math_bits_deBruijn64tab), ("internal/strconv.uint64pow10", laid_internal_strconv_uint64pow10), ("resume/words.keywords", laid_resume_words_keywords), ("resume/words.signs", laid_resume_words_signs)], narrowed := true }
def RoomyUptoSaid : Prop := roomyUptoRow.holds Tryz.pinned (OpenSpec.upto roomySpec)

/-- 'resumekeep.Sound', WHERE WHAT IT READS IS OF BULK AT MOST 1048576: true; the input reads as it did. -/
def soundUptoRow : OpenClaim := { program := "ytklimomeendajaagreatdoor", sum := "2cd46053a863b754c52186d9f72da2623e0f1bd7d4a61f8a5a12044cc9f75a1d", func := "resume/resumekeep.Sound", spec := "sound", recurses := true, named := ["resume/words.keywords", "resume/words.signs", "internal/strconv.uint64pow10", "math/bits.deBruijn32tab", "math/bits.deBruijn64tab"], apart := false, laid := [("math/bits.deBruijn32tab", laid_math_bits_deBruijn32tab), ("math/bits.deBruijn64tab", laid_math_bits_deBruijn64tab), ("internal/strconv.uint64pow10", laid_internal_strconv_uint64pow10), ("resume/words.keywords", laid_resume_words_keywords), ("resume/words.signs", laid_resume_words_signs)], narrowed := true }
def SoundUptoSaid : Prop := soundUptoRow.holds Tryz.pinned (OpenSpec.upto soundSpec)

/-- 'resumekeep.Wrapped', WHERE WHAT IT READS IS OF BULK AT MOST 1048576: true; the input reads as it did. -/
def wrappedUptoRow : OpenClaim := { program := "ytklimomeendajaagreatdoor", sum := "2cd46053a863b754c52186d9f72da2623e0f1bd7d4a61f8a5a12044cc9f75a1d", func := "resume/resumekeep.Wrapped", spec := "wrapped", recurses := true, named := ["resume/words.keywords", "resume/words.signs", "internal/strconv.uint64pow10", "math/bits.deBruijn32tab", "math/bits.deBruijn64tab"], apart := false, laid := [("math/bits.deBruijn32tab", laid_math_bits_deBruijn32tab), ("math/bits.deBruijn64tab", laid_math_bits_deBruijn64tab), ("internal/strconv.uint64pow10", laid_internal_strconv_uint64pow10), ("resume/words.keywords", laid_resume_words_keywords), ("resume/words.signs", laid_resume_words_signs)], narrowed := true }
def WrappedUptoSaid : Prop := wrappedUptoRow.holds Tryz.pinned (OpenSpec.upto wrappedSpec)

/-- 'resumekeep.Known', WHERE WHAT IT READS IS OF BULK AT MOST 1048576: true; the input reads as it did. -/
def knownUptoRow : OpenClaim := { program := "ytklimomeendajaagreatdoor", sum := "2cd46053a863b754c52186d9f72da2623e0f1bd7d4a61f8a5a12044cc9f75a1d", func := "resume/resumekeep.Known", spec := "known", recurses := true, named := ["resume/words.keywords", "resume/words.signs", "internal/strconv.uint64pow10", "math/bits.deBruijn32tab", "math/bits.deBruijn64tab"], apart := false, laid := [("math/bits.deBruijn32tab", laid_math_bits_deBruijn32tab), ("math/bits.deBruijn64tab", laid_math_bits_deBruijn64tab), ("internal/strconv.uint64pow10", laid_internal_strconv_uint64pow10), ("resume/words.keywords", laid_resume_words_keywords), ("resume/words.signs", laid_resume_words_signs)], narrowed := true }
def KnownUptoSaid : Prop := knownUptoRow.holds Tryz.pinned (OpenSpec.upto knownSpec)

/-- 'resumelaw.All', WHERE WHAT IT READS IS OF BULK AT MOST 1048576: true; the input reads as it did. -/
def allUptoRow : OpenClaim := { program := "ytklimomeendajaagreatdoor", sum := "2cd46053a863b754c52186d9f72da2623e0f1bd7d4a61f8a5a12044cc9f75a1d", func := "resume/resumelaw.All", spec := "all", recurses := true, named := ["resume/words.keywords", "resume/words.signs", "internal/strconv.uint64pow10", "math/bits.deBruijn32tab", "math/bits.deBruijn64tab"], apart := false, laid := [("math/bits.deBruijn32tab", laid_math_bits_deBruijn32tab), ("math/bits.deBruijn64tab", laid_math_bits_deBruijn64tab), ("internal/strconv.uint64pow10", laid_internal_strconv_uint64pow10), ("resume/words.keywords", laid_resume_words_keywords), ("resume/words.signs", laid_resume_words_signs)], narrowed := true }
def AllUptoSaid : Prop := allUptoRow.holds Tryz.pinned (OpenSpec.upto allSpec)

end Rows
end Go.Proofs.YtklimomeendajaaGreatDoor
