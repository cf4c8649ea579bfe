/-
  NARROWER THAN 'FOR EVERY INPUT', by the rows' own cells (each row's printed sentence says how): FnExactHonest: ifaces, laid · FnExactWriteEvents: laid · FnExactReadEvents: laid.
  DERIVED. THE GIVEN ROWS OF THIS SEAT. 3 by the template 'for every input the law returns true; each argument reads behind the call as it read before'; 0 by the template 'total and deterministic' (their statements: YtlpopfhaephfaabDoorTotals.lean).
  GIVEN WITH THE SEED: the statements are not yours to turn. If you find one false, say at which input.
  Laid BY PROGRAM, IN A SANDBOX (cutbox-rows.mjs): the forced cells as the released guide's own fill.sh prints them over the translation 5a9025e9cca0caca… (all of the seat's roots in one cut). By AI agents, Wed Nov 11 2026. No macro, syntax, notation, axiom, sorry.
-/
import Derived.Test.YtlpopfhaephfaabDoorChecked
import GoSem.PinnedTables
import GoSem.Claim
import GoSem.ClaimJoined
import GoSem.ClaimMapViews
import Derived.JoinedTies
import Derived.KernelRfl
namespace Go.Proofs.YtlpopfhaephfaabDoor
/- THE CELL 'sum', in the pinned program and in every row, IS THE sha256 OF THE DUMP (.gsa) THAT YtlpopfhaephfaabDoorProg.lean LOADS. Nothing in Lean hashes anything: it is a label: what it is worth is what the hold of that sum in a sandbox is worth. -/
noncomputable def Tryd.pinned : Pinned := { name := "ytlpopfhaephfaabdoor", sum := "5a9025e9cca0caca990c425bc66f78c611ae99ed3b7f7c0663ba715da8280619", checked := Tryd.checked }
namespace Rows
def none {H : Type} : Left H := { results := [], args := [] }

/- WHAT THE LISTED PACKAGE-LEVEL VARIABLES READ AS WHEN THE CALL BEGINS. Each datum BY PROGRAM (the guide's laid-datum.mjs) off the statement by which the dump's own 'gosem.cut.vars' lays the variable. In a bare row this is a premise. The card (YtlpopfhaephfaabDoorCards.lean) ties it to the program's text. -/
def laid_loop_example_treadle_impl_errNoRun {H : Type} : DataW H := .iface "*errors.errorString" (.ptr (.agg [.lit (.string [116, 104, 101, 32, 108, 97, 121, 111, 117, 116, 32, 105, 115, 32, 110, 111, 116, 32, 114, 105, 103, 104, 116, 44, 32, 111, 114, 32, 116, 104, 101, 32, 101, 118, 101, 110, 116, 115, 32, 97, 114, 101, 32, 116, 111, 111, 32, 109, 97, 110, 121])]))
def laid_loop_example_treadle_impl_errNoEvent {H : Type} : DataW H := .iface "*errors.errorString" (.ptr (.agg [.lit (.string [97, 110, 32, 101, 118, 101, 110, 116, 32, 105, 115, 32, 110, 111, 110, 101])]))
def laid_loop_example_treadle_impl_errSomebody {H : Type} : DataW H := .iface "*errors.errorString" (.ptr (.agg [.lit (.string [97, 32, 115, 101, 99, 116, 105, 111, 110, 32, 105, 115, 32, 114, 101, 115, 101, 116, 32, 119, 105, 116, 104, 32, 115, 111, 109, 101, 98, 111, 100, 121, 32, 105, 110, 32, 105, 116])]))
def laid_loop_example_treadle_impl_errBelow {H : Type} : DataW H := .iface "*errors.errorString" (.ptr (.agg [.lit (.string [102, 101, 119, 101, 114, 32, 116, 104, 97, 110, 32, 110, 111, 98, 111, 100, 121, 32, 97, 114, 101, 32, 105, 110, 32, 97, 32, 115, 101, 99, 116, 105, 111, 110])]))
def laid_math_bits_deBruijn32tab {H : Type} : DataW H := .agg [.lit (.int .u8 0), .lit (.int .u8 1), .lit (.int .u8 28), .lit (.int .u8 2), .lit (.int .u8 29), .lit (.int .u8 14), .lit (.int .u8 24), .lit (.int .u8 3), .lit (.int .u8 30), .lit (.int .u8 22), .lit (.int .u8 20), .lit (.int .u8 15), .lit (.int .u8 25), .lit (.int .u8 17), .lit (.int .u8 4), .lit (.int .u8 8), .lit (.int .u8 31), .lit (.int .u8 27), .lit (.int .u8 13), .lit (.int .u8 23), .lit (.int .u8 21), .lit (.int .u8 19), .lit (.int .u8 16), .lit (.int .u8 7), .lit (.int .u8 26), .lit (.int .u8 12), .lit (.int .u8 18), .lit (.int .u8 6), .lit (.int .u8 11), .lit (.int .u8 5), .lit (.int .u8 10), .lit (.int .u8 9)]
def laid_math_bits_deBruijn64tab {H : Type} : DataW H := .agg [.lit (.int .u8 0), .lit (.int .u8 1), .lit (.int .u8 56), .lit (.int .u8 2), .lit (.int .u8 57), .lit (.int .u8 49), .lit (.int .u8 28), .lit (.int .u8 3), .lit (.int .u8 61), .lit (.int .u8 58), .lit (.int .u8 42), .lit (.int .u8 50), .lit (.int .u8 38), .lit (.int .u8 29), .lit (.int .u8 17), .lit (.int .u8 4), .lit (.int .u8 62), .lit (.int .u8 47), .lit (.int .u8 59), .lit (.int .u8 36), .lit (.int .u8 45), .lit (.int .u8 43), .lit (.int .u8 51), .lit (.int .u8 22), .lit (.int .u8 53), .lit (.int .u8 39), .lit (.int .u8 33), .lit (.int .u8 30), .lit (.int .u8 24), .lit (.int .u8 18), .lit (.int .u8 12), .lit (.int .u8 5), .lit (.int .u8 63), .lit (.int .u8 55), .lit (.int .u8 48), .lit (.int .u8 27), .lit (.int .u8 60), .lit (.int .u8 41), .lit (.int .u8 37), .lit (.int .u8 16), .lit (.int .u8 46), .lit (.int .u8 35), .lit (.int .u8 44), .lit (.int .u8 21), .lit (.int .u8 52), .lit (.int .u8 32), .lit (.int .u8 23), .lit (.int .u8 11), .lit (.int .u8 54), .lit (.int .u8 26), .lit (.int .u8 40), .lit (.int .u8 15), .lit (.int .u8 34), .lit (.int .u8 20), .lit (.int .u8 31), .lit (.int .u8 10), .lit (.int .u8 25), .lit (.int .u8 14), .lit (.int .u8 19), .lit (.int .u8 9), .lit (.int .u8 13), .lit (.int .u8 8), .lit (.int .u8 7), .lit (.int .u8 6)]
def laid_internal_strconv_uint64pow10 {H : Type} : DataW H := .agg [.lit (.int .u64 1), .lit (.int .u64 10), .lit (.int .u64 100), .lit (.int .u64 1000), .lit (.int .u64 10000), .lit (.int .u64 100000), .lit (.int .u64 1000000), .lit (.int .u64 10000000), .lit (.int .u64 100000000), .lit (.int .u64 1000000000), .lit (.int .u64 10000000000), .lit (.int .u64 100000000000), .lit (.int .u64 1000000000000), .lit (.int .u64 10000000000000), .lit (.int .u64 100000000000000), .lit (.int .u64 1000000000000000), .lit (.int .u64 10000000000000000), .lit (.int .u64 100000000000000000), .lit (.int .u64 1000000000000000000), .lit (.int .u64 10000000000000000000)]
def laid_loop_example_treadle_impl_words {H : Type} : DataW H := .agg [.lit (.string []), .lit (.string [112, 97, 115, 115]), .lit (.string [103, 104, 111, 115, 116]), .lit (.string [100, 101, 97, 100]), .lit (.string [97, 108, 105, 118, 101]), .lit (.string [114, 101, 115, 101, 116])]
def laid_unicode_utf8_acceptRanges {H : Type} : DataW H := .agg [.agg [.lit (.int .u8 128), .lit (.int .u8 191)], .agg [.lit (.int .u8 160), .lit (.int .u8 191)], .agg [.lit (.int .u8 128), .lit (.int .u8 159)], .agg [.lit (.int .u8 144), .lit (.int .u8 191)], .agg [.lit (.int .u8 128), .lit (.int .u8 143)], .agg [.lit (.int .u8 0), .lit (.int .u8 0)], .agg [.lit (.int .u8 0), .lit (.int .u8 0)], .agg [.lit (.int .u8 0), .lit (.int .u8 0)], .agg [.lit (.int .u8 0), .lit (.int .u8 0)], .agg [.lit (.int .u8 0), .lit (.int .u8 0)], .agg [.lit (.int .u8 0), .lit (.int .u8 0)], .agg [.lit (.int .u8 0), .lit (.int .u8 0)], .agg [.lit (.int .u8 0), .lit (.int .u8 0)], .agg [.lit (.int .u8 0), .lit (.int .u8 0)], .agg [.lit (.int .u8 0), .lit (.int .u8 0)], .agg [.lit (.int .u8 0), .lit (.int .u8 0)]]
def laid_strconv_ErrRange {H : Type} : DataW H := .iface "*errors.errorString" (.ptr (.agg [.lit (.string [118, 97, 108, 117, 101, 32, 111, 117, 116, 32, 111, 102, 32, 114, 97, 110, 103, 101])]))
def laid_strconv_ErrSyntax {H : Type} : DataW H := .iface "*errors.errorString" (.ptr (.agg [.lit (.string [105, 110, 118, 97, 108, 105, 100, 32, 115, 121, 110, 116, 97, 120])]))
/-- One of Go's own tables, pinned by name: the form's constant. -/
def laid_unicode_utf8_first : DataW Unit := Go.Pinned.utf8First

/-- 'laws.FnExactHonest': WHATEVER THE INPUT: true; the input reads as it did. -/
def fnExactHonestSpec : ChangeSpec := { name := "fnExactHonest", vars := ["loop.example/treadle/impl.errNoRun", "loop.example/treadle/impl.errNoEvent", "loop.example/treadle/impl.errSomebody", "loop.example/treadle/impl.errBelow"], fn := fun _ => fun
  | [d1, d2, g1, g2, g3, g4] => { results := [.lit (.bool true)], args := [d1, d2], vars := [g1, g2, g3, g4] }
  | _ => none }
def fnExactHonestRow : OpenClaim := { program := "ytlpopfhaephfaabdoor", sum := "5a9025e9cca0caca990c425bc66f78c611ae99ed3b7f7c0663ba715da8280619", func := "loop.example/treadle/laws.FnExactHonest", spec := "fnExactHonest", inPlace := ["internal/reflectlite.TypeOf"], unfollowed := true, recurses := true, named := ["loop.example/treadle/impl.errNoRun", "loop.example/treadle/impl.errNoEvent", "loop.example/treadle/impl.errSomebody", "loop.example/treadle/impl.errBelow"], ifaces := true, apart := false, laid := [("loop.example/treadle/impl.errNoRun", laid_loop_example_treadle_impl_errNoRun), ("loop.example/treadle/impl.errNoEvent", laid_loop_example_treadle_impl_errNoEvent), ("loop.example/treadle/impl.errSomebody", laid_loop_example_treadle_impl_errSomebody), ("loop.example/treadle/impl.errBelow", laid_loop_example_treadle_impl_errBelow)] }
def FnExactHonestSaid : Prop := fnExactHonestRow.holds Tryd.pinned (OpenSpec.ofChange fnExactHonestSpec)

/-- ITS FALSE NEIGHBOUR: 'it returns false'. Refute it at one input. -/
def fnExactHonestWrong : ChangeSpec := { name := "fnExactHonest", vars := ["loop.example/treadle/impl.errNoRun", "loop.example/treadle/impl.errNoEvent", "loop.example/treadle/impl.errSomebody", "loop.example/treadle/impl.errBelow"], fn := fun _ => fun
  | [d1, d2, g1, g2, g3, g4] => { results := [.lit (.bool false)], args := [d1, d2], vars := [g1, g2, g3, g4] }
  | _ => none }
def FnExactHonestWrongFalsely : Prop := fnExactHonestRow.holds Tryd.pinned (OpenSpec.ofChange fnExactHonestWrong)

/-- 'laws.FnExactWriteEvents': WHATEVER THE INPUT: true; the input reads as it did. -/
def fnExactWriteEventsSpec : ChangeSpec := { name := "fnExactWriteEvents", vars := ["loop.example/treadle/impl.words"], fn := fun _ => fun
  | [d1, d2, g1] => { results := [.lit (.bool true)], args := [d1, d2], vars := [g1] }
  | _ => none }
def fnExactWriteEventsRow : OpenClaim := { program := "ytlpopfhaephfaabdoor", sum := "5a9025e9cca0caca990c425bc66f78c611ae99ed3b7f7c0663ba715da8280619", func := "loop.example/treadle/laws.FnExactWriteEvents", spec := "fnExactWriteEvents", inPlace := ["internal/abi.NoEscape"], unfollowed := true, recurses := true, named := ["loop.example/treadle/impl.words", "internal/strconv.uint64pow10", "math/bits.deBruijn32tab", "math/bits.deBruijn64tab"], apart := false, laid := [("math/bits.deBruijn32tab", laid_math_bits_deBruijn32tab), ("math/bits.deBruijn64tab", laid_math_bits_deBruijn64tab), ("internal/strconv.uint64pow10", laid_internal_strconv_uint64pow10), ("loop.example/treadle/impl.words", laid_loop_example_treadle_impl_words)] }
def FnExactWriteEventsSaid : Prop := fnExactWriteEventsRow.holds Tryd.pinned (OpenSpec.ofChange fnExactWriteEventsSpec)

/-- ITS FALSE NEIGHBOUR: 'it returns false'. Refute it at one input. -/
def fnExactWriteEventsWrong : ChangeSpec := { name := "fnExactWriteEvents", vars := ["loop.example/treadle/impl.words"], fn := fun _ => fun
  | [d1, d2, g1] => { results := [.lit (.bool false)], args := [d1, d2], vars := [g1] }
  | _ => none }
def FnExactWriteEventsWrongFalsely : Prop := fnExactWriteEventsRow.holds Tryd.pinned (OpenSpec.ofChange fnExactWriteEventsWrong)

/-- 'laws.FnExactReadEvents': WHATEVER THE INPUT: true; the input reads as it did. -/
def fnExactReadEventsSpec : ChangeSpec := { name := "fnExactReadEvents", vars := ["loop.example/treadle/impl.words"], fn := fun _ => fun
  | [d1, d2, g1] => { results := [.lit (.bool true)], args := [d1, d2], vars := [g1] }
  | _ => none }
def fnExactReadEventsRow : OpenClaim := { program := "ytlpopfhaephfaabdoor", sum := "5a9025e9cca0caca990c425bc66f78c611ae99ed3b7f7c0663ba715da8280619", func := "loop.example/treadle/laws.FnExactReadEvents", spec := "fnExactReadEvents", inPlace := ["internal/bytealg.IndexByteString", "internal/bytealg.IndexString", "internal/bytealg.CountString"], unfollowed := true, recurses := true, named := ["loop.example/treadle/impl.words", "internal/bytealg.MaxLen", "unicode/utf8.first", "unicode/utf8.acceptRanges", "strconv.ErrSyntax", "strconv.ErrRange", "internal/strconv.uint64pow10", "math/bits.deBruijn32tab", "math/bits.deBruijn64tab"], apart := false, laid := [("math/bits.deBruijn32tab", laid_math_bits_deBruijn32tab), ("math/bits.deBruijn64tab", laid_math_bits_deBruijn64tab), ("internal/strconv.uint64pow10", laid_internal_strconv_uint64pow10), ("unicode/utf8.acceptRanges", laid_unicode_utf8_acceptRanges), ("strconv.ErrRange", laid_strconv_ErrRange), ("strconv.ErrSyntax", laid_strconv_ErrSyntax), ("loop.example/treadle/impl.words", laid_loop_example_treadle_impl_words), ("unicode/utf8.first", laid_unicode_utf8_first)] }
def FnExactReadEventsSaid : Prop := fnExactReadEventsRow.holds Tryd.pinned (OpenSpec.ofChange fnExactReadEventsSpec)

/-- ITS FALSE NEIGHBOUR: 'it returns false'. Refute it at one input. -/
def fnExactReadEventsWrong : ChangeSpec := { name := "fnExactReadEvents", vars := ["loop.example/treadle/impl.words"], fn := fun _ => fun
  | [d1, d2, g1] => { results := [.lit (.bool false)], args := [d1, d2], vars := [g1] }
  | _ => none }
def FnExactReadEventsWrongFalsely : Prop := fnExactReadEventsRow.holds Tryd.pinned (OpenSpec.ofChange fnExactReadEventsWrong)

/- THE SECOND FORM. 'bulk': how many values and letters a reading holds, each counted each time it is reached (what is shared counts as often as it is met; a slice's spare places count too). A statement '..UptoSaid' is the law's where the arguments, and the package variables that the reading takes, are together of bulk at most 1048576: NARROWER than '..Said'. Prove '..Said' where nothing that the law and all that it calls make is longer than what came in: it says more and counts as full. Else prove '..UptoSaid'. A law counts once. -/
mutual
def uptoBulk {H : Type} : DataW H → Nat
  | .lit (.string bytes) => bytes.length + 1
  | .lit _ => 1
  | .nil => 1
  | .ptr d => uptoBulk d + 1
  | .slice elems spare => uptoBulkAll elems + uptoBulkAll spare + 1
  | .agg parts => uptoBulkAll parts + 1
  | .iface _ d => uptoBulk d + 1
  | .map entries => uptoBulkEntries entries + 1
  | .held _ => 1
def uptoBulkAll {H : Type} : List (DataW H) → Nat
  | [] => 0
  | d :: r => uptoBulk d + uptoBulkAll r
def uptoBulkEntries {H : Type} : List (Lit × DataW H) → Nat
  | [] => 0
  | x :: r => uptoBulkEntry x + uptoBulkEntries r
def uptoBulkEntry {H : Type} : Lit × DataW H → Nat
  | (.string bytes, d) => bytes.length + uptoBulk d + 1
  | (_, d) => uptoBulk d + 1
 end
def uptoSmall : (H : Type) → List (DataW H) → Bool := fun _ ds => decide (uptoBulkAll ds ≤ 1048576)
def OpenSpec.upto (s : _root_.Go.ChangeSpec) : _root_.Go.OpenSpec := { _root_.Go.OpenSpec.ofChange s with cond := some uptoSmall }

/-- 'laws.FnExactHonest', WHERE WHAT IT READS IS OF BULK AT MOST 1048576: true; the input reads as it did. -/
def fnExactHonestUptoRow : OpenClaim := { program := "ytlpopfhaephfaabdoor", sum := "5a9025e9cca0caca990c425bc66f78c611ae99ed3b7f7c0663ba715da8280619", func := "loop.example/treadle/laws.FnExactHonest", spec := "fnExactHonest", inPlace := ["internal/reflectlite.TypeOf"], unfollowed := true, recurses := true, named := ["loop.example/treadle/impl.errNoRun", "loop.example/treadle/impl.errNoEvent", "loop.example/treadle/impl.errSomebody", "loop.example/treadle/impl.errBelow"], ifaces := true, apart := false, laid := [("loop.example/treadle/impl.errNoRun", laid_loop_example_treadle_impl_errNoRun), ("loop.example/treadle/impl.errNoEvent", laid_loop_example_treadle_impl_errNoEvent), ("loop.example/treadle/impl.errSomebody", laid_loop_example_treadle_impl_errSomebody), ("loop.example/treadle/impl.errBelow", laid_loop_example_treadle_impl_errBelow)], narrowed := true }
def FnExactHonestUptoSaid : Prop := fnExactHonestUptoRow.holds Tryd.pinned (OpenSpec.upto fnExactHonestSpec)

/-- 'laws.FnExactWriteEvents', WHERE WHAT IT READS IS OF BULK AT MOST 1048576: true; the input reads as it did. -/
def fnExactWriteEventsUptoRow : OpenClaim := { program := "ytlpopfhaephfaabdoor", sum := "5a9025e9cca0caca990c425bc66f78c611ae99ed3b7f7c0663ba715da8280619", func := "loop.example/treadle/laws.FnExactWriteEvents", spec := "fnExactWriteEvents", inPlace := ["internal/abi.NoEscape"], unfollowed := true, recurses := true, named := ["loop.example/treadle/impl.words", "internal/strconv.uint64pow10", "math/bits.deBruijn32tab", "math/bits.deBruijn64tab"], apart := false, laid := [("math/bits.deBruijn32tab", laid_math_bits_deBruijn32tab), ("math/bits.deBruijn64tab", laid_math_bits_deBruijn64tab), ("internal/strconv.uint64pow10", laid_internal_strconv_uint64pow10), ("loop.example/treadle/impl.words", laid_loop_example_treadle_impl_words)], narrowed := true }
def FnExactWriteEventsUptoSaid : Prop := fnExactWriteEventsUptoRow.holds Tryd.pinned (OpenSpec.upto fnExactWriteEventsSpec)

/-- 'laws.FnExactReadEvents', WHERE WHAT IT READS IS OF BULK AT MOST 1048576: true; the input reads as it did. -/
def fnExactReadEventsUptoRow : OpenClaim := { program := "ytlpopfhaephfaabdoor", sum := "5a9025e9cca0caca990c425bc66f78c611ae99ed3b7f7c0663ba715da8280619", func := "loop.example/treadle/laws.FnExactReadEvents", spec := "fnExactReadEvents", inPlace := ["internal/bytealg.IndexByteString", "internal/bytealg.IndexString", "internal/bytealg.CountString"], unfollowed := true, recurses := true, named := ["loop.example/treadle/impl.words", "internal/bytealg.MaxLen", "unicode/utf8.first", "unicode/utf8.acceptRanges", "strconv.ErrSyntax", "strconv.ErrRange", "internal/strconv.uint64pow10", "math/bits.deBruijn32tab", "math/bits.deBruijn64tab"], apart := false, laid := [("math/bits.deBruijn32tab", laid_math_bits_deBruijn32tab), ("math/bits.deBruijn64tab", laid_math_bits_deBruijn64tab), ("internal/strconv.uint64pow10", laid_internal_strconv_uint64pow10), ("unicode/utf8.acceptRanges", laid_unicode_utf8_acceptRanges), ("strconv.ErrRange", laid_strconv_ErrRange), ("strconv.ErrSyntax", laid_strconv_ErrSyntax), ("loop.example/treadle/impl.words", laid_loop_example_treadle_impl_words), ("unicode/utf8.first", laid_unicode_utf8_first)], narrowed := true }
def FnExactReadEventsUptoSaid : Prop := fnExactReadEventsUptoRow.holds Tryd.pinned (OpenSpec.upto fnExactReadEventsSpec)

end Rows
end Go.Proofs.YtlpopfhaephfaabDoor
