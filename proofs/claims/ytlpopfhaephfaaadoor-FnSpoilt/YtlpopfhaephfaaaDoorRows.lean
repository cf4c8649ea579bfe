/-
  NARROWER THAN 'FOR EVERY INPUT', by the rows' own cells (each row's printed sentence says how): FnSafe: ifaces, laid · FnTrain: ifaces, laid · FnSpoilt: ifaces, laid.
  DERIVED. THE GIVEN ROWS OF THIS SEAT. 3 by the template 'for every input the law returns true; each argument reads behind the call as it read before'; 0 by the template 'total and deterministic' (their statements: YtlpopfhaephfaaaDoorTotals.lean).
  GIVEN WITH THE SEED: the statements are not yours to turn. If you find one false, say at which input.
  Laid BY PROGRAM, IN A SANDBOX (cutbox-rows.mjs): the forced cells as the released guide's own fill.sh prints them over the translation c8d4c18686e0168e… (all of the seat's roots in one cut). By AI agents, Wed Nov 11 2026. No macro, syntax, notation, axiom, sorry.
-/
import Derived.Test.YtlpopfhaephfaaaDoorChecked
import GoSem.Claim
import GoSem.ClaimJoined
import GoSem.ClaimMapViews
import Derived.JoinedTies
import Derived.KernelRfl
namespace Go.Proofs.YtlpopfhaephfaaaDoor
/- THE CELL 'sum', in the pinned program and in every row, IS THE sha256 OF THE DUMP (.gsa) THAT YtlpopfhaephfaaaDoorProg.lean LOADS. Nothing in Lean hashes anything: it is a label: what it is worth is what the hold of that sum in a sandbox is worth. -/
noncomputable def Tryd.pinned : Pinned := { name := "ytlpopfhaephfaaadoor", sum := "c8d4c18686e0168e47b5998ea02cd31e430a4149dce98a515fb2f3818cd047e9", checked := Tryd.checked }
namespace Rows
def none {H : Type} : Left H := { results := [], args := [] }

/- WHAT THE LISTED PACKAGE-LEVEL VARIABLES READ AS WHEN THE CALL BEGINS. Each datum BY PROGRAM (the guide's laid-datum.mjs) off the statement by which the dump's own 'gosem.cut.vars' lays the variable. In a bare row this is a premise. The card (YtlpopfhaephfaaaDoorCards.lean) ties it to the program's text. -/
def laid_loop_example_treadle_impl_errNoRun {H : Type} : DataW H := .iface "*errors.errorString" (.ptr (.agg [.lit (.string [116, 104, 101, 32, 108, 97, 121, 111, 117, 116, 32, 105, 115, 32, 110, 111, 116, 32, 114, 105, 103, 104, 116, 44, 32, 111, 114, 32, 116, 104, 101, 32, 101, 118, 101, 110, 116, 115, 32, 97, 114, 101, 32, 116, 111, 111, 32, 109, 97, 110, 121])]))
def laid_loop_example_treadle_impl_errNoEvent {H : Type} : DataW H := .iface "*errors.errorString" (.ptr (.agg [.lit (.string [97, 110, 32, 101, 118, 101, 110, 116, 32, 105, 115, 32, 110, 111, 110, 101])]))
def laid_loop_example_treadle_impl_errSomebody {H : Type} : DataW H := .iface "*errors.errorString" (.ptr (.agg [.lit (.string [97, 32, 115, 101, 99, 116, 105, 111, 110, 32, 105, 115, 32, 114, 101, 115, 101, 116, 32, 119, 105, 116, 104, 32, 115, 111, 109, 101, 98, 111, 100, 121, 32, 105, 110, 32, 105, 116])]))
def laid_loop_example_treadle_impl_errBelow {H : Type} : DataW H := .iface "*errors.errorString" (.ptr (.agg [.lit (.string [102, 101, 119, 101, 114, 32, 116, 104, 97, 110, 32, 110, 111, 98, 111, 100, 121, 32, 97, 114, 101, 32, 105, 110, 32, 97, 32, 115, 101, 99, 116, 105, 111, 110])]))

/-- 'laws.FnSafe': WHATEVER THE INPUT: true; the input reads as it did. -/
def fnSafeSpec : ChangeSpec := { name := "fnSafe", vars := ["loop.example/treadle/impl.errNoRun", "loop.example/treadle/impl.errNoEvent", "loop.example/treadle/impl.errSomebody", "loop.example/treadle/impl.errBelow"], fn := fun _ => fun
  | [d, g1, g2, g3, g4] => { results := [.lit (.bool true)], args := [d], vars := [g1, g2, g3, g4] }
  | _ => none }
def fnSafeRow : OpenClaim := { program := "ytlpopfhaephfaaadoor", sum := "c8d4c18686e0168e47b5998ea02cd31e430a4149dce98a515fb2f3818cd047e9", func := "loop.example/treadle/laws.FnSafe", spec := "fnSafe", inPlace := ["internal/reflectlite.TypeOf"], unfollowed := true, recurses := true, named := ["loop.example/treadle/impl.errNoRun", "loop.example/treadle/impl.errNoEvent", "loop.example/treadle/impl.errSomebody", "loop.example/treadle/impl.errBelow"], ifaces := true, apart := false, laid := [("loop.example/treadle/impl.errNoRun", laid_loop_example_treadle_impl_errNoRun), ("loop.example/treadle/impl.errNoEvent", laid_loop_example_treadle_impl_errNoEvent), ("loop.example/treadle/impl.errSomebody", laid_loop_example_treadle_impl_errSomebody), ("loop.example/treadle/impl.errBelow", laid_loop_example_treadle_impl_errBelow)] }
def FnSafeSaid : Prop := fnSafeRow.holds Tryd.pinned (OpenSpec.ofChange fnSafeSpec)

/-- ITS FALSE NEIGHBOUR: 'it returns false'. Refute it at one input. -/
def fnSafeWrong : ChangeSpec := { name := "fnSafe", vars := ["loop.example/treadle/impl.errNoRun", "loop.example/treadle/impl.errNoEvent", "loop.example/treadle/impl.errSomebody", "loop.example/treadle/impl.errBelow"], fn := fun _ => fun
  | [d, g1, g2, g3, g4] => { results := [.lit (.bool false)], args := [d], vars := [g1, g2, g3, g4] }
  | _ => none }
def FnSafeWrongFalsely : Prop := fnSafeRow.holds Tryd.pinned (OpenSpec.ofChange fnSafeWrong)

/-- 'laws.FnTrain': WHATEVER THE INPUT: true; the input reads as it did. -/
def fnTrainSpec : ChangeSpec := { name := "fnTrain", vars := ["loop.example/treadle/impl.errNoRun", "loop.example/treadle/impl.errNoEvent", "loop.example/treadle/impl.errSomebody", "loop.example/treadle/impl.errBelow"], fn := fun _ => fun
  | [d, g1, g2, g3, g4] => { results := [.lit (.bool true)], args := [d], vars := [g1, g2, g3, g4] }
  | _ => none }
def fnTrainRow : OpenClaim := { program := "ytlpopfhaephfaaadoor", sum := "c8d4c18686e0168e47b5998ea02cd31e430a4149dce98a515fb2f3818cd047e9", func := "loop.example/treadle/laws.FnTrain", spec := "fnTrain", inPlace := ["internal/reflectlite.TypeOf"], unfollowed := true, recurses := true, named := ["loop.example/treadle/impl.errNoRun", "loop.example/treadle/impl.errNoEvent", "loop.example/treadle/impl.errSomebody", "loop.example/treadle/impl.errBelow"], ifaces := true, apart := false, laid := [("loop.example/treadle/impl.errNoRun", laid_loop_example_treadle_impl_errNoRun), ("loop.example/treadle/impl.errNoEvent", laid_loop_example_treadle_impl_errNoEvent), ("loop.example/treadle/impl.errSomebody", laid_loop_example_treadle_impl_errSomebody), ("loop.example/treadle/impl.errBelow", laid_loop_example_treadle_impl_errBelow)] }
def FnTrainSaid : Prop := fnTrainRow.holds Tryd.pinned (OpenSpec.ofChange fnTrainSpec)

/-- ITS FALSE NEIGHBOUR: 'it returns false'. Refute it at one input. -/
def fnTrainWrong : ChangeSpec := { name := "fnTrain", vars := ["loop.example/treadle/impl.errNoRun", "loop.example/treadle/impl.errNoEvent", "loop.example/treadle/impl.errSomebody", "loop.example/treadle/impl.errBelow"], fn := fun _ => fun
  | [d, g1, g2, g3, g4] => { results := [.lit (.bool false)], args := [d], vars := [g1, g2, g3, g4] }
  | _ => none }
def FnTrainWrongFalsely : Prop := fnTrainRow.holds Tryd.pinned (OpenSpec.ofChange fnTrainWrong)

/-- 'laws.FnSpoilt': WHATEVER THE INPUT: true; the input reads as it did. -/
def fnSpoiltSpec : ChangeSpec := { name := "fnSpoilt", vars := ["loop.example/treadle/impl.errNoRun", "loop.example/treadle/impl.errNoEvent", "loop.example/treadle/impl.errSomebody", "loop.example/treadle/impl.errBelow"], fn := fun _ => fun
  | [d, g1, g2, g3, g4] => { results := [.lit (.bool true)], args := [d], vars := [g1, g2, g3, g4] }
  | _ => none }
def fnSpoiltRow : OpenClaim := { program := "ytlpopfhaephfaaadoor", sum := "c8d4c18686e0168e47b5998ea02cd31e430a4149dce98a515fb2f3818cd047e9", func := "loop.example/treadle/laws.FnSpoilt", spec := "fnSpoilt", inPlace := ["internal/reflectlite.TypeOf"], unfollowed := true, recurses := true, named := ["loop.example/treadle/impl.errNoRun", "loop.example/treadle/impl.errNoEvent", "loop.example/treadle/impl.errSomebody", "loop.example/treadle/impl.errBelow"], ifaces := true, apart := false, laid := [("loop.example/treadle/impl.errNoRun", laid_loop_example_treadle_impl_errNoRun), ("loop.example/treadle/impl.errNoEvent", laid_loop_example_treadle_impl_errNoEvent), ("loop.example/treadle/impl.errSomebody", laid_loop_example_treadle_impl_errSomebody), ("loop.example/treadle/impl.errBelow", laid_loop_example_treadle_impl_errBelow)] }
def FnSpoiltSaid : Prop := fnSpoiltRow.holds Tryd.pinned (OpenSpec.ofChange fnSpoiltSpec)

/-- ITS FALSE NEIGHBOUR: 'it returns false'. Refute it at one input. -/
def fnSpoiltWrong : ChangeSpec := { name := "fnSpoilt", vars := ["loop.example/treadle/impl.errNoRun", "loop.example/treadle/impl.errNoEvent", "loop.example/treadle/impl.errSomebody", "loop.example/treadle/impl.errBelow"], fn := fun _ => fun
  | [d, g1, g2, g3, g4] => { results := [.lit (.bool false)], args := [d], vars := [g1, g2, g3, g4] }
  | _ => none }
def FnSpoiltWrongFalsely : Prop := fnSpoiltRow.holds Tryd.pinned (OpenSpec.ofChange fnSpoiltWrong)

/- THE SECOND FORM. 'bulk': how many values and letters a reading holds, each counted each time it is reached (what is shared counts as often as it is met; a slice's spare places count too). A statement '..UptoSaid' is the law's where the arguments, and the package variables that the reading takes, are together of bulk at most 1048576: NARROWER than '..Said'. Prove '..Said' where nothing that the law and all that it calls make is longer than what came in: it says more and counts as full. Else prove '..UptoSaid'. A law counts once. -/
mutual
def uptoBulk {H : Type} : DataW H → Nat
  | .lit (.string bytes) => bytes.length + 1
  | .lit _ => 1
  | .nil => 1
  | .ptr d => uptoBulk d + 1
  | .slice elems spare => uptoBulkAll elems + uptoBulkAll spare + 1
  | .agg parts => uptoBulkAll parts + 1
  | .iface _ d => uptoBulk d + 1
  | .map entries => uptoBulkEntries entries + 1
  | .held _ => 1
def uptoBulkAll {H : Type} : List (DataW H) → Nat
  | [] => 0
  | d :: r => uptoBulk d + uptoBulkAll r
def uptoBulkEntries {H : Type} : List (Lit × DataW H) → Nat
  | [] => 0
  | x :: r => uptoBulkEntry x + uptoBulkEntries r
def uptoBulkEntry {H : Type} : Lit × DataW H → Nat
  | (.string bytes, d) => bytes.length + uptoBulk d + 1
  | (_, d) => uptoBulk d + 1
 end
def uptoSmall : (H : Type) → List (DataW H) → Bool := fun _ ds => decide (uptoBulkAll ds ≤ 1048576)
def OpenSpec.upto (s : _root_.Go.ChangeSpec) : _root_.Go.OpenSpec := { _root_.Go.OpenSpec.ofChange s with cond := some uptoSmall }

/-- 'laws.FnSafe', WHERE WHAT IT READS IS OF BULK AT MOST 1048576: true; the input reads as it did. -/
def fnSafeUptoRow : OpenClaim := { program := "ytlpopfhaephfaaadoor", sum := "c8d4c18686e0168e47b5998ea02cd31e430a4149dce98a515fb2f3818cd047e9", func := "loop.example/treadle/laws.FnSafe", spec := "fnSafe", inPlace := ["internal/reflectlite.TypeOf"], unfollowed := true, recurses := true, named := ["loop.example/treadle/impl.errNoRun", "loop.example/treadle/impl.errNoEvent", "loop.example/treadle/impl.errSomebody", "loop.example/treadle/impl.errBelow"], ifaces := true, apart := false, laid := [("loop.example/treadle/impl.errNoRun", laid_loop_example_treadle_impl_errNoRun), ("loop.example/treadle/impl.errNoEvent", laid_loop_example_treadle_impl_errNoEvent), ("loop.example/treadle/impl.errSomebody", laid_loop_example_treadle_impl_errSomebody), ("loop.example/treadle/impl.errBelow", laid_loop_example_treadle_impl_errBelow)], narrowed := true }
def FnSafeUptoSaid : Prop := fnSafeUptoRow.holds Tryd.pinned (OpenSpec.upto fnSafeSpec)

/-- 'laws.FnTrain', WHERE WHAT IT READS IS OF BULK AT MOST 1048576: true; the input reads as it did. -/
def fnTrainUptoRow : OpenClaim := { program := "ytlpopfhaephfaaadoor", sum := "c8d4c18686e0168e47b5998ea02cd31e430a4149dce98a515fb2f3818cd047e9", func := "loop.example/treadle/laws.FnTrain", spec := "fnTrain", inPlace := ["internal/reflectlite.TypeOf"], unfollowed := true, recurses := true, named := ["loop.example/treadle/impl.errNoRun", "loop.example/treadle/impl.errNoEvent", "loop.example/treadle/impl.errSomebody", "loop.example/treadle/impl.errBelow"], ifaces := true, apart := false, laid := [("loop.example/treadle/impl.errNoRun", laid_loop_example_treadle_impl_errNoRun), ("loop.example/treadle/impl.errNoEvent", laid_loop_example_treadle_impl_errNoEvent), ("loop.example/treadle/impl.errSomebody", laid_loop_example_treadle_impl_errSomebody), ("loop.example/treadle/impl.errBelow", laid_loop_example_treadle_impl_errBelow)], narrowed := true }
def FnTrainUptoSaid : Prop := fnTrainUptoRow.holds Tryd.pinned (OpenSpec.upto fnTrainSpec)

/-- 'laws.FnSpoilt', WHERE WHAT IT READS IS OF BULK AT MOST 1048576: true; the input reads as it did. -/
def fnSpoiltUptoRow : OpenClaim := { program := "ytlpopfhaephfaaadoor", sum := "c8d4c18686e0168e47b5998ea02cd31e430a4149dce98a515fb2f3818cd047e9", func := "loop.example/treadle/laws.FnSpoilt", spec := "fnSpoilt", inPlace := ["internal/reflectlite.TypeOf"], unfollowed := true, recurses := true, named := ["loop.example/treadle/impl.errNoRun", "loop.example/treadle/impl.errNoEvent", "loop.example/treadle/impl.errSomebody", "loop.example/treadle/impl.errBelow"], ifaces := true, apart := false, laid := [("loop.example/treadle/impl.errNoRun", laid_loop_example_treadle_impl_errNoRun), ("loop.example/treadle/impl.errNoEvent", laid_loop_example_treadle_impl_errNoEvent), ("loop.example/treadle/impl.errSomebody", laid_loop_example_treadle_impl_errSomebody), ("loop.example/treadle/impl.errBelow", laid_loop_example_treadle_impl_errBelow)], narrowed := true }
def FnSpoiltUptoSaid : Prop := fnSpoiltUptoRow.holds Tryd.pinned (OpenSpec.upto fnSpoiltSpec)

end Rows
end Go.Proofs.YtlpopfhaephfaaaDoor
