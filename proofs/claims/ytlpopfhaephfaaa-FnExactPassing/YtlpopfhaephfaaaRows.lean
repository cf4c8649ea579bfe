/-
  No cell of these rows narrows 'for every input' (looked for: loops, veiled, ifaces, maps, wideKeys, modest, calm, conditions, laid).
  DERIVED. THE GIVEN ROWS OF THIS SEAT. 8 by the template 'for every input the law returns true; each argument reads behind the call as it read before'; 0 by the template 'total and deterministic' (their statements: YtlpopfhaephfaaaTotals.lean).
  GIVEN WITH THE SEED: the statements are not yours to turn. If you find one false, say at which input.
  Laid BY PROGRAM, IN A SANDBOX (cutbox-rows.mjs): the forced cells as the released guide's own fill.sh prints them over the translation 61d9c4b56e9ce557… (all of the seat's roots in one cut). By AI agents, Wed Nov 11 2026. No macro, syntax, notation, axiom, sorry.
-/
import Derived.Test.YtlpopfhaephfaaaChecked
import GoSem.Claim
import GoSem.ClaimJoined
import GoSem.ClaimMapViews
import Derived.JoinedTies
import Derived.KernelRfl
namespace Go.Proofs.Ytlpopfhaephfaaa
/- THE CELL 'sum', in the pinned program and in every row, IS THE sha256 OF THE DUMP (.gsa) THAT YtlpopfhaephfaaaProg.lean LOADS. Nothing in Lean hashes anything: it is a label: what it is worth is what the hold of that sum in a sandbox is worth. -/
noncomputable def Try.pinned : Pinned := { name := "ytlpopfhaephfaaa", sum := "61d9c4b56e9ce5573f11cebe0f3313e6d5e9017b6621841fee4b8efe5c6d7cb2", checked := Try.checked }
namespace Rows
def none {H : Type} : Left H := { results := [], args := [] }

/-- 'laws.FnTop': WHATEVER THE INPUT: true; the input reads as it did. -/
def fnTopSpec : ChangeSpec := { name := "fnTop", fn := fun _ => fun
  | [d] => { results := [.lit (.bool true)], args := [d] }
  | _ => none }
def fnTopRow : OpenClaim := { program := "ytlpopfhaephfaaa", sum := "61d9c4b56e9ce5573f11cebe0f3313e6d5e9017b6621841fee4b8efe5c6d7cb2", func := "loop.example/treadle/laws.FnTop", spec := "fnTop", unfollowed := true, recurses := true, apart := false }
def FnTopSaid : Prop := fnTopRow.holds Try.pinned (OpenSpec.ofChange fnTopSpec)

/-- ITS FALSE NEIGHBOUR: 'it returns false'. Refute it at one input. -/
def fnTopWrong : ChangeSpec := { name := "fnTop", fn := fun _ => fun
  | [d] => { results := [.lit (.bool false)], args := [d] }
  | _ => none }
def FnTopWrongFalsely : Prop := fnTopRow.holds Try.pinned (OpenSpec.ofChange fnTopWrong)

/-- 'laws.FnJust': WHATEVER THE INPUT: true; the input reads as it did. -/
def fnJustSpec : ChangeSpec := { name := "fnJust", fn := fun _ => fun
  | [d] => { results := [.lit (.bool true)], args := [d] }
  | _ => none }
def fnJustRow : OpenClaim := { program := "ytlpopfhaephfaaa", sum := "61d9c4b56e9ce5573f11cebe0f3313e6d5e9017b6621841fee4b8efe5c6d7cb2", func := "loop.example/treadle/laws.FnJust", spec := "fnJust", unfollowed := true, recurses := true, apart := false }
def FnJustSaid : Prop := fnJustRow.holds Try.pinned (OpenSpec.ofChange fnJustSpec)

/-- ITS FALSE NEIGHBOUR: 'it returns false'. Refute it at one input. -/
def fnJustWrong : ChangeSpec := { name := "fnJust", fn := fun _ => fun
  | [d] => { results := [.lit (.bool false)], args := [d] }
  | _ => none }
def FnJustWrongFalsely : Prop := fnJustRow.holds Try.pinned (OpenSpec.ofChange fnJustWrong)

/-- 'laws.FnSwap': WHATEVER THE INPUT: true; the input reads as it did. -/
def fnSwapSpec : ChangeSpec := { name := "fnSwap", fn := fun _ => fun
  | [d1, d2] => { results := [.lit (.bool true)], args := [d1, d2] }
  | _ => none }
def fnSwapRow : OpenClaim := { program := "ytlpopfhaephfaaa", sum := "61d9c4b56e9ce5573f11cebe0f3313e6d5e9017b6621841fee4b8efe5c6d7cb2", func := "loop.example/treadle/laws.FnSwap", spec := "fnSwap", unfollowed := true, recurses := true, apart := false }
def FnSwapSaid : Prop := fnSwapRow.holds Try.pinned (OpenSpec.ofChange fnSwapSpec)

/-- ITS FALSE NEIGHBOUR: 'it returns false'. Refute it at one input. -/
def fnSwapWrong : ChangeSpec := { name := "fnSwap", fn := fun _ => fun
  | [d1, d2] => { results := [.lit (.bool false)], args := [d1, d2] }
  | _ => none }
def FnSwapWrongFalsely : Prop := fnSwapRow.holds Try.pinned (OpenSpec.ofChange fnSwapWrong)

/-- 'laws.FnSweep': WHATEVER THE INPUT: true; the input reads as it did. -/
def fnSweepSpec : ChangeSpec := { name := "fnSweep", fn := fun _ => fun
  | [d] => { results := [.lit (.bool true)], args := [d] }
  | _ => none }
def fnSweepRow : OpenClaim := { program := "ytlpopfhaephfaaa", sum := "61d9c4b56e9ce5573f11cebe0f3313e6d5e9017b6621841fee4b8efe5c6d7cb2", func := "loop.example/treadle/laws.FnSweep", spec := "fnSweep", unfollowed := true, recurses := true, apart := false }
def FnSweepSaid : Prop := fnSweepRow.holds Try.pinned (OpenSpec.ofChange fnSweepSpec)

/-- ITS FALSE NEIGHBOUR: 'it returns false'. Refute it at one input. -/
def fnSweepWrong : ChangeSpec := { name := "fnSweep", fn := fun _ => fun
  | [d] => { results := [.lit (.bool false)], args := [d] }
  | _ => none }
def FnSweepWrongFalsely : Prop := fnSweepRow.holds Try.pinned (OpenSpec.ofChange fnSweepWrong)

/-- 'laws.FnExactLayoutOk': WHATEVER THE INPUT: true; the input reads as it did. -/
def fnExactLayoutOkSpec : ChangeSpec := { name := "fnExactLayoutOk", fn := fun _ => fun
  | [d] => { results := [.lit (.bool true)], args := [d] }
  | _ => none }
def fnExactLayoutOkRow : OpenClaim := { program := "ytlpopfhaephfaaa", sum := "61d9c4b56e9ce5573f11cebe0f3313e6d5e9017b6621841fee4b8efe5c6d7cb2", func := "loop.example/treadle/laws.FnExactLayoutOk", spec := "fnExactLayoutOk", apart := false }
def FnExactLayoutOkSaid : Prop := fnExactLayoutOkRow.holds Try.pinned (OpenSpec.ofChange fnExactLayoutOkSpec)

/-- ITS FALSE NEIGHBOUR: 'it returns false'. Refute it at one input. -/
def fnExactLayoutOkWrong : ChangeSpec := { name := "fnExactLayoutOk", fn := fun _ => fun
  | [d] => { results := [.lit (.bool false)], args := [d] }
  | _ => none }
def FnExactLayoutOkWrongFalsely : Prop := fnExactLayoutOkRow.holds Try.pinned (OpenSpec.ofChange fnExactLayoutOkWrong)

/-- 'laws.FnExactAround': WHATEVER THE INPUT: true; the input reads as it did. -/
def fnExactAroundSpec : ChangeSpec := { name := "fnExactAround", fn := fun _ => fun
  | [d1, d2] => { results := [.lit (.bool true)], args := [d1, d2] }
  | _ => none }
def fnExactAroundRow : OpenClaim := { program := "ytlpopfhaephfaaa", sum := "61d9c4b56e9ce5573f11cebe0f3313e6d5e9017b6621841fee4b8efe5c6d7cb2", func := "loop.example/treadle/laws.FnExactAround", spec := "fnExactAround", apart := false }
def FnExactAroundSaid : Prop := fnExactAroundRow.holds Try.pinned (OpenSpec.ofChange fnExactAroundSpec)

/-- ITS FALSE NEIGHBOUR: 'it returns false'. Refute it at one input. -/
def fnExactAroundWrong : ChangeSpec := { name := "fnExactAround", fn := fun _ => fun
  | [d1, d2] => { results := [.lit (.bool false)], args := [d1, d2] }
  | _ => none }
def FnExactAroundWrongFalsely : Prop := fnExactAroundRow.holds Try.pinned (OpenSpec.ofChange fnExactAroundWrong)

/-- 'laws.FnExactPassing': WHATEVER THE INPUT: true; the input reads as it did. -/
def fnExactPassingSpec : ChangeSpec := { name := "fnExactPassing", fn := fun _ => fun
  | [d1, d2, d3, d4, d5] => { results := [.lit (.bool true)], args := [d1, d2, d3, d4, d5] }
  | _ => none }
def fnExactPassingRow : OpenClaim := { program := "ytlpopfhaephfaaa", sum := "61d9c4b56e9ce5573f11cebe0f3313e6d5e9017b6621841fee4b8efe5c6d7cb2", func := "loop.example/treadle/laws.FnExactPassing", spec := "fnExactPassing", unfollowed := true, recurses := true, apart := false }
def FnExactPassingSaid : Prop := fnExactPassingRow.holds Try.pinned (OpenSpec.ofChange fnExactPassingSpec)

/-- ITS FALSE NEIGHBOUR: 'it returns false'. Refute it at one input. -/
def fnExactPassingWrong : ChangeSpec := { name := "fnExactPassing", fn := fun _ => fun
  | [d1, d2, d3, d4, d5] => { results := [.lit (.bool false)], args := [d1, d2, d3, d4, d5] }
  | _ => none }
def FnExactPassingWrongFalsely : Prop := fnExactPassingRow.holds Try.pinned (OpenSpec.ofChange fnExactPassingWrong)

/-- 'laws.FnExactBegin': WHATEVER THE INPUT: true; the input reads as it did. -/
def fnExactBeginSpec : ChangeSpec := { name := "fnExactBegin", fn := fun _ => fun
  | [d] => { results := [.lit (.bool true)], args := [d] }
  | _ => none }
def fnExactBeginRow : OpenClaim := { program := "ytlpopfhaephfaaa", sum := "61d9c4b56e9ce5573f11cebe0f3313e6d5e9017b6621841fee4b8efe5c6d7cb2", func := "loop.example/treadle/laws.FnExactBegin", spec := "fnExactBegin", apart := false }
def FnExactBeginSaid : Prop := fnExactBeginRow.holds Try.pinned (OpenSpec.ofChange fnExactBeginSpec)

/-- ITS FALSE NEIGHBOUR: 'it returns false'. Refute it at one input. -/
def fnExactBeginWrong : ChangeSpec := { name := "fnExactBegin", fn := fun _ => fun
  | [d] => { results := [.lit (.bool false)], args := [d] }
  | _ => none }
def FnExactBeginWrongFalsely : Prop := fnExactBeginRow.holds Try.pinned (OpenSpec.ofChange fnExactBeginWrong)

/- THE SECOND FORM. 'bulk': how many values and letters a reading holds, each counted each time it is reached (what is shared counts as often as it is met; a slice's spare places count too). A statement '..UptoSaid' is the law's where the arguments, and the package variables that the reading takes, are together of bulk at most 1048576: NARROWER than '..Said'. Prove '..Said' where nothing that the law and all that it calls make is longer than what came in: it says more and counts as full. Else prove '..UptoSaid'. A law counts once. -/
mutual
def uptoBulk {H : Type} : DataW H → Nat
  | .lit (.string bytes) => bytes.length + 1
  | .lit _ => 1
  | .nil => 1
  | .ptr d => uptoBulk d + 1
  | .slice elems spare => uptoBulkAll elems + uptoBulkAll spare + 1
  | .agg parts => uptoBulkAll parts + 1
  | .iface _ d => uptoBulk d + 1
  | .map entries => uptoBulkEntries entries + 1
  | .held _ => 1
def uptoBulkAll {H : Type} : List (DataW H) → Nat
  | [] => 0
  | d :: r => uptoBulk d + uptoBulkAll r
def uptoBulkEntries {H : Type} : List (Lit × DataW H) → Nat
  | [] => 0
  | x :: r => uptoBulkEntry x + uptoBulkEntries r
def uptoBulkEntry {H : Type} : Lit × DataW H → Nat
  | (.string bytes, d) => bytes.length + uptoBulk d + 1
  | (_, d) => uptoBulk d + 1
 end
def uptoSmall : (H : Type) → List (DataW H) → Bool := fun _ ds => decide (uptoBulkAll ds ≤ 1048576)
def OpenSpec.upto (s : _root_.Go.ChangeSpec) : _root_.Go.OpenSpec := { _root_.Go.OpenSpec.ofChange s with cond := some uptoSmall }

/-- 'laws.FnTop', WHERE WHAT IT READS IS OF BULK AT MOST 1048576: true; the input reads as it did. -/
def fnTopUptoRow : OpenClaim := { program := "ytlpopfhaephfaaa", sum := "61d9c4b56e9ce5573f11cebe0f3313e6d5e9017b6621841fee4b8efe5c6d7cb2", func := "loop.example/treadle/laws.FnTop", spec := "fnTop", unfollowed := true, recurses := true, apart := false, narrowed := true }
def FnTopUptoSaid : Prop := fnTopUptoRow.holds Try.pinned (OpenSpec.upto fnTopSpec)

/-- 'laws.FnJust', WHERE WHAT IT READS IS OF BULK AT MOST 1048576: true; the input reads as it did. -/
def fnJustUptoRow : OpenClaim := { program := "ytlpopfhaephfaaa", sum := "61d9c4b56e9ce5573f11cebe0f3313e6d5e9017b6621841fee4b8efe5c6d7cb2", func := "loop.example/treadle/laws.FnJust", spec := "fnJust", unfollowed := true, recurses := true, apart := false, narrowed := true }
def FnJustUptoSaid : Prop := fnJustUptoRow.holds Try.pinned (OpenSpec.upto fnJustSpec)

/-- 'laws.FnSwap', WHERE WHAT IT READS IS OF BULK AT MOST 1048576: true; the input reads as it did. -/
def fnSwapUptoRow : OpenClaim := { program := "ytlpopfhaephfaaa", sum := "61d9c4b56e9ce5573f11cebe0f3313e6d5e9017b6621841fee4b8efe5c6d7cb2", func := "loop.example/treadle/laws.FnSwap", spec := "fnSwap", unfollowed := true, recurses := true, apart := false, narrowed := true }
def FnSwapUptoSaid : Prop := fnSwapUptoRow.holds Try.pinned (OpenSpec.upto fnSwapSpec)

/-- 'laws.FnSweep', WHERE WHAT IT READS IS OF BULK AT MOST 1048576: true; the input reads as it did. -/
def fnSweepUptoRow : OpenClaim := { program := "ytlpopfhaephfaaa", sum := "61d9c4b56e9ce5573f11cebe0f3313e6d5e9017b6621841fee4b8efe5c6d7cb2", func := "loop.example/treadle/laws.FnSweep", spec := "fnSweep", unfollowed := true, recurses := true, apart := false, narrowed := true }
def FnSweepUptoSaid : Prop := fnSweepUptoRow.holds Try.pinned (OpenSpec.upto fnSweepSpec)

/-- 'laws.FnExactLayoutOk', WHERE WHAT IT READS IS OF BULK AT MOST 1048576: true; the input reads as it did. -/
def fnExactLayoutOkUptoRow : OpenClaim := { program := "ytlpopfhaephfaaa", sum := "61d9c4b56e9ce5573f11cebe0f3313e6d5e9017b6621841fee4b8efe5c6d7cb2", func := "loop.example/treadle/laws.FnExactLayoutOk", spec := "fnExactLayoutOk", apart := false, narrowed := true }
def FnExactLayoutOkUptoSaid : Prop := fnExactLayoutOkUptoRow.holds Try.pinned (OpenSpec.upto fnExactLayoutOkSpec)

/-- 'laws.FnExactAround', WHERE WHAT IT READS IS OF BULK AT MOST 1048576: true; the input reads as it did. -/
def fnExactAroundUptoRow : OpenClaim := { program := "ytlpopfhaephfaaa", sum := "61d9c4b56e9ce5573f11cebe0f3313e6d5e9017b6621841fee4b8efe5c6d7cb2", func := "loop.example/treadle/laws.FnExactAround", spec := "fnExactAround", apart := false, narrowed := true }
def FnExactAroundUptoSaid : Prop := fnExactAroundUptoRow.holds Try.pinned (OpenSpec.upto fnExactAroundSpec)

/-- 'laws.FnExactPassing', WHERE WHAT IT READS IS OF BULK AT MOST 1048576: true; the input reads as it did. -/
def fnExactPassingUptoRow : OpenClaim := { program := "ytlpopfhaephfaaa", sum := "61d9c4b56e9ce5573f11cebe0f3313e6d5e9017b6621841fee4b8efe5c6d7cb2", func := "loop.example/treadle/laws.FnExactPassing", spec := "fnExactPassing", unfollowed := true, recurses := true, apart := false, narrowed := true }
def FnExactPassingUptoSaid : Prop := fnExactPassingUptoRow.holds Try.pinned (OpenSpec.upto fnExactPassingSpec)

/-- 'laws.FnExactBegin', WHERE WHAT IT READS IS OF BULK AT MOST 1048576: true; the input reads as it did. -/
def fnExactBeginUptoRow : OpenClaim := { program := "ytlpopfhaephfaaa", sum := "61d9c4b56e9ce5573f11cebe0f3313e6d5e9017b6621841fee4b8efe5c6d7cb2", func := "loop.example/treadle/laws.FnExactBegin", spec := "fnExactBegin", apart := false, narrowed := true }
def FnExactBeginUptoSaid : Prop := fnExactBeginUptoRow.holds Try.pinned (OpenSpec.upto fnExactBeginSpec)

end Rows
end Go.Proofs.Ytlpopfhaephfaaa
