import Derived.Test.YtlpopfhaephfaaaDoorCR
import Derived.Test.YtlpopfhaephfaaaDoorSO3
import Derived.Test.YtlpopfhaephfaaaDoorIM3
namespace Go.Proofs.YtlpopfhaephfaaaDoor
open Go.RowKit Go.Maps

theorem stOk_head {S : Int} {n : Nat} {F T : Nat → Int} {ok : Bool} {ns nd : Nat} {X : Nat → Sec} {D : Nat → Bool} (h : ¬ (lokZ S n F T = 0 ∧ ok = true ∧ (ns : Int) = S ∧ nd = n)) : stOk S n F T ok ns nd X D = false := by
  unfold stOk
  by_cases a : lokZ S n F T = 0
  · by_cases b : ok = true
    · by_cases c : (ns : Int) = S
      · have d : ¬ nd = n := fun d => h ⟨a, b, c, d⟩
        simp [d]
      · simp [c]
    · simp [b]
  · simp [a]

/-- what szState answers: what is left, or -1 -/
def szSt (left : Int) (ns nd : Nat) : Int := if (ns : Int) ≤ left ∧ (nd : Int) ≤ left - ns then left - ns - nd else -1

end Go.Proofs.YtlpopfhaephfaaaDoor
