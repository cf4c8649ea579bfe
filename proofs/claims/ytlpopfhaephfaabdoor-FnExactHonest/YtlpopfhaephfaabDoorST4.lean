import Derived.Test.YtlpopfhaephfaabDoorST3
import Derived.Test.YtlpopfhaephfaabDoorW3
namespace Go.Proofs.YtlpopfhaephfaabDoor
open Go.RowKit

theorem lok_range {S : Int} {n : Nat} {F T : Nat → Int} (h : lokZ S n F T = 0) : 1 ≤ S ∧ S ≤ 60 ∧ n ≤ 120 := by
  unfold lokZ at h
  by_cases h1 : S < 1 ∨ 60 < S ∨ 120 < n
  · rw [if_pos h1] at h; omega
  · omega

theorem lok_sides {S : Int} {n : Nat} {F T : Nat → Int} (h : lokZ S n F T = 0) : ∀ i, i < n → -1 ≤ F i ∧ F i ≤ S - 1 ∧ -1 ≤ T i ∧ T i ≤ S - 1 ∧ F i ≠ T i := by
  intro i hi
  by_cases h1 : S < 1 ∨ 60 < S ∨ 120 < n
  · rw [lokZ_one h1] at h; omega
  · by_cases hb : badB S (F i) (T i) = true
    · rw [lokZ_two h1 hi hb] at h; omega
    · simp only [badB, Bool.or_eq_true, Bool.not_eq_true', Bool.and_eq_false_iff, decide_eq_true_eq, decide_eq_false_iff_not] at hb
      omega

end Go.Proofs.YtlpopfhaephfaabDoor
