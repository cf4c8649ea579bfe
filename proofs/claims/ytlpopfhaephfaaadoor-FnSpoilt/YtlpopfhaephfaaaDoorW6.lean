import Derived.Test.YtlpopfhaephfaaaDoorCR
import Derived.Test.YtlpopfhaephfaaaDoorW3
import Derived.Test.YtlpopfhaephfaaaDoorW5
namespace Go.Proofs.YtlpopfhaephfaaaDoor
open Go.RowKit Go.Maps

theorem lok_facts {S : Int} {n : Nat} {F T : Nat → Int} (h : lokZ S n F T = 0) : 1 ≤ S ∧ S ≤ 60 ∧ n ≤ 120 ∧ ∀ i, i < n → -1 ≤ F i ∧ F i ≤ S - 1 ∧ -1 ≤ T i ∧ T i ≤ S - 1 ∧ F i ≠ T i := by
  unfold lokZ at h
  split at h
  · omega
  · split at h
    · omega
    · rename_i h1 h2
      refine ⟨by omega, by omega, by omega, fun i hi => ?_⟩
      have : badB S (F i) (T i) = false := by
        cases hb : badB S (F i) (T i)
        · rfl
        · exact absurd (List.any_eq_true.2 ⟨i, List.mem_range.2 hi, hb⟩) h2
      unfold badB at this
      simp at this
      omega

/-- what Around answers -/
def arZ (S : Int) (n : Nat) (F T : Nat → Int) (s : Int) : List Int := if lokZ S n F T = 0 ∧ 0 ≤ s ∧ s < S then zsAt F T n s else []

theorem ownsInts_base {w : World} {b b' e : Nat} {v : Value} {zs : List Int} (h : w.ownsInts b e .i64 v zs) (hb : b' ≤ b) : w.ownsInts b' e .i64 v zs := by
  refine ⟨⟨h.1.1, ?_⟩, h.2⟩
  rcases h.1.2 with h1 | ⟨g, cap, cur, h1, h2, r⟩
  · exact .inl h1
  · exact .inr ⟨g, cap, cur, h1, Nat.le_trans hb h2, r⟩

end Go.Proofs.YtlpopfhaephfaaaDoor
