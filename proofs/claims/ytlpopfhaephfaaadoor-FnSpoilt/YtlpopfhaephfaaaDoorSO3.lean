import Derived.Test.YtlpopfhaephfaaaDoorCR
import Derived.Test.YtlpopfhaephfaaaDoorSO2
namespace Go.Proofs.YtlpopfhaephfaaaDoor
open Go.RowKit Go.Maps Go.Sort

def inB (x a b : Int) : Bool := decide (a ≤ x) && decide (x ≤ b)

theorem l1in_any (x a b : Int) (w : World) :
    Calls Tryd.prog 41 #[.int .i64 x, .int .i64 a, .int .i64 b] w fun e w' => e = .returned (.bool (inB x a b)) ∧ Below w.heap.size w w' := by
  rcases (show x < a ∨ (a ≤ x ∧ x ≤ b) ∨ (a ≤ x ∧ b < x) by omega) with h | ⟨h, h2⟩ | ⟨h, h2⟩
  · have e : inB x a b = false := by simp [inB]; omega
    rw [e]
    have h' : decide (a ≤ x) = false := by simp; omega
    go_enter Tryd.func41, Tryd.ntmps41
    go_wp2
    go_ret
    exact ⟨rfl, (by repeat (first | exact Below.refl _ _ | assumption | refine below_alloc ?_ _ | refine Below.setCell ?_ (by first | omega | (simp; done) | (simp; omega)) _ | refine Below.alloc ?_ (by first | omega | (simp; done) | (simp; omega)) _ | refine Below.drew ?_))⟩
  · have e : inB x a b = true := by simp [inB]; omega
    rw [e]
    go_enter Tryd.func41, Tryd.ntmps41
    go_wp2
    go_ret
    exact ⟨by first | rfl | (simp [*]; done), (by repeat (first | exact Below.refl _ _ | assumption | refine below_alloc ?_ _ | refine Below.setCell ?_ (by first | omega | (simp; done) | (simp; omega)) _ | refine Below.alloc ?_ (by first | omega | (simp; done) | (simp; omega)) _ | refine Below.drew ?_))⟩
  · have e : inB x a b = false := by simp [inB]; omega
    rw [e]
    have h' : decide (x ≤ b) = false := by simp; omega
    go_enter Tryd.func41, Tryd.ntmps41
    go_wp2
    go_ret
    exact ⟨by first | rfl | (simp [*]; done), (by repeat (first | exact Below.refl _ _ | assumption | refine below_alloc ?_ _ | refine Below.setCell ?_ (by first | omega | (simp; done) | (simp; omega)) _ | refine Below.alloc ?_ (by first | omega | (simp; done) | (simp; omega)) _ | refine Below.drew ?_))⟩

theorem all_step {P : Nat → Prop} {k : Nat} (h : ∀ i, i < k → P i) (hk : P k) : ∀ i, i < k + 1 → P i := by
  intro i hi
  rcases (show i < k ∨ i = k by omega) with h' | rfl
  · exact h i h'
  · exact hk

theorem secOk_of {dd : Bool} {x : Sec} {tz : Int} (h1 : inB x.count (-1000000) 1000000 = true) (h2 : inB x.last (-1) 1 = true) (ht : toldZ dd x = tz) (hq : (x.told != tz) = false) : secOk dd x = (x.lost || !(mustL x || dd)) := by
  have h3 : (x.told == toldZ dd x) = true := by rw [ht]; simpa [bne] using hq
  unfold inB at h1 h2
  simp only [Bool.and_eq_true] at h1 h2
  simp [secOk, numOk, h1.1, h1.2, h2.1, h2.2, h3]

end Go.Proofs.YtlpopfhaephfaaaDoor
