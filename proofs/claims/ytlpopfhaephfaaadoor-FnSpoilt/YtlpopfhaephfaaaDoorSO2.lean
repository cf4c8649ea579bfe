import Derived.Test.YtlpopfhaephfaaaDoorCR
import Derived.Test.YtlpopfhaephfaaaDoorSO1
import Derived.Lib.QuietBelow
namespace Go.Proofs.YtlpopfhaephfaaaDoor
open Go.RowKit Go.Maps

theorem secOk_iff {dd : Bool} {x : Sec} : secOk dd x = true ↔ (-1000000 ≤ x.count ∧ x.count ≤ 1000000 ∧ -1 ≤ x.last ∧ x.last ≤ 1) ∧ x.told = toldZ dd x ∧ (x.lost = true ∨ (¬ x.count < 0 ∧ dd = false ∧ ¬ (x.sweep = true ∧ x.count = 0 ∧ x.last = -1))) := by
  obtain ⟨told, count, lost, sweep, last⟩ := x
  cases lost <;> cases sweep <;> cases dd <;> simp [secOk, numOk, mustL] <;> omega

theorem stOk_no {S : Int} {n : Nat} {F T : Nat → Int} {ok : Bool} {ns nd : Nat} {X : Nat → Sec} {D : Nat → Bool} {k : Nat} (hk : k < ns) (h : secOk (deadB n F T D (k : Int)) (X k) = false) : stOk S n F T ok ns nd X D = false := by
  unfold stOk
  have : ((List.range ns).all fun i => secOk (deadB n F T D (i : Int)) (X i)) = false := List.all_eq_false.2 ⟨k, List.mem_range.2 hk, by simp [h]⟩
  rw [this]; simp

theorem stOk_yes {S : Int} {n : Nat} {F T : Nat → Int} {ns : Nat} {X : Nat → Sec} {D : Nat → Bool} (h0 : lokZ S n F T = 0) (h1 : (ns : Int) = S) (h : ∀ k, k < ns → secOk (deadB n F T D (k : Int)) (X k) = true) : stOk S n F T true ns n X D = true := by
  unfold stOk
  have : ((List.range ns).all fun i => secOk (deadB n F T D (i : Int)) (X i)) = true := List.all_eq_true.2 fun i hi => h i (List.mem_range.1 hi)
  rw [this]; simp [h0, h1]

/-- the five cells of a section's own box -/
theorem box5 (w : World) (x : Sec) (e : TypeId) : (w.alloc (.cells #[.int .i64 x.told, .int .i64 x.count, .bool x.lost, .bool x.sweep, .int .i64 x.last] e)).cell? ⟨w.heap.size, 0, none⟩ = some (.int .i64 x.told) ∧ (w.alloc (.cells #[.int .i64 x.told, .int .i64 x.count, .bool x.lost, .bool x.sweep, .int .i64 x.last] e)).cell? ⟨w.heap.size, 1, none⟩ = some (.int .i64 x.count) ∧ (w.alloc (.cells #[.int .i64 x.told, .int .i64 x.count, .bool x.lost, .bool x.sweep, .int .i64 x.last] e)).cell? ⟨w.heap.size, 2, none⟩ = some (.bool x.lost) ∧ (w.alloc (.cells #[.int .i64 x.told, .int .i64 x.count, .bool x.lost, .bool x.sweep, .int .i64 x.last] e)).cell? ⟨w.heap.size, 3, none⟩ = some (.bool x.sweep) ∧ (w.alloc (.cells #[.int .i64 x.told, .int .i64 x.count, .bool x.lost, .bool x.sweep, .int .i64 x.last] e)).cell? ⟨w.heap.size, 4, none⟩ = some (.int .i64 x.last) := by
  refine ⟨?_, ?_, ?_, ?_, ?_⟩ <;> simp

end Go.Proofs.YtlpopfhaephfaaaDoor
