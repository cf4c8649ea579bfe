import Derived.Test.YtlpopfhaephfaabSO1
import Derived.Lib.QuietBelow
namespace Go.Proofs.Ytlpopfhaephfaab
open Go.RowKit Go.Maps

theorem secOk_iff {dd : Bool} {x : Sec} : secOk dd x = true ↔ (-1000000 ≤ x.count ∧ x.count ≤ 1000000 ∧ -1 ≤ x.last ∧ x.last ≤ 1) ∧ x.told = toldZ dd x ∧ (x.lost = true ∨ (¬ x.count < 0 ∧ dd = false ∧ ¬ (x.sweep = true ∧ x.count = 0 ∧ x.last = -1))) := by
  obtain ⟨told, count, lost, sweep, last⟩ := x
  cases lost <;> cases sweep <;> cases dd <;> simp [secOk, numOk, mustL] <;> omega

theorem stOk_no {S : Int} {n : Nat} {F T : Nat → Int} {ok : Bool} {ns nd : Nat} {X : Nat → Sec} {D : Nat → Bool} {k : Nat} (hk : k < ns) (h : secOk (deadB n F T D (k : Int)) (X k) = false) : stOk S n F T ok ns nd X D = false := by
  unfold stOk
  have : ((List.range ns).all fun i => secOk (deadB n F T D (i : Int)) (X i)) = false := List.all_eq_false.2 ⟨k, List.mem_range.2 hk, by simp [h]⟩
  rw [this]; simp

theorem stOk_yes {S : Int} {n : Nat} {F T : Nat → Int} {ns : Nat} {X : Nat → Sec} {D : Nat → Bool} (h0 : lokZ S n F T = 0) (h1 : (ns : Int) = S) (h : ∀ k, k < ns → secOk (deadB n F T D (k : Int)) (X k) = true) : stOk S n F T true ns n X D = true := by
  unfold stOk
  have : ((List.range ns).all fun i => secOk (deadB n F T D (i : Int)) (X i)) = true := List.all_eq_true.2 fun i hi => h i (List.mem_range.1 hi)
  rw [this]; simp [h0, h1]

/-- the five cells of a section's own box -/
theorem box5 (w : World) (x : Sec) (e : TypeId) : (w.alloc (.cells #[.int .i64 x.told, .int .i64 x.count, .bool x.lost, .bool x.sweep, .int .i64 x.last] e)).cell? ⟨w.heap.size, 0, none⟩ = some (.int .i64 x.told) ∧ (w.alloc (.cells #[.int .i64 x.told, .int .i64 x.count, .bool x.lost, .bool x.sweep, .int .i64 x.last] e)).cell? ⟨w.heap.size, 1, none⟩ = some (.int .i64 x.count) ∧ (w.alloc (.cells #[.int .i64 x.told, .int .i64 x.count, .bool x.lost, .bool x.sweep, .int .i64 x.last] e)).cell? ⟨w.heap.size, 2, none⟩ = some (.bool x.lost) ∧ (w.alloc (.cells #[.int .i64 x.told, .int .i64 x.count, .bool x.lost, .bool x.sweep, .int .i64 x.last] e)).cell? ⟨w.heap.size, 3, none⟩ = some (.bool x.sweep) ∧ (w.alloc (.cells #[.int .i64 x.told, .int .i64 x.count, .bool x.lost, .bool x.sweep, .int .i64 x.last] e)).cell? ⟨w.heap.size, 4, none⟩ = some (.int .i64 x.last) := by
  refine ⟨?_, ?_, ?_, ?_, ?_⟩ <;> simp

set_option maxHeartbeats 1000000 in
theorem specStateOk_head (S : Int) (g n lo hi : Nat) (F T : Nat → Int) (v : Value) (ok : Bool) (ns nd : Nat) (X : Nat → Sec) (D : Nat → Bool) (w : World) (hrow : Row w g 88 2 n (two F T)) (hs : StF w lo hi v ok ns nd X D)
    (hbad : lokZ S n F T ≠ 0 ∨ ok = false ∨ (ns : Int) ≠ S ∨ nd ≠ n) :
    Calls Try.prog 25 #[.agg #[.int .i64 S, .slice (some ⟨g, 0, none⟩) n n], v] w fun e w' => e = .returned (.bool false) ∧ Below w.heap.size w w' := by
  obtain ⟨_, _, rfl, ⟨a1, c1, rfl, hX⟩, ⟨a2, c2, rfl, hD⟩⟩ := hs
  have hc := fun o o' => specLayoutOk_any S g n F T _ ((hrow.alloc o).alloc o')
  rcases (show lokZ S n F T ≠ 0 ∨ (lokZ S n F T = 0 ∧ ok = false) ∨ (lokZ S n F T = 0 ∧ ok = true ∧ (ns : Int) ≠ S) ∨ (lokZ S n F T = 0 ∧ ok = true ∧ (ns : Int) = S ∧ nd ≠ n) by
    by_cases h : lokZ S n F T = 0
    · cases ok
      · exact .inr (.inl ⟨h, rfl⟩)
      · by_cases h2 : (ns : Int) = S
        · exact .inr (.inr (.inr ⟨h, rfl, h2, by rcases hbad with x | x | x | x; exact absurd h x; cases x; exact absurd h2 x; exact x⟩))
        · exact .inr (.inr (.inl ⟨h, rfl, h2⟩))
    · exact .inl h) with h | ⟨h, rfl⟩ | ⟨h, rfl, h2⟩ | ⟨h, rfl, h2, h3⟩
  · have h' : (lokZ S n F T != 0) = true := by simpa [bne] using h
    clear h hbad
    go_enter Try.func25, Try.ntmps25
    go_wp2_with fail
    refine (hc _ _).mono ?_
    rintro e w1 ⟨rfl, hb1⟩
    obtain ⟨q1, q2⟩ := bcell hb1
    have B1 := below_on (show Below w.heap.size w _ from (by repeat (first | exact Below.refl _ _ | assumption | refine below_alloc ?_ _ | refine Below.setCell ?_ (by first | omega | (simp; done) | (simp; omega)) _ | refine Below.alloc ?_ (by first | omega | (simp; done) | (simp; omega)) _ | refine Below.drew ?_))) hb1
    clear hb1
    go_wp2
    go_ret
    exact ⟨rfl, B1⟩
  · rw [h] at hc
    clear h hbad
    go_enter Try.func25, Try.ntmps25
    go_wp2_with fail
    refine (hc _ _).mono ?_
    rintro e w1 ⟨rfl, hb1⟩
    obtain ⟨q1, q2⟩ := bcell hb1
    have B1 := below_on (show Below w.heap.size w _ from (by repeat (first | exact Below.refl _ _ | assumption | refine below_alloc ?_ _ | refine Below.setCell ?_ (by first | omega | (simp; done) | (simp; omega)) _ | refine Below.alloc ?_ (by first | omega | (simp; done) | (simp; omega)) _ | refine Below.drew ?_))) hb1
    clear hb1
    go_wp2
    go_ret
    exact ⟨rfl, B1⟩
  · rw [h] at hc
    have h2' : ((ns : Int) != S) = true := by simpa [bne] using h2
    clear h hbad
    go_enter Try.func25, Try.ntmps25
    go_wp2_with fail
    refine (hc _ _).mono ?_
    rintro e w1 ⟨rfl, hb1⟩
    obtain ⟨q1, q2⟩ := bcell hb1
    have B1 := below_on (show Below w.heap.size w _ from (by repeat (first | exact Below.refl _ _ | assumption | refine below_alloc ?_ _ | refine Below.setCell ?_ (by first | omega | (simp; done) | (simp; omega)) _ | refine Below.alloc ?_ (by first | omega | (simp; done) | (simp; omega)) _ | refine Below.drew ?_))) hb1
    clear hb1
    go_wp2
    go_ret
    exact ⟨rfl, B1⟩
  · rw [h] at hc
    have h3' : ((nd : Int) != (n : Int)) = true := by simp [bne]; omega
    subst h2
    clear h hbad
    go_enter Try.func25, Try.ntmps25
    go_wp2_with fail
    refine (hc _ _).mono ?_
    rintro e w1 ⟨rfl, hb1⟩
    obtain ⟨q1, q2⟩ := bcell hb1
    have B1 := below_on (show Below w.heap.size w _ from (by repeat (first | exact Below.refl _ _ | assumption | refine below_alloc ?_ _ | refine Below.setCell ?_ (by first | omega | (simp; done) | (simp; omega)) _ | refine Below.alloc ?_ (by first | omega | (simp; done) | (simp; omega)) _ | refine Below.drew ?_))) hb1
    clear hb1
    go_wp2
    go_ret
    exact ⟨rfl, B1⟩

end Go.Proofs.Ytlpopfhaephfaab
