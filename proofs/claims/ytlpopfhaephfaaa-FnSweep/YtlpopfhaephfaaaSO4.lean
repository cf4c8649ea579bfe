import Derived.Test.YtlpopfhaephfaaaCR
import Derived.Test.YtlpopfhaephfaaaSO3
import Derived.Test.YtlpopfhaephfaaaIM3
namespace Go.Proofs.Ytlpopfhaephfaaa
open Go.RowKit Go.Maps

set_option maxHeartbeats 1000000 in
theorem implStateOk_head (S : Int) (g n lo hi : Nat) (F T : Nat → Int) (v : Value) (ok : Bool) (ns nd : Nat) (X : Nat → Sec) (D : Nat → Bool) (w : World) (hrow : CRow w g n F T) (hs : StF w lo hi v ok ns nd X D)
    (hbad : lokZ S n F T ≠ 0 ∨ ok = false ∨ (ns : Int) ≠ S ∨ nd ≠ n) :
    Calls Try.prog 16 #[.agg #[.int .i64 S, .slice (gA g) n (gC g)], v] w fun e w' => e = .returned (.bool false) ∧ Below w.heap.size w w' := by
  obtain ⟨_, _, rfl, ⟨a1, c1, rfl, hX⟩, ⟨a2, c2, rfl, hD⟩⟩ := hs
  have hc := fun o o' => implLayoutOk_any S g n F T _ ((hrow.alloc o).alloc o')
  rcases (show lokZ S n F T ≠ 0 ∨ (lokZ S n F T = 0 ∧ ok = false) ∨ (lokZ S n F T = 0 ∧ ok = true ∧ (ns : Int) ≠ S) ∨ (lokZ S n F T = 0 ∧ ok = true ∧ (ns : Int) = S ∧ nd ≠ n) by
    by_cases h : lokZ S n F T = 0
    · cases ok
      · exact .inr (.inl ⟨h, rfl⟩)
      · by_cases h2 : (ns : Int) = S
        · exact .inr (.inr (.inr ⟨h, rfl, h2, by rcases hbad with x | x | x | x; exact absurd h x; cases x; exact absurd h2 x; exact x⟩))
        · exact .inr (.inr (.inl ⟨h, rfl, h2⟩))
    · exact .inl h) with h | ⟨h, rfl⟩ | ⟨h, rfl, h2⟩ | ⟨h, rfl, h2, h3⟩
  · have h' : (lokZ S n F T != 0) = true := by simpa [bne] using h
    clear h hbad
    go_enter Try.func16, Try.ntmps16
    go_wp2_with fail
    refine (hc _ _).mono ?_
    rintro e w1 ⟨rfl, hb1⟩
    obtain ⟨q1, q2⟩ := bcell hb1
    have B1 := below_on (show Below w.heap.size w _ from (by repeat (first | exact Below.refl _ _ | assumption | refine below_alloc ?_ _ | refine Below.setCell ?_ (by first | omega | (simp; done) | (simp; omega)) _ | refine Below.alloc ?_ (by first | omega | (simp; done) | (simp; omega)) _ | refine Below.drew ?_))) hb1
    clear hb1
    go_wp2
    go_ret
    exact ⟨rfl, B1⟩
  · rw [h] at hc
    clear h hbad
    go_enter Try.func16, Try.ntmps16
    go_wp2_with fail
    refine (hc _ _).mono ?_
    rintro e w1 ⟨rfl, hb1⟩
    obtain ⟨q1, q2⟩ := bcell hb1
    have B1 := below_on (show Below w.heap.size w _ from (by repeat (first | exact Below.refl _ _ | assumption | refine below_alloc ?_ _ | refine Below.setCell ?_ (by first | omega | (simp; done) | (simp; omega)) _ | refine Below.alloc ?_ (by first | omega | (simp; done) | (simp; omega)) _ | refine Below.drew ?_))) hb1
    clear hb1
    go_wp2
    go_ret
    exact ⟨rfl, B1⟩
  · rw [h] at hc
    have h2' : ((ns : Int) != S) = true := by simpa [bne] using h2
    clear h hbad
    go_enter Try.func16, Try.ntmps16
    go_wp2_with fail
    refine (hc _ _).mono ?_
    rintro e w1 ⟨rfl, hb1⟩
    obtain ⟨q1, q2⟩ := bcell hb1
    have B1 := below_on (show Below w.heap.size w _ from (by repeat (first | exact Below.refl _ _ | assumption | refine below_alloc ?_ _ | refine Below.setCell ?_ (by first | omega | (simp; done) | (simp; omega)) _ | refine Below.alloc ?_ (by first | omega | (simp; done) | (simp; omega)) _ | refine Below.drew ?_))) hb1
    clear hb1
    go_wp2
    go_ret
    exact ⟨rfl, B1⟩
  · rw [h] at hc
    have h3' : ((nd : Int) != (n : Int)) = true := by simp [bne]; omega
    subst h2
    clear h hbad
    go_enter Try.func16, Try.ntmps16
    go_wp2_with fail
    refine (hc _ _).mono ?_
    rintro e w1 ⟨rfl, hb1⟩
    obtain ⟨q1, q2⟩ := bcell hb1
    have B1 := below_on (show Below w.heap.size w _ from (by repeat (first | exact Below.refl _ _ | assumption | refine below_alloc ?_ _ | refine Below.setCell ?_ (by first | omega | (simp; done) | (simp; omega)) _ | refine Below.alloc ?_ (by first | omega | (simp; done) | (simp; omega)) _ | refine Below.drew ?_))) hb1
    clear hb1
    go_wp2
    go_ret
    exact ⟨rfl, B1⟩

theorem stOk_head {S : Int} {n : Nat} {F T : Nat → Int} {ok : Bool} {ns nd : Nat} {X : Nat → Sec} {D : Nat → Bool} (h : ¬ (lokZ S n F T = 0 ∧ ok = true ∧ (ns : Int) = S ∧ nd = n)) : stOk S n F T ok ns nd X D = false := by
  unfold stOk
  by_cases a : lokZ S n F T = 0
  · by_cases b : ok = true
    · by_cases c : (ns : Int) = S
      · have d : ¬ nd = n := fun d => h ⟨a, b, c, d⟩
        simp [d]
      · simp [c]
    · simp [b]
  · simp [a]

theorem specStateOk_any (S : Int) (g n lo hi : Nat) (F T : Nat → Int) (v : Value) (ok : Bool) (ns nd : Nat) (X : Nat → Sec) (D : Nat → Bool) (w : World) (hrow : CRow w g n F T) (hs : StF w lo hi v ok ns nd X D) :
    Calls Try.prog 91 #[.agg #[.int .i64 S, .slice (gA g) n (gC g)], v] w fun e w' => e = .returned (.bool (stOk S n F T ok ns nd X D)) ∧ Below w.heap.size w w' := by
  by_cases h : lokZ S n F T = 0 ∧ ok = true ∧ (ns : Int) = S ∧ nd = n
  · obtain ⟨h1, rfl, h3, rfl⟩ := h
    exact specStateOk_main S g nd lo hi F T v ns X D w hrow hs h1 h3
  · rw [stOk_head h]
    exact specStateOk_head S g n lo hi F T v ok ns nd X D w hrow hs (by
      by_cases a : lokZ S n F T = 0
      · by_cases b : ok = true
        · by_cases c : (ns : Int) = S
          · exact .inr (.inr (.inr (fun d => h ⟨a, b, c, d⟩)))
          · exact .inr (.inr (.inl c))
        · exact .inr (.inl (by simpa using b))
      · exact .inl a)

theorem implStateOk_any (S : Int) (g n lo hi : Nat) (F T : Nat → Int) (v : Value) (ok : Bool) (ns nd : Nat) (X : Nat → Sec) (D : Nat → Bool) (w : World) (hrow : CRow w g n F T) (hs : StF w lo hi v ok ns nd X D) :
    Calls Try.prog 16 #[.agg #[.int .i64 S, .slice (gA g) n (gC g)], v] w fun e w' => e = .returned (.bool (stOk S n F T ok ns nd X D)) ∧ Below w.heap.size w w' := by
  by_cases h : lokZ S n F T = 0 ∧ ok = true ∧ (ns : Int) = S ∧ nd = n
  · obtain ⟨h1, rfl, h3, rfl⟩ := h
    exact implStateOk_main S g nd lo hi F T v ns X D w hrow hs h1 h3
  · rw [stOk_head h]
    exact implStateOk_head S g n lo hi F T v ok ns nd X D w hrow hs (by
      by_cases a : lokZ S n F T = 0
      · by_cases b : ok = true
        · by_cases c : (ns : Int) = S
          · exact .inr (.inr (.inr (fun d => h ⟨a, b, c, d⟩)))
          · exact .inr (.inr (.inl c))
        · exact .inr (.inl (by simpa using b))
      · exact .inl a)

/-- what szState answers: what is left, or -1 -/
def szSt (left : Int) (ns nd : Nat) : Int := if (ns : Int) ≤ left ∧ (nd : Int) ≤ left - ns then left - ns - nd else -1

end Go.Proofs.Ytlpopfhaephfaaa
