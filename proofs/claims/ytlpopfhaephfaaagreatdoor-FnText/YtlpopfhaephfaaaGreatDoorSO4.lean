import Derived.Test.YtlpopfhaephfaaaGreatDoorCR
import Derived.Test.YtlpopfhaephfaaaGreatDoorSO3
import Derived.Test.YtlpopfhaephfaaaGreatDoorIM3
namespace Go.Proofs.YtlpopfhaephfaaaGreatDoor
open Go.RowKit Go.Maps

theorem stOk_head {S : Int} {n : Nat} {F T : Nat → Int} {ok : Bool} {ns nd : Nat} {X : Nat → Sec} {D : Nat → Bool} (h : ¬ (lokZ S n F T = 0 ∧ ok = true ∧ (ns : Int) = S ∧ nd = n)) : stOk S n F T ok ns nd X D = false := by
  unfold stOk
  by_cases a : lokZ S n F T = 0
  · by_cases b : ok = true
    · by_cases c : (ns : Int) = S
      · have d : ¬ nd = n := fun d => h ⟨a, b, c, d⟩
        simp [d]
      · simp [c]
    · simp [b]
  · simp [a]

theorem specStateOk_any (S : Int) (g n lo hi : Nat) (F T : Nat → Int) (v : Value) (ok : Bool) (ns nd : Nat) (X : Nat → Sec) (D : Nat → Bool) (w : World) (hrow : CRow w g n F T) (hs : StF w lo hi v ok ns nd X D) :
    Calls Tryz.prog 62 #[.agg #[.int .i64 S, .slice (gA g) n (gC g)], v] w fun e w' => e = .returned (.bool (stOk S n F T ok ns nd X D)) ∧ Below w.heap.size w w' := by
  by_cases h : lokZ S n F T = 0 ∧ ok = true ∧ (ns : Int) = S ∧ nd = n
  · obtain ⟨h1, rfl, h3, rfl⟩ := h
    exact specStateOk_main S g nd lo hi F T v ns X D w hrow hs h1 h3
  · rw [stOk_head h]
    exact specStateOk_head S g n lo hi F T v ok ns nd X D w hrow hs (by
      by_cases a : lokZ S n F T = 0
      · by_cases b : ok = true
        · by_cases c : (ns : Int) = S
          · exact .inr (.inr (.inr (fun d => h ⟨a, b, c, d⟩)))
          · exact .inr (.inr (.inl c))
        · exact .inr (.inl (by simpa using b))
      · exact .inl a)

/-- what szState answers: what is left, or -1 -/
def szSt (left : Int) (ns nd : Nat) : Int := if (ns : Int) ≤ left ∧ (nd : Int) ≤ left - ns then left - ns - nd else -1

end Go.Proofs.YtlpopfhaephfaaaGreatDoor
