import Derived.Test.YtlpopfhaephfaabEL0
namespace Go.Proofs.Ytlpopfhaephfaab
open Go.RowKit

/-- AnsC where the events are a row of their own. -/
def AnsC2 (fn : Nat) (S : Int) (n : Nat) (F T : Nat → Int) (m : Nat) (P : Nat → Nat → Int) (Ans : World → Nat → Nat → Value → Prop) : Prop :=
  ∀ (g ge : Nat) (W : World), Row W g 88 2 n (two F T) → Row W ge 33 3 m (evs P) →
    Calls Try.prog fn #[.agg #[.int .i64 S, .slice (some ⟨g, 0, none⟩) n n], .slice (some ⟨ge, 0, none⟩) m m] W fun e w' => ∃ u, e = .returned u ∧ Ans w' W.heap.size w'.heap.size u ∧ Below W.heap.size W w'

end Go.Proofs.Ytlpopfhaephfaab
