import Derived.Test.YtlpopfhaephfaabW4
import Derived.Test.YtlpopfhaephfaabRE1
import Derived.Test.YtlpopfhaephfaabMkL
import Derived.Deep.CutBlock
namespace Go.Proofs.Ytlpopfhaephfaab
open Go.RowKit

/-- What a list of events is answered with: a predicate of the answer's memory (between lo and hi), and of the answer when it is marked. -/
structure AnsOk (Ans Mk : World → Nat → Nat → Value → Prop) : Prop where
  on : ∀ {W W' : World} {lo hi : Nat} {v : Value}, Ans W lo hi v → Below W.heap.size W W' → Ans W' lo hi v
  turned : ∀ {W W' : World} {E : Nat → Prop} {lo' hi' lo hi : Nat} {v : Value}, Ans W lo hi v → Turned W W' E lo' hi' → (hi' ≤ lo ∨ hi ≤ lo') → Ans W' lo hi v
  mon : ∀ {W W' : World} {lo hi : Nat} {v : Value}, Mk W lo hi v → Below W.heap.size W W' → Mk W' lo hi v

def AnsC (fn : Nat) (S : Int) (n : Nat) (F T : Nat → Int) (m : Nat) (P : Nat → Nat → Int) (Ans : World → Nat → Nat → Value → Prop) : Prop :=
  ∀ (g le he : Nat) (ve : Value) (W : World), Row W g 88 2 n (two F T) → SlF W 33 3 le he ve m (evs P) →
    Calls Try.prog fn #[.agg #[.int .i64 S, .slice (some ⟨g, 0, none⟩) n n], ve] W fun e w' => ∃ u, e = .returned u ∧ Ans w' W.heap.size w'.heap.size u ∧ Below W.heap.size W w'
def EqC (fn : Nat) (Ans : World → Nat → Nat → Value → Prop) : Prop := ∀ (W : World) (lo hi lo' hi' : Nat) (v v' : Value), Ans W lo hi v → Ans W lo' hi' v' → Calls Try.prog fn #[v, v'] W fun e w' => e = .returned (.bool true) ∧ Below W.heap.size W w'
def MarkC (fn : Nat) (Ans Mk : World → Nat → Nat → Value → Prop) (Q : Int) : Prop := ∀ (W : World) (lo hi : Nat) (v : Value), lo ≤ hi → Ans W lo hi v → Calls Try.prog fn #[v, .int .i64 1] W fun e w' => e = .returned (.int .i64 Q) ∧ Mk w' lo hi v ∧ ∃ E : Nat → Prop, Turned W w' E lo hi
def HeldC (fn : Nat) (Mk : World → Nat → Nat → Value → Prop) (Q : Int) : Prop := ∀ (W : World) (lo hi : Nat) (v : Value), Mk W lo hi v → Calls Try.prog fn #[v, .int .i64 1] W fun e w' => e = .returned (.int .i64 Q) ∧ Below W.heap.size W w'

end Go.Proofs.Ytlpopfhaephfaab
