import Derived.Test.YtlpopfhaephfaaaH6
import Derived.Test.YtlpopfhaephfaaaP6
import Derived.Test.YtlpopfhaephfaaaP2
import Derived.Test.YtlpopfhaephfaaaW3
namespace Go.Proofs.Ytlpopfhaephfaaa
open Go.RowKit Go.Sort

theorem Try.infoE : (Try.prog.info? 45).map (fun i => (i.zero, i.size, i.bytes)) = some (some (.agg #[.int .i64 0, .int .i64 0, .int .i64 0]), 3, 24) := by kernel_rfl

def sumR (n : Nat) (f : Nat → Nat) : Nat := ((List.range n).map f).sum
theorem sumR_succ (n : Nat) (f : Nat → Nat) : sumR (n + 1) f = sumR n f + f n := by simp [sumR, List.range_succ]
theorem sumR_le {n m : Nat} {f : Nat → Nat} (h : ∀ k, k < n → f k ≤ m) : sumR n f ≤ n * m := by
  induction n with
  | zero => simp [sumR]
  | succ n ih => rw [sumR_succ, Nat.succ_mul]; have := ih (fun k hk => h k (by omega)); have := h n (by omega); omega
theorem sumR_congr {n : Nat} {f g : Nat → Nat} (h : ∀ k, k < n → f k = g k) : sumR n f = sumR n g := by
  induction n with
  | zero => rfl
  | succ n ih => rw [sumR_succ, sumR_succ, ih (fun k hk => h k (by omega)), h n (by omega)]
theorem sumR_step {n k : Nat} {f g : Nat → Nat} (hk : k < n) (h1 : f k = g k + 1) (h2 : ∀ j, j ≠ k → f j = g j) : sumR n f = sumR n g + 1 := by
  induction n with
  | zero => omega
  | succ n ih =>
    rw [sumR_succ, sumR_succ]
    rcases (show k < n ∨ k = n by omega) with h | rfl
    · rw [ih h, h2 n (by omega)]; omega
    · rw [sumR_congr (fun j hj => h2 j (by omega)), h1]; omega

def lenOf : Value → Nat
  | .slice _ n _ => n
  | _ => 0

/-- the event of a meeting -/
def evM (P : Nat → Nat → Int) (z : M3) : M3 := ⟨1, P z.p.toNat 1, P z.p.toNat 2⟩

theorem own_len {w : World} {base e : Nat} {v : Value} {n : Nat} {xs : List Value} {sz : Nat} (h : w.ownsRow base e sz v n xs) : lenOf v = n := by
  rcases h.2 with ⟨rfl, h0⟩ | ⟨g, cap, cur, rfl, _⟩
  · rw [h0]; rfl
  · rfl

/-- a row of another element type stays under what push and pop do -/
theorem own_fr {w w' : World} {hb lo base e sz n : Nat} {v ve : Value} {L : List M3} {xs : List Value} (h : w.ownsRow base e sz ve n xs) (hA : HeapAt w hb lo v L) (hF : Fr w w' hb v.ownBlock) (h1 : e ≠ 111) (h2 : e ≠ 148) : w'.ownsRow base e sz ve n xs := by
  refine ⟨h.1, ?_⟩
  rcases h.2 with h0 | ⟨g, cap, cur, rfl, hb1, hh, r⟩
  · exact .inl h0
  · refine .inr ⟨g, cap, cur, rfl, hb1, ?_, r⟩
    rw [hF.block g (Array.getElem?_eq_some_iff.1 hh).1 ?_ ?_]
    · exact hh
    · rintro rfl
      obtain ⟨ys, a1, _⟩ := hA.1
      rw [hh] at a1
      simp only [Option.some.injEq, Obj.cells.injEq] at a1
      exact h2 a1.2.1
    · intro e1
      rcases hA.2.2 with ⟨rfl, _⟩ | ⟨g', cap', cur', rfl, _, hh', _⟩
      · simp [Value.ownBlock] at e1
      · simp only [Value.ownBlock, Option.some.injEq] at e1
        subst e1
        rw [hh] at hh'
        simp only [Option.some.injEq, Obj.cells.injEq] at hh'
        exact h1 hh'.2.1

/-- what Passing is asked of -/
def PasV (S : Int) (n : Nat) (F T : Nat → Int) (nP : Nat) (P : Nat → Nat → Int) (nA : Nat) (Z : Nat → Int) (fr tt : Int) : Prop :=
  lokZ S n F T = 0 ∧ PostsV n nP P ∧ AxlesV nA Z ∧ (0 ≤ fr ∧ fr ≤ 1000000 ∧ fr ≤ tt ∧ tt ≤ 1000000)

/-- the meetings that are told -/
def IsPas (S : Int) (n : Nat) (F T : Nat → Int) (nP : Nat) (P : Nat → Nat → Int) (nA : Nat) (Z : Nat → Int) (fr tt : Int) (E : List M3) : Prop :=
  (PasV S n F T nP P nA Z fr tt → E.Pairwise lt3 ∧ ∀ z, z ∈ E ↔ InR nA nP P Z fr tt z) ∧ (¬ PasV S n F T nP P nA Z fr tt → E = [])

theorem IsPas.unique {S : Int} {n : Nat} {F T : Nat → Int} {nP : Nat} {P : Nat → Nat → Int} {nA : Nat} {Z : Nat → Int} {fr tt : Int} {E E' : List M3} (h : IsPas S n F T nP P nA Z fr tt E) (h' : IsPas S n F T nP P nA Z fr tt E') : E = E' := by
  by_cases hV : PasV S n F T nP P nA Z fr tt
  · exact sorted_unique (h.1 hV).1 (h'.1 hV).1 (fun z => by rw [(h.1 hV).2, (h'.1 hV).2])
  · rw [h.2 hV, h'.2 hV]

theorem IsPas.nil {S : Int} {n : Nat} {F T : Nat → Int} {nP : Nat} {P : Nat → Nat → Int} {nA : Nat} {Z : Nat → Int} {fr tt : Int} (h : ¬ PasV S n F T nP P nA Z fr tt) : IsPas S n F T nP P nA Z fr tt [] := ⟨fun h' => absurd h' h, fun _ => rfl⟩

/-- the loop of Passing -/
structure PL (w wr : World) (hb lo : Nat) (ve : Value) (nA nP : Nat) (P : Nat → Nat → Int) (Z : Nat → Int) (fr tt : Int) (v : Value) (L E : List M3) (nx : Nat → Nat) : Prop where
  mg : Mg nA nP P Z fr tt L E nx
  hp : HeapAt wr hb lo v L
  ll : L.length ≤ nA
  ev : wr.ownsRow w.heap.size 45 3 ve (E.map (evM P)).length (flat (E.map (evM P)))
  sm : E.length + sumR nA (fun k => nP - nx k) ≤ nA * nP
  bl : RowKit.Below w.heap.size w wr

end Go.Proofs.Ytlpopfhaephfaaa
