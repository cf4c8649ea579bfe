import Derived.Test.YtlpopfhaephfaaaH8
import Derived.Test.YtlpopfhaephfaaaS2
namespace Go.Proofs.Ytlpopfhaephfaaa
open Go.RowKit Go.Sort

def evF (P : Nat → Nat → Int) (E : List M3) : Nat → Nat → Int := fun i j => fld (at3 (E.map (evM P)) i) j

theorem evTri {w : World} {B : Nat} {v : Value} {P : Nat → Nat → Int} {E : List M3} (h : w.ownsRow B 45 3 v (E.map (evM P)).length (flat (E.map (evM P)))) : TriF w 45 B w.heap.size v E.length (evF P E) := by
  have hl : (E.map (evM P)).length = E.length := by simp
  rcases own_open h with ⟨rfl, h0⟩ | ⟨g, cap, f, rfl, h1, h2, h3, h4, h5⟩
  · have : E.length = 0 := by rw [← hl, h0]; rfl
    exact ⟨none, 0, by rw [this], .inl this⟩
  · rw [hl] at h2 h5
    refine ⟨_, cap, by rw [hl], .inr ⟨g, cap * 3, f, rfl, h1, h4.lt, Nat.mul_le_mul_right 3 h2, h4, fun i hi j hj => ?_⟩⟩
    rw [h5 _ (by omega)]
    unfold cellL evF
    rw [show (i * 3 + j) / 3 = i by omega, show (i * 3 + j) % 3 = j by omega]

theorem implPassing_any (S : Int) (g n gp nP ga nA : Nat) (F T : Nat → Int) (P : Nat → Nat → Int) (Z : Nat → Int) (fr tt : Int) (w : World) (hL : Row w g 51 2 n (two F T)) (hP : Row w gp 103 3 nP (ints P)) (hA : Blk w ga 3 nA (fun i => .int .i64 (Z i))) (hp : nP ≤ 1048576) (ha : nA ≤ 1048576) :
    Calls Try.prog 22 #[.agg #[.int .i64 S, .slice (some ⟨g, 0, none⟩) n n], .slice (some ⟨gp, 0, none⟩) nP nP, .slice (some ⟨ga, 0, none⟩) nA nA, .int .i64 fr, .int .i64 tt] w fun e w' => ∃ (v : Value) (E : List M3), e = .returned v ∧ IsPas S n F T nP P nA Z fr tt E ∧ E.length ≤ 24000 ∧ TriF w' 45 w.heap.size w'.heap.size v E.length (evF P E) ∧ RowKit.Below w.heap.size w w' := by
  by_cases hV : PasV S n F T nP P nA Z fr tt
  · refine (implPassing_good S g n gp nP ga nA F T P Z fr tt w hL hP hA hV).mono ?_
    rintro e w' ⟨v, E, he, h1, h2, h3, h4⟩
    exact ⟨v, E, he, ⟨fun _ => h1, fun h => absurd hV h⟩, h2, evTri h3, h4⟩
  · refine (implPassing_bad S g n gp nP ga nA F T P Z fr tt w hL hP hA hp ha hV).mono ?_
    rintro e w' ⟨he, h4⟩
    exact ⟨_, [], he, IsPas.nil hV, by simp, ⟨none, 0, rfl, .inl rfl⟩, h4⟩

theorem specPassing_any (S : Int) (g n gp nP ga nA : Nat) (F T : Nat → Int) (P : Nat → Nat → Int) (Z : Nat → Int) (fr tt : Int) (w : World) (hL : Row w g 51 2 n (two F T)) (hP : Row w gp 103 3 nP (ints P)) (hA : Blk w ga 3 nA (fun i => .int .i64 (Z i))) (hp : nP ≤ 1048576) (ha : nA ≤ 1048576) :
    Calls Try.prog 35 #[.agg #[.int .i64 S, .slice (some ⟨g, 0, none⟩) n n], .slice (some ⟨gp, 0, none⟩) nP nP, .slice (some ⟨ga, 0, none⟩) nA nA, .int .i64 fr, .int .i64 tt] w fun e w' => ∃ (v : Value) (E : List M3), e = .returned v ∧ IsPas S n F T nP P nA Z fr tt E ∧ TriF w' 45 w.heap.size w'.heap.size v E.length (evF P E) ∧ RowKit.Below w.heap.size w w' := by
  by_cases hV : PasV S n F T nP P nA Z fr tt
  · refine (specPassing_good S g n gp nP ga nA F T P Z fr tt w hL hP hA hV).mono ?_
    rintro e w' ⟨v, E, he, h1, h3, h4⟩
    exact ⟨v, E, he, ⟨fun _ => h1, fun h => absurd hV h⟩, evTri h3, h4⟩
  · refine (specPassing_bad S g n gp nP ga nA F T P Z fr tt w hL hP hA hp ha hV).mono ?_
    rintro e w' ⟨he, h4⟩
    exact ⟨_, [], he, IsPas.nil hV, ⟨none, 0, rfl, .inl rfl⟩, h4⟩

end Go.Proofs.Ytlpopfhaephfaaa
