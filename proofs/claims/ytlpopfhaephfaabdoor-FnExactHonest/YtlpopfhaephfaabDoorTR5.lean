import Derived.Test.YtlpopfhaephfaabDoorTR4
import Derived.Test.YtlpopfhaephfaabDoorHO
namespace Go.Proofs.YtlpopfhaephfaabDoor
open Go.RowKit

/-- A list of m rows of numbers in a block between lo and hi; the rows lie in ranges that rise. -/
def RwF (w : World) (lo hi : Nat) (v : Value) (m ns : Nat) (Z : Nat → Nat → Int) : Prop :=
  ∃ (A : Nat → Value) (L : Nat → Nat), SlF w 53 1 lo hi v m (fun i _ => A i) ∧ lo ≤ L 0 ∧ L m ≤ hi ∧ ∀ i, i < m → L i ≤ L (i + 1) ∧ SlF w 3 1 (L i) (L (i + 1)) (A i) ns (rowV (Z i))

section
variable {w w' : World} {lo hi m ns : Nat} {v : Value} {Z : Nat → Nat → Int}
theorem RwF.on (h : RwF w lo hi v m ns Z) (hb : Below w.heap.size w w') : RwF w' lo hi v m ns Z := by
  obtain ⟨A, L, h1, h2, h3, h4⟩ := h
  exact ⟨A, L, h1.on hb, h2, h3, fun i hi => ⟨(h4 i hi).1, (h4 i hi).2.on hb⟩⟩
theorem RwF.turned {E : Nat → Prop} {lo' hi' : Nat} (h : RwF w lo hi v m ns Z) (ht : Turned w w' E lo' hi') (hd : hi' ≤ lo ∨ hi ≤ lo') : RwF w' lo hi v m ns Z := by
  obtain ⟨A, L, h1, h2, h3, h4⟩ := h
  refine ⟨A, L, h1.turned ht (.inr hd), h2, h3, fun i hlt => ?_⟩
  have hL : ∀ i, i < m → L i ≤ L (i + 1) := fun i hi => (h4 i hi).1
  have a1 := rise' hL (Nat.zero_le i) (Nat.le_of_lt hlt)
  have a2 := rise' hL (a := i + 1) (b := m) hlt (Nat.le_refl _)
  exact ⟨(h4 i hlt).1, (h4 i hlt).2.turned ht (.inr (by omega))⟩
theorem RwF.wide {lo' : Nat} (h : RwF w lo hi v m ns Z) (h1 : lo' ≤ lo) : RwF w lo' hi v m ns Z := by
  obtain ⟨A, L, a1, a2, a3, a4⟩ := h
  exact ⟨A, L, a1.wide h1 (Nat.le_refl _), by omega, a3, a4⟩
theorem RwF.nil (w : World) (lo hi ns : Nat) (ao : Option Addr) (cap : Nat) (h : lo ≤ hi) (Z : Nat → Nat → Int) : RwF w lo hi (.slice ao 0 cap) 0 ns Z :=
  ⟨fun _ => .slice none 0 0, fun _ => lo, ⟨ao, cap, rfl, .inl rfl⟩, Nat.le_refl _, h, fun i hi => by omega⟩
end

theorem oneA {w : World} {g e m n k : Nat} {f A : Nat → Value} (h : Blk w g e m f) (hm : n * 1 ≤ m) (hk : k < n) (hf : ∀ i, i < n → ∀ j, j < 1 → f (i * 1 + j) = A i) : w.cell? ⟨g, k, none⟩ = some (A k) := by
  rw [h.cell (by omega)]
  have := hf k hk 0 (by omega)
  simp only [Nat.mul_one, Nat.add_zero] at this
  rw [this]

/-- the number at which the marks of the k-th row begin -/
def rwQ (q0 : Int) (ns : Nat) : Nat → Int
  | 0 => q0
  | k + 1 => rwQ q0 ns k + (ns : Int)

theorem rwQ_bound {q0 : Int} {ns k : Nat} (hs : ns ≤ 60) (h0 : 0 ≤ q0) : 0 ≤ rwQ q0 ns k ∧ rwQ q0 ns k ≤ q0 + 60 * (k : Int) := by
  induction k with
  | zero => simp [rwQ]; omega
  | succ k ih => simp only [rwQ]; omega

def MkR (w : World) (lo hi : Nat) (v : Value) (m ns : Nat) (q0 : Int) : Prop := RwF w lo hi v m ns (fun i => markZ (rwQ q0 ns i))

/-- the cells of a list of rows -/
def rwL (A : Nat → Value) : Nat → List Value
  | 0 => []
  | k + 1 => rwL A k ++ [A k]
theorem rwL_len (A : Nat → Value) (k : Nat) : (rwL A k).length = k := by
  induction k with
  | zero => rfl
  | succ k ih => simp only [rwL, List.length_append, ih, List.length_cons, List.length_nil]
theorem rwL_get (A : Nat → Value) (k i : Nat) (hi : i < k) : (rwL A k)[i]? = some (A i) := by
  induction k with
  | zero => omega
  | succ k ih =>
    unfold rwL
    rcases (show i < k ∨ i = k by omega) with e | e
    · rw [List.getElem?_append_left (by rw [rwL_len]; omega)]; exact ih e
    · subst e
      rw [List.getElem?_append_right (by rw [rwL_len]; omega), rwL_len]
      simp
theorem rwL_congr {A A' : Nat → Value} {k : Nat} (h : ∀ i, i < k → A' i = A i) : rwL A' k = rwL A k := by
  induction k with
  | zero => rfl
  | succ k ih => unfold rwL; rw [ih (fun i hi => h i (by omega)), h k (by omega)]

/-- What stands of the rows behind k events. -/
def RowI (w : World) (base low top : Nat) (v : Value) (k ns : Nat) (Z : Nat → Nat → Int) : Prop :=
  ∃ (A : Nat → Value) (L : Nat → Nat), w.ownsRow base 53 1 v k (rwL A k) ∧ low ≤ L 0 ∧ L k ≤ top ∧ ∀ i, i < k → L i ≤ L (i + 1) ∧ SlF w 3 1 (L i) (L (i + 1)) (A i) ns (rowV (Z i))

section
variable {w w' : World} {base low top k ns : Nat} {v : Value} {Z : Nat → Nat → Int}
theorem RowI.on (h : RowI w base low top v k ns Z) (hb : Below w.heap.size w w') : RowI w' base low top v k ns Z := by
  obtain ⟨A, L, a1, a2, a3, a4⟩ := h
  exact ⟨A, L, own_on a1 hb, a2, a3, fun i hi => ⟨(a4 i hi).1, (a4 i hi).2.on hb⟩⟩
theorem RowI.step {A : Nat → Value} {L : Nat → Nat} (a1 : w.ownsRow base 53 1 v k (rwL A k)) (a2 : low ≤ L 0) (a3 : L k ≤ top) (a4 : ∀ i, i < k → L i ≤ L (i + 1) ∧ SlF w 3 1 (L i) (L (i + 1)) (A i) ns (rowV (Z i)))
    {lo hi : Nat} {u v' : Value} (hl : SlF w 3 1 lo hi u ns (rowV (Z k))) (h1 : top ≤ lo) (h2 : lo ≤ hi)
    (ha : w'.ownsRow base 53 1 v' (k + 1) (rwL A k ++ [u])) (hg : w.grownBy w' v.ownBlock) : RowI w' base low hi v' (k + 1) ns Z := by
  have ht := own_grown a1 hg
  have f1 : ∀ i, i < k → (if i = k then u else A i) = A i := fun i hi => if_neg (by omega)
  refine ⟨fun i => if i = k then u else A i, fun i => if i ≤ k then L i else hi, ?_, by simpa using a2, by show (if k + 1 ≤ k then _ else _) ≤ _; rw [if_neg (by omega)]; exact Nat.le_refl _, fun i hi' => ?_⟩
  · unfold rwL
    rw [rwL_congr (A := A) f1]
    simp only [if_true]
    exact ha
  · by_cases hk : i = k
    · subst hk
      simp only [if_true, Nat.le_refl, show ¬ i + 1 ≤ i by omega, if_false]
      exact ⟨by omega, (hl.turned ht (.inl (by decide))).wide (by omega) (Nat.le_refl _)⟩
    · have b1 : i ≤ k := by omega
      have b2 : i + 1 ≤ k := by omega
      simp only [b1, b2, hk, if_true, if_false]
      exact ⟨(a4 i b2).1, (a4 i b2).2.turned ht (.inl (by decide))⟩
theorem RowI.rows (h : RowI w base low top v k ns Z) (hb : base ≤ low) (h1 : top ≤ w.heap.size) : RwF w base w.heap.size v k ns Z := by
  obtain ⟨A, L, a1, a2, a3, a4⟩ := h
  exact ⟨A, L, SlF.of_ownsRow a1 (fun i hi j hj => by
    have hj0 : j = 0 := by omega
    subst hj0
    simp only [Nat.mul_one, Nat.add_zero]; exact rwL_get A k i hi), by omega, by omega, a4⟩
end

end Go.Proofs.YtlpopfhaephfaabDoor
