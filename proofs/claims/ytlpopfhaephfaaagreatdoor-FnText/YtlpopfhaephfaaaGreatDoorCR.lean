import Derived.Test.YtlpopfhaephfaaaGreatDoorW1
import Derived.Test.YtlpopfhaephfaaaGreatDoorST2
namespace Go.Proofs.YtlpopfhaephfaaaGreatDoor
open Go.RowKit

/-- all pairs of numbers, one after the other -/
def gP : Nat → Nat × Nat
  | 0 => (0, 0)
  | k + 1 => match gP k with
    | (a, 0) => (0, a + 1)
    | (a, b + 1) => (a + 1, b)
theorem gP_step {k a b : Nat} (h : gP k = (a, b + 1)) : gP (k + 1) = (a + 1, b) := by
  simp only [gP, h]
theorem gP_turn {k a : Nat} (h : gP k = (a, 0)) : gP (k + 1) = (0, a + 1) := by
  simp only [gP, h]
theorem gP_line (s a : Nat) (h : ∃ k, gP k = (0, s)) (ha : a ≤ s) : ∃ k, gP k = (a, s - a) := by
  induction a with
  | zero => simpa using h
  | succ a ih =>
    obtain ⟨k, hk⟩ := ih (by omega)
    have : s - a = (s - (a + 1)) + 1 := by omega
    rw [this] at hk
    exact ⟨k + 1, gP_step hk⟩
theorem gP_head (s : Nat) : ∃ k, gP k = (0, s) := by
  induction s with
  | zero => exact ⟨0, rfl⟩
  | succ s ih =>
    obtain ⟨k, hk⟩ := gP_line s s ih (Nat.le_refl _)
    rw [Nat.sub_self] at hk
    exact ⟨k + 1, gP_turn hk⟩
theorem gP_all (a b : Nat) : ∃ k, gP k = (a, b) := by
  obtain ⟨k, hk⟩ := gP_line (a + b) a (gP_head _) (by omega)
  exact ⟨k, by rw [hk]; simp⟩

/-- a slice's head, told by one number: where it lies (nil, or a block), and its capacity -/
def gA (g : Nat) : Option Addr := if (gP g).1 = 0 then none else some ⟨(gP g).1 - 1, 0, none⟩
def gC (g : Nat) : Nat := (gP g).2
theorem gA_some (b c : Nat) : ∃ g, gA g = some ⟨b, 0, none⟩ ∧ gC g = c := by
  obtain ⟨k, hk⟩ := gP_all (b + 1) c
  exact ⟨k, by unfold gA; rw [hk]; simp, by unfold gC; rw [hk]⟩
theorem gA_none (c : Nat) : ∃ g, gA g = none ∧ gC g = c := by
  obtain ⟨k, hk⟩ := gP_all 0 c
  exact ⟨k, by unfold gA; rw [hk]; simp, by unfold gC; rw [hk]⟩

/-- n counters in a slice of any capacity (or nil, when there are none) -/
def CRow (w : World) (g n : Nat) (F T : Nat → Int) : Prop :=
  n = 0 ∨ ∃ b m f, gA g = some ⟨b, 0, none⟩ ∧ n * 2 ≤ m ∧ Blk w b 75 m f ∧ ∀ i, i < n → ∀ j, j < 2 → f (i * 2 + j) = two F T i j

section
variable {w w' : World} {g n : Nat} {F T : Nat → Int}
theorem CRow.on (h : CRow w g n F T) (hb : Below w.heap.size w w') : CRow w' g n F T := by
  rcases h with h | ⟨b, m, f, h1, h2, h3, h4⟩
  · exact .inl h
  · exact .inr ⟨b, m, f, h1, h2, h3.on hb, h4⟩
theorem CRow.alloc (h : CRow w g n F T) (o : Obj) : CRow (w.alloc o) g n F T := h.on (by repeat (first | exact Below.refl _ _ | assumption | refine below_alloc ?_ _ | refine Below.setCell ?_ (by first | omega | (simp; done) | (simp; omega)) _ | refine Below.alloc ?_ (by first | omega | (simp; done) | (simp; omega)) _ | refine Below.drew ?_))
theorem CRow.drew (h : CRow w g n F T) : CRow w.drew g n F T := h.on (Below.refl _ _).drew
theorem CRow.turned {E : Nat → Prop} {lo hi : Nat} (h : CRow w g n F T) (ht : Turned w w' E lo hi) (hE : ¬ E 75) : CRow w' g n F T := by
  rcases h with h | ⟨b, m, f, h1, h2, h3, h4⟩
  · exact .inl h
  · exact .inr ⟨b, m, f, h1, h2, h3.turned ht (.inl hE), h4⟩
theorem CRow.at (h : CRow w g n F T) {k : Nat} (hk : k < n) : ∃ b, gA g = some ⟨b, 0, none⟩ ∧ b < w.heap.size ∧ w.cell? ⟨b, k * 2, none⟩ = some (.int .i64 (F k)) ∧ w.cell? ⟨b, k * 2 + 1, none⟩ = some (.int .i64 (T k)) ∧ ∀ {x e m : Nat} {f : Nat → Value}, Blk w x e m f → e ≠ 75 → b ≠ x := by
  rcases h with h | ⟨b, m, f, h1, h2, h3, h4⟩
  · omega
  · refine ⟨b, h1, h3.lt, ?_, ?_, fun hx he hb => by subst hb; exact he (hx.type_eq h3)⟩
    · have := h3.cell (i := k * 2) (by omega)
      rw [show k * 2 = k * 2 + 0 from rfl, h4 k hk 0 (by omega)] at this
      exact this
    · have := h3.cell (i := k * 2 + 1) (by omega)
      rw [h4 k hk 1 (by omega)] at this
      exact this
end

end Go.Proofs.YtlpopfhaephfaaaGreatDoor
