import Derived.Test.YtlpopfhaephfaabDoorTR3
namespace Go.Proofs.YtlpopfhaephfaabDoor
open Go.RowKit

/-- numbers as a row of cells -/
def rowV (Z : Nat → Int) : Nat → Nat → Value := fun i _ => .int .i64 (Z i)
def markZ (q0 : Int) (i : Nat) : Int := q0 + (i : Int)
def markI (q0 : Int) (k : Nat) (f : Nat → Value) : Nat → Value := fun c => if c < k then .int .i64 (markZ q0 c) else f c
theorem markI_step (q0 : Int) (k : Nat) (f : Nat → Value) (c : Nat) : (if c = k then .int .i64 (markZ q0 k) else markI q0 k f c) = markI q0 (k + 1) f c := by
  unfold markI
  rcases Nat.lt_trichotomy c k with h | h | h
  · rw [if_neg (by omega), if_pos h, if_pos (by omega)]
  · subst h; rw [if_pos rfl, if_pos (by omega)]
  · rw [if_neg (by omega), if_neg (by omega), if_neg (by omega)]

theorem oneZ {w : World} {g e m n k : Nat} {f : Nat → Value} {D : Nat → Int} (h : Blk w g e m f) (hm : n * 1 ≤ m) (hk : k < n) (hf : ∀ i, i < n → ∀ j, j < 1 → f (i * 1 + j) = rowV D i j) : w.cell? ⟨g, k, none⟩ = some (.int .i64 (D k)) := by
  rw [h.cell (by omega)]
  have := hf k hk 0 (by omega)
  simp only [Nat.mul_one, Nat.add_zero] at this
  rw [this]; rfl

def intL (D : Nat → Int) : Nat → List Value
  | 0 => []
  | k + 1 => intL D k ++ [.int .i64 (D k)]

theorem intL_len (D : Nat → Int) (k : Nat) : (intL D k).length = k := by
  induction k with
  | zero => rfl
  | succ k ih => simp only [intL, List.length_append, ih, List.length_cons, List.length_nil]
theorem intL_get (D : Nat → Int) (k i : Nat) (hi : i < k) : (intL D k)[i]? = some (.int .i64 (D i)) := by
  induction k with
  | zero => omega
  | succ k ih =>
    unfold intL
    by_cases e : i < k
    · rw [List.getElem?_append_left (by rw [intL_len]; omega)]; exact ih e
    · have e' : i = k := by omega
      subst e'
      rw [List.getElem?_append_right (by rw [intL_len]; omega), intL_len]
      simp
theorem intL_uniI (D : Nat → Int) (k : Nat) : ∀ u ∈ intL D k, u.oneCell' = true := by
  induction k with
  | zero => simp [intL]
  | succ k ih =>
    intro u hu
    unfold intL at hu
    rcases List.mem_append.1 hu with h | h
    · exact ih u h
    · simp only [List.mem_cons, List.not_mem_nil, or_false] at h
      subst h; rfl

theorem intL_cells {w : World} {g m n : Nat} {e : TypeId} {f : Nat → Value} {D : Nat → Int} (b2 : Blk w g e m f) (b1 : n * 1 ≤ m) (b3 : ∀ i, i < n → ∀ j, j < 1 → f (i * 1 + j) = rowV D i j) : ∀ j u, (intL D n)[j]? = some u → w.cell? ((⟨g, 0, none⟩ : Addr).add j) = some u := by
  intro j u hu
  have hj : j < n := by rw [← intL_len D n]; exact (List.getElem?_eq_some_iff.1 hu).1
  have ea : (⟨g, 0, none⟩ : Addr).add j = ⟨g, j, none⟩ := by simp [Addr.add]; exact fun h => h.symm
  rw [ea, oneZ b2 b1 hj b3]
  rw [intL_get D n j hj] at hu
  exact hu

end Go.Proofs.YtlpopfhaephfaabDoor
