import Derived.Test.YtlpopfhaephfaabDoorST2
import Derived.Test.YtlpopfhaephfaabDoorMkL
namespace Go.Proofs.YtlpopfhaephfaabDoor
open Go.RowKit

/-- the marks of a section from q on -/
def markSec (q : Int) : Sec := ⟨q, q + 1, (q + 1 + 1) % 3 == 0, (q + 1 + 1 + 1) % 3 == 0, q + 1 + 1 + 1 + 1⟩
def markSecs (q0 : Int) (i : Nat) : Sec := markSec (q0 + 5 * (i : Int))

def mark5 (q0 : Int) (k : Nat) (f : Nat → Value) : Nat → Value := fun c => if c < k * 5 then scell (markSecs q0 (c / 5)) (c % 5) else f c

theorem mark5_step (q0 : Int) (k : Nat) (f : Nat → Value) (c : Nat) :
    (if c = k * 5 + 4 then Value.int .i64 (markSecs q0 k).last else if c = k * 5 + 3 then .bool (markSecs q0 k).sweep else if c = k * 5 + 2 then .bool (markSecs q0 k).lost else if c = k * 5 + 1 then .int .i64 (markSecs q0 k).count else if c = k * 5 then .int .i64 (markSecs q0 k).told else mark5 q0 k f c) = mark5 q0 (k + 1) f c := by
  unfold mark5
  have key : ∀ j, j < 5 → (k * 5 + j) / 5 = k ∧ (k * 5 + j) % 5 = j := fun j hj => ⟨idx_div hj, idx_mod hj⟩
  split
  · rename_i h; subst h; rw [if_pos (by omega), (key 4 (by omega)).1, (key 4 (by omega)).2]; rfl
  · split
    · rename_i h; subst h; rw [if_pos (by omega), (key 3 (by omega)).1, (key 3 (by omega)).2]; rfl
    · split
      · rename_i h; subst h; rw [if_pos (by omega), (key 2 (by omega)).1, (key 2 (by omega)).2]; rfl
      · split
        · rename_i h; subst h; rw [if_pos (by omega), (key 1 (by omega)).1, (key 1 (by omega)).2]; rfl
        · split
          · rename_i h; subst h
            have k0 := key 0 (by omega)
            rw [Nat.add_zero] at k0
            rw [if_pos (by omega), k0.1, k0.2]; rfl
          · by_cases h : c < k * 5
            · rw [if_pos h, if_pos (by omega)]
            · rw [if_neg h, if_neg (by omega)]

theorem mark5_cells {w : World} {g e m k n : Nat} {f : Nat → Value} (h : Blk w g e m f) (hm : n * 5 ≤ m) (hk : k < n) : w.cell? ⟨g, k * 5, none⟩ = some (f (k * 5)) ∧ w.cell? ⟨g, k * 5 + 1, none⟩ = some (f (k * 5 + 1)) ∧ w.cell? ⟨g, k * 5 + 2, none⟩ = some (f (k * 5 + 2)) ∧ w.cell? ⟨g, k * 5 + 3, none⟩ = some (f (k * 5 + 3)) ∧ w.cell? ⟨g, k * 5 + 4, none⟩ = some (f (k * 5 + 4)) :=
  ⟨h.cell (by omega), h.cell (by omega), h.cell (by omega), h.cell (by omega), h.cell (by omega)⟩

def markB (q0 : Int) (i : Nat) : Bool := (q0 + (i : Int)) % 3 == 0
def mark1 (q0 : Int) (k : Nat) (f : Nat → Value) : Nat → Value := fun c => if c < k then .bool (markB q0 c) else f c
theorem mark1_step (q0 : Int) (k : Nat) (f : Nat → Value) (c : Nat) : (if c = k then .bool (markB q0 k) else mark1 q0 k f c) = mark1 q0 (k + 1) f c := by
  unfold mark1
  rcases Nat.lt_trichotomy c k with h | h | h
  · rw [if_neg (by omega), if_pos h, if_pos (by omega)]
  · subst h; rw [if_pos rfl, if_pos (by omega)]
  · rw [if_neg (by omega), if_neg (by omega), if_neg (by omega)]

end Go.Proofs.YtlpopfhaephfaabDoor
