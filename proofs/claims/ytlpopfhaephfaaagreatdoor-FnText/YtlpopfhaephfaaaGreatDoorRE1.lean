import Derived.Test.YtlpopfhaephfaaaGreatDoorEV1
import Derived.Test.YtlpopfhaephfaaaGreatDoorMkL
import Derived.BigRegion
import Derived.BigQuiet
import Derived.Deep.QuietTactic
import Derived.Deep.RegionWith
namespace Go.Proofs.YtlpopfhaephfaaaGreatDoor
open Go.RowKit

/-- numbers, cell by cell -/
def evs (P : Nat → Nat → Int) (i j : Nat) : Value := .int .i64 (P i j)

theorem Tryz.infoEv : (Tryz.prog.info? 47).map (fun i => (i.zero, i.size, i.bytes)) = some (some (.agg #[.int .i64 0, .int .i64 0, .int .i64 0]), 3, 24) := by kernel_rfl

def evsTo (k : Nat) (P : Nat → Nat → Int) : Nat → Nat → Value := fun i j => if i < k then evs P i j else .int .i64 0

theorem row_step3 {w' : World} {b e n k : Nat} {P : Nat → Nat → Int} (h : Row w' b e 3 n (evsTo k P)) :
    Row (((w'.setCell ⟨b, k * 3, none⟩ (.int .i64 (P k 0))).setCell ⟨b, k * 3 + 1, none⟩ (.int .i64 (P k 1))).setCell ⟨b, k * 3 + 2, none⟩ (.int .i64 (P k 2))) b e 3 n (evsTo (k + 1) P) := by
  refine (((h.set0 (i := k) (by omega) _).set (i := k) (j := 1) (by omega) _).set (i := k) (j := 2) (by omega) _).congr fun i hi j hj => ?_
  unfold evsTo evs
  rcases Nat.lt_trichotomy i k with h1 | h1 | h1
  · have a1 : ¬ i = k := by omega
    have a2 : i < k + 1 := by omega
    simp [a1, a2, h1]
  · subst h1
    rcases (show j = 0 ∨ j = 1 ∨ j = 2 by omega) with rfl | rfl | rfl <;> simp
  · have a1 : ¬ i = k := by omega
    have a2 : ¬ i < k + 1 := by omega
    have a3 : ¬ i < k := by omega
    simp [a1, a2, a3]

/-- What a slice of three-cell structs that came in reads as. -/
def Came3 (w : World) (ao : Option Addr) (n : Nat) (P : Nat → Nat → Int) : Prop :=
  n = 0 ∨ ∃ b off, ao = some ⟨b, off, none⟩ ∧ b < w.heap.size ∧ ∀ i, i < n → ∀ j, j < 3 → w.cell? ⟨b, off + i * 3 + j, none⟩ = some (.int .i64 (P i j))

theorem Came3.below {w w' : World} {ao : Option Addr} {n : Nat} {P : Nat → Nat → Int} (h : Came3 w ao n P) (hb : Below w.heap.size w w') : Came3 w' ao n P := by
  rcases h with h | ⟨b, off, h1, h2, h3⟩
  · exact .inl h
  · exact .inr ⟨b, off, h1, Nat.lt_of_lt_of_le h2 hb.size, fun i hi j hj => (hb.cell (p := ⟨b, off + i * 3 + j, none⟩) h2).trans (h3 i hi j hj)⟩

theorem mark3_cells {w : World} {g e m k n : Nat} {f : Nat → Value} (h : Blk w g e m f) (hm : n * 3 ≤ m) (hk : k < n) : w.cell? ⟨g, k * 3, none⟩ = some (f (k * 3)) ∧ w.cell? ⟨g, k * 3 + 1, none⟩ = some (f (k * 3 + 1)) ∧ w.cell? ⟨g, k * 3 + 2, none⟩ = some (f (k * 3 + 2)) :=
  ⟨h.cell (by omega), h.cell (by omega), h.cell (by omega)⟩

/-- what stands in the block behind k rounds of marking -/
def mark3 (q0 : Int) (k : Nat) (f : Nat → Value) : Nat → Value := fun c => if c < k * 3 then .int .i64 (q0 + (c : Int)) else f c

theorem mark3_step (q0 : Int) (k : Nat) (f : Nat → Value) (c : Nat) :
    (if c = k * 3 + 2 then Value.int .i64 (q0 + 3 * (k : Int) + 1 + 1) else if c = k * 3 + 1 then Value.int .i64 (q0 + 3 * (k : Int) + 1) else if c = k * 3 then Value.int .i64 (q0 + 3 * (k : Int)) else mark3 q0 k f c) = mark3 q0 (k + 1) f c := by
  unfold mark3
  split
  · rename_i h; subst h; rw [if_pos (by omega)]; congr 1; omega
  · split
    · rename_i h; subst h; rw [if_pos (by omega)]; congr 1; omega
    · split
      · rename_i h; subst h; rw [if_pos (by omega)]; congr 1; omega
      · by_cases h : c < k * 3
        · rw [if_pos h, if_pos (by omega)]
        · rw [if_neg h, if_neg (by omega)]

end Go.Proofs.YtlpopfhaephfaaaGreatDoor
