import Derived.Test.YtlpopfhaephfaaaGreatDoorRows
import Derived.Test.YtlpopfhaephfaaaGreatDoorBase
namespace Go.Proofs.YtlpopfhaephfaaaGreatDoor
open Go.RowKit

theorem Tryz.infoC : (Tryz.prog.info? 75).map (fun i => (i.zero, i.size, i.bytes)) = some (some (.agg #[.int .i64 0, .int .i64 0]), 2, 16) := by kernel_rfl

/-- the row behind k rounds -/
def twoTo (k : Nat) (F T : Nat → Int) : Nat → Nat → Value := fun i j => if i < k then two F T i j else .int .i64 0

theorem row_step {w' : World} {b e n k : Nat} {F T : Nat → Int} (h : Row w' b e 2 n (twoTo k F T)) :
    Row ((w'.setCell ⟨b, k * 2, none⟩ (.int .i64 (F k))).setCell ⟨b, k * 2 + 1, none⟩ (.int .i64 (T k))) b e 2 n (twoTo (k + 1) F T) := by
  refine ((h.set0 (i := k) (by omega) _).set (i := k) (j := 1) (by omega) _).congr fun i hi j hj => ?_
  unfold twoTo two
  rcases Nat.lt_trichotomy i k with h1 | h1 | h1
  · have a1 : ¬ i = k := by omega
    have a2 : i < k + 1 := by omega
    simp [a1, a2, h1]
  · subst h1
    rcases (show j = 0 ∨ j = 1 by omega) with rfl | rfl <;> simp
  · have a1 : ¬ i = k := by omega
    have a2 : ¬ i < k + 1 := by omega
    have a3 : ¬ i < k := by omega
    simp [a1, a2, a3]

/-- What a '[]Counter' that came in reads as: its length is n, its pairs F i, T i. -/
def Came (w : World) (ao : Option Addr) (n : Nat) (F T : Nat → Int) : Prop :=
  n = 0 ∨ ∃ b off, ao = some ⟨b, off, none⟩ ∧ b < w.heap.size ∧ ∀ i, i < n → w.cell? ⟨b, off + i * 2, none⟩ = some (.int .i64 (F i)) ∧ w.cell? ⟨b, off + i * 2 + 1, none⟩ = some (.int .i64 (T i))

theorem Came.below {w w' : World} {ao : Option Addr} {n : Nat} {F T : Nat → Int} (h : Came w ao n F T) (hb : Below w.heap.size w w') : Came w' ao n F T := by
  rcases h with h | ⟨b, off, h1, h2, h3⟩
  · exact .inl h
  · exact .inr ⟨b, off, h1, Nat.lt_of_lt_of_le h2 hb.size, fun i hi => ⟨(hb.cell (p := ⟨b, off + i * 2, none⟩) h2).trans (h3 i hi).1, (hb.cell (p := ⟨b, off + i * 2 + 1, none⟩) h2).trans (h3 i hi).2⟩⟩

end Go.Proofs.YtlpopfhaephfaaaGreatDoor
