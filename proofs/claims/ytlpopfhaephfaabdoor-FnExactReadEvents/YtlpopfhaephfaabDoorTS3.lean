import Derived.Test.YtlpopfhaephfaabDoorTS2
import Derived.Test.YtlpopfhaephfaabDoorTX2
import Derived.Test.YtlpopfhaephfaabDoorRC
import Derived.Deep.RegionWith
import Derived.Deep.Cut
namespace Go.Proofs.YtlpopfhaephfaabDoor
open Go.RowKit Go.Maps

/-- A scanner's cells. -/
def scn (S : Int) (g n mo md : Nat) (rest : List UInt8) (k : Int) : Nat → Value
  | 0 => .int .i64 S
  | 1 => .slice (some ⟨g, 0, none⟩) n n
  | 2 => .map (some mo)
  | 3 => .map (some md)
  | 4 => .string ⟨rest.toArray⟩
  | _ => .int .i64 k

def Sc (w : World) (b : Nat) (S : Int) (g n mo md : Nat) (rest : List UInt8) (k : Int) : Prop := Blk w b 108 6 (scn S g n mo md rest k)

/-- What taking a line off the text brings. -/
def EvP (w w' : World) (b : Nat) (S : Int) (g n mo md : Nat) (rest : List UInt8) (k : Nat) (e : Ending) : Prop :=
  ((∃ p q op f d, rest = p ++ 10 :: q ∧ 10 ∉ p ∧ k < 2000 ∧ parB S n p = some (op, f, d) ∧ e = .returned (.agg #[.int .i64 op, .int .i64 f, .int .i64 d]) ∧ Sc w' b S g n mo md q ((k : Int) + 1)) ∨
    (e = badE ((k : Int) + 1) ∧ (10 ∉ rest ∨ ∃ p q, rest = p ++ 10 :: q ∧ 10 ∉ p ∧ (2000 ≤ k ∨ parB S n p = none)))) ∧ w.grownBy w' (some b)

theorem but_on {w w1 w2 : World} {b : Nat} (h : w.grownBy w1 (some b)) (k : Below w1.heap.size w1 w2) : w.grownBy w2 (some b) :=
  ⟨k.os.trans h.os, k.tape.trans h.tape, k.output.trans h.output, Nat.le_trans h.size k.size, fun i hi hne => (k.block i (Nat.lt_of_lt_of_le hi h.size)).trans (h.block i hi hne)⟩

theorem but_set (w : World) (b i : Nat) (v : Value) : w.grownBy (w.setCell ⟨b, i, none⟩ v) (some b) :=
  ⟨rfl, rfl, rfl, by simp, fun j _ hne => Below.heap_setCell _ _ _ _ (fun e => hne (by rw [e]))⟩

theorem but_trans {w w1 w2 : World} {b : Nat} (h : w.grownBy w1 (some b)) (k : w1.grownBy w2 (some b)) : w.grownBy w2 (some b) :=
  ⟨k.os.trans h.os, k.tape.trans h.tape, k.output.trans h.output, Nat.le_trans h.size k.size, fun i hi hne => (k.block i (Nat.lt_of_lt_of_le hi h.size) hne).trans (h.block i hi hne)⟩

theorem mk_data (x : ByteArray) : (⟨x.data.toList.toArray⟩ : ByteArray) = x := by
  cases x
  simp

theorem split_parts (l : List UInt8) : Lib.splitB ⟨#[32]⟩ 0 (Lib.countB ⟨l.toArray⟩ ⟨#[32]⟩) ⟨l.toArray⟩ = (Lib.split l [32]).map (fun x => (⟨x.toArray⟩ : ByteArray)) ∧ Lib.countB ⟨l.toArray⟩ ⟨#[32]⟩ + 1 = (Lib.split l [32]).length := by
  have h := Lib.splitB_data ⟨#[32]⟩ 0 (Lib.countB ⟨l.toArray⟩ ⟨#[32]⟩) ⟨l.toArray⟩
  have e1 : Lib.countB ⟨l.toArray⟩ ⟨#[32]⟩ = Lib.count l [32] := by unfold Lib.countB; simp
  have h2 : (Lib.splitB ⟨#[32]⟩ 0 (Lib.countB ⟨l.toArray⟩ ⟨#[32]⟩) ⟨l.toArray⟩).map (·.data.toList) = Lib.split l [32] := by
    rw [h, e1]
    unfold Lib.split
    simp
  refine ⟨?_, ?_⟩
  · rw [← h2, List.map_map]
    have : ((fun x => (⟨x.toArray⟩ : ByteArray)) ∘ fun x : ByteArray => x.data.toList) = id := by
      funext x
      exact mk_data x
    rw [this, List.map_id]
  · rw [← h2, List.length_map]
    exact (Lib.splitB_all ⟨#[32]⟩ (by decide) 0 _ ⟨l.toArray⟩ rfl).symm

theorem split_mem_le (c : UInt8) (l : List UInt8) : ∀ x ∈ Lib.split l [c], x.length ≤ l.length := by
  suffices ∀ (m : Nat) (l : List UInt8), l.length ≤ m → ∀ x ∈ Lib.split l [c], x.length ≤ l.length from this _ l (Nat.le_refl _)
  intro m
  induction m with
  | zero =>
    intro l hl x hx
    have : l = [] := List.length_eq_zero_iff.1 (by omega)
    subst this
    rw [split_none1 c [] (by simp)] at hx
    simp at hx
    simp [hx]
  | succ m ih =>
    intro l hl x hx
    by_cases h : c ∈ l
    · obtain ⟨p, q, rfl, hp⟩ := mem_parts c l h
      rw [split_cons1 c p q hp] at hx
      simp only [List.length_append, List.length_cons] at hl ⊢
      rcases List.mem_cons.1 hx with rfl | hx
      · omega
      · have := ih q (by omega) x hx
        omega
    · rw [split_none1 c l h] at hx
      simp at hx
      simp [hx]

end Go.Proofs.YtlpopfhaephfaabDoor
