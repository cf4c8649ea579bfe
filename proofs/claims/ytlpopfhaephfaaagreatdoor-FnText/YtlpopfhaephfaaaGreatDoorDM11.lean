import Derived.Test.YtlpopfhaephfaaaGreatDoorCR
import Derived.Test.YtlpopfhaephfaaaGreatDoorDM10
import Derived.Test.YtlpopfhaephfaaaGreatDoorSO4
namespace Go.Proofs.YtlpopfhaephfaaaGreatDoor
open Go.RowKit Go.Maps Go.Sort

theorem stOk_parts {S : Int} {n : Nat} {F T : Nat → Int} {ok : Bool} {ns nd : Nat} {X : Nat → Sec} {D : Nat → Bool} (h : stOk S n F T ok ns nd X D = true) : lokZ S n F T = 0 ∧ ok = true ∧ (ns : Int) = S ∧ nd = n ∧ ∀ k, k < ns → secOk (deadB n F T D (k : Int)) (X k) = true := by
  unfold stOk at h
  simp only [Bool.and_eq_true, beq_iff_eq, List.all_eq_true, List.mem_range] at h
  obtain ⟨⟨⟨⟨h1, h2⟩, h3⟩, h4⟩, h5⟩ := h
  exact ⟨h1, h2, h3, h4, h5⟩

theorem secOk_count {dd : Bool} {x : Sec} (h : secOk dd x = true) : -1000000 ≤ x.count ∧ x.count ≤ 1000000 := by
  have := (secOk_iff.1 h).1
  exact ⟨this.1, this.2.1⟩

/-- A Done's four cells, and the state in it. -/
def DoR (w w' : World) (v : Value) (C : Int) (ok : Bool) (ns nd : Nat) (X : Nat → Sec) (D : Nat → Bool) : Prop := ∃ a1 c1 a2 c2, v = .agg #[.int .i64 C, .bool ok, .slice a1 ns c1, .slice a2 nd c2] ∧ StF w' w.heap.size w'.heap.size (.agg #[.bool ok, .slice a1 ns c1, .slice a2 nd c2]) ok ns nd X D

/-- the worlds behind a result's box of four cells is set -/
theorem done_set {W : World} {b : Nat} {f : Nat → Value} (h : Blk W b 68 4 f) (x y z u : Value) :
    Blk ((((W.setCell ⟨b, 0, none⟩ x).setCell ⟨b, 1, none⟩ y).setCell ⟨b, 2, none⟩ z).setCell ⟨b, 3, none⟩ u) b 68 4 (fun i => if i = 0 then x else if i = 1 then y else if i = 2 then z else u) ∧
    Turned W ((((W.setCell ⟨b, 0, none⟩ x).setCell ⟨b, 1, none⟩ y).setCell ⟨b, 2, none⟩ z).setCell ⟨b, 3, none⟩ u) (· = 68) b (b + 1) ∧
    ((((W.setCell ⟨b, 0, none⟩ x).setCell ⟨b, 1, none⟩ y).setCell ⟨b, 2, none⟩ z).setCell ⟨b, 3, none⟩ u).heap.size = W.heap.size := by
  refine ⟨((((h.set 0 x).set 1 y).set 2 z).set 3 u).congr (fun i hi => ?_), Turned.of_grown (grown_set (grown_set (grown_set (grown_set (World.grownBy.refl _ _) _) _) _) _) (Nat.le_refl _) (by omega) rfl h, by simp [World.setCell]⟩
  match i, hi with | 0, _ => rfl | 1, _ => rfl | 2, _ => rfl | 3, _ => rfl

theorem Lst.st {w : World} {lo hi ns n : Nat} {a1 a2 : Option Addr} {c1 c2 : Nat} {ok : Bool} {X : Nat → Sec} {D : Nat → Bool} (h : Lst w lo hi (.slice a1 ns c1) ns X (.slice a2 n c2) n D) : StF w lo hi (.agg #[.bool ok, .slice a1 ns c1, .slice a2 n c2]) ok ns n X D := ⟨_, _, rfl, h.1, h.2⟩

end Go.Proofs.YtlpopfhaephfaaaGreatDoor
