import Derived.Test.YtlpopfhaephfaaaGreatDoorCR
import Derived.Test.YtlpopfhaephfaaaGreatDoorIM2
import Derived.Test.YtlpopfhaephfaaaGreatDoorST4
import Derived.Test.YtlpopfhaephfaaaGreatDoorMkL
import Derived.Test.YtlpopfhaephfaaaGreatDoorRC
import Derived.Deep.DeepCutAuto
namespace Go.Proofs.YtlpopfhaephfaaaGreatDoor
open Go.RowKit Go.Maps Go.Sort

theorem lok_wf {S : Int} {n : Nat} {F T : Nat → Int} (h : lokZ S n F T = 0) : (∀ i, i < n → (Lit.int .i64 (F i)).wf = true) ∧ (∀ i, i < n → (Lit.int .i64 (T i)).wf = true) ∧ ∀ i, i < n → F i ≠ T i := by
  obtain ⟨r1, r2, r3⟩ := lok_range h
  exact ⟨fun i hi => WalkArith.wf_i64 (by have := lok_sides h i hi; omega), fun i hi => WalkArith.wf_i64 (by have := lok_sides h i hi; omega), fun i hi => (lok_sides h i hi).2.2.2.2⟩

/-- what the first loop of StateOk asks -/
def part1 (dd : Bool) (x : Sec) : Bool := numOk x && (x.lost || !(mustL x || dd))

theorem secOk_part1 {dd : Bool} {x : Sec} (h : part1 dd x = false) : secOk dd x = false := by
  unfold part1 at h
  unfold secOk
  cases h1 : numOk x
  · simp
  · rw [h1] at h
    simp only [Bool.true_and] at h
    rw [h]; simp

theorem stOk_told {n : Nat} {F T : Nat → Int} {ns : Nat} {X : Nat → Sec} {D : Nat → Bool} (h0 : lokZ (ns : Int) n F T = 0) (h : ∀ k, k < ns → part1 (deadB n F T D (k : Int)) (X k) = true) : stOk (ns : Int) n F T true ns n X D = toldsOk n F T D ns X := by
  unfold stOk toldsOk
  have : (List.range ns).all (fun i => secOk (deadB n F T D (i : Int)) (X i)) = (List.range ns).all (fun i => (X i).told == toldZ (deadB n F T D (i : Int)) (X i)) := by
    rw [Bool.eq_iff_iff, List.all_eq_true, List.all_eq_true]
    refine forall_congr' fun i => forall_congr' fun hi => ?_
    have hp := h i (List.mem_range.1 hi)
    unfold part1 at hp
    simp only [Bool.and_eq_true] at hp
    simp only [secOk, hp.1, hp.2, Bool.true_and, Bool.and_true]
  rw [this]; simp [h0]

theorem all_step' {P : Nat → Prop} {k : Nat} (h : ∀ i, i < k → P i) (hk : P k) : ∀ i, i < k + 1 → P i := by
  intro i hi
  rcases (show i < k ∨ i = k by omega) with h' | rfl
  · exact h i h'
  · exact hk

/-- A board in a block of its own. -/
def Brd (w : World) (b : Nat) (S : Int) (g n B : Nat) (ok : Bool) (v1 v2 : Value) : Prop :=
  w.cell? ⟨b, 0, none⟩ = some (.int .i64 S) ∧ w.cell? ⟨b, 1, none⟩ = some (.slice (gA g) n (gC g)) ∧ w.cell? ⟨b, 2, none⟩ = some (.map (some B)) ∧ w.cell? ⟨b, 3, none⟩ = some (.bool ok) ∧ w.cell? ⟨b, 4, none⟩ = some v1 ∧ w.cell? ⟨b, 5, none⟩ = some v2

theorem Brd.on {w w' : World} {b : Nat} {S : Int} {g n B : Nat} {ok : Bool} {v1 v2 : Value} (h : Brd w b S g n B ok v1 v2) (hb : Below w.heap.size w w') : Brd w' b S g n B ok v1 v2 := by
  have hl := World.block_lt_of_cell? w ⟨b, 0, none⟩ h.1
  exact ⟨(hb.cell (p := ⟨b, 0, none⟩) hl).trans h.1, (hb.cell (p := ⟨b, 1, none⟩) hl).trans h.2.1, (hb.cell (p := ⟨b, 2, none⟩) hl).trans h.2.2.1, (hb.cell (p := ⟨b, 3, none⟩) hl).trans h.2.2.2.1, (hb.cell (p := ⟨b, 4, none⟩) hl).trans h.2.2.2.2.1, (hb.cell (p := ⟨b, 5, none⟩) hl).trans h.2.2.2.2.2⟩

theorem Brd.lay (w : World) (S : Int) (g n B : Nat) (ok : Bool) (v1 v2 : Value) (e : TypeId) : Brd (w.alloc (.cells #[.int .i64 S, .slice (gA g) n (gC g), .map (some B), .bool ok, v1, v2] e)) w.heap.size S g n B ok v1 v2 := by
  refine ⟨?_, ?_, ?_, ?_, ?_, ?_⟩ <;> simp

theorem brd_sets {W : World} {b : Nat} {f : Nat → Value} (h : Blk W b 96 6 f) (S : Int) (g n B : Nat) (ok : Bool) (v1 v2 : Value) :
    Brd ((((((W.setCell ⟨b, 0, none⟩ (.int .i64 S)).setCell ⟨b, 1, none⟩ (.slice (gA g) n (gC g))).setCell ⟨b, 2, none⟩ (.map (some B))).setCell ⟨b, 3, none⟩ (.bool ok)).setCell ⟨b, 4, none⟩ v1).setCell ⟨b, 5, none⟩ v2) b S g n B ok v1 v2 ∧
    Turned W ((((((W.setCell ⟨b, 0, none⟩ (.int .i64 S)).setCell ⟨b, 1, none⟩ (.slice (gA g) n (gC g))).setCell ⟨b, 2, none⟩ (.map (some B))).setCell ⟨b, 3, none⟩ (.bool ok)).setCell ⟨b, 4, none⟩ v1).setCell ⟨b, 5, none⟩ v2) (· = 96) b (b + 1) := by
  have k := (((((h.set 0 (.int .i64 S)).set 1 (.slice (gA g) n (gC g))).set 2 (.map (some B))).set 3 (.bool ok)).set 4 v1).set 5 v2
  refine ⟨⟨k.cell (by omega), k.cell (by omega), k.cell (by omega), k.cell (by omega), k.cell (by omega), k.cell (by omega)⟩, ?_⟩
  exact Turned.of_grown (grown_set (grown_set (grown_set (grown_set (grown_set (grown_set (World.grownBy.refl _ _) _) _) _) _) _) _) (Nat.le_refl _) (by omega) rfl h

/-- what a board's making leaves, the box laid behind the call or ahead of it -/
theorem brd_late {w1 wB : World} {n B : Nat} {F T : Nat → Int} (gB : Grp wB B (2 * n) (zsAt F T n)) (hbB : Below w1.heap.size w1 wB) (S : Int) (g : Nat) (ok : Bool) (v1 v2 : Value) (e : TypeId) :
    Brd (wB.alloc (.cells #[.int .i64 S, .slice (gA g) n (gC g), .map (some B), .bool ok, v1, v2] e)) wB.heap.size S g n B ok v1 v2 ∧ Grp (wB.alloc (.cells #[.int .i64 S, .slice (gA g) n (gC g), .map (some B), .bool ok, v1, v2] e)) B (2 * n) (zsAt F T n) ∧ Below w1.heap.size w1 (wB.alloc (.cells #[.int .i64 S, .slice (gA g) n (gC g), .map (some B), .bool ok, v1, v2] e)) :=
  ⟨Brd.lay _ _ _ _ _ _ _ _ _, gB.alloc _, below_alloc hbB _⟩

theorem brd_early {w1 W wB : World} {n B : Nat} {F T : Nat → Int} {f : Nat → Value} (gB : Grp wB B (2 * n) (zsAt F T n)) (h1 : Below w1.heap.size w1 W) (hbB : Below W.heap.size W wB) (hZ : Blk wB w1.heap.size 96 6 f) (S : Int) (g : Nat) (ok : Bool) (v1 v2 : Value) :
    Brd ((((((wB.setCell ⟨w1.heap.size, 0, none⟩ (.int .i64 S)).setCell ⟨w1.heap.size, 1, none⟩ (.slice (gA g) n (gC g))).setCell ⟨w1.heap.size, 2, none⟩ (.map (some B))).setCell ⟨w1.heap.size, 3, none⟩ (.bool ok)).setCell ⟨w1.heap.size, 4, none⟩ v1).setCell ⟨w1.heap.size, 5, none⟩ v2) w1.heap.size S g n B ok v1 v2 ∧
    Grp ((((((wB.setCell ⟨w1.heap.size, 0, none⟩ (.int .i64 S)).setCell ⟨w1.heap.size, 1, none⟩ (.slice (gA g) n (gC g))).setCell ⟨w1.heap.size, 2, none⟩ (.map (some B))).setCell ⟨w1.heap.size, 3, none⟩ (.bool ok)).setCell ⟨w1.heap.size, 4, none⟩ v1).setCell ⟨w1.heap.size, 5, none⟩ v2) B (2 * n) (zsAt F T n) ∧
    Below w1.heap.size w1 ((((((wB.setCell ⟨w1.heap.size, 0, none⟩ (.int .i64 S)).setCell ⟨w1.heap.size, 1, none⟩ (.slice (gA g) n (gC g))).setCell ⟨w1.heap.size, 2, none⟩ (.map (some B))).setCell ⟨w1.heap.size, 3, none⟩ (.bool ok)).setCell ⟨w1.heap.size, 4, none⟩ v1).setCell ⟨w1.heap.size, 5, none⟩ v2) := by
  obtain ⟨k1, k2⟩ := brd_sets hZ S g n B ok v1 v2
  have hs : w1.heap.size ≤ wB.heap.size := Nat.le_trans h1.size hbB.size
  exact ⟨k1, gB.turned k2 (by decide), (below_on h1 hbB).trans (k2.below (Nat.le_refl _) hs)⟩

end Go.Proofs.YtlpopfhaephfaaaGreatDoor
