import Derived.Test.YtlpopfhaephfaabDoorST0
import Derived.BigRegion
import Derived.BigQuiet
import Derived.Deep.QuietTactic
import Derived.Deep.RegionWith
namespace Go.Proofs.YtlpopfhaephfaabDoor
open Go.RowKit

/-- A slice of n elements of sz cells each (element type e) in a block g with lo ≤ g and g < hi, or an empty one. -/
def SlF (w : World) (e sz lo hi : Nat) (v : Value) (n : Nat) (G : Nat → Nat → Value) : Prop :=
  ∃ ao cap, v = .slice ao n cap ∧ (n = 0 ∨ ∃ g m f, ao = some ⟨g, 0, none⟩ ∧ lo ≤ g ∧ g < hi ∧ n * sz ≤ m ∧ Blk w g e m f ∧ ∀ i, i < n → ∀ j, j < sz → f (i * sz + j) = G i j)

/-- What was changed of old lies in blocks from lo to hi whose element type is in E; nothing else was. -/
structure Turned (w w' : World) (E : Nat → Prop) (lo hi : Nat) : Prop where
  os : w'.os = w.os
  tape : w'.tape = w.tape
  output : w'.output = w.output
  size : w.heap.size ≤ w'.heap.size
  block : ∀ k, k < w.heap.size → w'.heap[k]? = w.heap[k]? ∨ (lo ≤ k ∧ k < hi ∧ ∃ e m f, E e ∧ Blk w k e m f)

section
variable {w w' : World} {e sz lo hi n : Nat} {v : Value} {G G' : Nat → Nat → Value}

theorem SlF.of_block (h : SlF w e sz lo hi v n G) (hb : ∀ g m f, Blk w g e m f → lo ≤ g → g < hi → w'.heap[g]? = w.heap[g]?) : SlF w' e sz lo hi v n G := by
  obtain ⟨ao, cap, rfl, h0 | ⟨g, m, f, rfl, h1, h1', h2, h3, h4⟩⟩ := h
  · exact ⟨ao, cap, rfl, .inl h0⟩
  · exact ⟨_, cap, rfl, .inr ⟨g, m, f, rfl, h1, h1', h2, h3.of_block (hb g m f h3 h1 h1'), h4⟩⟩
theorem SlF.on (h : SlF w e sz lo hi v n G) (hb : Below w.heap.size w w') : SlF w' e sz lo hi v n G := h.of_block fun g _ _ h1 _ _ => hb.block g h1.lt
theorem SlF.below {B : Nat} (h : SlF w e sz lo hi v n G) (hb : Below B w w') (ht : hi ≤ B) : SlF w' e sz lo hi v n G := h.of_block fun g _ _ _ _ h2 => hb.block g (by omega)
theorem SlF.drew (h : SlF w e sz lo hi v n G) : SlF w.drew e sz lo hi v n G := h
theorem SlF.alloc (h : SlF w e sz lo hi v n G) (o : Obj) : SlF (w.alloc o) e sz lo hi v n G := h.of_block fun _ _ _ h1 _ _ => Below.heap_alloc _ _ _ h1.lt
theorem SlF.congr (h : SlF w e sz lo hi v n G) (hg : ∀ i, i < n → ∀ j, j < sz → G i j = G' i j) : SlF w e sz lo hi v n G' := by
  obtain ⟨ao, cap, rfl, h0 | ⟨g, m, f, rfl, h1, h1', h2, h3, h4⟩⟩ := h
  · exact ⟨ao, cap, rfl, .inl h0⟩
  · exact ⟨_, cap, rfl, .inr ⟨g, m, f, rfl, h1, h1', h2, h3, fun i hi j hj => (h4 i hi j hj).trans (hg i hi j hj)⟩⟩
theorem SlF.wide {lo' hi' : Nat} (h : SlF w e sz lo hi v n G) (h1 : lo' ≤ lo) (h2 : hi ≤ hi') : SlF w e sz lo' hi' v n G := by
  obtain ⟨ao, cap, rfl, h0 | ⟨g, m, f, rfl, a1, a1', a2, a3, a4⟩⟩ := h
  · exact ⟨ao, cap, rfl, .inl h0⟩
  · exact ⟨_, cap, rfl, .inr ⟨g, m, f, rfl, by omega, by omega, a2, a3, a4⟩⟩
theorem Blk.type_eq {e e' m m' g : Nat} {f f' : Nat → Value} (h1 : Blk w g e m f) (h2 : Blk w g e' m' f') : e = e' := by
  obtain ⟨_, a1, _⟩ := h1; obtain ⟨_, a2, _⟩ := h2
  rw [a1] at a2; simp only [Option.some.injEq, Obj.cells.injEq] at a2
  exact a2.2.1
theorem SlF.turned {E : Nat → Prop} {lo' hi' : Nat} (h : SlF w e sz lo hi v n G) (ht : Turned w w' E lo' hi') (hd : ¬ E e ∨ hi' ≤ lo ∨ hi ≤ lo') : SlF w' e sz lo hi v n G := by
  refine h.of_block fun g m f h1 h2 h3 => ?_
  rcases ht.block g h1.lt with h' | ⟨a1, a2, e', m', f', a3, a4⟩
  · exact h'
  · rcases hd with hd | hd
    · exact absurd (by rw [← a4.type_eq h1]; exact a3) hd
    · omega
theorem Turned.refl (w : World) (E : Nat → Prop) (lo hi : Nat) : Turned w w E lo hi := ⟨rfl, rfl, rfl, Nat.le_refl _, fun _ _ => .inl rfl⟩
theorem Turned.trans {w1 : World} {E : Nat → Prop} (h : Turned w w1 E lo hi) (k : Turned w1 w' E lo hi) : Turned w w' E lo hi := by
  refine ⟨k.os.trans h.os, k.tape.trans h.tape, k.output.trans h.output, Nat.le_trans h.size k.size, fun i hi => ?_⟩
  rcases h.block i hi with h1 | h1
  · rcases k.block i (Nat.lt_of_lt_of_le hi h.size) with h2 | ⟨a1, a2, e', m', f', a3, a4⟩
    · exact .inl (h2.trans h1)
    · exact .inr ⟨a1, a2, e', m', f', a3, a4.of_block h1.symm⟩
  · exact .inr h1
theorem Turned.mono {E E' : Nat → Prop} {lo' hi' : Nat} (h : Turned w w' E lo hi) (hE : ∀ e, E e → E' e) (h1 : lo' ≤ lo) (h2 : hi ≤ hi') : Turned w w' E' lo' hi' :=
  ⟨h.os, h.tape, h.output, h.size, fun k hk => (h.block k hk).imp id fun ⟨a1, a2, e', m', f', a3, a4⟩ => ⟨by omega, by omega, e', m', f', hE _ a3, a4⟩⟩
theorem Turned.of_below {E : Nat → Prop} (h : Below w.heap.size w w') : Turned w w' E lo hi := ⟨h.os, h.tape, h.output, h.size, fun k hk => .inl (h.block k hk)⟩
theorem Turned.of_grown {E : Nat → Prop} {g m : Nat} {f : Nat → Value} (h : w.grownBy w' (some g)) (h1 : lo ≤ g) (h2 : g < hi) (hE : E e) (hb : Blk w g e m f) : Turned w w' E lo hi :=
  ⟨h.os, h.tape, h.output, h.size, fun k hk => by
    by_cases hk' : some k = some g
    · simp only [Option.some.injEq] at hk'; subst hk'; exact .inr ⟨h1, h2, e, m, f, hE, hb⟩
    · exact .inl (h.block k hk hk')⟩
theorem Turned.below {E : Nat → Prop} {B : Nat} (h : Turned w w' E lo hi) (h1 : B ≤ lo) (h2 : B ≤ w.heap.size) : Below B w w' :=
  ⟨h.os, h.tape, h.output, h.size, fun k hk => by
    rcases h.block k (by omega) with h' | ⟨a1, _⟩
    · exact h'
    · omega⟩
theorem Blk.turned {E : Nat → Prop} {b m : Nat} {f : Nat → Value} (hb : Blk w b e m f) (h : Turned w w' E lo hi) (hd : ¬ E e ∨ b < lo ∨ hi ≤ b) : Blk w' b e m f := by
  refine hb.of_block ?_
  rcases h.block b hb.lt with h' | ⟨a1, a2, e', m', f', a3, a4⟩
  · exact h'
  · rcases hd with hd | hd
    · exact absurd (by rw [← a4.type_eq hb]; exact a3) hd
    · omega
theorem Blk.on {b m : Nat} {f : Nat → Value} (h : Blk w b e m f) (hb : Below w.heap.size w w') : Blk w' b e m f := h.below hb h.lt
theorem Blk.lay3 (w : World) (x y z : Value) (e : TypeId) : Blk (w.alloc (.cells #[x, y, z] e)) w.heap.size e 3 (fun i => if i = 0 then x else if i = 1 then y else z) :=
  Blk.new w #[x, y, z] e _ (fun i hi => by simp at hi; match i, hi with | 0, _ => rfl | 1, _ => rfl | 2, _ => rfl)
/-- A struct of three cells in a block of its own. -/
def Box3 (w : World) (b : Nat) (e : TypeId) (x y z : Value) : Prop := Blk w b e 3 (fun i => if i = 0 then x else if i = 1 then y else z)
theorem Box3.cells {b : Nat} {x y z : Value} (h : Box3 w b e x y z) : w.cell? ⟨b, 0, none⟩ = some x ∧ w.cell? ⟨b, 1, none⟩ = some y ∧ w.cell? ⟨b, 2, none⟩ = some z :=
  ⟨Blk.cell h (by omega), Blk.cell h (by omega), Blk.cell h (by omega)⟩
theorem Box3.on {b : Nat} {x y z : Value} (h : Box3 w b e x y z) (hb : Below w.heap.size w w') : Box3 w' b e x y z := Blk.on h hb
theorem Box3.alloc {b : Nat} {x y z : Value} (h : Box3 w b e x y z) (o : Obj) : Box3 (w.alloc o) b e x y z := Blk.alloc h o
theorem Box3.drew {b : Nat} {x y z : Value} (h : Box3 w b e x y z) : Box3 w.drew b e x y z := h
theorem Box3.turned {E : Nat → Prop} {b : Nat} {x y z : Value} (hb : Box3 w b e x y z) (h : Turned w w' E lo hi) (hd : ¬ E e ∨ b < lo ∨ hi ≤ b) : Box3 w' b e x y z := Blk.turned hb h hd
theorem Box3.lay (w : World) (x y z : Value) (e : TypeId) : Box3 (w.alloc (.cells #[x, y, z] e)) w.heap.size e x y z := Blk.lay3 w x y z e
theorem SlF.of_row {g : Nat} (h : Row w g e sz n G) (h1 : lo ≤ g) (h2 : g < hi) : SlF w e sz lo hi (.slice (some ⟨g, 0, none⟩) n n) n G :=
  ⟨_, _, rfl, .inr ⟨g, n * sz, _, rfl, h1, h2, Nat.le_refl _, h, fun i hi j hj => by rw [idx_div hj, idx_mod hj]⟩⟩
end

def bools (D : Nat → Bool) : Nat → Nat → Value := fun i _ => .bool (D i)

theorem SlF.of_bools {w : World} {g n lo hi : Nat} {D : Nat → Bool} (h : Blk w g 4 n (fun i => .bool (D i))) (h1 : lo ≤ g) (h2 : g < hi) : SlF w 4 1 lo hi (.slice (some ⟨g, 0, none⟩) n n) n (bools D) :=
  ⟨_, _, rfl, .inr ⟨g, n, _, rfl, h1, h2, by omega, h, fun i _ j hj => by
    have hj0 : j = 0 := by omega
    subst hj0
    simp [bools]⟩⟩

theorem five {w : World} {g e m n k : Nat} {f : Nat → Value} {X : Nat → Sec} (h : Blk w g e m f) (hm : n * 5 ≤ m) (hk : k < n) (hf : ∀ i, i < n → ∀ j, j < 5 → f (i * 5 + j) = secs X i j) :
    w.cell? ⟨g, k * 5, none⟩ = some (.int .i64 (X k).told) ∧ w.cell? ⟨g, k * 5 + 1, none⟩ = some (.int .i64 (X k).count) ∧ w.cell? ⟨g, k * 5 + 2, none⟩ = some (.bool (X k).lost) ∧ w.cell? ⟨g, k * 5 + 3, none⟩ = some (.bool (X k).sweep) ∧ w.cell? ⟨g, k * 5 + 4, none⟩ = some (.int .i64 (X k).last) :=
  ⟨by rw [h.cell (by omega)]; exact congrArg some (hf k hk 0 (by omega)), by rw [h.cell (by omega), hf k hk 1 (by omega)]; rfl, by rw [h.cell (by omega), hf k hk 2 (by omega)]; rfl, by rw [h.cell (by omega), hf k hk 3 (by omega)]; rfl, by rw [h.cell (by omega), hf k hk 4 (by omega)]; rfl⟩

theorem one {w : World} {g e m n k : Nat} {f : Nat → Value} {D : Nat → Bool} (h : Blk w g e m f) (hm : n * 1 ≤ m) (hk : k < n) (hf : ∀ i, i < n → ∀ j, j < 1 → f (i * 1 + j) = bools D i j) : w.cell? ⟨g, k, none⟩ = some (.bool (D k)) := by
  rw [h.cell (by omega)]
  have := hf k hk 0 (by omega)
  simp only [Nat.mul_one, Nat.add_zero] at this
  rw [this]; rfl

section
variable {w w' : World} {lo hi ns nd : Nat} {v : Value} {ok : Bool} {X : Nat → Sec} {D : Nat → Bool}
end

end Go.Proofs.YtlpopfhaephfaabDoor
