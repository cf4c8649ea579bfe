import Derived.WalkKit
import Derived.WalkSpells
import Derived.WalkLawsBesides
namespace Go.Proofs.YtlpopfhaephfaabDoor
open Go.RowKit

/-- Block b of w: m cells f 0 .. f (m - 1) of element type e, none of them frozen. -/
def Blk (w : World) (b : Nat) (e : TypeId) (m : Nat) (f : Nat → Value) : Prop :=
  ∃ xs : Array Value, w.heap[b]? = some (.cells xs e (0, 0)) ∧ xs.size = m ∧ ∀ i, i < m → xs[i]? = some (f i)

section
variable {w w' : World} {b : Nat} {e : TypeId} {m : Nat} {f g : Nat → Value}

theorem Blk.lt (h : Blk w b e m f) : b < w.heap.size := by
  obtain ⟨xs, h1, _⟩ := h
  exact (Array.getElem?_eq_some_iff.1 h1).1

theorem Blk.cell (h : Blk w b e m f) {i : Nat} (hi : i < m) : w.cell? ⟨b, i, none⟩ = some (f i) := by
  obtain ⟨xs, h1, _, h3⟩ := h
  simp [World.cell?, h1, h3 i hi]

theorem Blk.frozen (h : Blk w b e m f) (i : Nat) : w.frozen? ⟨b, i, none⟩ = false := by
  obtain ⟨xs, h1, _, h3⟩ := h
  simp [World.frozen?, h1]

theorem Blk.congr (h : Blk w b e m f) (hg : ∀ i, i < m → f i = g i) : Blk w b e m g := by
  obtain ⟨xs, h1, h2, h3⟩ := h
  exact ⟨xs, h1, h2, fun i hi => by rw [h3 i hi, hg i hi]⟩

theorem Blk.of_block (h : Blk w b e m f) (hb : w'.heap[b]? = w.heap[b]?) : Blk w' b e m f := by
  obtain ⟨xs, h1, h2, h3⟩ := h
  exact ⟨xs, by rw [hb]; exact h1, h2, h3⟩

theorem Blk.below {B : Nat} (h : Blk w b e m f) (hb : Below B w w') (hlt : b < B) : Blk w' b e m f := h.of_block (hb.block b hlt)

theorem Blk.alloc (h : Blk w b e m f) (o : Obj) : Blk (w.alloc o) b e m f := h.of_block (Below.heap_alloc _ _ _ h.lt)

theorem Blk.drew (h : Blk w b e m f) : Blk w.drew b e m f := h

theorem Blk.new (w : World) (xs : Array Value) (e : TypeId) (f : Nat → Value) (hf : ∀ i, i < xs.size → xs[i]? = some (f i)) : Blk (w.alloc (.cells xs e (0, 0))) w.heap.size e xs.size f :=
  ⟨xs, heap_alloc_new w _, rfl, hf⟩

theorem Blk.set_other (h : Blk w b e m f) {a : Addr} (ha : a.block ≠ b) (v : Value) : Blk (w.setCell a v) b e m f := h.of_block (Below.heap_setCell _ _ _ _ (fun e => ha e.symm))

theorem Blk.set (h : Blk w b e m f) (i : Nat) (v : Value) : Blk (w.setCell ⟨b, i, none⟩ v) b e m (fun j => if j = i then v else f j) := by
  obtain ⟨xs, h1, h2, h3⟩ := h
  refine ⟨xs.setIfInBounds i v, ?_, by simpa using h2, fun j hj => ?_⟩
  · simp [World.setCell, Array.getElem?_modify, h1]
  · rw [Array.getElem?_setIfInBounds]
    by_cases e : i = j
    · subst e; simp [h2, hj]
    · have e' : ¬ j = i := fun x => e x.symm
      simp only [if_neg e, if_neg e']; exact h3 j hj

theorem Blk.made {z : Array Value} {c : Nat} {base k sz : Nat} (h : w.ownsRow base e sz (.slice (some ⟨b, 0, none⟩) k c) k (madeCells z (k * sz)).toList) (hc : c = k) (hz : z.size = sz) (hf : ∀ i, i < sz → z[i]? = some (g i)) :
    Blk w b e (k * sz) (fun i => g (i % sz)) := by
  obtain ⟨h1, h2 | ⟨g', cap, cur, hv, hb, hh, hn, hm, hs, ht⟩⟩ := h
  · simp at h2
  · simp only [Value.slice.injEq, Option.some.injEq, Addr.mk.injEq] at hv
    obtain ⟨⟨rfl, _⟩, _, rfl⟩ := hv
    subst hc
    refine ⟨cur, hh, hs, fun i hi => ?_⟩
    have e1 : cur.toList = (madeCells z (c * sz)).toList := by rw [← ht, List.take_of_length_le (by simp [hs])]
    have e2 : cur = madeCells z (c * sz) := Array.toList_inj.1 e1
    have hp : 0 < sz := by
      rcases Nat.eq_zero_or_pos sz with h | h
      · subst h; simp at hi
      · exact h
    have hl := Nat.mod_lt i hp
    rw [e2]
    have := hf (i % sz) hl
    simp [madeCells, hi, hz]
    rw [getElem!_pos z (i % sz) (by omega)]
    rw [Array.getElem?_eq_getElem (by omega)] at this
    simpa using this
end

/-- n elements of sz cells each: cell j of element i is G i j. -/
def Row (w : World) (b : Nat) (e : TypeId) (sz n : Nat) (G : Nat → Nat → Value) : Prop := Blk w b e (n * sz) (fun c => G (c / sz) (c % sz))

theorem idx_lt {i n sz j : Nat} (hi : i < n) (hj : j < sz) : i * sz + j < n * sz := by
  have h1 : (i + 1) * sz ≤ n * sz := Nat.mul_le_mul_right sz hi
  rw [Nat.succ_mul] at h1; omega

theorem idx_div {i sz j : Nat} (hj : j < sz) : (i * sz + j) / sz = i := by
  rw [Nat.mul_comm, Nat.mul_add_div (by omega), Nat.div_eq_of_lt hj]; omega

theorem idx_mod {i sz j : Nat} (hj : j < sz) : (i * sz + j) % sz = j := by
  rw [Nat.mul_comm, Nat.mul_add_mod, Nat.mod_eq_of_lt hj]

section
variable {w w' : World} {b : Nat} {e : TypeId} {sz n : Nat} {G G' : Nat → Nat → Value}

theorem Row.lt (h : Row w b e sz n G) : b < w.heap.size := Blk.lt h
theorem Row.cell (h : Row w b e sz n G) {i j : Nat} (hi : i < n) (hj : j < sz) : w.cell? ⟨b, i * sz + j, none⟩ = some (G i j) := by
  have := Blk.cell h (idx_lt hi hj)
  rw [idx_div hj, idx_mod hj] at this; exact this
theorem Row.cell0 (h : Row w b e sz n G) {i : Nat} (hi : i < n) (hj : 0 < sz) : w.cell? ⟨b, i * sz, none⟩ = some (G i 0) := h.cell hi hj
theorem Row.frozen (h : Row w b e sz n G) (i : Nat) : w.frozen? ⟨b, i, none⟩ = false := Blk.frozen h i
theorem Row.below {B : Nat} (h : Row w b e sz n G) (hb : Below B w w') (hlt : b < B) : Row w' b e sz n G := Blk.below h hb hlt
theorem Row.alloc (h : Row w b e sz n G) (o : Obj) : Row (w.alloc o) b e sz n G := Blk.alloc h o
theorem Row.drew (h : Row w b e sz n G) : Row w.drew b e sz n G := h
theorem Row.set_other (h : Row w b e sz n G) {a : Addr} (ha : a.block ≠ b) (v : Value) : Row (w.setCell a v) b e sz n G := Blk.set_other h ha v
theorem Row.congr (h : Row w b e sz n G) (hg : ∀ i, i < n → ∀ j, j < sz → G i j = G' i j) : Row w b e sz n G' := by
  refine Blk.congr h fun c hc => ?_
  have hp : 0 < sz := by
    rcases Nat.eq_zero_or_pos sz with h | h
    · subst h; simp at hc
    · exact h
  exact hg _ (Nat.div_lt_of_lt_mul (by rw [Nat.mul_comm]; exact hc)) _ (Nat.mod_lt _ hp)
theorem Row.set (h : Row w b e sz n G) {i j : Nat} (hj : j < sz) (v : Value) : Row (w.setCell ⟨b, i * sz + j, none⟩ v) b e sz n (fun i' j' => if i' = i ∧ j' = j then v else G i' j') := by
  refine Blk.congr (Blk.set h (i * sz + j) v) fun c hc => ?_
  have hp : 0 < sz := by omega
  by_cases e : c = i * sz + j
  · subst e; simp [idx_div hj, idx_mod hj]
  · have e' : ¬ (c / sz = i ∧ c % sz = j) := by
      rintro ⟨rfl, rfl⟩
      exact e (by rw [Nat.mul_comm]; exact (Nat.div_add_mod c sz).symm)
    simp only [if_neg e, if_neg e']
theorem Row.set0 (h : Row w b e sz n G) {i : Nat} (hj : 0 < sz) (v : Value) : Row (w.setCell ⟨b, i * sz, none⟩ v) b e sz n (fun i' j' => if i' = i ∧ j' = 0 then v else G i' j') := h.set hj v
end

/-- All old cells and marks read behind as before: two rules for the walk. -/
theorem bcell {W w1 : World} (hb : Below W.heap.size W w1) : (∀ b o, b < W.heap.size → w1.cell? ⟨b, o, none⟩ = W.cell? ⟨b, o, none⟩) ∧ (∀ b o, b < W.heap.size → w1.frozen? ⟨b, o, none⟩ = W.frozen? ⟨b, o, none⟩) :=
  ⟨fun b o h => hb.cell (p := ⟨b, o, none⟩) h, fun b o h => hb.frozen (p := ⟨b, o, none⟩) h⟩

theorem below_on {w W w1 : World} (h : Below w.heap.size w W) (k : Below W.heap.size W w1) : Below w.heap.size w w1 := h.trans (k.mono h.size)
theorem below_alloc {w W : World} (h : Below w.heap.size w W) (o : Obj) : Below w.heap.size w (W.alloc o) := h.alloc h.size o
theorem Row.on {w w1 : World} {b : Nat} {e : TypeId} {sz n : Nat} {G : Nat → Nat → Value} (h : Row w b e sz n G) (hb : Below w.heap.size w w1) : Row w1 b e sz n G := h.below hb h.lt

/-- Two numbers an element. -/
def two (F T : Nat → Int) (i j : Nat) : Value := .int .i64 (if j = 0 then F i else T i)

#print axioms Row.set
end Go.Proofs.YtlpopfhaephfaabDoor
