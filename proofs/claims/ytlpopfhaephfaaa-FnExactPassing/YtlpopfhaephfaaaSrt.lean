import Derived.Test.YtlpopfhaephfaaaMrg
namespace Go.Proofs.Ytlpopfhaephfaaa
open Go.RowKit

def apLt (x y : M3) : Prop := x.a < y.a ∨ (x.a = y.a ∧ x.p < y.p)

theorem at3_pair {L : List M3} {R : M3 → M3 → Prop} (h : L.Pairwise R) {a b : Nat} (hab : a < b) (hb : b < L.length) : R (at3 L a) (at3 L b) := by
  have := List.pairwise_iff_getElem.1 h a b (by omega) hb hab
  unfold at3
  rw [List.getD_eq_getElem?_getD, List.getD_eq_getElem?_getD, List.getElem?_eq_getElem (by omega), List.getElem?_eq_getElem hb]
  exact this

theorem pair_of_at3 {L : List M3} {R : M3 → M3 → Prop} (h : ∀ a b, a < b → b < L.length → R (at3 L a) (at3 L b)) : L.Pairwise R := by
  rw [List.pairwise_iff_getElem]
  intro a b ha hb hab
  have := h a b hab hb
  unfold at3 at this
  rw [List.getD_eq_getElem?_getD, List.getD_eq_getElem?_getD, List.getElem?_eq_getElem ha, List.getElem?_eq_getElem hb] at this
  exact this

/-- the sorting: of the first i the program has made an ascending row -/
structure SoOut (L C : List M3) (i : Nat) : Prop where
  len : C.length = L.length
  pm : C.Perm L
  far : ∀ j, i ≤ j → at3 C j = at3 L j
  near : ∀ j, j < i → j < L.length → ∃ j', j' < i ∧ at3 C j = at3 L j'
  so : ∀ a b, a < b → b < i → b < L.length → lt3 (at3 C a) (at3 C b)

/-- .. and item i of L goes down: it stands at k -/
structure SoIn (L C : List M3) (i k : Nat) : Prop where
  len : C.length = L.length
  pm : C.Perm L
  hk : k ≤ i
  far : ∀ j, i < j → at3 C j = at3 L j
  near : ∀ j, j ≤ i → j ≠ k → ∃ j', j' < i ∧ at3 C j = at3 L j'
  here : at3 C k = at3 L i
  so : ∀ a b, a < b → b ≤ i → a ≠ k → b ≠ k → lt3 (at3 C a) (at3 C b)
  up : ∀ b, k < b → b ≤ i → lt3 (at3 L i) (at3 C b)

theorem SoOut.start (L : List M3) : SoOut L L 1 :=
  ⟨rfl, List.Perm.refl _, fun _ _ => rfl, fun j hj _ => ⟨j, hj, rfl⟩, fun a b h1 h2 => by omega⟩

theorem SoOut.enter {L C : List M3} {i : Nat} (h : SoOut L C i) (hi : i < L.length) : SoIn L C i i :=
  ⟨h.len, h.pm, Nat.le_refl _, fun j hj => h.far j (by omega), fun j hj hne => h.near j (by omega) (by omega), h.far i (Nat.le_refl _), fun a b h1 h2 h3 h4 => h.so a b h1 (by omega) (by omega), fun b h1 h2 => by omega⟩

/-- one that stands ahead of x in the list as it was made: earlier, or lt3 the other way -/
theorem ahead_lt {x y : M3} (h : apLt y x) (hb : bef x y = false) : lt3 y x := by
  rw [bef_not] at hb
  unfold apLt at h
  unfold lt3
  omega
theorem bef_lt {x y : M3} (hb : bef x y = true) : lt3 x y := by
  rw [bef_iff] at hb
  unfold lt3
  omega

theorem SoIn.leave {L C : List M3} {i k : Nat} (h : SoIn L C i k) (hL : L.Pairwise apLt) (hi : i < L.length) (hs : k = 0 ∨ bef (at3 C k) (at3 C (k - 1)) = false) : SoOut L C (i + 1) := by
  have hk := h.hk
  have below : ∀ a, a < k → lt3 (at3 C a) (at3 L i) := fun a ha => by
    rcases hs with rfl | hs
    · omega
    · obtain ⟨j', hj', e⟩ := h.near (k - 1) (by omega) (by omega)
      have h1 : lt3 (at3 C (k - 1)) (at3 L i) := by
        rw [h.here] at hs
        rw [e] at hs ⊢
        exact ahead_lt (at3_pair hL hj' hi) hs
      rcases (show a = k - 1 ∨ a < k - 1 by omega) with rfl | h2
      · exact h1
      · exact lt3_trans (h.so a (k - 1) h2 (by omega) (by omega) (by omega)) h1
  refine ⟨h.len, h.pm, fun j hj => h.far j (by omega), fun j hj hjl => ?_, fun a b h1 h2 h3 => ?_⟩
  · by_cases e : j = k
    · subst e; exact ⟨i, by omega, h.here⟩
    · obtain ⟨j', a, b⟩ := h.near j (by omega) e
      exact ⟨j', by omega, b⟩
  · by_cases e1 : b = k
    · subst e1; rw [h.here]; exact below a h1
    · by_cases e2 : a = k
      · subst e2; rw [h.here]; exact h.up b h1 (by omega)
      · exact h.so a b h1 (by omega) e2 e1

theorem SoIn.step {L C : List M3} {i k : Nat} (h : SoIn L C i k) (hi : i < L.length) (hk0 : 0 < k) (hb : bef (at3 C k) (at3 C (k - 1)) = true) : SoIn L (swapL C k (k - 1)) i (k - 1) := by
  have hk := h.hk
  have hl := h.len
  have sw := swapL_at (L := C) (a := k) (b := k - 1) (by omega) (by omega)
  have hxy : lt3 (at3 L i) (at3 C (k - 1)) := by have := bef_lt hb; rw [h.here] at this; exact this
  refine ⟨by rw [swapL_length]; exact hl, (swapL_perm (by omega) (by omega)).trans h.pm, by omega, fun j hj => ?_, fun j hj hne => ?_, ?_, fun a b h1 h2 h3 h4 => ?_, fun b h1 h2 => ?_⟩
  · rw [sw, if_neg (by omega), if_neg (by omega)]; exact h.far j hj
  · rw [sw, if_neg hne]
    by_cases e : j = k
    · rw [if_pos e]; exact h.near (k - 1) (by omega) (by omega)
    · rw [if_neg e]; exact h.near j hj e
  · rw [sw, if_pos rfl]; exact h.here
  · rw [sw a, sw b, if_neg h3, if_neg h4]
    by_cases e1 : a = k
    · rw [if_pos e1, if_neg (by omega)]
      exact h.so (k - 1) b (by omega) h2 (by omega) (by omega)
    · rw [if_neg e1]
      by_cases e2 : b = k
      · rw [if_pos e2]; exact h.so a (k - 1) (by omega) (by omega) e1 (by omega)
      · rw [if_neg e2]; exact h.so a b h1 h2 e1 e2
  · rw [sw b, if_neg (by omega)]
    by_cases e : b = k
    · rw [if_pos e]; exact hxy
    · rw [if_neg e]; exact h.up b (by omega) h2

theorem SoOut.done {L C : List M3} {i : Nat} (h : SoOut L C i) (hi : L.length ≤ i) : C.Pairwise lt3 := pair_of_at3 fun a b h1 h2 => h.so a b h1 (by have := h.len; omega) (by have := h.len; omega)

/-- what the two loops of the spec have gathered: axles below k, and of axle k the posts below j -/
structure Gath (nP : Nat) (P : Nat → Nat → Int) (Z : Nat → Int) (fr tt : Int) (L : List M3) (k j : Nat) : Prop where
  mem : ∀ z, z ∈ L ↔ ∃ k' i, ((k' < k ∧ i < nP) ∨ (k' = k ∧ i < j)) ∧ z = item P Z k' i ∧ fr < z.f ∧ z.f ≤ tt
  ord : L.Pairwise apLt
  len : L.length ≤ k * nP + j

theorem Gath.start (nP : Nat) (P : Nat → Nat → Int) (Z : Nat → Int) (fr tt : Int) : Gath nP P Z fr tt [] 0 0 :=
  ⟨fun z => ⟨fun h => by simp at h, fun ⟨k', i, h, _⟩ => by omega⟩, List.Pairwise.nil, by simp⟩
theorem Gath.next {nP : Nat} {P : Nat → Nat → Int} {Z : Nat → Int} {fr tt : Int} {L : List M3} {k : Nat} (h : Gath nP P Z fr tt L k nP) : Gath nP P Z fr tt L (k + 1) 0 :=
  ⟨fun z => by
    rw [h.mem]
    constructor
    · rintro ⟨k', i, h1, h2⟩; exact ⟨k', i, by omega, h2⟩
    · rintro ⟨k', i, h1, h2⟩; exact ⟨k', i, by omega, h2⟩, h.ord, by have := h.len; rw [Nat.succ_mul]; omega⟩
theorem Gath.skip {nP : Nat} {P : Nat → Nat → Int} {Z : Nat → Int} {fr tt : Int} {L : List M3} {k j : Nat} (h : Gath nP P Z fr tt L k j) (hs : ¬ (fr < P j 0 + Z k ∧ P j 0 + Z k ≤ tt)) : Gath nP P Z fr tt L k (j + 1) :=
  ⟨fun z => by
    rw [h.mem]
    constructor
    · rintro ⟨k', i, h1, h2⟩; exact ⟨k', i, by omega, h2⟩
    · rintro ⟨k', i, h1, e, h2⟩
      rcases (show ((k' < k ∧ i < nP) ∨ (k' = k ∧ i < j)) ∨ (k' = k ∧ i = j) by omega) with h3 | ⟨rfl, rfl⟩
      · exact ⟨k', i, h3, e, h2⟩
      · subst e; exact absurd h2 hs, h.ord, by have := h.len; omega⟩
theorem Gath.add {nP : Nat} {P : Nat → Nat → Int} {Z : Nat → Int} {fr tt : Int} {L : List M3} {k j : Nat} (h : Gath nP P Z fr tt L k j) (hs : fr < P j 0 + Z k ∧ P j 0 + Z k ≤ tt) : Gath nP P Z fr tt (L ++ [item P Z k j]) k (j + 1) :=
  ⟨fun z => by
    rw [List.mem_append, List.mem_singleton, h.mem]
    constructor
    · rintro (⟨k', i, h1, h2⟩ | rfl)
      · exact ⟨k', i, by omega, h2⟩
      · exact ⟨k, j, by omega, rfl, hs⟩
    · rintro ⟨k', i, h1, e, h2⟩
      rcases (show ((k' < k ∧ i < nP) ∨ (k' = k ∧ i < j)) ∨ (k' = k ∧ i = j) by omega) with h3 | ⟨rfl, rfl⟩
      · exact .inl ⟨k', i, h3, e, h2⟩
      · exact .inr e, by
    rw [List.pairwise_append]
    refine ⟨h.ord, by simp, fun x hx y hy => ?_⟩
    rw [List.mem_singleton] at hy
    subst hy
    obtain ⟨k', i, h1, e, _⟩ := (h.mem x).1 hx
    subst e
    unfold apLt item
    simp only
    omega, by have := h.len; simp; omega⟩

theorem Gath.done {nA nP : Nat} {P : Nat → Nat → Int} {Z : Nat → Int} {fr tt : Int} {L : List M3} (h : Gath nP P Z fr tt L nA 0) (z : M3) : z ∈ L ↔ InR nA nP P Z fr tt z := by
  rw [h.mem]
  constructor
  · rintro ⟨k', i, h1, h2⟩; exact ⟨k', by omega, i, by omega, h2⟩
  · rintro ⟨k', h1, i, h3, h2⟩; exact ⟨k', i, by omega, h2⟩

end Go.Proofs.Ytlpopfhaephfaaa
