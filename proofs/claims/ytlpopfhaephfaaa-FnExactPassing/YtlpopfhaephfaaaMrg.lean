import Derived.Test.YtlpopfhaephfaaaMth
namespace Go.Proofs.Ytlpopfhaephfaaa
open Go.RowKit

def item (P : Nat → Nat → Int) (Z : Nat → Int) (k i : Nat) : M3 := ⟨P i 0 + Z k, k, i⟩

theorem item_inj {P : Nat → Nat → Int} {Z : Nat → Int} {k i k' i' : Nat} (h : item P Z k i = item P Z k' i') : k = k' ∧ i = i' := by
  unfold item at h
  simp only [M3.mk.injEq] at h
  omega

/-- the first post that the axle passes with the front beyond fr -/
def fst (P : Nat → Nat → Int) (nP : Nat) (fr z : Int) : Nat := ((List.range nP).find? (fun i => decide (fr < P i 0 + z))).getD nP

theorem fst_hit {P : Nat → Nat → Int} {nP : Nat} {fr z : Int} {j : Nat} (hj : j < nP) (h1 : ∀ i, i < j → ¬ fr < P i 0 + z) (h2 : fr < P j 0 + z) : fst P nP fr z = j := by
  unfold fst
  have : (List.range nP).find? (fun i => decide (fr < P i 0 + z)) = some j := by
    rw [List.find?_range_eq_some]
    exact ⟨by simpa using h2, List.mem_range.2 hj, fun i hi => by simpa using h1 i hi⟩
  rw [this]; rfl

theorem fst_none {P : Nat → Nat → Int} {nP : Nat} {fr z : Int} (h1 : ∀ i, i < nP → ¬ fr < P i 0 + z) : fst P nP fr z = nP := by
  unfold fst
  have : (List.range nP).find? (fun i => decide (fr < P i 0 + z)) = none := by
    rw [List.find?_eq_none]
    intro i hi
    simpa using h1 i (List.mem_range.1 hi)
  rw [this]; rfl

theorem fst_lt {P : Nat → Nat → Int} {nP : Nat} {fr z : Int} (i : Nat) (hi : i < fst P nP fr z) (hn : i < nP) : ¬ fr < P i 0 + z := by
  unfold fst at hi
  cases h : (List.range nP).find? (fun i => decide (fr < P i 0 + z)) with
  | none =>
    rw [List.find?_eq_none] at h
    simpa using h i (List.mem_range.2 hn)
  | some j =>
    rw [h] at hi
    rw [List.find?_range_eq_some] at h
    simpa using h.2.2 i hi

theorem fst_at {P : Nat → Nat → Int} {nP : Nat} {fr z : Int} (h0 : fst P nP fr z < nP) : fr < P (fst P nP fr z) 0 + z := by
  unfold fst at *
  cases h : (List.range nP).find? (fun i => decide (fr < P i 0 + z)) with
  | none => rw [h] at h0; simp at h0
  | some j =>
    rw [h] at h0
    rw [List.find?_range_eq_some] at h
    simpa using h.1

/-- what the merging keeps: the heap's items L, what has been told E, the next post of each axle nx -/
structure Mg (nA nP : Nat) (P : Nat → Nat → Int) (Z : Nat → Int) (fr tt : Int) (L E : List M3) (nx : Nat → Nat) : Prop where
  hp : HeapL L
  nd : L.Nodup
  lm : ∀ z, z ∈ L ↔ ∃ k, k < nA ∧ nx k < nP ∧ z = item P Z k (nx k)
  es : E.Pairwise lt3
  em : ∀ z, z ∈ E ↔ ∃ k, k < nA ∧ ∃ i, i < nx k ∧ i < nP ∧ z = item P Z k i ∧ fr < z.f
  et : ∀ z, z ∈ E → z.f ≤ tt
  el : ∀ z, z ∈ E → ∀ y, y ∈ L → lt3 z y
  lf : ∀ k, k < nA → nx k < nP → fr < (item P Z k (nx k)).f

def InR (nA nP : Nat) (P : Nat → Nat → Int) (Z : Nat → Int) (fr tt : Int) (z : M3) : Prop := ∃ k, k < nA ∧ ∃ i, i < nP ∧ z = item P Z k i ∧ fr < z.f ∧ z.f ≤ tt

theorem Mg.start {nA nP : Nat} {P : Nat → Nat → Int} {Z : Nat → Int} {fr tt : Int} {L : List M3} (h1 : HeapL L) (h2 : L.Nodup) (h3 : ∀ z, z ∈ L ↔ ∃ k, k < nA ∧ fst P nP fr (Z k) < nP ∧ z = item P Z k (fst P nP fr (Z k))) :
    Mg nA nP P Z fr tt L [] (fun k => fst P nP fr (Z k)) :=
  ⟨h1, h2, h3, List.Pairwise.nil, fun z => ⟨fun h => by simp at h, fun ⟨k, hk, i, hi, hn, e, hf⟩ => by subst e; exact absurd hf (fst_lt i hi hn)⟩, fun z h => by simp at h, fun z h => by simp at h, fun k hk hn => fst_at hn⟩

/-- the top of the heap, told; the axle goes on to its next post (L': the heap without it, L'': with the next item, if there is one) -/
theorem Mg.step {nA nP : Nat} {P : Nat → Nat → Int} {Z : Nat → Int} {fr tt : Int} {L L' L'' E : List M3} {nx : Nat → Nat} (h : Mg nA nP P Z fr tt L E nx) (hn : 0 < L.length) (hmono : ∀ i j, i ≤ j → j < nP → P i 0 ≤ P j 0) (hp : (at3 L 0 :: L').Perm L) (htt : (at3 L 0).f ≤ tt)
    {k : Nat} (hk : k < nA) (hkn : nx k < nP) (he : at3 L 0 = item P Z k (nx k)) (hh : HeapL L'')
    (hL : (nx k + 1 < nP ∧ L''.Perm (L' ++ [item P Z k (nx k + 1)])) ∨ (nP ≤ nx k + 1 ∧ L''.Perm L')) :
    Mg nA nP P Z fr tt L'' (E ++ [at3 L 0]) (fun j => if j = k then nx k + 1 else nx j) := by
  have hmem : at3 L 0 ∈ L := at3_mem hn
  have nd' : (at3 L 0 :: L').Nodup := (hp.nodup_iff).2 h.nd
  rw [List.nodup_cons] at nd'
  have mL : ∀ z, z ∈ L ↔ z = at3 L 0 ∨ z ∈ L' := fun z => by rw [← hp.mem_iff, List.mem_cons]
  -- of another axle
  have other : ∀ z, z ∈ L' → ∃ k', k' < nA ∧ nx k' < nP ∧ k' ≠ k ∧ z = item P Z k' (nx k') := fun z hz => by
    obtain ⟨k', a, b, e⟩ := (h.lm z).1 ((mL z).2 (.inr hz))
    refine ⟨k', a, b, fun hkk => ?_, e⟩
    subst hkk
    exact nd'.1 (by rw [he, ← e]; exact hz)
  have after : ∀ z, z ∈ L' → lt3 (at3 L 0) z := fun z hz => by
    obtain ⟨i, hi, ez⟩ := mem_at3 ((mL z).2 (.inr hz))
    have hb := h.hp.min i hi
    rw [ez, bef_not] at hb
    obtain ⟨k', _, _, hne, e⟩ := other z hz
    have z1 : z.a = (k' : Int) := by rw [e]; rfl
    have t1 : (at3 L 0).a = (k : Int) := by rw [he]; rfl
    by_cases hf : (at3 L 0).f < z.f
    · exact .inl hf
    · exact .inr ⟨by omega, .inl (by omega)⟩
  have hnew : nx k + 1 < nP → lt3 (at3 L 0) (item P Z k (nx k + 1)) := fun hx => by
    have := hmono (nx k) (nx k + 1) (by omega) hx
    rw [he]
    by_cases hf : P (nx k) 0 + Z k < P (nx k + 1) 0 + Z k
    · exact .inl hf
    · exact .inr ⟨show P (nx k) 0 + Z k = P (nx k + 1) 0 + Z k by omega, .inr ⟨rfl, show ((nx k : Nat) : Int) < ((nx k + 1 : Nat) : Int) by omega⟩⟩
  have mL2 : ∀ z, z ∈ L'' ↔ z ∈ L' ∨ (nx k + 1 < nP ∧ z = item P Z k (nx k + 1)) := fun z => by
    rcases hL with ⟨a, b⟩ | ⟨a, b⟩
    · rw [b.mem_iff, List.mem_append, List.mem_singleton]; simp [a]
    · rw [b.mem_iff]
      constructor
      · exact .inl
      · rintro (c | ⟨c, _⟩)
        · exact c
        · omega
  refine ⟨hh, ?_, fun z => ?_, ?_, fun z => ?_, fun z hz => ?_, fun z hz y hy => ?_, fun j hj hjn => ?_⟩
  · rcases hL with ⟨a, b⟩ | ⟨a, b⟩
    · rw [b.nodup_iff, List.nodup_append]
      refine ⟨nd'.2, by simp, fun x hx y hy e => ?_⟩
      rw [List.mem_singleton] at hy
      subst hy; subst e
      obtain ⟨k', _, _, hne, e⟩ := other _ hx
      exact hne (item_inj e).1.symm
    · rw [b.nodup_iff]; exact nd'.2
  · rw [mL2]
    constructor
    · rintro (hz | ⟨a, e⟩)
      · obtain ⟨k', a, b, hne, e⟩ := other z hz
        exact ⟨k', a, by simpa [hne] using b, by simpa [hne] using e⟩
      · exact ⟨k, hk, by simpa using a, by simpa using e⟩
    · rintro ⟨k', a, b, e⟩
      by_cases hkk : k' = k
      · subst hkk
        simp only [if_true] at b e
        exact .inr ⟨b, e⟩
      · simp only [if_neg hkk] at b e
        left
        rcases (mL z).1 ((h.lm z).2 ⟨k', a, b, e⟩) with e2 | hz
        · exfalso
          rw [e2, he] at e
          exact hkk (item_inj e).1.symm
        · exact hz
  · rw [List.pairwise_append]
    exact ⟨h.es, by simp, fun x hx y hy => by rw [List.mem_singleton] at hy; subst hy; exact h.el x hx _ hmem⟩
  · rw [List.mem_append, List.mem_singleton, h.em]
    constructor
    · rintro (⟨k', a, i, hi, hn, e, hf⟩ | e)
      · refine ⟨k', a, i, ?_, hn, e, hf⟩
        by_cases hkk : k' = k
        · subst hkk; simp; omega
        · simpa [hkk] using hi
      · refine ⟨k, hk, nx k, by simp, hkn, by rw [e, he], ?_⟩
        rw [e, he]; exact h.lf k hk hkn
    · rintro ⟨k', a, i, hi, hn, e, hf⟩
      by_cases hkk : k' = k
      · subst hkk
        simp only [if_true] at hi
        rcases (show i < nx k' ∨ i = nx k' by omega) with hlt | rfl
        · exact .inl ⟨k', a, i, hlt, hn, e, hf⟩
        · exact .inr (by rw [e, he])
      · simp only [if_neg hkk] at hi
        exact .inl ⟨k', a, i, hi, hn, e, hf⟩
  · rw [List.mem_append, List.mem_singleton] at hz
    rcases hz with hz | rfl
    · exact h.et z hz
    · exact htt
  · rw [List.mem_append, List.mem_singleton] at hz
    rw [mL2] at hy
    rcases hz with hz | rfl
    · rcases hy with hy | ⟨a, rfl⟩
      · exact h.el z hz y ((mL y).2 (.inr hy))
      · exact lt3_trans (h.el z hz _ hmem) (hnew a)
    · rcases hy with hy | ⟨a, rfl⟩
      · exact after y hy
      · exact hnew a
  · by_cases hkk : j = k
    · subst hkk
      simp only [if_true] at hjn ⊢
      have h1 := h.lf j hj hkn
      have h2 := hmono (nx j) (nx j + 1) (by omega) hjn
      unfold item at *
      simp only at *
      omega
    · simp only [if_neg hkk] at hjn ⊢
      exact h.lf j hj hjn

theorem Mg.done_empty {nA nP : Nat} {P : Nat → Nat → Int} {Z : Nat → Int} {fr tt : Int} {E : List M3} {nx : Nat → Nat} (h : Mg nA nP P Z fr tt [] E nx) : E.Pairwise lt3 ∧ ∀ z, z ∈ E ↔ InR nA nP P Z fr tt z := by
  refine ⟨h.es, fun z => ⟨fun hz => ?_, fun ⟨k, hk, i, hi, e, h1, h2⟩ => ?_⟩⟩
  · obtain ⟨k, hk, i, _, hn, e, hf⟩ := (h.em z).1 hz
    exact ⟨k, hk, i, hn, e, hf, h.et z hz⟩
  · have : ¬ nx k < nP := fun hx => by have := (h.lm (item P Z k (nx k))).2 ⟨k, hk, hx, rfl⟩; simp at this
    exact (h.em z).2 ⟨k, hk, i, by omega, hi, e, h1⟩

theorem Mg.done_far {nA nP : Nat} {P : Nat → Nat → Int} {Z : Nat → Int} {fr tt : Int} {L E : List M3} {nx : Nat → Nat} (h : Mg nA nP P Z fr tt L E nx) (hmono : ∀ i j, i ≤ j → j < nP → P i 0 ≤ P j 0) (htt : tt < (at3 L 0).f) : E.Pairwise lt3 ∧ ∀ z, z ∈ E ↔ InR nA nP P Z fr tt z := by
  refine ⟨h.es, fun z => ⟨fun hz => ?_, fun ⟨k, hk, i, hi, e, h1, h2⟩ => ?_⟩⟩
  · obtain ⟨k, hk, i, _, hn, e, hf⟩ := (h.em z).1 hz
    exact ⟨k, hk, i, hn, e, hf, h.et z hz⟩
  · refine (h.em z).2 ⟨k, hk, i, ?_, hi, e, h1⟩
    rcases Nat.lt_or_ge i (nx k) with hx | hx
    · exact hx
    · exfalso
      have hl := (h.lm (item P Z k (nx k))).2 ⟨k, hk, by omega, rfl⟩
      obtain ⟨j, hj, ej⟩ := mem_at3 hl
      have hb := h.hp.min j hj
      rw [ej, bef_not] at hb
      have hm := hmono (nx k) i hx hi
      subst e
      unfold item at *
      simp only at *
      omega

#print axioms Mg.step
end Go.Proofs.Ytlpopfhaephfaaa
