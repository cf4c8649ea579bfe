import Derived.Test.YtlpopfhaephfaaaBase
namespace Go.Proofs.Ytlpopfhaephfaaa
open Go.RowKit

/-- an axle at a post: where the front is, the axle, the post -/
structure M3 where
  f : Int
  a : Int
  p : Int

def m0 : M3 := ⟨0, 0, 0⟩
def bef (x y : M3) : Bool := decide (x.f < y.f) || (decide (x.f = y.f) && decide (x.a < y.a))
def lt3 (x y : M3) : Prop := x.f < y.f ∨ (x.f = y.f ∧ (x.a < y.a ∨ (x.a = y.a ∧ x.p < y.p)))

theorem bef_iff {x y : M3} : bef x y = true ↔ x.f < y.f ∨ (x.f = y.f ∧ x.a < y.a) := by simp [bef]
theorem bef_not {x y : M3} : bef x y = false ↔ ¬ (x.f < y.f ∨ (x.f = y.f ∧ x.a < y.a)) := by rw [← bef_iff]; simp
theorem bef_asymm {x y : M3} (h : bef x y = true) : bef y x = false := by rw [bef_iff] at h; rw [bef_not]; omega
theorem bef_trans {x y z : M3} (h : bef x y = true) (k : bef y z = true) : bef x z = true := by rw [bef_iff] at *; omega
theorem bef_ntrans {x y z : M3} (h : bef x y = false) (k : bef y z = false) : bef x z = false := by rw [bef_not] at *; omega
/-- not earlier than y, and y not later than z .. -/
theorem bef_mix {x y z : M3} (h : bef x y = false) (k : bef z y = true) : bef x z = false := by rw [bef_iff] at k; rw [bef_not] at *; omega

theorem lt3_irrefl (x : M3) : ¬ lt3 x x := by unfold lt3; omega
theorem lt3_asymm {x y : M3} (h : lt3 x y) : ¬ lt3 y x := by unfold lt3 at *; omega
theorem lt3_trans {x y z : M3} (h : lt3 x y) (k : lt3 y z) : lt3 x z := by unfold lt3 at *; omega

theorem sorted_unique : ∀ {l1 l2 : List M3}, l1.Pairwise lt3 → l2.Pairwise lt3 → (∀ z, z ∈ l1 ↔ z ∈ l2) → l1 = l2
  | [], [], _, _, _ => rfl
  | [], y :: l2, _, _, h => absurd ((h y).2 (List.mem_cons_self ..)) (by simp)
  | x :: l1, [], _, _, h => absurd ((h x).1 (List.mem_cons_self ..)) (by simp)
  | x :: l1, y :: l2, h1, h2, h => by
    rw [List.pairwise_cons] at h1 h2
    have e : x = y := by
      rcases List.mem_cons.1 ((h x).1 (List.mem_cons_self ..)) with e | hx
      · exact e
      · rcases List.mem_cons.1 ((h y).2 (List.mem_cons_self ..)) with e | hy
        · exact e.symm
        · exact absurd (h1.1 y hy) (lt3_asymm (h2.1 x hx))
    subst e
    congr 1
    refine sorted_unique h1.2 h2.2 fun z => ⟨fun hz => ?_, fun hz => ?_⟩
    · rcases List.mem_cons.1 ((h z).1 (List.mem_cons_of_mem _ hz)) with e | hz'
      · subst e; exact absurd (h1.1 z hz) (lt3_irrefl z)
      · exact hz'
    · rcases List.mem_cons.1 ((h z).2 (List.mem_cons_of_mem _ hz)) with e | hz'
      · subst e; exact absurd (h2.1 z hz) (lt3_irrefl z)
      · exact hz'

-- lists as arrays
def at3 (L : List M3) (i : Nat) : M3 := L.getD i m0
def swapL (L : List M3) (a b : Nat) : List M3 := (L.set a (at3 L b)).set b (at3 L a)

theorem at3_mem {L : List M3} {i : Nat} (h : i < L.length) : at3 L i ∈ L := by
  unfold at3; rw [List.getD_eq_getElem?_getD, List.getElem?_eq_getElem h]; exact List.getElem_mem h
theorem mem_at3 {L : List M3} {z : M3} (h : z ∈ L) : ∃ i, i < L.length ∧ at3 L i = z := by
  obtain ⟨i, hi, e⟩ := List.getElem_of_mem h
  exact ⟨i, hi, by unfold at3; rw [List.getD_eq_getElem?_getD, List.getElem?_eq_getElem hi]; exact e⟩
theorem swapL_length (L : List M3) (a b : Nat) : (swapL L a b).length = L.length := by simp [swapL]
theorem swapL_at {L : List M3} {a b : Nat} (ha : a < L.length) (hb : b < L.length) (i : Nat) : at3 (swapL L a b) i = if i = b then at3 L a else if i = a then at3 L b else at3 L i := by
  unfold swapL
  show (((L.set a (at3 L b)).set b (at3 L a))[i]?).getD m0 = _
  rw [List.getElem?_set]
  by_cases h1 : b = i
  · subst h1; simp [hb]
  · rw [if_neg h1, if_neg (fun x => h1 x.symm), List.getElem?_set]
    by_cases h2 : a = i
    · subst h2; simp [ha]
    · rw [if_neg h2, if_neg (fun x => h2 x.symm)]; rfl
theorem swapL_perm {L : List M3} {a b : Nat} (ha : a < L.length) (hb : b < L.length) : (swapL L a b).Perm L := by
  unfold swapL at3
  simp only [List.getD_eq_getElem?_getD, List.getElem?_eq_getElem ha, List.getElem?_eq_getElem hb, Option.getD_some]
  exact List.set_set_perm ha hb

-- heaps
def par (i : Nat) : Nat := (i - 1) / 2
def HeapL (L : List M3) : Prop := ∀ i, 0 < i → i < L.length → bef (at3 L i) (at3 L (par i)) = false

def UpL (L : List M3) (c : Nat) : Prop :=
  (∀ i, 0 < i → i < L.length → i ≠ c → bef (at3 L i) (at3 L (par i)) = false) ∧ (0 < c → ∀ i, 0 < i → i < L.length → par i = c → bef (at3 L i) (at3 L (par c)) = false)

theorem UpL.done0 {L : List M3} (h : UpL L 0) : HeapL L := fun i h0 hi => h.1 i h0 hi (by omega)
theorem UpL.done {L : List M3} {c : Nat} (h : UpL L c) (hb : bef (at3 L c) (at3 L (par c)) = false) : HeapL L := fun i h0 hi => by
  by_cases e : i = c
  · subst e; exact hb
  · exact h.1 i h0 hi e

theorem UpL.step {L : List M3} {c : Nat} (h : UpL L c) (h0 : 0 < c) (hc : c < L.length) (hb : bef (at3 L c) (at3 L (par c)) = true) : UpL (swapL L c (par c)) (par c) := by
  have hp : par c < c := by unfold par; omega
  have hpl : par c < L.length := by omega
  have sw := swapL_at hc hpl
  refine ⟨fun i i0 hi hne => ?_, fun p0 i i0 hi hpi => ?_⟩
  · rw [swapL_length] at hi
    rw [sw i, sw (par i), if_neg hne]
    by_cases e1 : i = c
    · subst e1
      rw [if_pos rfl, if_pos rfl]
      exact bef_asymm hb
    · rw [if_neg e1]
      by_cases e2 : par i = par c
      · rw [if_pos e2]
        have := h.1 i i0 hi e1
        rw [e2] at this
        exact bef_mix this hb
      · rw [if_neg e2]
        by_cases e3 : par i = c
        · rw [if_pos e3]
          exact h.2 h0 i i0 hi e3
        · rw [if_neg e3]
          exact h.1 i i0 hi e1
  · rw [swapL_length] at hi
    have q1 : par (par c) < par c := by unfold par at *; omega
    have hne : i ≠ par c := by unfold par at *; omega
    rw [sw i, sw (par (par c)), if_neg hne, if_neg (show ¬ par (par c) = par c by omega), if_neg (show ¬ par (par c) = c by omega)]
    have hq := h.1 (par c) p0 hpl (by omega)
    by_cases e1 : i = c
    · rw [if_pos e1]; exact hq
    · rw [if_neg e1]
      have := h.1 i i0 hi e1
      rw [hpi] at this
      exact bef_ntrans this hq

theorem UpL.start {L : List M3} (h : HeapL L) (x : M3) : UpL (L ++ [x]) L.length := by
  have e : ∀ i, i < L.length → at3 (L ++ [x]) i = at3 L i := fun i hi => by unfold at3; simp [List.getElem?_append_left hi]
  refine ⟨fun i i0 hi hne => ?_, fun _ i _ hi hpi => ?_⟩
  · simp at hi
    rw [e i (by omega), e (par i) (by unfold par; omega)]
    exact h i i0 (by omega)
  · simp at hi
    unfold par at hpi
    omega

def DownL (L : List M3) (p : Nat) : Prop :=
  (∀ i, 0 < i → i < L.length → par i ≠ p → bef (at3 L i) (at3 L (par i)) = false) ∧ (0 < p → ∀ i, 0 < i → i < L.length → par i = p → bef (at3 L i) (at3 L (par p)) = false)

/-- which of the three comes first, as the program finds it -/
def firstZ (L : List M3) (p l r : Nat) : Nat :=
  let s := if l < L.length ∧ bef (at3 L l) (at3 L p) = true then l else p
  if r < L.length ∧ bef (at3 L r) (at3 L s) = true then r else s

theorem firstZ_same {L : List M3} {p : Nat} (h : DownL L p) (hf : firstZ L p (2 * p + 1) (2 * p + 2) = p) : HeapL L := fun i i0 hi => by
  by_cases e : par i = p
  · have hlr : i = 2 * p + 1 ∨ i = 2 * p + 2 := by unfold par at e; omega
    unfold firstZ at hf
    simp only at hf
    rw [e]
    split at hf
    · rename_i hl
      split at hf <;> omega
    · rename_i hl
      split at hf
      · omega
      · rename_i hr
        rcases hlr with rfl | rfl
        · cases hb : bef (at3 L (2 * p + 1)) (at3 L p)
          · rfl
          · exact absurd ⟨hi, hb⟩ hl
        · cases hb : bef (at3 L (2 * p + 2)) (at3 L p)
          · rfl
          · exact absurd ⟨hi, hb⟩ hr
  · exact h.1 i i0 hi e

theorem firstZ_other {L : List M3} {p c : Nat} (hf : firstZ L p (2 * p + 1) (2 * p + 2) = c) (hne : c ≠ p) :
    c < L.length ∧ (c = 2 * p + 1 ∨ c = 2 * p + 2) ∧ bef (at3 L c) (at3 L p) = true ∧ ∀ i, 0 < i → i < L.length → par i = p → i ≠ c → bef (at3 L i) (at3 L c) = false := by
  have hlr : ∀ i, 0 < i → par i = p → i = 2 * p + 1 ∨ i = 2 * p + 2 := fun i i0 e => by unfold par at e; omega
  unfold firstZ at hf
  simp only at hf
  split at hf
  · rename_i hl
    split at hf
    · rename_i hr
      subst hf
      refine ⟨hr.1, .inr rfl, bef_trans hr.2 hl.2, fun i i0 hi e hi2 => ?_⟩
      rcases hlr i i0 e with rfl | rfl
      · exact bef_asymm hr.2
      · omega
    · rename_i hr
      subst hf
      refine ⟨hl.1, .inl rfl, hl.2, fun i i0 hi e hi2 => ?_⟩
      rcases hlr i i0 e with rfl | rfl
      · omega
      · cases hb : bef (at3 L (2 * p + 2)) (at3 L (2 * p + 1))
        · rfl
        · exact absurd ⟨hi, hb⟩ hr
  · rename_i hl
    split at hf
    · rename_i hr
      subst hf
      refine ⟨hr.1, .inr rfl, hr.2, fun i i0 hi e hi2 => ?_⟩
      rcases hlr i i0 e with rfl | rfl
      · have : bef (at3 L (2 * p + 1)) (at3 L p) = false := by
          cases hb : bef (at3 L (2 * p + 1)) (at3 L p)
          · rfl
          · exact absurd ⟨hi, hb⟩ hl
        exact bef_mix this hr.2
      · omega
    · omega

theorem DownL.step {L : List M3} {p c : Nat} (h : DownL L p) (hp : p < L.length) (hf : firstZ L p (2 * p + 1) (2 * p + 2) = c) (hne : c ≠ p) : DownL (swapL L c p) c := by
  obtain ⟨hc, hlr, hb, hs⟩ := firstZ_other hf hne
  have hpc : par c = p := by unfold par; omega
  have hpl : p < c := by omega
  have sw := swapL_at hc hp
  refine ⟨fun i i0 hi hpi => ?_, fun c0 i i0 hi hpi => ?_⟩
  · rw [swapL_length] at hi
    rw [sw i, sw (par i)]
    by_cases e1 : i = p
    · subst e1
      have q : par i < i := by unfold par; omega
      rw [if_pos rfl, if_neg (show ¬ par i = i by omega), if_neg hpi]
      exact h.2 i0 c (by omega) hc hpc
    · rw [if_neg e1]
      by_cases e2 : i = c
      · rw [if_pos e2, e2, hpc, if_pos rfl]
        exact bef_asymm hb
      · rw [if_neg e2]
        by_cases e3 : par i = p
        · rw [if_pos e3]
          exact hs i i0 hi e3 e2
        · rw [if_neg e3, if_neg hpi]
          exact h.1 i i0 hi e3
  · rw [swapL_length] at hi
    have n1 : i ≠ p := by unfold par at hpi; omega
    have n2 : i ≠ c := by unfold par at hpi; omega
    rw [sw i, sw (par c), hpc, if_neg n1, if_neg n2, if_pos rfl]
    have := h.1 i i0 hi (by rw [hpi]; exact hne)
    rw [hpi] at this
    exact this

/-- behind the exchange of the first and the last, and the last taken off -/
theorem DownL.start {L : List M3} (h : HeapL L) (hn : 0 < L.length) : DownL ((swapL L 0 (L.length - 1)).take (L.length - 1)) 0 := by
  have sw := swapL_at (a := 0) (b := L.length - 1) hn (by omega)
  have e : ∀ i, i < L.length - 1 → at3 ((swapL L 0 (L.length - 1)).take (L.length - 1)) i = at3 (swapL L 0 (L.length - 1)) i := fun i hi => by unfold at3; simp [hi]
  refine ⟨fun i i0 hi hpi => ?_, fun h0 => absurd h0 (by omega)⟩
  simp only [List.length_take, swapL_length] at hi
  have hp : par i < i := by unfold par; omega
  rw [e i (by omega), e (par i) (by omega), sw i, sw (par i), if_neg (by omega), if_neg (by omega), if_neg (by omega), if_neg hpi]
  exact h i i0 (by omega)

theorem HeapL.min {L : List M3} (h : HeapL L) : ∀ i, i < L.length → bef (at3 L i) (at3 L 0) = false := by
  intro i
  induction i using Nat.strongRecOn with
  | _ i ih =>
    intro hi
    rcases Nat.eq_zero_or_pos i with rfl | h0
    · rw [bef_not]; omega
    · have hp : par i < i := by unfold par; omega
      exact bef_ntrans (h i h0 hi) (ih (par i) hp (by omega))

#print axioms DownL.step
end Go.Proofs.Ytlpopfhaephfaaa
