import Derived.Test.YtlpopfhaephfaaaDoorCR
import Derived.Test.YtlpopfhaephfaaaDoorBase
import Derived.Test.YtlpopfhaephfaaaDoorGrp
import Derived.BigRegion
import Derived.BigQuiet
import Derived.Deep.QuietTactic
import Derived.Deep.RegionWith
import Derived.Deep.RegionLaw
import Derived.Deep.DeepCutAuto
import Derived.Lib.QuietBelow
import Derived.Test.YtlpopfhaephfaaaDoorW1
import Derived.Test.YtlpopfhaephfaaaDoorMkL
import Derived.Test.YtlpopfhaephfaaaDoorW6
import Derived.Test.YtlpopfhaephfaaaDoorW3
namespace Go.Proofs.YtlpopfhaephfaaaDoor.Ps
open Go.RowKit

/-- n posts in a slice of any capacity (or nil, when there are none) -/
def PRow (w : World) (g n : Nat) (P : Nat → Nat → Int) : Prop :=
  n = 0 ∨ ∃ b m f, gA g = some ⟨b, 0, none⟩ ∧ n * 3 ≤ m ∧ Blk w b 81 m f ∧ ∀ i, i < n → ∀ j, j < 3 → f (i * 3 + j) = .int .i64 (P i j)
/-- n numbers in a slice of any capacity (or nil, when there are none) -/
def ARow (w : World) (g n : Nat) (Z : Nat → Int) : Prop :=
  n = 0 ∨ ∃ b m f, gA g = some ⟨b, 0, none⟩ ∧ n ≤ m ∧ Blk w b 3 m f ∧ ∀ i, i < n → f i = .int .i64 (Z i)

section
variable {w w' : World} {g n : Nat} {P : Nat → Nat → Int} {Z : Nat → Int}
theorem PRow.on (h : PRow w g n P) (hb : Below w.heap.size w w') : PRow w' g n P := by
  rcases h with h | ⟨b, m, f, h1, h2, h3, h4⟩
  · exact .inl h
  · exact .inr ⟨b, m, f, h1, h2, h3.on hb, h4⟩
theorem ARow.on (h : ARow w g n Z) (hb : Below w.heap.size w w') : ARow w' g n Z := by
  rcases h with h | ⟨b, m, f, h1, h2, h3, h4⟩
  · exact .inl h
  · exact .inr ⟨b, m, f, h1, h2, h3.on hb, h4⟩
theorem PRow.at (h : PRow w g n P) {k : Nat} (hk : k < n) : ∃ b, gA g = some ⟨b, 0, none⟩ ∧ b < w.heap.size ∧ w.cell? ⟨b, k * 3, none⟩ = some (.int .i64 (P k 0)) ∧ w.cell? ⟨b, k * 3 + 1, none⟩ = some (.int .i64 (P k 1)) ∧ w.cell? ⟨b, k * 3 + 2, none⟩ = some (.int .i64 (P k 2)) := by
  rcases h with h | ⟨b, m, f, h1, h2, h3, h4⟩
  · omega
  · refine ⟨b, h1, h3.lt, ?_, ?_, ?_⟩
    · have := h3.cell (i := k * 3) (by omega)
      rw [show k * 3 = k * 3 + 0 from rfl, h4 k hk 0 (by omega)] at this
      exact this
    · rw [h3.cell (i := k * 3 + 1) (by omega), h4 k hk 1 (by omega)]
    · rw [h3.cell (i := k * 3 + 2) (by omega), h4 k hk 2 (by omega)]
theorem ARow.at (h : ARow w g n Z) {k : Nat} (hk : k < n) : ∃ b, gA g = some ⟨b, 0, none⟩ ∧ b < w.heap.size ∧ w.cell? ⟨b, k, none⟩ = some (.int .i64 (Z k)) := by
  rcases h with h | ⟨b, m, f, h1, h2, h3, h4⟩
  · omega
  · exact ⟨b, h1, h3.lt, by rw [h3.cell (by omega), h4 k hk]⟩
end

end Go.Proofs.YtlpopfhaephfaaaDoor.Ps

namespace Go.Proofs.YtlpopfhaephfaaaDoor.Ps
open Go.RowKit

/-- an axle at a post: where the front is, the axle, the post -/
structure M3 where
  f : Int
  a : Int
  p : Int

def m0 : M3 := ⟨0, 0, 0⟩
def bef (x y : M3) : Bool := decide (x.f < y.f) || (decide (x.f = y.f) && decide (x.a < y.a))
def lt3 (x y : M3) : Prop := x.f < y.f ∨ (x.f = y.f ∧ (x.a < y.a ∨ (x.a = y.a ∧ x.p < y.p)))

theorem bef_iff {x y : M3} : bef x y = true ↔ x.f < y.f ∨ (x.f = y.f ∧ x.a < y.a) := by simp [bef]
theorem bef_not {x y : M3} : bef x y = false ↔ ¬ (x.f < y.f ∨ (x.f = y.f ∧ x.a < y.a)) := by rw [← bef_iff]; simp
theorem bef_asymm {x y : M3} (h : bef x y = true) : bef y x = false := by rw [bef_iff] at h; rw [bef_not]; omega
theorem bef_trans {x y z : M3} (h : bef x y = true) (k : bef y z = true) : bef x z = true := by rw [bef_iff] at *; omega
theorem bef_ntrans {x y z : M3} (h : bef x y = false) (k : bef y z = false) : bef x z = false := by rw [bef_not] at *; omega
/-- not earlier than y, and y not later than z .. -/
theorem bef_mix {x y z : M3} (h : bef x y = false) (k : bef z y = true) : bef x z = false := by rw [bef_iff] at k; rw [bef_not] at *; omega

theorem lt3_irrefl (x : M3) : ¬ lt3 x x := by unfold lt3; omega
theorem lt3_asymm {x y : M3} (h : lt3 x y) : ¬ lt3 y x := by unfold lt3 at *; omega
theorem lt3_trans {x y z : M3} (h : lt3 x y) (k : lt3 y z) : lt3 x z := by unfold lt3 at *; omega

theorem sorted_unique : ∀ {l1 l2 : List M3}, l1.Pairwise lt3 → l2.Pairwise lt3 → (∀ z, z ∈ l1 ↔ z ∈ l2) → l1 = l2
  | [], [], _, _, _ => rfl
  | [], y :: l2, _, _, h => absurd ((h y).2 (List.mem_cons_self ..)) (by simp)
  | x :: l1, [], _, _, h => absurd ((h x).1 (List.mem_cons_self ..)) (by simp)
  | x :: l1, y :: l2, h1, h2, h => by
    rw [List.pairwise_cons] at h1 h2
    have e : x = y := by
      rcases List.mem_cons.1 ((h x).1 (List.mem_cons_self ..)) with e | hx
      · exact e
      · rcases List.mem_cons.1 ((h y).2 (List.mem_cons_self ..)) with e | hy
        · exact e.symm
        · exact absurd (h1.1 y hy) (lt3_asymm (h2.1 x hx))
    subst e
    congr 1
    refine sorted_unique h1.2 h2.2 fun z => ⟨fun hz => ?_, fun hz => ?_⟩
    · rcases List.mem_cons.1 ((h z).1 (List.mem_cons_of_mem _ hz)) with e | hz'
      · subst e; exact absurd (h1.1 z hz) (lt3_irrefl z)
      · exact hz'
    · rcases List.mem_cons.1 ((h z).2 (List.mem_cons_of_mem _ hz)) with e | hz'
      · subst e; exact absurd (h2.1 z hz) (lt3_irrefl z)
      · exact hz'

-- lists as arrays
def at3 (L : List M3) (i : Nat) : M3 := L.getD i m0
def swapL (L : List M3) (a b : Nat) : List M3 := (L.set a (at3 L b)).set b (at3 L a)

theorem at3_mem {L : List M3} {i : Nat} (h : i < L.length) : at3 L i ∈ L := by
  unfold at3; rw [List.getD_eq_getElem?_getD, List.getElem?_eq_getElem h]; exact List.getElem_mem h
theorem mem_at3 {L : List M3} {z : M3} (h : z ∈ L) : ∃ i, i < L.length ∧ at3 L i = z := by
  obtain ⟨i, hi, e⟩ := List.getElem_of_mem h
  exact ⟨i, hi, by unfold at3; rw [List.getD_eq_getElem?_getD, List.getElem?_eq_getElem hi]; exact e⟩
theorem swapL_length (L : List M3) (a b : Nat) : (swapL L a b).length = L.length := by simp [swapL]
theorem swapL_at {L : List M3} {a b : Nat} (ha : a < L.length) (hb : b < L.length) (i : Nat) : at3 (swapL L a b) i = if i = b then at3 L a else if i = a then at3 L b else at3 L i := by
  unfold swapL
  show (((L.set a (at3 L b)).set b (at3 L a))[i]?).getD m0 = _
  rw [List.getElem?_set]
  by_cases h1 : b = i
  · subst h1; simp [hb]
  · rw [if_neg h1, if_neg (fun x => h1 x.symm), List.getElem?_set]
    by_cases h2 : a = i
    · subst h2; simp [ha]
    · rw [if_neg h2, if_neg (fun x => h2 x.symm)]; rfl
theorem swapL_perm {L : List M3} {a b : Nat} (ha : a < L.length) (hb : b < L.length) : (swapL L a b).Perm L := by
  unfold swapL at3
  simp only [List.getD_eq_getElem?_getD, List.getElem?_eq_getElem ha, List.getElem?_eq_getElem hb, Option.getD_some]
  exact List.set_set_perm ha hb

-- heaps
def par (i : Nat) : Nat := (i - 1) / 2
def HeapL (L : List M3) : Prop := ∀ i, 0 < i → i < L.length → bef (at3 L i) (at3 L (par i)) = false

def UpL (L : List M3) (c : Nat) : Prop :=
  (∀ i, 0 < i → i < L.length → i ≠ c → bef (at3 L i) (at3 L (par i)) = false) ∧ (0 < c → ∀ i, 0 < i → i < L.length → par i = c → bef (at3 L i) (at3 L (par c)) = false)

theorem UpL.done0 {L : List M3} (h : UpL L 0) : HeapL L := fun i h0 hi => h.1 i h0 hi (by omega)
theorem UpL.done {L : List M3} {c : Nat} (h : UpL L c) (hb : bef (at3 L c) (at3 L (par c)) = false) : HeapL L := fun i h0 hi => by
  by_cases e : i = c
  · subst e; exact hb
  · exact h.1 i h0 hi e

theorem UpL.step {L : List M3} {c : Nat} (h : UpL L c) (h0 : 0 < c) (hc : c < L.length) (hb : bef (at3 L c) (at3 L (par c)) = true) : UpL (swapL L c (par c)) (par c) := by
  have hp : par c < c := by unfold par; omega
  have hpl : par c < L.length := by omega
  have sw := swapL_at hc hpl
  refine ⟨fun i i0 hi hne => ?_, fun p0 i i0 hi hpi => ?_⟩
  · rw [swapL_length] at hi
    rw [sw i, sw (par i), if_neg hne]
    by_cases e1 : i = c
    · subst e1
      rw [if_pos rfl, if_pos rfl]
      exact bef_asymm hb
    · rw [if_neg e1]
      by_cases e2 : par i = par c
      · rw [if_pos e2]
        have := h.1 i i0 hi e1
        rw [e2] at this
        exact bef_mix this hb
      · rw [if_neg e2]
        by_cases e3 : par i = c
        · rw [if_pos e3]
          exact h.2 h0 i i0 hi e3
        · rw [if_neg e3]
          exact h.1 i i0 hi e1
  · rw [swapL_length] at hi
    have q1 : par (par c) < par c := by unfold par at *; omega
    have hne : i ≠ par c := by unfold par at *; omega
    rw [sw i, sw (par (par c)), if_neg hne, if_neg (show ¬ par (par c) = par c by omega), if_neg (show ¬ par (par c) = c by omega)]
    have hq := h.1 (par c) p0 hpl (by omega)
    by_cases e1 : i = c
    · rw [if_pos e1]; exact hq
    · rw [if_neg e1]
      have := h.1 i i0 hi e1
      rw [hpi] at this
      exact bef_ntrans this hq

theorem UpL.start {L : List M3} (h : HeapL L) (x : M3) : UpL (L ++ [x]) L.length := by
  have e : ∀ i, i < L.length → at3 (L ++ [x]) i = at3 L i := fun i hi => by unfold at3; simp [List.getElem?_append_left hi]
  refine ⟨fun i i0 hi hne => ?_, fun _ i _ hi hpi => ?_⟩
  · simp at hi
    rw [e i (by omega), e (par i) (by unfold par; omega)]
    exact h i i0 (by omega)
  · simp at hi
    unfold par at hpi
    omega

def DownL (L : List M3) (p : Nat) : Prop :=
  (∀ i, 0 < i → i < L.length → par i ≠ p → bef (at3 L i) (at3 L (par i)) = false) ∧ (0 < p → ∀ i, 0 < i → i < L.length → par i = p → bef (at3 L i) (at3 L (par p)) = false)

/-- which of the three comes first, as the program finds it -/
def firstZ (L : List M3) (p l r : Nat) : Nat :=
  let s := if l < L.length ∧ bef (at3 L l) (at3 L p) = true then l else p
  if r < L.length ∧ bef (at3 L r) (at3 L s) = true then r else s

theorem firstZ_same {L : List M3} {p : Nat} (h : DownL L p) (hf : firstZ L p (2 * p + 1) (2 * p + 2) = p) : HeapL L := fun i i0 hi => by
  by_cases e : par i = p
  · have hlr : i = 2 * p + 1 ∨ i = 2 * p + 2 := by unfold par at e; omega
    unfold firstZ at hf
    simp only at hf
    rw [e]
    split at hf
    · rename_i hl
      split at hf <;> omega
    · rename_i hl
      split at hf
      · omega
      · rename_i hr
        rcases hlr with rfl | rfl
        · cases hb : bef (at3 L (2 * p + 1)) (at3 L p)
          · rfl
          · exact absurd ⟨hi, hb⟩ hl
        · cases hb : bef (at3 L (2 * p + 2)) (at3 L p)
          · rfl
          · exact absurd ⟨hi, hb⟩ hr
  · exact h.1 i i0 hi e

theorem firstZ_other {L : List M3} {p c : Nat} (hf : firstZ L p (2 * p + 1) (2 * p + 2) = c) (hne : c ≠ p) :
    c < L.length ∧ (c = 2 * p + 1 ∨ c = 2 * p + 2) ∧ bef (at3 L c) (at3 L p) = true ∧ ∀ i, 0 < i → i < L.length → par i = p → i ≠ c → bef (at3 L i) (at3 L c) = false := by
  have hlr : ∀ i, 0 < i → par i = p → i = 2 * p + 1 ∨ i = 2 * p + 2 := fun i i0 e => by unfold par at e; omega
  unfold firstZ at hf
  simp only at hf
  split at hf
  · rename_i hl
    split at hf
    · rename_i hr
      subst hf
      refine ⟨hr.1, .inr rfl, bef_trans hr.2 hl.2, fun i i0 hi e hi2 => ?_⟩
      rcases hlr i i0 e with rfl | rfl
      · exact bef_asymm hr.2
      · omega
    · rename_i hr
      subst hf
      refine ⟨hl.1, .inl rfl, hl.2, fun i i0 hi e hi2 => ?_⟩
      rcases hlr i i0 e with rfl | rfl
      · omega
      · cases hb : bef (at3 L (2 * p + 2)) (at3 L (2 * p + 1))
        · rfl
        · exact absurd ⟨hi, hb⟩ hr
  · rename_i hl
    split at hf
    · rename_i hr
      subst hf
      refine ⟨hr.1, .inr rfl, hr.2, fun i i0 hi e hi2 => ?_⟩
      rcases hlr i i0 e with rfl | rfl
      · have : bef (at3 L (2 * p + 1)) (at3 L p) = false := by
          cases hb : bef (at3 L (2 * p + 1)) (at3 L p)
          · rfl
          · exact absurd ⟨hi, hb⟩ hl
        exact bef_mix this hr.2
      · omega
    · omega

theorem DownL.step {L : List M3} {p c : Nat} (h : DownL L p) (hp : p < L.length) (hf : firstZ L p (2 * p + 1) (2 * p + 2) = c) (hne : c ≠ p) : DownL (swapL L c p) c := by
  obtain ⟨hc, hlr, hb, hs⟩ := firstZ_other hf hne
  have hpc : par c = p := by unfold par; omega
  have hpl : p < c := by omega
  have sw := swapL_at hc hp
  refine ⟨fun i i0 hi hpi => ?_, fun c0 i i0 hi hpi => ?_⟩
  · rw [swapL_length] at hi
    rw [sw i, sw (par i)]
    by_cases e1 : i = p
    · subst e1
      have q : par i < i := by unfold par; omega
      rw [if_pos rfl, if_neg (show ¬ par i = i by omega), if_neg hpi]
      exact h.2 i0 c (by omega) hc hpc
    · rw [if_neg e1]
      by_cases e2 : i = c
      · rw [if_pos e2, e2, hpc, if_pos rfl]
        exact bef_asymm hb
      · rw [if_neg e2]
        by_cases e3 : par i = p
        · rw [if_pos e3]
          exact hs i i0 hi e3 e2
        · rw [if_neg e3, if_neg hpi]
          exact h.1 i i0 hi e3
  · rw [swapL_length] at hi
    have n1 : i ≠ p := by unfold par at hpi; omega
    have n2 : i ≠ c := by unfold par at hpi; omega
    rw [sw i, sw (par c), hpc, if_neg n1, if_neg n2, if_pos rfl]
    have := h.1 i i0 hi (by rw [hpi]; exact hne)
    rw [hpi] at this
    exact this

/-- behind the exchange of the first and the last, and the last taken off -/
theorem DownL.start {L : List M3} (h : HeapL L) (hn : 0 < L.length) : DownL ((swapL L 0 (L.length - 1)).take (L.length - 1)) 0 := by
  have sw := swapL_at (a := 0) (b := L.length - 1) hn (by omega)
  have e : ∀ i, i < L.length - 1 → at3 ((swapL L 0 (L.length - 1)).take (L.length - 1)) i = at3 (swapL L 0 (L.length - 1)) i := fun i hi => by unfold at3; simp [hi]
  refine ⟨fun i i0 hi hpi => ?_, fun h0 => absurd h0 (by omega)⟩
  simp only [List.length_take, swapL_length] at hi
  have hp : par i < i := by unfold par; omega
  rw [e i (by omega), e (par i) (by omega), sw i, sw (par i), if_neg (by omega), if_neg (by omega), if_neg (by omega), if_neg hpi]
  exact h i i0 (by omega)

theorem HeapL.min {L : List M3} (h : HeapL L) : ∀ i, i < L.length → bef (at3 L i) (at3 L 0) = false := by
  intro i
  induction i using Nat.strongRecOn with
  | _ i ih =>
    intro hi
    rcases Nat.eq_zero_or_pos i with rfl | h0
    · rw [bef_not]; omega
    · have hp : par i < i := by unfold par; omega
      exact bef_ntrans (h i h0 hi) (ih (par i) hp (by omega))

#print axioms DownL.step
end Go.Proofs.YtlpopfhaephfaaaDoor.Ps

namespace Go.Proofs.YtlpopfhaephfaaaDoor.Ps
open Go.RowKit

def fld (m : M3) (j : Nat) : Int := if j = 0 then m.f else if j = 1 then m.a else m.p
def cellL (L : List M3) (c : Nat) : Value := .int .i64 (fld (at3 L (c / 3)) (c % 3))
def flat (L : List M3) : List Value := (List.range (L.length * 3)).map (cellL L)

theorem flat_length (L : List M3) : (flat L).length = L.length * 3 := by simp [flat]

theorem at3_snoc_lt {L : List M3} {x : M3} {i : Nat} (h : i < L.length) : at3 (L ++ [x]) i = at3 L i := by unfold at3; simp [List.getElem?_append_left h]
theorem at3_snoc {L : List M3} {x : M3} : at3 (L ++ [x]) L.length = x := by unfold at3; simp

theorem flat_snoc (L : List M3) (x : M3) : flat (L ++ [x]) = flat L ++ [.int .i64 x.f, .int .i64 x.a, .int .i64 x.p] := by
  unfold flat
  have e : (L ++ [x]).length * 3 = L.length * 3 + 1 + 1 + 1 := by simp; omega
  rw [e, List.range_succ, List.range_succ, List.range_succ]
  simp only [List.map_append, List.map_cons, List.map_nil, List.append_assoc, List.cons_append, List.nil_append]
  congr 1
  · refine List.map_congr_left fun c hc => ?_
    have := List.mem_range.1 hc
    unfold cellL
    rw [at3_snoc_lt (by omega)]
  · unfold cellL
    rw [show L.length * 3 / 3 = L.length by omega, show (L.length * 3 + 1) / 3 = L.length by omega, show (L.length * 3 + 1 + 1) / 3 = L.length by omega, at3_snoc,
      show L.length * 3 % 3 = 0 by omega, show (L.length * 3 + 1) % 3 = 1 by omega, show (L.length * 3 + 1 + 1) % 3 = 2 by omega]
    rfl

/-- an owned row of triples, opened -/
theorem own_open {w : World} {base e : Nat} {v : Value} {L : List M3} (h : w.ownsRow base e 3 v L.length (flat L)) :
    (v = .slice none 0 0 ∧ L = []) ∨ ∃ g cap f, v = .slice (some ⟨g, 0, none⟩) L.length cap ∧ base ≤ g ∧ L.length ≤ cap ∧ cap ≤ maxLen ∧ Blk w g e (cap * 3) f ∧ ∀ c, c < L.length * 3 → f c = cellL L c := by
  obtain ⟨h1, ⟨h2, h3⟩ | ⟨g, cap, cur, hv, hb, hh, hn, hm, hs, ht⟩⟩ := h
  · exact .inl ⟨h2, List.length_eq_zero_iff.1 h3⟩
  · refine .inr ⟨g, cap, fun c => cur.toList.getD c (.int .i64 0), hv, hb, hn, hm, ⟨cur, hh, hs, fun i hi => ?_⟩, fun c hc => ?_⟩
    · have : i < cur.size := by rw [hs]; exact hi
      simp [this]
    · have e1 : (cur.toList.take (L.length * 3))[c]? = (flat L)[c]? := by rw [ht]
      rw [List.getElem?_take_of_lt hc] at e1
      have e2 : (flat L)[c]? = some (cellL L c) := by simp [flat, hc]
      simp [List.getD, e1, e2]

theorem own_shut {w : World} {base e g cap : Nat} {f : Nat → Value} {L : List M3} (hb : base ≤ g) (hn : L.length ≤ cap) (hm : cap ≤ maxLen) (hB : Blk w g e (cap * 3) f) (hf : ∀ c, c < L.length * 3 → f c = cellL L c) :
    w.ownsRow base e 3 (.slice (some ⟨g, 0, none⟩) L.length cap) L.length (flat L) := by
  obtain ⟨xs, h1, h2, h3⟩ := hB
  refine ⟨flat_length L, .inr ⟨g, cap, xs, rfl, hb, h1, hn, hm, h2, ?_⟩⟩
  apply List.ext_getElem?
  intro c
  by_cases hc : c < L.length * 3
  · rw [List.getElem?_take_of_lt hc]
    have hl : L.length * 3 ≤ cap * 3 := Nat.mul_le_mul_right 3 hn
    have e1 := h3 c (by omega)
    rw [hf c hc] at e1
    simp only [Array.getElem?_toList, e1]
    simp [flat, hc]
  · rw [List.getElem?_eq_none (by simp; omega), List.getElem?_eq_none (by rw [flat_length]; omega)]

theorem earlier_any (x y : M3) (w : World) (b : Bool) (hb : bef x y = b) :
    Calls Tryd.prog 56 #[.agg #[.int .i64 x.f, .int .i64 x.a, .int .i64 x.p], .agg #[.int .i64 y.f, .int .i64 y.a, .int .i64 y.p]] w fun e w' => e = .returned (.bool b) ∧ Below w.heap.size w w' := by
  obtain ⟨f, a, p⟩ := x
  obtain ⟨f', a', p'⟩ := y
  by_cases h : f = f'
  · subst h
    have e : decide (a < a') = b := by rw [← hb]; simp [bef]
    clear hb
    go_enter Tryd.func56, Tryd.ntmps56
    go_wp2
    go_ret
    exact ⟨by rw [← e]; rfl, (by repeat (first | exact Below.refl _ _ | assumption | refine below_alloc ?_ _ | refine Below.setCell ?_ (by first | omega | (simp; done) | (simp; omega)) _ | refine Below.alloc ?_ (by first | omega | (simp; done) | (simp; omega)) _ | refine Below.drew ?_))⟩
  · have e : decide (f < f') = b := by rw [← hb]; simp [bef, h]
    have h' : (f != f') = true := by simp [h]
    clear hb h
    go_enter Tryd.func56, Tryd.ntmps56
    go_wp2
    go_ret
    exact ⟨by rw [← e]; rfl, (by repeat (first | exact Below.refl _ _ | assumption | refine below_alloc ?_ _ | refine Below.setCell ?_ (by first | omega | (simp; done) | (simp; omega)) _ | refine Below.alloc ?_ (by first | omega | (simp; done) | (simp; omega)) _ | refine Below.drew ?_))⟩

/-- the cells of a heap's own struct -/
def hcell (v : Value) : Nat → Value := fun j => if j = 0 then v else .func (.func 56) #[] #[]

set_option maxHeartbeats 1000000 in
theorem swap_walk (hb g n cap m a b : Nat) (f : Nat → Value) (x y : M3) (w : World) (ha : a < n) (hb' : b < n) (hs : w.cell? ⟨hb, 0, none⟩ = some (.slice (some ⟨g, 0, none⟩) n cap)) (hB : Blk w g 89 m f) (hm : n * 3 ≤ m)
    (fa : ∀ j, j < 3 → f (a * 3 + j) = .int .i64 (fld x j)) (fb : ∀ j, j < 3 → f (b * 3 + j) = .int .i64 (fld y j)) :
    Calls Tryd.prog 57 #[.pointer (some ⟨hb, 0, none⟩), .int .i64 a, .int .i64 b] w fun e w' => e = .returned (.tuple #[]) ∧
      w' = ((((((w.setCell ⟨g, a * 3, none⟩ (.int .i64 y.f)).setCell ⟨g, a * 3 + 1, none⟩ (.int .i64 y.a)).setCell ⟨g, a * 3 + 2, none⟩ (.int .i64 y.p)).setCell ⟨g, b * 3, none⟩ (.int .i64 x.f)).setCell ⟨g, b * 3 + 1, none⟩ (.int .i64 x.a)).setCell ⟨g, b * 3 + 2, none⟩ (.int .i64 x.p)).drew := by
  have i1 : (a : Int) < (n : Int) := by omega
  have i2 : (b : Int) < (n : Int) := by omega
  have a0 : w.cell? ⟨g, a * 3, none⟩ = some (.int .i64 x.f) := by rw [hB.cell (by omega)]; exact congrArg some (fa 0 (by omega))
  have a1 : w.cell? ⟨g, a * 3 + 1, none⟩ = some (.int .i64 x.a) := by rw [hB.cell (by omega)]; exact congrArg some (fa 1 (by omega))
  have a2 : w.cell? ⟨g, a * 3 + 2, none⟩ = some (.int .i64 x.p) := by rw [hB.cell (by omega)]; exact congrArg some (fa 2 (by omega))
  have b0 : w.cell? ⟨g, b * 3, none⟩ = some (.int .i64 y.f) := by rw [hB.cell (by omega)]; exact congrArg some (fb 0 (by omega))
  have b1 : w.cell? ⟨g, b * 3 + 1, none⟩ = some (.int .i64 y.a) := by rw [hB.cell (by omega)]; exact congrArg some (fb 1 (by omega))
  have b2 : w.cell? ⟨g, b * 3 + 2, none⟩ = some (.int .i64 y.p) := by rw [hB.cell (by omega)]; exact congrArg some (fb 2 (by omega))
  have hfz := fun i => hB.frozen i
  have c0 : (w.setCell ⟨g, a * 3, none⟩ (.int .i64 y.f)).cell? ⟨g, b * 3, none⟩ = some (.int .i64 y.f) := by
    rw [(hB.set (a * 3) _).cell (by omega)]
    split
    · rfl
    · exact congrArg some (fb 0 (by omega))
  have c1 : ((w.setCell ⟨g, a * 3, none⟩ (.int .i64 y.f)).setCell ⟨g, a * 3 + 1, none⟩ (.int .i64 y.a)).cell? ⟨g, b * 3 + 1, none⟩ = some (.int .i64 y.a) := by
    rw [((hB.set (a * 3) _).set (a * 3 + 1) _).cell (by omega)]
    split
    · rfl
    · rw [if_neg (by omega)]; exact congrArg some (fb 1 (by omega))
  have c2 : (((w.setCell ⟨g, a * 3, none⟩ (.int .i64 y.f)).setCell ⟨g, a * 3 + 1, none⟩ (.int .i64 y.a)).setCell ⟨g, a * 3 + 2, none⟩ (.int .i64 y.p)).cell? ⟨g, b * 3 + 2, none⟩ = some (.int .i64 y.p) := by
    rw [(((hB.set (a * 3) _).set (a * 3 + 1) _).set (a * 3 + 2) _).cell (by omega)]
    split
    · rfl
    · rw [if_neg (by omega), if_neg (by omega)]; exact congrArg some (fb 2 (by omega))
  clear fa fb hB
  go_enter Tryd.func57, Tryd.ntmps57
  go_wp2
  go_region
  all_goals
    go_wp2
    go_end0
    exact ⟨rfl, rfl⟩

end Go.Proofs.YtlpopfhaephfaaaDoor.Ps

namespace Go.Proofs.YtlpopfhaephfaaaDoor.Ps
open Go.RowKit Go.Sort

/-- What reading a heap wants: its struct's two cells, and the items of the row. -/
structure HRead (w : World) (hb g cap : Nat) (L : List M3) : Prop where
  s0 : w.cell? ⟨hb, 0, none⟩ = some (.slice (some ⟨g, 0, none⟩) L.length cap)
  s1 : w.cell? ⟨hb, 1, none⟩ = some (.func (.func 56) #[] #[])
  it : ∀ i, i < L.length → w.cell? ⟨g, i * 3, none⟩ = some (.int .i64 (at3 L i).f) ∧ w.cell? ⟨g, i * 3 + 1, none⟩ = some (.int .i64 (at3 L i).a) ∧ w.cell? ⟨g, i * 3 + 2, none⟩ = some (.int .i64 (at3 L i).p)

theorem HRead.on {w w' : World} {hb g cap : Nat} {L : List M3} (h : HRead w hb g cap L) (hp : 0 < L.length) (hB : Below w.heap.size w w') : HRead w' hb g cap L := by
  have l1 : hb < w.heap.size := World.block_lt_of_cell? w ⟨hb, 0, none⟩ h.s0
  have l2 : g < w.heap.size := World.block_lt_of_cell? w ⟨g, 0 * 3, none⟩ (h.it 0 hp).1
  exact ⟨(hB.cell (p := ⟨hb, 0, none⟩) l1).trans h.s0, (hB.cell (p := ⟨hb, 1, none⟩) l1).trans h.s1, fun i hi => ⟨(hB.cell (p := ⟨g, i * 3, none⟩) l2).trans (h.it i hi).1, (hB.cell (p := ⟨g, i * 3 + 1, none⟩) l2).trans (h.it i hi).2.1, (hB.cell (p := ⟨g, i * 3 + 2, none⟩) l2).trans (h.it i hi).2.2⟩⟩

set_option maxHeartbeats 1000000 in
theorem firstOf_none (hb g cap p l r : Nat) (L : List M3) (w : World) (h : HRead w hb g cap L) (hl : L.length ≤ l) (hr : l ≤ r) :
    Calls Tryd.prog 58 #[.pointer (some ⟨hb, 0, none⟩), .int .i64 p, .int .i64 l, .int .i64 r] w fun e w' => e = .returned (.int .i64 (firstZ L p l r)) ∧ Below w.heap.size w w' := by
  have e1 : firstZ L p l r = p := by unfold firstZ; simp only; rw [if_neg (by omega), if_neg (by omega)]
  rw [e1]
  have s0 := h.s0
  obtain ⟨n, hN⟩ : ∃ n, n = L.length := ⟨_, rfl⟩
  rw [← hN] at s0
  have k0 := cell_regrown s0
  have g1 : decide ((l : Int) < (n : Int)) = false := by simp; omega
  have g2 : decide ((r : Int) < (n : Int)) = false := by simp; omega
  have g3 : decide (l < n) = false := by simp; omega
  have g4 : decide (r < n) = false := by simp; omega
  clear h e1 hN
  go_enter Tryd.func58, Tryd.ntmps58
  go_upto_region 2 with fail
  refine wp_region_quiet_below (by kernel_rfl) (by kernel_rfl) ?_
  repeat (go_big_quiet_step (fail))
  refine wpQuiet_nil ?_
  intro _ hw'
  obtain ⟨⟨dq, osq⟩, hw''⟩ := hw'
  have hBq := below_regrown w dq osq
  subst hw''
  have s0' := k0 dq osq
  generalize grow (redrawn w dq) osq = wq at *
  clear k0
  have k0 := cell_regrown s0'
  go_upto_region 4 with fail
  refine wp_region_quiet_below (by kernel_rfl) (by kernel_rfl) ?_
  repeat (go_big_quiet_step (fail))
  refine wpQuiet_nil ?_
  intro _ hw'
  obtain ⟨⟨dq, osq⟩, hw''⟩ := hw'
  have hBq2 := below_regrown wq dq osq
  subst hw''
  generalize grow (redrawn wq dq) osq = wq2 at *
  clear k0
  go_wp2
  go_ret
  exact ⟨rfl, below_on hBq hBq2⟩

set_option maxHeartbeats 2000000 in
theorem firstOf_one (hb g cap p l r : Nat) (L : List M3) (w : World) (h : HRead w hb g cap L) (hp : p < L.length) (hl : l < L.length) (hr : L.length ≤ r) :
    Calls Tryd.prog 58 #[.pointer (some ⟨hb, 0, none⟩), .int .i64 p, .int .i64 l, .int .i64 r] w fun e w' => e = .returned (.int .i64 (firstZ L p l r)) ∧ Below w.heap.size w w' := by
  have e1 : firstZ L p l r = if bef (at3 L l) (at3 L p) = true then l else p := by unfold firstZ; simp only; rw [if_neg (fun x => absurd x.1 (by omega))]; simp [hl]
  rw [e1]
  cases hb1 : bef (at3 L l) (at3 L p)
  all_goals
    obtain ⟨n, hN⟩ : ∃ n, n = L.length := ⟨_, rfl⟩
    have s0 := h.s0
    have s1 := h.s1
    obtain ⟨p0, p1, p2⟩ := h.it p hp
    obtain ⟨l0, l1, l2⟩ := h.it l hl
    rw [← hN] at s0
    have ce := fun d os => Calls.regrown_of (earlier_any (at3 L l) (at3 L p) (grow (redrawn w d) os) _ hb1)
    obtain ⟨x, hx⟩ : ∃ x, at3 L p = x := ⟨_, rfl⟩
    obtain ⟨y, hy⟩ : ∃ y, at3 L l = y := ⟨_, rfl⟩
    rw [hx] at p0 p1 p2 ce
    rw [hy] at l0 l1 l2 ce
    have k0 := cell_regrown s0
    have k1 := cell_regrown s1
    have kp0 := cell_regrown p0
    have kp1 := cell_regrown p1
    have kp2 := cell_regrown p2
    have kl0 := cell_regrown l0
    have kl1 := cell_regrown l1
    have kl2 := cell_regrown l2
    have lt1 : (p : Int) < (n : Int) := by omega
    have lt2 : (l : Int) < (n : Int) := by omega
    have nt2 : l < n := by omega
    have g2 : decide ((r : Int) < (n : Int)) = false := by simp; omega
    have g4 : decide (r < n) = false := by simp; omega
    clear h e1 hN hb1 hx hy
    go_enter Tryd.func58, Tryd.ntmps58
    go_upto_region 2 with fail
    refine wp_region_quiet_below (by kernel_rfl) (by kernel_rfl) ?_
    repeat (go_big_quiet_step (exact ce _ _))
    refine wpQuiet_nil ?_
    intro _ hw'
    obtain ⟨⟨dq, osq⟩, hw''⟩ := hw'
    have hBq := below_regrown w dq osq
    subst hw''
    have s0' := k0 dq osq
    clear k0 k1 kp0 kp1 kp2 kl0 kl1 kl2 ce
    generalize grow (redrawn w dq) osq = wq at *
    have k0 := cell_regrown s0'
    go_upto_region 4 with fail
    refine wp_region_quiet_below (by kernel_rfl) (by kernel_rfl) ?_
    repeat (go_big_quiet_step (fail))
    refine wpQuiet_nil ?_
    intro _ hw'
    obtain ⟨⟨dq, osq⟩, hw''⟩ := hw'
    have hBq2 := below_regrown wq dq osq
    subst hw''
    generalize grow (redrawn wq dq) osq = wq2 at *
    clear k0
    go_wp2
    go_ret
    exact ⟨rfl, below_on hBq hBq2⟩

set_option maxHeartbeats 4000000 in
theorem firstOf_two (hb g cap p l r : Nat) (L : List M3) (w : World) (h : HRead w hb g cap L) (hp : p < L.length) (hl : l < L.length) (hr : r < L.length) :
    Calls Tryd.prog 58 #[.pointer (some ⟨hb, 0, none⟩), .int .i64 p, .int .i64 l, .int .i64 r] w fun e w' => e = .returned (.int .i64 (firstZ L p l r)) ∧ Below w.heap.size w w' := by
  unfold firstZ
  simp only [hl, hr, true_and]
  cases hb1 : bef (at3 L l) (at3 L p)
  · simp only [Bool.false_eq_true, if_false]
    cases hb2 : bef (at3 L r) (at3 L p)
    all_goals
      obtain ⟨n, hN⟩ : ∃ n, n = L.length := ⟨_, rfl⟩
      have s0 := h.s0
      have s1 := h.s1
      obtain ⟨p0, p1, p2⟩ := h.it p hp
      obtain ⟨l0, l1, l2⟩ := h.it l hl
      rw [← hN] at s0
      have ce := fun d os => Calls.regrown_of (earlier_any (at3 L l) (at3 L p) (grow (redrawn w d) os) _ hb1)
      have ce2 := fun w d os => Calls.regrown_of (earlier_any (at3 L r) (at3 L p) (grow (redrawn w d) os) _ hb2)
      have hit := fun w' (hB : Below w.heap.size w w') => (h.on (by omega) hB).it
      obtain ⟨x, hx⟩ : ∃ x, at3 L p = x := ⟨_, rfl⟩
      obtain ⟨y, hy⟩ : ∃ y, at3 L l = y := ⟨_, rfl⟩
      obtain ⟨z, hz⟩ : ∃ z, at3 L r = z := ⟨_, rfl⟩
      have qp := fun w' (hB : Below w.heap.size w w') => hit w' hB p (by omega)
      have qr := fun w' (hB : Below w.heap.size w w') => hit w' hB r (by omega)
      clear hit
      simp only [hx, hy, hz] at p0 p1 p2 l0 l1 l2 ce ce2 qr qp
      have k0 := cell_regrown s0
      have k1 := cell_regrown s1
      have kp0 := cell_regrown p0
      have kp1 := cell_regrown p1
      have kp2 := cell_regrown p2
      have kl0 := cell_regrown l0
      have kl1 := cell_regrown l1
      have kl2 := cell_regrown l2
      have lt1 : (p : Int) < (n : Int) := by omega
      have lt2 : (l : Int) < (n : Int) := by omega
      have lt3 : (r : Int) < (n : Int) := by omega
      have nt2 : l < n := by omega
      have nt3 : r < n := by omega
      clear h hN hb1 hb2 hx hy hz
      go_enter Tryd.func58, Tryd.ntmps58
      go_upto_region 2 with fail
      refine wp_region_quiet_below (by kernel_rfl) (by kernel_rfl) ?_
      repeat (go_big_quiet_step (exact ce _ _))
      refine wpQuiet_nil ?_
      intro _ hw'
      obtain ⟨⟨dq, osq⟩, hw''⟩ := hw'
      have hBq := below_regrown w dq osq
      subst hw''
      have s0' := k0 dq osq
      have s1' := k1 dq osq
      clear k0 k1 kp0 kp1 kp2 kl0 kl1 kl2 ce p0 p1 p2 l0 l1 l2 s0 s1
      generalize grow (redrawn w dq) osq = wq at *
      obtain ⟨r0, r1, r2⟩ := qr _ hBq
      obtain ⟨t0, t1, t2⟩ := qp _ hBq
      clear qr qp
      have k0 := cell_regrown s0'
      have k1 := cell_regrown s1'
      have kr0 := cell_regrown r0
      have kr1 := cell_regrown r1
      have kr2 := cell_regrown r2
      have kt0 := cell_regrown t0
      have kt1 := cell_regrown t1
      have kt2 := cell_regrown t2
      go_upto_region 4 with fail
      refine wp_region_quiet_below (by kernel_rfl) (by kernel_rfl) ?_
      repeat (go_big_quiet_step (exact ce2 _ _ _))
      refine wpQuiet_nil ?_
      intro _ hw'
      obtain ⟨⟨dq, osq⟩, hw''⟩ := hw'
      have hBq2 := below_regrown wq dq osq
      subst hw''
      generalize grow (redrawn wq dq) osq = wq2 at *
      clear k0 k1 kr0 kr1 kr2 kt0 kt1 kt2 ce2
      go_wp2
      go_ret
      exact ⟨rfl, below_on hBq hBq2⟩
  · simp only [if_true]
    cases hb2 : bef (at3 L r) (at3 L l)
    all_goals
      obtain ⟨n, hN⟩ : ∃ n, n = L.length := ⟨_, rfl⟩
      have s0 := h.s0
      have s1 := h.s1
      obtain ⟨p0, p1, p2⟩ := h.it p hp
      obtain ⟨l0, l1, l2⟩ := h.it l hl
      rw [← hN] at s0
      have ce := fun d os => Calls.regrown_of (earlier_any (at3 L l) (at3 L p) (grow (redrawn w d) os) _ hb1)
      have ce2 := fun w d os => Calls.regrown_of (earlier_any (at3 L r) (at3 L l) (grow (redrawn w d) os) _ hb2)
      have hit := fun w' (hB : Below w.heap.size w w') => (h.on (by omega) hB).it
      obtain ⟨x, hx⟩ : ∃ x, at3 L p = x := ⟨_, rfl⟩
      obtain ⟨y, hy⟩ : ∃ y, at3 L l = y := ⟨_, rfl⟩
      obtain ⟨z, hz⟩ : ∃ z, at3 L r = z := ⟨_, rfl⟩
      have ql := fun w' (hB : Below w.heap.size w w') => hit w' hB l (by omega)
      have qr := fun w' (hB : Below w.heap.size w w') => hit w' hB r (by omega)
      clear hit
      simp only [hx, hy, hz] at p0 p1 p2 l0 l1 l2 ce ce2 qr ql
      have k0 := cell_regrown s0
      have k1 := cell_regrown s1
      have kp0 := cell_regrown p0
      have kp1 := cell_regrown p1
      have kp2 := cell_regrown p2
      have kl0 := cell_regrown l0
      have kl1 := cell_regrown l1
      have kl2 := cell_regrown l2
      have lt1 : (p : Int) < (n : Int) := by omega
      have lt2 : (l : Int) < (n : Int) := by omega
      have lt3 : (r : Int) < (n : Int) := by omega
      have nt2 : l < n := by omega
      have nt3 : r < n := by omega
      clear h hN hb1 hb2 hx hy hz
      go_enter Tryd.func58, Tryd.ntmps58
      go_upto_region 2 with fail
      refine wp_region_quiet_below (by kernel_rfl) (by kernel_rfl) ?_
      repeat (go_big_quiet_step (exact ce _ _))
      refine wpQuiet_nil ?_
      intro _ hw'
      obtain ⟨⟨dq, osq⟩, hw''⟩ := hw'
      have hBq := below_regrown w dq osq
      subst hw''
      have s0' := k0 dq osq
      have s1' := k1 dq osq
      clear k0 k1 kp0 kp1 kp2 kl0 kl1 kl2 ce p0 p1 p2 l0 l1 l2 s0 s1
      generalize grow (redrawn w dq) osq = wq at *
      obtain ⟨r0, r1, r2⟩ := qr _ hBq
      obtain ⟨t0, t1, t2⟩ := ql _ hBq
      clear qr ql
      have k0 := cell_regrown s0'
      have k1 := cell_regrown s1'
      have kr0 := cell_regrown r0
      have kr1 := cell_regrown r1
      have kr2 := cell_regrown r2
      have kt0 := cell_regrown t0
      have kt1 := cell_regrown t1
      have kt2 := cell_regrown t2
      go_upto_region 4 with fail
      refine wp_region_quiet_below (by kernel_rfl) (by kernel_rfl) ?_
      repeat (go_big_quiet_step (exact ce2 _ _ _))
      refine wpQuiet_nil ?_
      intro _ hw'
      obtain ⟨⟨dq, osq⟩, hw''⟩ := hw'
      have hBq2 := below_regrown wq dq osq
      subst hw''
      generalize grow (redrawn wq dq) osq = wq2 at *
      clear k0 k1 kr0 kr1 kr2 kt0 kt1 kt2 ce2
      go_wp2
      go_ret
      exact ⟨rfl, below_on hBq hBq2⟩

theorem firstOf_any (hb g cap p l r : Nat) (L : List M3) (w : World) (h : HRead w hb g cap L) (hp : p < L.length) (hr : l ≤ r) :
    Calls Tryd.prog 58 #[.pointer (some ⟨hb, 0, none⟩), .int .i64 p, .int .i64 l, .int .i64 r] w fun e w' => e = .returned (.int .i64 (firstZ L p l r)) ∧ Below w.heap.size w w' := by
  by_cases h1 : l < L.length
  · by_cases h2 : r < L.length
    · exact firstOf_two hb g cap p l r L w h hp h1 h2
    · exact firstOf_one hb g cap p l r L w h hp h1 (by omega)
  · exact firstOf_none hb g cap p l r L w h (by omega) hr

end Go.Proofs.YtlpopfhaephfaaaDoor.Ps

namespace Go.Proofs.YtlpopfhaephfaaaDoor.Ps
open Go.RowKit Go.Sort

/-- A heap of the program: its struct at block hb, its items in the slice v of the call's own. -/
def HeapAt (w : World) (hb lo : Nat) (v : Value) (L : List M3) : Prop := Blk w hb 116 2 (hcell v) ∧ w.ownsRow lo 89 3 v L.length (flat L)

theorem row_ne {w : World} {base e e' : Nat} {v : Value} {n : Nat} {xs : List Value} {sz g m : Nat} {f : Nat → Value} (h : w.ownsRow base e sz v n xs) (hb : Blk w g e' m f) (he : e' ≠ e) : v.ownBlock ≠ some g := by
  intro hv
  obtain ⟨ys, h1, _⟩ := hb
  rcases h.2 with ⟨rfl, _⟩ | ⟨g', cap, cur, rfl, _, hh, _⟩
  · cases hv
  · simp only [Value.ownBlock, Option.some.injEq] at hv
    subst hv
    rw [hh] at h1
    simp only [Option.some.injEq, Obj.cells.injEq] at h1
    exact he h1.2.1.symm

theorem HeapAt.open {w : World} {hb lo : Nat} {v : Value} {L : List M3} (h : HeapAt w hb lo v L) (hp : 0 < L.length) :
    ∃ g cap f, v = .slice (some ⟨g, 0, none⟩) L.length cap ∧ lo ≤ g ∧ L.length ≤ cap ∧ cap ≤ maxLen ∧ Blk w g 89 (cap * 3) f ∧ (∀ c, c < L.length * 3 → f c = cellL L c) ∧ HRead w hb g cap L := by
  rcases own_open h.2 with ⟨_, h0⟩ | ⟨g, cap, f, rfl, h1, h2, h3, h4, h5⟩
  · subst h0; simp at hp
  · have hl : L.length * 3 ≤ cap * 3 := Nat.mul_le_mul_right 3 h2
    refine ⟨g, cap, f, rfl, h1, h2, h3, h4, h5, ⟨h.1.cell (i := 0) (by omega), h.1.cell (i := 1) (by omega), fun i hi => ?_⟩⟩
    refine ⟨?_, ?_, ?_⟩
    · rw [h4.cell (by omega), h5 _ (by omega)]; unfold cellL; rw [show i * 3 / 3 = i by omega, show i * 3 % 3 = 0 by omega]; rfl
    · rw [h4.cell (by omega), h5 _ (by omega)]; unfold cellL; rw [show (i * 3 + 1) / 3 = i by omega, show (i * 3 + 1) % 3 = 1 by omega]; rfl
    · rw [h4.cell (by omega), h5 _ (by omega)]; unfold cellL; rw [show (i * 3 + 2) / 3 = i by omega, show (i * 3 + 2) % 3 = 2 by omega]; rfl

theorem HeapAt.on {w w' : World} {hb lo : Nat} {v : Value} {L : List M3} (h : HeapAt w hb lo v L) (hB : Below w.heap.size w w') : HeapAt w' hb lo v L := by
  refine ⟨h.1.below hB h.1.lt, h.2.1, ?_⟩
  rcases h.2.2 with h1 | ⟨g, cap, cur, h1, h2, h3, r⟩
  · exact .inl h1
  · exact .inr ⟨g, cap, cur, h1, h2, (hB.block g (Array.getElem?_eq_some_iff.1 h3).1).trans h3, r⟩

theorem swap_cells {L : List M3} {a b : Nat} (ha : a < L.length) (hb : b < L.length) {f : Nat → Value} (hf : ∀ c, c < L.length * 3 → f c = cellL L c) (c : Nat) (hc : c < L.length * 3) :
    (if c = b * 3 + 2 then Value.int .i64 (at3 L a).p else if c = b * 3 + 1 then Value.int .i64 (at3 L a).a else if c = b * 3 then Value.int .i64 (at3 L a).f else
      if c = a * 3 + 2 then Value.int .i64 (at3 L b).p else if c = a * 3 + 1 then Value.int .i64 (at3 L b).a else if c = a * 3 then Value.int .i64 (at3 L b).f else f c) = cellL (swapL L a b) c := by
  unfold cellL
  rw [swapL_at ha hb]
  by_cases e1 : c / 3 = b
  · rw [if_pos e1]
    rcases (show c % 3 = 0 ∨ c % 3 = 1 ∨ c % 3 = 2 by omega) with h | h | h
    · rw [if_neg (by omega), if_neg (by omega), if_pos (by omega), h]; rfl
    · rw [if_neg (by omega), if_pos (by omega), h]; rfl
    · rw [if_pos (by omega), h]; rfl
  · rw [if_neg e1, if_neg (show ¬ c = b * 3 + 2 by omega), if_neg (show ¬ c = b * 3 + 1 by omega), if_neg (show ¬ c = b * 3 by omega)]
    by_cases e2 : c / 3 = a
    · rw [if_pos e2]
      rcases (show c % 3 = 0 ∨ c % 3 = 1 ∨ c % 3 = 2 by omega) with h | h | h
      · rw [if_neg (by omega), if_neg (by omega), if_pos (by omega), h]; rfl
      · rw [if_neg (by omega), if_pos (by omega), h]; rfl
      · rw [if_pos (by omega), h]; rfl
    · rw [if_neg e2, if_neg (show ¬ c = a * 3 + 2 by omega), if_neg (show ¬ c = a * 3 + 1 by omega), if_neg (show ¬ c = a * 3 by omega), hf c hc]
      rfl

theorem grown_drew {w w' : World} {r : Option Nat} (h : w.grownBy w' r) : w.grownBy w'.drew r := ⟨h.os, h.tape, h.output, h.size, h.block⟩

theorem grown_set' {w wr : World} {g : Nat} (h : w.grownBy wr (some g)) {i : Nat} (v : Value) : w.grownBy (wr.setCell ⟨g, i, none⟩ v) (some g) :=
  ⟨h.os, h.tape, h.output, by simpa [World.setCell] using h.size, fun k hk hne => (Below.heap_setCell _ _ _ _ (fun e => hne (by rw [e]))).trans (h.block k hk hne)⟩

theorem swap_any (hb lo a b : Nat) (v : Value) (L : List M3) (w : World) (h : HeapAt w hb lo v L) (ha : a < L.length) (hb' : b < L.length) :
    Calls Tryd.prog 57 #[.pointer (some ⟨hb, 0, none⟩), .int .i64 a, .int .i64 b] w fun e w' => e = .returned (.tuple #[]) ∧ HeapAt w' hb lo v (swapL L a b) ∧ w.grownBy w' v.ownBlock := by
  obtain ⟨g, cap, f, rfl, h1, h2, h3, h4, h5, hr⟩ := h.open (by omega)
  have hne := row_ne h.2 h.1 (by decide)
  simp only [Value.ownBlock, ne_eq, Option.some.injEq] at hne
  have hl : L.length * 3 ≤ cap * 3 := Nat.mul_le_mul_right 3 h2
  refine (swap_walk hb g L.length cap (cap * 3) a b f (at3 L a) (at3 L b) w ha hb' hr.s0 h4 hl
    (fun j hj => by rw [h5 _ (by omega)]; unfold cellL; rw [show (a * 3 + j) / 3 = a by omega, show (a * 3 + j) % 3 = j by omega])
    (fun j hj => by rw [h5 _ (by omega)]; unfold cellL; rw [show (b * 3 + j) / 3 = b by omega, show (b * 3 + j) % 3 = j by omega])).mono ?_
  rintro e w' ⟨he, rfl⟩
  refine ⟨he, ⟨?_, ?_⟩, ?_⟩
  · exact ((((((h.1.set_other (fun x => hne x) _).set_other (fun x => hne x) _).set_other (fun x => hne x) _).set_other (fun x => hne x) _).set_other (fun x => hne x) _).set_other (fun x => hne x) _).drew
  · have := own_shut (base := lo) (e := 89) (L := swapL L a b) (cap := cap) h1 (by rw [swapL_length]; exact h2) h3 ((((((h4.set (a * 3) (.int .i64 (at3 L b).f)).set (a * 3 + 1) (.int .i64 (at3 L b).a)).set (a * 3 + 2) (.int .i64 (at3 L b).p)).set (b * 3) (.int .i64 (at3 L a).f)).set (b * 3 + 1) (.int .i64 (at3 L a).a)).set (b * 3 + 2) (.int .i64 (at3 L a).p)).drew
      (fun c hc => swap_cells ha hb' h5 c (by rw [swapL_length] at hc; exact hc))
    rw [swapL_length] at this ⊢
    exact this
  · exact grown_drew (grown_set' (grown_set' (grown_set' (grown_set' (grown_set' (grown_set' (World.grownBy.refl _ _) _) _) _) _) _) _)

theorem size_any (hb lo : Nat) (v : Value) (L : List M3) (w : World) (h : HeapAt w hb lo v L) :
    Calls Tryd.prog 34 #[.pointer (some ⟨hb, 0, none⟩)] w fun e w' => e = .returned (.int .i64 L.length) ∧ w' = w := by
  have hv : ∃ ao cap, v = .slice ao L.length cap := by
    rcases h.2.2 with ⟨rfl, h0⟩ | ⟨g, cap, cur, rfl, _⟩
    · exact ⟨none, 0, by rw [h0]⟩
    · exact ⟨_, cap, rfl⟩
  obtain ⟨ao, cap, rfl⟩ := hv
  have s0 : w.cell? ⟨hb, 0, none⟩ = some (.slice ao L.length cap) := h.1.cell (i := 0) (by omega)
  clear h
  go_enter Tryd.func34, Tryd.ntmps34
  go_wp2
  go_ret
  exact ⟨rfl, rfl⟩

end Go.Proofs.YtlpopfhaephfaaaDoor.Ps

namespace Go.Proofs.YtlpopfhaephfaaaDoor.Ps
open Go.RowKit Go.Sort

/-- All old blocks are as they were, but a heap's struct and the row of its items. -/
structure Fr (w w' : World) (hb : Nat) (r : Option Nat) : Prop where
  os : w'.os = w.os
  tape : w'.tape = w.tape
  output : w'.output = w.output
  size : w.heap.size ≤ w'.heap.size
  block : ∀ k, k < w.heap.size → k ≠ hb → some k ≠ r → w'.heap[k]? = w.heap[k]?

theorem Fr.refl (w : World) (hb : Nat) (r : Option Nat) : Fr w w hb r := ⟨rfl, rfl, rfl, Nat.le_refl _, fun _ _ _ _ => rfl⟩
theorem Fr.on {w w' w2 : World} {hb : Nat} {r : Option Nat} (h : Fr w w' hb r) (hB : Below w'.heap.size w' w2) : Fr w w2 hb r :=
  ⟨hB.os.trans h.os, hB.tape.trans h.tape, hB.output.trans h.output, Nat.le_trans h.size hB.size, fun k hk h1 h2 => (hB.block k (Nat.lt_of_lt_of_le hk h.size)).trans (h.block k hk h1 h2)⟩
theorem Fr.grown {w w' w2 : World} {hb : Nat} {r r' : Option Nat} (h : Fr w w' hb r) (hg : w'.grownBy w2 r') (hr : r' = r ∨ ∀ g, r' = some g → w.heap.size ≤ g) : Fr w w2 hb r :=
  ⟨hg.os.trans h.os, hg.tape.trans h.tape, hg.output.trans h.output, Nat.le_trans h.size hg.size, fun k hk h1 h2 => (hg.block k (Nat.lt_of_lt_of_le hk h.size) (fun e => by
    rcases hr with e1 | e1
    · exact h2 (e.trans e1)
    · have := e1 k e.symm; omega)).trans (h.block k hk h1 h2)⟩
theorem Fr.set {w w' : World} {hb : Nat} {r : Option Nat} (h : Fr w w' hb r) {i : Nat} (v : Value) : Fr w (w'.setCell ⟨hb, i, none⟩ v) hb r :=
  ⟨h.os, h.tape, h.output, by simpa [World.setCell] using h.size, fun k hk h1 h2 => (Below.heap_setCell _ _ _ _ h1).trans (h.block k hk h1 h2)⟩
theorem Fr.set_new {w w' : World} {hb : Nat} {r : Option Nat} (h : Fr w w' hb r) {a : Addr} (ha : w.heap.size ≤ a.block) (v : Value) : Fr w (w'.setCell a v) hb r :=
  ⟨h.os, h.tape, h.output, by simpa [World.setCell] using h.size, fun k hk h1 h2 => (Below.heap_setCell _ _ _ _ (by omega)).trans (h.block k hk h1 h2)⟩
theorem Fr.alloc {w w' : World} {hb : Nat} {r : Option Nat} (h : Fr w w' hb r) (o : Obj) : Fr w (w'.alloc o) hb r := h.on (below_alloc (Below.refl _ _) o)
theorem Fr.blk {w w' : World} {hb : Nat} {r : Option Nat} {g e m : Nat} {f : Nat → Value} (h : Fr w w' hb r) (hB : Blk w g e m f) (h1 : g ≠ hb) (h2 : some g ≠ r) : Blk w' g e m f := hB.of_block (h.block g hB.lt h1 h2)

theorem HeapAt.read {w : World} {hb lo g cap : Nat} {L : List M3} (h : HeapAt w hb lo (.slice (some ⟨g, 0, none⟩) L.length cap) L) : HRead w hb g cap L := by
  rcases Nat.eq_zero_or_pos L.length with h0 | hp
  · exact ⟨h.1.cell (i := 0) (by omega), h.1.cell (i := 1) (by omega), fun i hi => by omega⟩
  · obtain ⟨g', cap', f, hv, _, _, _, _, _, hr⟩ := h.open hp
    simp only [Value.slice.injEq, Option.some.injEq, Addr.mk.injEq, true_and] at hv
    obtain ⟨⟨rfl, _⟩, rfl⟩ := hv
    exact hr

theorem firstOf_all (hb g cap p : Nat) (L : List M3) (w : World) (h : HRead w hb g cap L) :
    Calls Tryd.prog 58 #[.pointer (some ⟨hb, 0, none⟩), .int .i64 p, .int .i64 (2 * (p : Int) + 1), .int .i64 (2 * (p : Int) + 2)] w fun e w' => e = .returned (.int .i64 (firstZ L p (2 * p + 1) (2 * p + 2))) ∧ Below w.heap.size w w' := by
  have e1 : (2 * (p : Int) + 1) = ((2 * p + 1 : Nat) : Int) := by omega
  have e2 : (2 * (p : Int) + 2) = ((2 * p + 2 : Nat) : Int) := by omega
  rw [e1, e2]
  by_cases h1 : 2 * p + 1 < L.length
  · exact firstOf_any hb g cap p (2 * p + 1) (2 * p + 2) L w h (by omega) (by omega)
  · exact firstOf_none hb g cap p (2 * p + 1) (2 * p + 2) L w h (by omega) (by omega)

theorem take_cells {L : List M3} {k : Nat} (hk : k ≤ L.length) {f : Nat → Value} (hf : ∀ c, c < L.length * 3 → f c = cellL L c) (c : Nat) (hc : c < (L.take k).length * 3) : f c = cellL (L.take k) c := by
  have hl : (L.take k).length = k := by simp; omega
  rw [hl] at hc
  rw [hf c (by omega)]
  unfold cellL at3
  have : (L.take k).getD (c / 3) m0 = L.getD (c / 3) m0 := by simp [List.getElem?_take_of_lt (show c / 3 < k by omega)]
  rw [this]

theorem swap_last {L : List M3} (hn : 0 < L.length) : (swapL L 0 (L.length - 1)).take (L.length - 1) ++ [at3 L 0] = swapL L 0 (L.length - 1) := by
  have hl : (swapL L 0 (L.length - 1)).length = L.length := swapL_length _ _ _
  have h1 := List.take_append_drop (L.length - 1) (swapL L 0 (L.length - 1))
  have h2 : (swapL L 0 (L.length - 1)).drop (L.length - 1) = [at3 L 0] := by
    rw [List.drop_eq_getElem_cons (by omega), List.drop_eq_nil_of_le (by omega)]
    have e := swapL_at (a := 0) (b := L.length - 1) hn (by omega) (L.length - 1)
    rw [if_pos rfl] at e
    unfold at3 at e ⊢
    rw [List.getD_eq_getElem?_getD, List.getElem?_eq_getElem (by omega)] at e
    simp only [Option.getD_some] at e
    rw [e]
  rw [h2] at h1
  exact h1

theorem pop_perm {L L' : List M3} (hn : 0 < L.length) (h : L'.Perm ((swapL L 0 (L.length - 1)).take (L.length - 1))) : (at3 L 0 :: L').Perm L := by
  have h1 : (at3 L 0 :: L').Perm (((swapL L 0 (L.length - 1)).take (L.length - 1)) ++ [at3 L 0]) := (List.Perm.cons _ h).trans (List.perm_append_singleton _ _).symm
  rw [swap_last hn] at h1
  exact h1.trans (swapL_perm hn (by omega))

theorem HeapAt.cut {w : World} {hb lo g cap k : Nat} {L : List M3} (h : HeapAt w hb lo (.slice (some ⟨g, 0, none⟩) L.length cap) L) (hp : 0 < L.length) (hk : k ≤ L.length) :
    HeapAt (w.setCell ⟨hb, 0, none⟩ (.slice (some ⟨g, 0, none⟩) k cap)) hb lo (.slice (some ⟨g, 0, none⟩) (L.take k).length cap) (L.take k) := by
  obtain ⟨g', cap', f, hv, h1, h2, h3, h4, h5, _⟩ := h.open hp
  simp only [Value.slice.injEq, Option.some.injEq, Addr.mk.injEq, true_and] at hv
  obtain ⟨⟨rfl, _⟩, rfl⟩ := hv
  have hl : (L.take k).length = k := by simp; omega
  have hne := row_ne h.2 h.1 (by decide)
  simp only [Value.ownBlock, ne_eq, Option.some.injEq] at hne
  refine ⟨(h.1.set 0 _).congr (fun i _ => ?_), own_shut h1 (by omega) h3 (h4.set_other (fun x => hne x.symm) _) (take_cells hk h5)⟩
  unfold hcell
  rw [hl]
  by_cases e : i = 0
  · simp [e]
  · simp [e]

theorem HeapAt.cut0 {w : World} {hb lo g cap k n : Nat} {L : List M3} (h : HeapAt w hb lo (.slice (some ⟨g, 0, none⟩) L.length cap) (swapL L 0 (n - 1))) (_hn : n = L.length) (hp : 0 < L.length) (hk : k ≤ L.length) :
    HeapAt (w.setCell ⟨hb, 0, none⟩ (.slice (some ⟨g, 0, none⟩) k cap)) hb lo (.slice (some ⟨g, 0, none⟩) ((swapL L 0 (n - 1)).take k).length cap) ((swapL L 0 (n - 1)).take k) := by
  have e : (swapL L 0 (n - 1)).length = L.length := swapL_length _ _ _
  rw [← e] at h
  exact h.cut (by omega) (by omega)

theorem own_set {w : World} {base e sz n : Nat} {v : Value} {xs : List Value} (h : w.ownsRow base e sz v n xs) {a : Addr} (ha : v.ownBlock ≠ some a.block) (u : Value) : (w.setCell a u).ownsRow base e sz v n xs := by
  refine ⟨h.1, ?_⟩
  rcases h.2 with h1 | ⟨g, cap, cur, rfl, h2, h3, r⟩
  · exact .inl h1
  · refine .inr ⟨g, cap, cur, rfl, h2, ?_, r⟩
    rw [Below.heap_setCell _ _ _ _ (fun x => ha (by simp [Value.ownBlock, x]))]
    exact h3

theorem heap_boxes {w : World} {hb lo B : Nat} {v : Value} {L : List M3} (h : HeapAt w hb lo v L) (hB : B ≠ hb) (hv : v.ownBlock ≠ some B) (u0 u1 u2 : Value) : HeapAt (((w.setCell ⟨B, 0, none⟩ u0).setCell ⟨B, 1, none⟩ u1).setCell ⟨B, 2, none⟩ u2) hb lo v L :=
  ⟨((h.1.set_other (a := ⟨B, 0, none⟩) hB _).set_other (a := ⟨B, 1, none⟩) hB _).set_other (a := ⟨B, 2, none⟩) hB _, own_set (own_set (own_set h.2 (a := ⟨B, 0, none⟩) hv _) (a := ⟨B, 1, none⟩) hv _) (a := ⟨B, 2, none⟩) hv _⟩

def topcell (m : M3) : Nat → Value := fun j => .int .i64 (fld m j)

set_option maxHeartbeats 2000000 in
theorem pop_any (hb lo : Nat) (v : Value) (L : List M3) (w : World) (h : HeapAt w hb lo v L) (hp : 0 < L.length) (hn : L.length ≤ 1000000) (hH : HeapL L) :
    Calls Tryd.prog 35 #[.pointer (some ⟨hb, 0, none⟩)] w fun e w' => e = .returned (.agg #[.int .i64 (at3 L 0).f, .int .i64 (at3 L 0).a, .int .i64 (at3 L 0).p]) ∧
      ∃ v' L', HeapAt w' hb lo v' L' ∧ HeapL L' ∧ (at3 L 0 :: L').Perm L ∧ v'.ownBlock = v.ownBlock ∧ Fr w w' hb v.ownBlock := by
  obtain ⟨g, cap, f, rfl, h1, h2, h3, h4, h5, hr⟩ := h.open hp
  have hne := row_ne h.2 h.1 (by decide)
  simp only [Value.ownBlock, ne_eq, Option.some.injEq] at hne
  have hg := h4.lt
  have hhb := h.1.lt
  have s0 := hr.s0
  obtain ⟨t0, t1, t2⟩ := hr.it 0 hp
  simp only [Nat.zero_mul, Nat.zero_add] at t0 t1 t2
  obtain ⟨n, hN⟩ : ∃ n, n = L.length := ⟨_, rfl⟩
  have HN : Hid (n = L.length) := hN
  obtain ⟨x, hx⟩ : ∃ x, at3 L 0 = x := ⟨_, rfl⟩
  rw [← hN] at s0
  have HX : Hid (at3 L 0 = x) := hx
  rw [hx] at t0 t1 t2 ⊢
  have hn0 : (0 : Int) < (n : Int) := by omega
  have hn1 : n ≤ 1000000 := by omega
  have hcs : n ≤ cap := by omega
  have hsw := fun W (hW : HeapAt W hb lo (.slice (some ⟨g, 0, none⟩) L.length cap) L) => swap_any hb lo 0 (n - 1) _ L W hW hp (by omega)
  have hc1 : ((n - 1 : Nat) : Int) = (n : Int) - 1 := by omega
  rw [hc1] at hsw
  have H : Hid (HeapAt w hb lo (.slice (some ⟨g, 0, none⟩) L.length cap) L) := h
  clear h hr hN hx hc1
  go_enter Tryd.func35, Tryd.ntmps35
  go_wp2_with fail
  refine (hsw _ (H.out.on (by repeat (first | exact Below.refl _ _ | assumption | refine below_alloc ?_ _ | refine Below.setCell ?_ (by first | omega | (simp; done) | (simp; omega)) _ | refine Below.alloc ?_ (by first | omega | (simp; done) | (simp; omega)) _ | refine Below.drew ?_)))).mono ?_
  rintro e w1 ⟨rfl, hA1, hG1⟩
  have bR : Blk w1 w.heap.size 89 3 (fun _ => .int .i64 0) := Blk.grown ((Blk.new w #[.int .i64 0, .int .i64 0, .int .i64 0] 89 (fun _ => .int .i64 0) (fun i hi => by match i, hi with | 0, _ => rfl | 1, _ => rfl | 2, _ => rfl)).alloc _) hG1 (by simp [Value.ownBlock]; omega)
  have bT : Blk w1 (w.heap.size + 1) 89 3 (topcell x) := by
    have := Blk.new (w.alloc (.cells #[.int .i64 0, .int .i64 0, .int .i64 0] 89)) #[.int .i64 x.f, .int .i64 x.a, .int .i64 x.p] 89 (topcell x) (fun i hi => by match i, hi with | 0, _ => rfl | 1, _ => rfl | 2, _ => rfl)
    rw [World.size_alloc] at this
    exact this.grown hG1 (by simp [Value.ownBlock]; omega)
  have F1 : Fr w w1 hb (some g) := (((Fr.refl w hb (some g)).alloc _).alloc _).grown hG1 (.inl rfl)
  have e0 : w1.cell? ⟨hb, 0, none⟩ = some (.slice (some ⟨g, 0, none⟩) n cap) := by have := hA1.1.cell (i := 0) (by omega); rw [this]; simp [hcell, HN.out]
  have z0 := hA1.1.frozen 0
  have HA : Hid (HeapAt w1 hb lo (.slice (some ⟨g, 0, none⟩) L.length cap) (swapL L 0 (n - 1))) := hA1
  have hc2 : (n : Int) - 1 ≤ (cap : Int) := by omega
  have hc3 : (0 : Int) ≤ (n : Int) - 1 := by omega
  clear hsw hA1 hG1 s0 t0 t1 t2
  go_wp2_with fail
  go_loopw [5] (fun q wr => ∃ (p : Nat) (L' : List M3), q = .int .i64 p ∧ L'.length = n - 1 ∧ (p = 0 ∨ p < n - 1) ∧ HeapAt wr hb lo (.slice (some ⟨g, 0, none⟩) L'.length cap) L' ∧ DownL L' p ∧ L'.Perm ((swapL L 0 (L.length - 1)).take (L.length - 1)) ∧
      Blk wr w.heap.size 89 3 (fun _ => .int .i64 0) ∧ Blk wr (w.heap.size + 1) 89 3 (topcell x) ∧ Fr w wr hb (some g)) (fun q _ => n - (intOf q).toNat)
  case atStart =>
    have hcut := HA.out.cut0 (n := n) HN.out hp (k := n - 1) (by have := HN.out; omega)
    have hL : (swapL L 0 (n - 1)).length = n := by rw [swapL_length, HN.out]
    refine ⟨0, (swapL L 0 (n - 1)).take (n - 1), rfl, by simp [hL], .inl rfl, hcut, ?_, ?_, bR.set_other (by simp; omega) _, bT.set_other (by simp; omega) _, F1.set _⟩
    · rw [HN.out]; exact DownL.start hH hp
    · rw [HN.out]
  case round =>
    obtain ⟨p, L', rfl, hl, hpp, hA, hD, hP, bR, bT, hF⟩ := hrel
    have hfo := firstOf_all hb g cap p L' wr hA.read
    obtain ⟨c, hc⟩ : ∃ c, firstZ L' p (2 * p + 1) (2 * p + 2) = c := ⟨_, rfl⟩
    rw [hc] at hfo
    have hp2 : (p : Int) ≤ 1000000 := by omega
    go_wp2_with fail
    refine hfo.mono ?_
    rintro e w2 ⟨rfl, hB2⟩
    have hA2 := hA.on hB2
    have bR2 := bR.below hB2 bR.lt
    have bT2 := bT.below hB2 bT.lt
    have hF2 := hF.on hB2
    clear hfo hA bR bT hF hB2
    by_cases hcp : c = p
    · have hh := firstZ_same hD (hc.trans hcp)
      subst hcp
      have q0 : w2.cell? ⟨w.heap.size + 1, 0, none⟩ = some (.int .i64 x.f) := bT2.cell (i := 0) (by omega)
      have q1 : w2.cell? ⟨w.heap.size + 1, 1, none⟩ = some (.int .i64 x.a) := bT2.cell (i := 1) (by omega)
      have q2 : w2.cell? ⟨w.heap.size + 1, 2, none⟩ = some (.int .i64 x.p) := bT2.cell (i := 2) (by omega)
      have r0 := bR2.cell (i := 0) (by omega)
      have r1 := bR2.cell (i := 1) (by omega)
      have r2 := bR2.cell (i := 2) (by omega)
      have y0 := bR2.frozen 0
      have y1 := bR2.frozen 1
      have y2 := bR2.frozen 2
      go_wp2
      have hA3 := heap_boxes hA2 (B := w.heap.size) (by omega) (by simp [Value.ownBlock]; omega) (.int .i64 x.f) (.int .i64 x.a) (.int .i64 x.p)
      have hF3 := ((hF2.set_new (a := ⟨w.heap.size, 0, none⟩) (Nat.le_refl _) (.int .i64 x.f)).set_new (a := ⟨w.heap.size, 1, none⟩) (Nat.le_refl _) (.int .i64 x.a)).set_new (a := ⟨w.heap.size, 2, none⟩) (Nat.le_refl _) (.int .i64 x.p)
      have hPP := pop_perm hp hP
      rw [HX.out] at hPP
      exact bodyPost_ret (v := .agg #[.int .i64 x.f, .int .i64 x.a, .int .i64 x.p]) (by simp [results, Tryd.results35, go_sem, r0, r1, r2]) rfl ⟨rfl, .slice (some ⟨g, 0, none⟩) L'.length cap, L', hA3, hh, hPP, rfl, hF3⟩
    · obtain ⟨hcl, hcc, _, _⟩ := firstZ_other hc hcp
      have hpl : p < L'.length := by omega
      have hD2 := hD.step hpl hc hcp
      have hP2 := (swapL_perm hcl hpl).trans hP
      have hsw := swap_any hb lo c p _ L' w2 hA2 hcl hpl
      have hne2 : ((c : Int) == (p : Int)) = false := by simp; omega
      have hne3 : (c == p) = false := by simp [hcp]
      go_wp2_with fail
      refine hsw.mono ?_
      rintro e w3 ⟨rfl, hA3, hG3⟩
      have hF3 := hF2.grown hG3 (.inl rfl)
      have bR3 := bR2.grown hG3 (by simp [Value.ownBlock]; omega)
      have bT3 := bT2.grown hG3 (by simp [Value.ownBlock]; omega)
      have hl3 : (swapL L' c p).length = L'.length := swapL_length _ _ _
      clear hsw hA2 bR2 bT2 hF2 hG3
      go_wp2_with fail
      go_roundw
      case rel => exact ⟨c, swapL L' c p, rfl, by omega, by omega, by rw [hl3]; exact hA3, hD2, hP2, bR3, bT3, hF3⟩
      case measure => simp [intOf]; omega

end Go.Proofs.YtlpopfhaephfaaaDoor.Ps

namespace Go.Proofs.YtlpopfhaephfaaaDoor.Ps
open Go.RowKit Go.Sort

theorem Tryd.infoM : (Tryd.prog.info? 89).map (fun i => (i.zero, i.size, i.bytes)) = some (some (.agg #[.int .i64 0, .int .i64 0, .int .i64 0]), 3, 24) := by kernel_rfl

theorem own_alloc {w : World} {base e sz n : Nat} {v : Value} {xs : List Value} (h : w.ownsRow base e sz v n xs) (o : Obj) : (w.alloc o).ownsRow base e sz v n xs := h.alloc o

/-- behind an append: the slice is written out -/
theorem own_pos {w : World} {base e n : Nat} {v : Value} {xs : List Value} (h : w.ownsRow base e 3 v n xs) (hn : 0 < n) : ∃ g cap, v = .slice (some ⟨g, 0, none⟩) n cap := by
  rcases h.2 with ⟨_, h0⟩ | ⟨g, cap, cur, rfl, _⟩
  · omega
  · exact ⟨g, cap, rfl⟩

theorem cells3_new (w : World) (a b c : Value) (t : TypeId) : ∀ j u, [a, b, c][j]? = some u → (w.alloc (.cells #[a, b, c] t)).cell? ((⟨w.heap.size, 0, none⟩ : Addr).add j) = some u := by
  intro j u hj
  match j, hj with
  | 0, hj => simp at hj; subst hj; simp [Addr.add]
  | 1, hj => simp at hj; subst hj; simp [Addr.add]
  | 2, hj => simp at hj; subst hj; simp [Addr.add]

theorem heap_grown {w W w1 : World} {hb lo n : Nat} {v v' : Value} {L : List M3} {x : M3} (hw : Fr w W hb v.ownBlock) (hWh : Blk W hb 116 2 (hcell v)) (hrow : W.ownsRow lo 89 3 v L.length (flat L)) (hn : n = L.length)
    (hown : w1.ownsRow lo 89 3 v' (n + 1) (flat L ++ [.int .i64 x.f, .int .i64 x.a, .int .i64 x.p])) (hg : W.grownBy w1 v.ownBlock) :
    HeapAt (w1.setCell ⟨hb, 0, none⟩ v') hb lo v' (L ++ [x]) ∧ Fr w (w1.setCell ⟨hb, 0, none⟩ v') hb v.ownBlock := by
  have h1 := hWh.grown hg (row_ne hrow hWh (by decide))
  have h2 : w1.ownsRow lo 89 3 v' (L ++ [x]).length (flat (L ++ [x])) := by rw [flat_snoc]; simpa [← hn] using hown
  refine ⟨⟨(h1.set 0 v').congr (fun i _ => by unfold hcell; by_cases e : i = 0 <;> simp [e]), own_set h2 (row_ne h2 h1 (by decide)) _⟩, (hw.grown hg (.inl rfl)).set _⟩

set_option maxHeartbeats 2000000 in
set_option maxRecDepth 100000 in
theorem push_any (hb lo : Nat) (v : Value) (L : List M3) (x : M3) (w : World) (h : HeapAt w hb lo v L) (hlo : lo ≤ w.heap.size) (hn : L.length ≤ 1000000) (hH : HeapL L) :
    Calls Tryd.prog 36 #[.pointer (some ⟨hb, 0, none⟩), .agg #[.int .i64 x.f, .int .i64 x.a, .int .i64 x.p]] w fun e w' => e = .returned (.tuple #[]) ∧
      ∃ v' L', HeapAt w' hb lo v' L' ∧ HeapL L' ∧ L'.Perm (L ++ [x]) ∧ (v'.ownBlock = v.ownBlock ∨ ∃ g, v'.ownBlock = some g ∧ w.heap.size ≤ g) ∧ Fr w w' hb v.ownBlock := by
  obtain ⟨i0, hi, hz0, hz1, hz2⟩ := info_parts Tryd.infoM
  have hhb := h.1.lt
  have s0 : w.cell? ⟨hb, 0, none⟩ = some v := h.1.cell (i := 0) (by omega)
  have z0 := h.1.frozen 0
  obtain ⟨n, hN⟩ : ∃ n, n = L.length := ⟨_, rfl⟩
  have HN : Hid (n = L.length) := hN
  have hs1 : hb < w.heap.size + 1 := by omega
  have hs2 : hb < w.heap.size + 1 + 1 := by omega
  have hn1 : n ≤ 1000000 := by omega
  have H : Hid (HeapAt w hb lo v L) := h
  have hrow : w.ownsRow lo 89 3 v n (flat L) := by rw [hN]; exact h.2
  have hnw : ∀ j u, [Value.int .i64 x.f, Value.int .i64 x.a, Value.int .i64 x.p][j]? = some u → ((w.alloc (.cells #[.int .i64 x.f, .int .i64 x.a, .int .i64 x.p] 89)).alloc (.cells #[.int .i64 x.f, .int .i64 x.a, .int .i64 x.p] 89)).drew.cell? ((⟨w.heap.size + 1, 0, none⟩ : Addr).add j) = some u := by
    have := cells3_new (w.alloc (.cells #[.int .i64 x.f, .int .i64 x.a, .int .i64 x.p] 89)) (.int .i64 x.f) (.int .i64 x.a) (.int .i64 x.p) 89
    simp only [World.size_alloc] at this
    exact this
  have hv : ∃ ao cap, v = .slice ao n cap := by
    rcases hrow.2 with ⟨rfl, h0⟩ | ⟨g, cap, cur, rfl, _⟩
    · exact ⟨none, 0, by rw [h0]⟩
    · exact ⟨_, cap, rfl⟩
  obtain ⟨ao, cap, rfl⟩ := hv
  clear h hN
  go_enter Tryd.func36, Tryd.ntmps36
  go_upto_region 1 with fail
  go_cut [] from 6 (fun wc => ∃ v', HeapAt wc hb lo v' (L ++ [x]) ∧ (v'.ownBlock = (Value.slice ao n cap).ownBlock ∨ ∃ g, v'.ownBlock = some g ∧ w.heap.size ≤ g) ∧ Fr w wc hb (Value.slice ao n cap).ownBlock)
  case first =>
    have bW : Blk ((w.alloc (.cells #[.int .i64 x.f, .int .i64 x.a, .int .i64 x.p] 89)).alloc (.cells #[.int .i64 x.f, .int .i64 x.a, .int .i64 x.p] 89)).drew hb 116 2 (hcell (.slice ao n cap)) := ((H.out.1.alloc _).alloc _).drew
    have rW : ((w.alloc (.cells #[.int .i64 x.f, .int .i64 x.a, .int .i64 x.p] 89)).alloc (.cells #[.int .i64 x.f, .int .i64 x.a, .int .i64 x.p] 89)).drew.ownsRow lo 89 3 (.slice ao n cap) L.length (flat L) := by rw [← HN.out]; exact ((hrow.alloc _).alloc _)
    have fW : Fr w ((w.alloc (.cells #[.int .i64 x.f, .int .i64 x.a, .int .i64 x.p] 89)).alloc (.cells #[.int .i64 x.f, .int .i64 x.a, .int .i64 x.p] 89)).drew hb (Value.slice ao n cap).ownBlock := (Fr.refl _ _ _).on (below_alloc (below_alloc (Below.refl _ _) _) _).drew
    go_region_law (refine step_append_own rfl (.tmp 10) (.tmp 12) 114 rfl lo 89 i0 (.agg #[.int .i64 0, .int .i64 0, .int .i64 0]) 3 24 Tryd.underlying114 hi hz0 hz1 hz2 rfl (by decide) (.slice ao n cap) _ _ rfl ((hrow.alloc _).alloc _) ⟨w.heap.size + 1, 0, none⟩ 1 1 [.int .i64 x.f, .int .i64 x.a, .int .i64 x.p] rfl rfl hnw (by simp [Value.oneCell']) (by unfold maxLen; omega) (by omega) (by simp; omega) ?_; intro v' w1 hown' hgrow hloc; obtain ⟨g', cap', hv'⟩ := own_pos hown' (by omega); subst hv'; have hR := heap_grown fW bW rW HN.out hown' hgrow; have bH := bW.grown hgrow (row_ne rW bW (by decide)); have y0 := bH.cell (i := 0) (by omega); have y1 := bH.frozen 0)
    all_goals
      go_wp2_with fail
      go_meet
      case rel => exact ⟨_, hR.1, hloc.imp id (fun h => ⟨_, h, by simp; omega⟩), hR.2⟩
  case rest =>
    obtain ⟨v1, hA1, hloc1, hF1⟩ := hcut
    clear s0 z0 hs1 hs2 hrow hnw
    have hlen : (L ++ [x]).length = n + 1 := by simp [HN.out]
    obtain ⟨g, cp, fx, rfl, _, _, _, _, _, hr⟩ := hA1.open (by omega)
    have s0 := hr.s0
    rw [hlen] at s0
    clear hr
    have HU : Hid (UpL (L ++ [x]) n) := by have := UpL.start hH x; rw [← HN.out] at this; exact this
    go_wp2_with fail
    go_loopw [4] (fun q wr => ∃ (c : Nat) (L' : List M3), q = .int .i64 c ∧ c ≤ n ∧ L'.length = n + 1 ∧ HeapAt wr hb lo (.slice (some ⟨g, 0, none⟩) L'.length cp) L' ∧ UpL L' c ∧ L'.Perm (L ++ [x]) ∧ Fr w wr hb (Value.slice ao n cap).ownBlock) (fun q _ => (intOf q).toNat)
    case atStart => exact ⟨n, L ++ [x], by go_num, Nat.le_refl _, hlen, hA1, HU.out, List.Perm.refl _, hF1⟩
    case round =>
      obtain ⟨c, L', rfl, hc, hl, hA, hU, hP, hF⟩ := hrel
      clear hA1 hF1 s0
      rcases Nat.eq_zero_or_pos c with rfl | hc0
      · go_wp2
        go_end0
        exact ⟨rfl, _, L', hA, hU.done0, hP, hloc1, hF⟩
      · have hpar : ((c : Int) - 1) / 2 = ((par c : Nat) : Int) := by unfold par; omega
        have hpl : par c < c := by unfold par; omega
        have hrd := hA.read
        obtain ⟨b1, hb1⟩ : ∃ b, bef (at3 L' c) (at3 L' (par c)) = b := ⟨_, rfl⟩
        obtain ⟨p0, p1, p2⟩ := hrd.it c (by omega)
        obtain ⟨q0, q1, q2⟩ := hrd.it (par c) (by omega)
        have s0 := hrd.s0
        have s1 := hrd.s1
        have ce := fun d os => Calls.regrown_of (earlier_any (at3 L' c) (at3 L' (par c)) (grow (redrawn wr d) os) b1 hb1)
        obtain ⟨y, hy⟩ : ∃ y, at3 L' c = y := ⟨_, rfl⟩
        obtain ⟨z, hz⟩ : ∃ z, at3 L' (par c) = z := ⟨_, rfl⟩
        rw [hy] at p0 p1 p2 ce
        rw [hz] at q0 q1 q2 ce
        rw [hl] at s0
        have k0 := cell_regrown s0
        have k1 := cell_regrown s1
        have kp0 := cell_regrown p0
        have kp1 := cell_regrown p1
        have kp2 := cell_regrown p2
        have kq0 := cell_regrown q0
        have kq1 := cell_regrown q1
        have kq2 := cell_regrown q2
        have lt1 : (c : Int) < (n : Int) + 1 := by omega
        have lt2 : ((par c : Nat) : Int) < (n : Int) + 1 := by omega
        have hpt : (((c : Int) - 1) / 2).toNat = par c := by omega
        have lt3 : ((c : Int) - 1) / 2 < (n : Int) + 1 := by omega
        have lt4 : 0 ≤ ((c : Int) - 1) / 2 := by omega
        have HPar : Hid (((c : Int) - 1) / 2 = ((par c : Nat) : Int)) := hpar
        clear hrd hy hz hpar
        go_upto_region 5 with fail
        refine wp_region_quiet_below (by kernel_rfl) (by kernel_rfl) ?_
        repeat (go_big_quiet_step (exact ce _ _))
        refine wpQuiet_nil ?_
        intro _ hw'
        obtain ⟨⟨dq, osq⟩, hw''⟩ := hw'
        have hBq := below_regrown wr dq osq
        subst hw''
        generalize grow (redrawn wr dq) osq = wq at *
        clear k0 k1 kp0 kp1 kp2 kq0 kq1 kq2 ce s0 s1 p0 p1 p2 q0 q1 q2
        have hA2 := hA.on hBq
        have hF2 := hF.on hBq
        clear hA hF hBq
        cases b1
        · go_wp2
          exact bodyPost_ret (results_none rfl _ _ _) rfl ⟨rfl, _, L', hA2, hU.done hb1, hP, hloc1, hF2⟩
        · have hsw := swap_any hb lo c (par c) _ L' wq hA2 (by omega) (by omega)
          rw [← HPar.out] at hsw
          have hU2 := hU.step hc0 (by omega) hb1
          have hP2 := (swapL_perm (show c < L'.length by omega) (show par c < L'.length by omega)).trans hP
          go_wp2_with fail
          refine hsw.mono ?_
          rintro e w3 ⟨rfl, hA3, hG3⟩
          have hl3 : (swapL L' c (par c)).length = L'.length := swapL_length _ _ _
          have hF3 := hF2.grown hG3 (by
            rcases hloc1 with e | ⟨g1, e, hg1⟩
            · exact .inl e
            · refine .inr fun g2 e2 => ?_
              simp only [Value.ownBlock, Option.some.injEq] at e e2
              omega)
          clear hsw hA2 hF2 hG3
          go_wp2_with fail
          go_roundw
          case rel => exact ⟨par c, swapL L' c (par c), by rw [HPar.out], by omega, by omega, by rw [hl3]; exact hA3, hU2, hP2, hF3⟩
          case measure => simp [intOf]; omega

end Go.Proofs.YtlpopfhaephfaaaDoor.Ps

namespace Go.Proofs.YtlpopfhaephfaaaDoor.Ps
open Go.RowKit Go.Maps

/-- A slice of n ints Z 0 .. in a block from 'base' on, or an empty one. -/
def IntF (w : World) (base : Nat) (v : Value) (n : Nat) (Z : Nat → Int) : Prop :=
  ∃ ao cap, v = .slice ao n cap ∧ (n = 0 ∨ ∃ g m f, ao = some ⟨g, 0, none⟩ ∧ base ≤ g ∧ n ≤ m ∧ Blk w g 3 m f ∧ ∀ i, i < n → f i = .int .i64 (Z i))

theorem IntF.of_owns {w : World} {base : Nat} {v : Value} {zs : List Int} (h : w.ownsInts base 3 .i64 v zs) : IntF w base v zs.length (fun i => zs.getD i 0) := by
  rcases h.1.2 with ⟨rfl, h0⟩ | ⟨g, cap, cur, rfl, hb, hh, hn, hm, hs, ht⟩
  · exact ⟨none, 0, by rw [h0], .inl h0⟩
  · refine ⟨_, cap, rfl, .inr ⟨g, cap, fun i => cur.toList.getD i (.int .i64 0), rfl, hb, hn, ⟨cur, hh, by simpa using hs, fun i hi => ?_⟩, fun i hi => ?_⟩⟩
    · have : i < cur.size := by rw [hs]; omega
      simp [this]
    · have e : (cur.toList.take (zs.length * 1))[i]? = (zs.map (Value.int .i64))[i]? := by rw [ht]
      rw [List.getElem?_take_of_lt (by omega)] at e
      simp only [List.getElem?_map, List.getElem?_eq_getElem hi, Option.map_some] at e
      simp [List.getD, e, List.getElem?_eq_getElem hi]

theorem IntF.of_block {w w' : World} {base n : Nat} {v : Value} {Z : Nat → Int} (h : IntF w base v n Z) (hb : ∀ g m f, Blk w g 3 m f → base ≤ g → w'.heap[g]? = w.heap[g]?) : IntF w' base v n Z := by
  obtain ⟨ao, cap, rfl, h0 | ⟨g, m, f, rfl, h1, h2, h3, h4⟩⟩ := h
  · exact ⟨ao, cap, rfl, .inl h0⟩
  · exact ⟨_, cap, rfl, .inr ⟨g, m, f, rfl, h1, h2, h3.of_block (hb g m f h3 h1), h4⟩⟩

theorem IntF.on {w w' : World} {base n : Nat} {v : Value} {Z : Nat → Int} (h : IntF w base v n Z) (hb : Below w.heap.size w w') : IntF w' base v n Z := h.of_block fun g _ _ h1 _ => hb.block g h1.lt
theorem IntF.drew {w : World} {base n : Nat} {v : Value} {Z : Nat → Int} (h : IntF w base v n Z) : IntF w.drew base v n Z := h
theorem IntF.alloc {w : World} {base n : Nat} {v : Value} {Z : Nat → Int} (h : IntF w base v n Z) (o : Obj) : IntF (w.alloc o) base v n Z := h.of_block fun _ _ _ h1 _ => Below.heap_alloc _ _ _ h1.lt

/-- a write to a row of counters leaves it alone -/
theorem IntF.marked {w w' : World} {base n gx m : Nat} {v : Value} {Z : Nat → Int} {f : Nat → Value} {e : Nat} (h : IntF w base v n Z) (hx : Blk w gx e m f) (he : e ≠ 3) (hg : w.grownBy w' (some gx)) : IntF w' base v n Z :=
  h.of_block fun g _ _ h1 _ => hg.block g h1.lt (fun e1 => by
    simp only [Option.some.injEq] at e1; subst e1
    obtain ⟨_, a1, _⟩ := h1; obtain ⟨_, a2, _⟩ := hx
    rw [a1] at a2; simp only [Option.some.injEq, Obj.cells.injEq] at a2
    exact he a2.2.1.symm)

theorem mark_step (f : Nat → Value) (k i : Nat) : (if i = k then Value.int .i64 (1 + (k : Int)) else if i < k then Value.int .i64 (1 + (i : Int)) else f i) = if i < k + 1 then Value.int .i64 (1 + (i : Int)) else f i := by
  rcases Nat.lt_trichotomy i k with h | h | h
  · rw [if_neg (by omega), if_pos h, if_pos (by omega)]
  · subst h; rw [if_pos rfl, if_pos (by omega)]
  · rw [if_neg (by omega), if_neg (by omega), if_neg (by omega)]

end Go.Proofs.YtlpopfhaephfaaaDoor.Ps

namespace Go.Proofs.YtlpopfhaephfaaaDoor.Ps
open Go.RowKit

/-- numbers, cell by cell -/
def ints (P : Nat → Nat → Int) (i j : Nat) : Value := .int .i64 (P i j)

theorem Tryd.infoP : (Tryd.prog.info? 81).map (fun i => (i.zero, i.size, i.bytes)) = some (some (.agg #[.int .i64 0, .int .i64 0, .int .i64 0]), 3, 24) := by kernel_rfl

def intsTo (k : Nat) (P : Nat → Nat → Int) : Nat → Nat → Value := fun i j => if i < k then ints P i j else .int .i64 0

theorem row_step3 {w' : World} {b e n k : Nat} {P : Nat → Nat → Int} (h : Row w' b e 3 n (intsTo k P)) :
    Row (((w'.setCell ⟨b, k * 3, none⟩ (.int .i64 (P k 0))).setCell ⟨b, k * 3 + 1, none⟩ (.int .i64 (P k 1))).setCell ⟨b, k * 3 + 2, none⟩ (.int .i64 (P k 2))) b e 3 n (intsTo (k + 1) P) := by
  refine (((h.set0 (i := k) (by omega) _).set (i := k) (j := 1) (by omega) _).set (i := k) (j := 2) (by omega) _).congr fun i hi j hj => ?_
  unfold intsTo ints
  rcases Nat.lt_trichotomy i k with h1 | h1 | h1
  · have a1 : ¬ i = k := by omega
    have a2 : i < k + 1 := by omega
    simp [a1, a2, h1]
  · subst h1
    rcases (show j = 0 ∨ j = 1 ∨ j = 2 by omega) with rfl | rfl | rfl <;> simp
  · have a1 : ¬ i = k := by omega
    have a2 : ¬ i < k + 1 := by omega
    have a3 : ¬ i < k := by omega
    simp [a1, a2, a3]

/-- What a slice of three-cell structs that came in reads as. -/
def Came3 (w : World) (ao : Option Addr) (n : Nat) (P : Nat → Nat → Int) : Prop :=
  n = 0 ∨ ∃ b off, ao = some ⟨b, off, none⟩ ∧ b < w.heap.size ∧ ∀ i, i < n → ∀ j, j < 3 → w.cell? ⟨b, off + i * 3 + j, none⟩ = some (.int .i64 (P i j))

theorem Came3.below {w w' : World} {ao : Option Addr} {n : Nat} {P : Nat → Nat → Int} (h : Came3 w ao n P) (hb : Below w.heap.size w w') : Came3 w' ao n P := by
  rcases h with h | ⟨b, off, h1, h2, h3⟩
  · exact .inl h
  · exact .inr ⟨b, off, h1, Nat.lt_of_lt_of_le h2 hb.size, fun i hi j hj => (hb.cell (p := ⟨b, off + i * 3 + j, none⟩) h2).trans (h3 i hi j hj)⟩

/-- What a '[]int' that came in reads as. -/
def CameI (w : World) (ao : Option Addr) (n : Nat) (Z : Nat → Int) : Prop :=
  n = 0 ∨ ∃ b off, ao = some ⟨b, off, none⟩ ∧ b < w.heap.size ∧ ∀ i, i < n → w.cell? ⟨b, off + i, none⟩ = some (.int .i64 (Z i))

theorem CameI.below {w w' : World} {ao : Option Addr} {n : Nat} {Z : Nat → Int} (h : CameI w ao n Z) (hb : Below w.heap.size w w') : CameI w' ao n Z := by
  rcases h with h | ⟨b, off, h1, h2, h3⟩
  · exact .inl h
  · exact .inr ⟨b, off, h1, Nat.lt_of_lt_of_le h2 hb.size, fun i hi => (hb.cell (p := ⟨b, off + i, none⟩) h2).trans (h3 i hi)⟩

def intTo (k : Nat) (Z : Nat → Int) : Nat → Value := fun i => if i < k then .int .i64 (Z i) else .int .i64 0

theorem intTo_step (k i : Nat) (Z : Nat → Int) : (if i = k then Value.int .i64 (Z k) else intTo k Z i) = intTo (k + 1) Z i := by
  unfold intTo
  rcases Nat.lt_trichotomy i k with h | h | h
  · rw [if_neg (by omega), if_pos h, if_pos (by omega)]
  · subst h; rw [if_pos rfl, if_pos (by omega)]
  · rw [if_neg (by omega), if_neg (by omega), if_neg (by omega)]

end Go.Proofs.YtlpopfhaephfaaaDoor.Ps

namespace Go.Proofs.YtlpopfhaephfaaaDoor.Ps
open Go.RowKit Go.Sort

def prevZ (Z : Nat → Int) (i : Nat) : Int := if i = 0 then 0 else Z (i - 1)
def okAt (Z : Nat → Int) (i : Nat) : Prop := prevZ Z i ≤ Z i ∧ Z i ≤ 1000000
/-- places that ascend in 0 .. 1000000 -/
def Asc (n : Nat) (Z : Nat → Int) : Prop := ∀ i, i < n → okAt Z i

theorem Asc.bound {n : Nat} {Z : Nat → Int} (h : Asc n Z) : ∀ i, i < n → 0 ≤ Z i ∧ Z i ≤ 1000000 := by
  intro i
  induction i with
  | zero => intro hi; have := h 0 hi; unfold okAt prevZ at this; simp at this; omega
  | succ i ih =>
    intro hi
    have h1 := h (i + 1) hi
    have h2 := ih (by omega)
    unfold okAt prevZ at h1
    simp at h1
    omega

theorem Asc.mono {n : Nat} {Z : Nat → Int} (h : Asc n Z) : ∀ i j, i ≤ j → j < n → Z i ≤ Z j := by
  intro i j hij hj
  induction j with
  | zero => have : i = 0 := by omega
            subst this; exact Int.le_refl _
  | succ j ih =>
    rcases Nat.lt_or_ge i (j + 1) with h1 | h1
    · have h2 := h (j + 1) hj
      have h3 := ih (by omega) (by omega)
      unfold okAt prevZ at h2
      simp at h2
      omega
    · have : i = j + 1 := by omega
      subst this; exact Int.le_refl _

theorem prev_succ (Z : Nat → Int) (k : Nat) : prevZ Z (k + 1) = Z k := by simp [prevZ]

open Classical in
/-- ascend, at a slice in a block -/
theorem ascend_some (g m n cap : Nat) (f : Nat → Value) (Z : Nat → Int) (w : World) (hn : n ≤ 1048576) (h1 : Blk w g 3 m f) (h2 : n ≤ m) (h3 : ∀ i, i < n → f i = .int .i64 (Z i)) :
    Calls Tryd.prog 55 #[.slice (some ⟨g, 0, none⟩) n cap] w fun e w' => e = .returned (.bool (decide (Asc n Z))) ∧ Below w.heap.size w w' := by
  go_enter Tryd.func55, Tryd.ntmps55
  go_wp2
  go_loopw [3, 8] (fun q i wr => ∃ k : Nat, k ≤ n ∧ i = .int .i64 k ∧ q = .int .i64 (prevZ Z k) ∧ Below w.heap.size w wr ∧ ∀ i, i < k → okAt Z i) (fun _ i _ => n - (intOf i).toNat)
  case atStart => exact ⟨0, Nat.zero_le _, rfl, rfl, Below.refl _ _, fun i hi => by omega⟩
  case round =>
    obtain ⟨k, hk, rfl, rfl, hbel, hgood⟩ := hrel
    have HG : Hid (∀ i, i < k → okAt Z i) := hgood
    clear hgood
    by_cases hlt : k < n
    · have c0 : wr.cell? ⟨g, k, none⟩ = some (.int .i64 (Z k)) := by rw [(h1.below hbel h1.lt).cell (by omega), h3 k hlt]
      obtain ⟨q, hq⟩ : ∃ q, prevZ Z k = q := ⟨_, rfl⟩
      obtain ⟨x, hx⟩ : ∃ x, Z k = x := ⟨_, rfl⟩
      have HQ : Hid (prevZ Z k = q) := hq
      have HX : Hid (Z k = x) := hx
      have HS : Hid (prevZ Z (k + 1) = x) := by show prevZ Z (k + 1) = x; rw [prev_succ]; exact hx
      rw [hx] at c0
      rw [hq]
      clear h1 h3 hq hx
      rcases (show x < q ∨ (q ≤ x ∧ 1000000 < x) ∨ (q ≤ x ∧ x ≤ 1000000) by omega) with a1 | ⟨a1, a2⟩ | ⟨a1, a2⟩
      iterate 2
        · have HN : Hid (decide (Asc n Z) = false) := by
            refine decide_eq_false fun hA => ?_
            have := hA k hlt
            unfold okAt at this
            rw [HQ.out, HX.out] at this
            omega
          go_wp2
          go_ret
          exact ⟨by rw [HN.out]; rfl, hbel⟩
      · go_wp2
        go_roundw
        case rel =>
          refine ⟨k + 1, by omega, by go_num, by rw [HS.out], hbel, fun i hi => ?_⟩
          rcases (show i < k ∨ i = k by omega) with h' | rfl
          · exact HG.out i h'
          · unfold okAt; rw [HQ.out, HX.out]; exact ⟨a1, a2⟩
        case measure => simp [intOf]; omega
    · have HN : Hid (decide (Asc n Z) = true) := decide_eq_true fun i hi => HG.out i (by omega)
      go_wp2
      go_ret
      exact ⟨by rw [HN.out]; rfl, hbel⟩

end Go.Proofs.YtlpopfhaephfaaaDoor.Ps

namespace Go.Proofs.YtlpopfhaephfaaaDoor.Ps
open Go.RowKit Go.Sort

open Classical in
theorem ascend_nil (ao : Option Addr) (cap : Nat) (Z : Nat → Int) (w : World) :
    Calls Tryd.prog 55 #[.slice ao 0 cap] w fun e w' => e = .returned (.bool (decide (Asc 0 Z))) ∧ Below w.heap.size w w' := by
  have e1 : decide (Asc 0 Z) = true := decide_eq_true fun i hi => by omega
  rw [e1]
  go_enter Tryd.func55, Tryd.ntmps55
  go_wp2
  refine wp_loop_rounds 1 ?_
  rw [rounds_succ]
  go_wp2
  go_ret
  exact ⟨rfl, Below.refl _ _⟩

open Classical in
theorem ascend_row (g n : Nat) (Z : Nat → Int) (w : World) (hn : n ≤ 1048576) (h : ARow w g n Z) :
    Calls Tryd.prog 55 #[.slice (gA g) n (gC g)] w fun e w' => e = .returned (.bool (decide (Asc n Z))) ∧ Below w.heap.size w w' := by
  rcases h with rfl | ⟨b, m, f, h1, h2, h3, h4⟩
  · exact ascend_nil _ _ _ _
  · rw [h1]
    exact ascend_some b m n (gC g) f Z w hn h3 h2 h4

open Classical in
theorem axlesOk_any (g n : Nat) (Z : Nat → Int) (w : World) (hn : n ≤ 1048576) (h1 : ARow w g n Z) :
    Calls Tryd.prog 31 #[.slice (gA g) n (gC g)] w fun e w' => e = .returned (.bool (decide (n ≤ 200 ∧ Asc n Z))) ∧ Below w.heap.size w w' := by
  have hc := ascend_row g n Z w hn h1
  by_cases h : (n : Int) ≤ 200
  · have e1 : decide (n ≤ 200 ∧ Asc n Z) = decide (Asc n Z) := by have : n ≤ 200 := by omega
                                                                  simp [this]
    rw [e1]
    clear e1
    go_enter Tryd.func31, Tryd.ntmps31
    go_wp2_with fail
    refine hc.mono ?_
    rintro e w1 ⟨rfl, hb⟩
    go_wp2
    go_ret
    exact ⟨rfl, hb⟩
  · have e1 : decide (n ≤ 200 ∧ Asc n Z) = false := by have : ¬ n ≤ 200 := by omega
                                                       simp [this]
    rw [e1]
    clear e1 hc h1
    have h' : decide ((n : Int) ≤ 200) = false := by simpa using h
    go_enter Tryd.func31, Tryd.ntmps31
    go_wp2
    go_ret
    exact ⟨rfl, Below.refl _ _⟩

open Classical in
theorem stretchOk_any (from_ to_ : Int) (w : World) :
    Calls Tryd.prog 32 #[.int .i64 from_, .int .i64 to_] w fun e w' => e = .returned (.bool (decide (0 ≤ from_ ∧ from_ ≤ 1000000 ∧ from_ ≤ to_ ∧ to_ ≤ 1000000))) ∧ Below w.heap.size w w' := by
  have e1 : decide (0 ≤ from_ ∧ from_ ≤ 1000000 ∧ from_ ≤ to_ ∧ to_ ≤ 1000000) = decide (Asc 2 (fun i => if i = 0 then from_ else to_)) := by
    apply decide_eq_decide.2
    constructor
    · intro h i hi
      match i, hi with
      | 0, _ => simp [okAt, prevZ]; omega
      | 1, _ => simp [okAt, prevZ]; omega
    · intro h
      have h0 := h 0 (by omega)
      have h1 := h 1 (by omega)
      simp [okAt, prevZ] at h0 h1
      omega
  rw [e1]
  clear e1
  have hc := ascend_some w.heap.size 2 2 2 _ (fun i => if i = 0 then from_ else to_) (w.alloc (.cells #[.int .i64 from_, .int .i64 to_] 3)) (by omega) (Blk.new w #[.int .i64 from_, .int .i64 to_] 3 (fun i => .int .i64 (if i = 0 then from_ else to_)) (fun i hi => by match i, hi with | 0, _ => rfl | 1, _ => rfl)) (Nat.le_refl _) (fun i _ => rfl)
  go_enter Tryd.func32, Tryd.ntmps32
  go_wp2_with fail
  refine hc.mono ?_
  rintro e w1 ⟨rfl, hb⟩
  go_wp2
  go_ret
  exact ⟨rfl, below_on (by repeat (first | exact Below.refl _ _ | assumption | refine below_alloc ?_ _ | refine Below.setCell ?_ (by first | omega | (simp; done) | (simp; omega)) _ | refine Below.alloc ?_ (by first | omega | (simp; done) | (simp; omega)) _ | refine Below.drew ?_)) hb⟩

theorem dirOk_any (d : Int) (w : World) (b : Bool) (hb : b = decide (d = 1 ∨ d = -1)) :
    Calls Tryd.prog 54 #[.int .i64 d] w fun e w' => e = .returned (.bool b) ∧ Below w.heap.size w w' := by
  rcases (show d = 1 ∨ (d = -1) ∨ (¬ d = 1 ∧ ¬ d = -1) by omega) with rfl | rfl | ⟨h1, h2⟩
  · have : b = true := by rw [hb]; decide
    subst this; clear hb
    go_enter Tryd.func54, Tryd.ntmps54
    go_wp2
    go_ret
    exact ⟨rfl, Below.refl _ _⟩
  · have : b = true := by rw [hb]; decide
    subst this; clear hb
    go_enter Tryd.func54, Tryd.ntmps54
    go_wp2
    go_ret
    exact ⟨rfl, Below.refl _ _⟩
  · have : b = false := by rw [hb]; simp [h1, h2]
    have e1 : (d == 1) = false := by simpa using h1
    have e2 : (d == -1) = false := by simpa using h2
    subst this; clear hb h1 h2
    go_enter Tryd.func54, Tryd.ntmps54
    go_wp2
    go_ret
    exact ⟨rfl, Below.refl _ _⟩

theorem counterOk_any (S c : Int) (g n : Nat) (w : World) (b : Bool) (hb : b = decide (0 ≤ c ∧ c < (n : Int))) :
    Calls Tryd.prog 53 #[.agg #[.int .i64 S, .slice (gA g) n (gC g)], .int .i64 c] w fun e w' => e = .returned (.bool b) ∧ Below w.heap.size w w' := by
  rcases (show c < 0 ∨ (0 ≤ c ∧ (n : Int) ≤ c) ∨ (0 ≤ c ∧ c < (n : Int)) by omega) with h | ⟨h, h1⟩ | ⟨h, h1⟩
  · have e : b = false := by rw [hb]; simp; omega
    subst e; clear hb
    go_enter Tryd.func53, Tryd.ntmps53
    go_wp2
    go_ret
    exact ⟨rfl, (by repeat (first | exact Below.refl _ _ | assumption | refine below_alloc ?_ _ | refine Below.setCell ?_ (by first | omega | (simp; done) | (simp; omega)) _ | refine Below.alloc ?_ (by first | omega | (simp; done) | (simp; omega)) _ | refine Below.drew ?_))⟩
  · have e : b = false := by rw [hb]; simp; omega
    have h2 : decide (c < (n : Int)) = false := by simp; omega
    subst e; clear hb
    go_enter Tryd.func53, Tryd.ntmps53
    go_wp2
    go_ret
    exact ⟨rfl, (by repeat (first | exact Below.refl _ _ | assumption | refine below_alloc ?_ _ | refine Below.setCell ?_ (by first | omega | (simp; done) | (simp; omega)) _ | refine Below.alloc ?_ (by first | omega | (simp; done) | (simp; omega)) _ | refine Below.drew ?_))⟩
  · have e : b = true := by rw [hb]; simp; omega
    have h2 : decide (c < (n : Int)) = true := by simp; omega
    subst e; clear hb
    go_enter Tryd.func53, Tryd.ntmps53
    go_wp2
    go_ret
    exact ⟨rfl, (by repeat (first | exact Below.refl _ _ | assumption | refine below_alloc ?_ _ | refine Below.setCell ?_ (by first | omega | (simp; done) | (simp; omega)) _ | refine Below.alloc ?_ (by first | omega | (simp; done) | (simp; omega)) _ | refine Below.drew ?_))⟩

set_option maxHeartbeats 1000000 in
theorem meet_any (gp ga nP nA k i : Nat) (P : Nat → Nat → Int) (Z : Nat → Int) (w : World) (hP : PRow w gp nP P) (hA : ARow w ga nA Z) (hk : k < nA) (hi : i < nP)
    (b1 : 0 ≤ P i 0) (b2 : P i 0 ≤ 1000000) (b3 : 0 ≤ Z k) (b4 : Z k ≤ 1000000) :
    Calls Tryd.prog 37 #[.slice (gA gp) nP (gC gp), .slice (gA ga) nA (gC ga), .int .i64 k, .int .i64 i] w fun e w' => e = .returned (.agg #[.int .i64 (P i 0 + Z k), .int .i64 k, .int .i64 i]) ∧ Below w.heap.size w w' := by
  obtain ⟨bp, ep, l1, c0, _, _⟩ := hP.at hi
  obtain ⟨ba, ea, l2, c1⟩ := hA.at hk
  rw [ep, ea]
  have i1 : (k : Int) < (nA : Int) := by omega
  have i2 : (i : Int) < (nP : Int) := by omega
  obtain ⟨x, hx⟩ : ∃ x, P i 0 = x := ⟨_, rfl⟩
  obtain ⟨y, hy⟩ : ∃ y, Z k = y := ⟨_, rfl⟩
  rw [hx] at c0 b1 b2 ⊢
  rw [hy] at c1 b3 b4 ⊢
  clear hx hy hP hA ep ea
  go_enter Tryd.func37, Tryd.ntmps37
  go_wp2
  go_region
  all_goals
    go_wp2
    exact bodyPost_ret (v := .agg #[.int .i64 (x + y), .int .i64 k, .int .i64 i]) (by simp [results, Tryd.results37, go_sem]) rfl ⟨rfl, (by repeat (first | exact Below.refl _ _ | assumption | refine below_alloc ?_ _ | refine Below.setCell ?_ (by first | omega | (simp; done) | (simp; omega)) _ | refine Below.alloc ?_ (by first | omega | (simp; done) | (simp; omega)) _ | refine Below.drew ?_))⟩

end Go.Proofs.YtlpopfhaephfaaaDoor.Ps

namespace Go.Proofs.YtlpopfhaephfaaaDoor.Ps
open Go.RowKit

def item (P : Nat → Nat → Int) (Z : Nat → Int) (k i : Nat) : M3 := ⟨P i 0 + Z k, k, i⟩

theorem item_inj {P : Nat → Nat → Int} {Z : Nat → Int} {k i k' i' : Nat} (h : item P Z k i = item P Z k' i') : k = k' ∧ i = i' := by
  unfold item at h
  simp only [M3.mk.injEq] at h
  omega

/-- the first post that the axle passes with the front beyond fr -/
def fst (P : Nat → Nat → Int) (nP : Nat) (fr z : Int) : Nat := ((List.range nP).find? (fun i => decide (fr < P i 0 + z))).getD nP

theorem fst_hit {P : Nat → Nat → Int} {nP : Nat} {fr z : Int} {j : Nat} (hj : j < nP) (h1 : ∀ i, i < j → ¬ fr < P i 0 + z) (h2 : fr < P j 0 + z) : fst P nP fr z = j := by
  unfold fst
  have : (List.range nP).find? (fun i => decide (fr < P i 0 + z)) = some j := by
    rw [List.find?_range_eq_some]
    exact ⟨by simpa using h2, List.mem_range.2 hj, fun i hi => by simpa using h1 i hi⟩
  rw [this]; rfl

theorem fst_none {P : Nat → Nat → Int} {nP : Nat} {fr z : Int} (h1 : ∀ i, i < nP → ¬ fr < P i 0 + z) : fst P nP fr z = nP := by
  unfold fst
  have : (List.range nP).find? (fun i => decide (fr < P i 0 + z)) = none := by
    rw [List.find?_eq_none]
    intro i hi
    simpa using h1 i (List.mem_range.1 hi)
  rw [this]; rfl

theorem fst_lt {P : Nat → Nat → Int} {nP : Nat} {fr z : Int} (i : Nat) (hi : i < fst P nP fr z) (hn : i < nP) : ¬ fr < P i 0 + z := by
  unfold fst at hi
  cases h : (List.range nP).find? (fun i => decide (fr < P i 0 + z)) with
  | none =>
    rw [List.find?_eq_none] at h
    simpa using h i (List.mem_range.2 hn)
  | some j =>
    rw [h] at hi
    rw [List.find?_range_eq_some] at h
    simpa using h.2.2 i hi

theorem fst_at {P : Nat → Nat → Int} {nP : Nat} {fr z : Int} (h0 : fst P nP fr z < nP) : fr < P (fst P nP fr z) 0 + z := by
  unfold fst at *
  cases h : (List.range nP).find? (fun i => decide (fr < P i 0 + z)) with
  | none => rw [h] at h0; simp at h0
  | some j =>
    rw [h] at h0
    rw [List.find?_range_eq_some] at h
    simpa using h.1

/-- what the merging keeps: the heap's items L, what has been told E, the next post of each axle nx -/
structure Mg (nA nP : Nat) (P : Nat → Nat → Int) (Z : Nat → Int) (fr tt : Int) (L E : List M3) (nx : Nat → Nat) : Prop where
  hp : HeapL L
  nd : L.Nodup
  lm : ∀ z, z ∈ L ↔ ∃ k, k < nA ∧ nx k < nP ∧ z = item P Z k (nx k)
  es : E.Pairwise lt3
  em : ∀ z, z ∈ E ↔ ∃ k, k < nA ∧ ∃ i, i < nx k ∧ i < nP ∧ z = item P Z k i ∧ fr < z.f
  et : ∀ z, z ∈ E → z.f ≤ tt
  el : ∀ z, z ∈ E → ∀ y, y ∈ L → lt3 z y
  lf : ∀ k, k < nA → nx k < nP → fr < (item P Z k (nx k)).f

def InR (nA nP : Nat) (P : Nat → Nat → Int) (Z : Nat → Int) (fr tt : Int) (z : M3) : Prop := ∃ k, k < nA ∧ ∃ i, i < nP ∧ z = item P Z k i ∧ fr < z.f ∧ z.f ≤ tt

theorem Mg.start {nA nP : Nat} {P : Nat → Nat → Int} {Z : Nat → Int} {fr tt : Int} {L : List M3} (h1 : HeapL L) (h2 : L.Nodup) (h3 : ∀ z, z ∈ L ↔ ∃ k, k < nA ∧ fst P nP fr (Z k) < nP ∧ z = item P Z k (fst P nP fr (Z k))) :
    Mg nA nP P Z fr tt L [] (fun k => fst P nP fr (Z k)) :=
  ⟨h1, h2, h3, List.Pairwise.nil, fun z => ⟨fun h => by simp at h, fun ⟨k, hk, i, hi, hn, e, hf⟩ => by subst e; exact absurd hf (fst_lt i hi hn)⟩, fun z h => by simp at h, fun z h => by simp at h, fun k hk hn => fst_at hn⟩

/-- the top of the heap, told; the axle goes on to its next post (L': the heap without it, L'': with the next item, if there is one) -/
theorem Mg.step {nA nP : Nat} {P : Nat → Nat → Int} {Z : Nat → Int} {fr tt : Int} {L L' L'' E : List M3} {nx : Nat → Nat} (h : Mg nA nP P Z fr tt L E nx) (hn : 0 < L.length) (hmono : ∀ i j, i ≤ j → j < nP → P i 0 ≤ P j 0) (hp : (at3 L 0 :: L').Perm L) (htt : (at3 L 0).f ≤ tt)
    {k : Nat} (hk : k < nA) (hkn : nx k < nP) (he : at3 L 0 = item P Z k (nx k)) (hh : HeapL L'')
    (hL : (nx k + 1 < nP ∧ L''.Perm (L' ++ [item P Z k (nx k + 1)])) ∨ (nP ≤ nx k + 1 ∧ L''.Perm L')) :
    Mg nA nP P Z fr tt L'' (E ++ [at3 L 0]) (fun j => if j = k then nx k + 1 else nx j) := by
  have hmem : at3 L 0 ∈ L := at3_mem hn
  have nd' : (at3 L 0 :: L').Nodup := (hp.nodup_iff).2 h.nd
  rw [List.nodup_cons] at nd'
  have mL : ∀ z, z ∈ L ↔ z = at3 L 0 ∨ z ∈ L' := fun z => by rw [← hp.mem_iff, List.mem_cons]
  -- of another axle
  have other : ∀ z, z ∈ L' → ∃ k', k' < nA ∧ nx k' < nP ∧ k' ≠ k ∧ z = item P Z k' (nx k') := fun z hz => by
    obtain ⟨k', a, b, e⟩ := (h.lm z).1 ((mL z).2 (.inr hz))
    refine ⟨k', a, b, fun hkk => ?_, e⟩
    subst hkk
    exact nd'.1 (by rw [he, ← e]; exact hz)
  have after : ∀ z, z ∈ L' → lt3 (at3 L 0) z := fun z hz => by
    obtain ⟨i, hi, ez⟩ := mem_at3 ((mL z).2 (.inr hz))
    have hb := h.hp.min i hi
    rw [ez, bef_not] at hb
    obtain ⟨k', _, _, hne, e⟩ := other z hz
    have z1 : z.a = (k' : Int) := by rw [e]; rfl
    have t1 : (at3 L 0).a = (k : Int) := by rw [he]; rfl
    by_cases hf : (at3 L 0).f < z.f
    · exact .inl hf
    · exact .inr ⟨by omega, .inl (by omega)⟩
  have hnew : nx k + 1 < nP → lt3 (at3 L 0) (item P Z k (nx k + 1)) := fun hx => by
    have := hmono (nx k) (nx k + 1) (by omega) hx
    rw [he]
    by_cases hf : P (nx k) 0 + Z k < P (nx k + 1) 0 + Z k
    · exact .inl hf
    · exact .inr ⟨show P (nx k) 0 + Z k = P (nx k + 1) 0 + Z k by omega, .inr ⟨rfl, show ((nx k : Nat) : Int) < ((nx k + 1 : Nat) : Int) by omega⟩⟩
  have mL2 : ∀ z, z ∈ L'' ↔ z ∈ L' ∨ (nx k + 1 < nP ∧ z = item P Z k (nx k + 1)) := fun z => by
    rcases hL with ⟨a, b⟩ | ⟨a, b⟩
    · rw [b.mem_iff, List.mem_append, List.mem_singleton]; simp [a]
    · rw [b.mem_iff]
      constructor
      · exact .inl
      · rintro (c | ⟨c, _⟩)
        · exact c
        · omega
  refine ⟨hh, ?_, fun z => ?_, ?_, fun z => ?_, fun z hz => ?_, fun z hz y hy => ?_, fun j hj hjn => ?_⟩
  · rcases hL with ⟨a, b⟩ | ⟨a, b⟩
    · rw [b.nodup_iff, List.nodup_append]
      refine ⟨nd'.2, by simp, fun x hx y hy e => ?_⟩
      rw [List.mem_singleton] at hy
      subst hy; subst e
      obtain ⟨k', _, _, hne, e⟩ := other _ hx
      exact hne (item_inj e).1.symm
    · rw [b.nodup_iff]; exact nd'.2
  · rw [mL2]
    constructor
    · rintro (hz | ⟨a, e⟩)
      · obtain ⟨k', a, b, hne, e⟩ := other z hz
        exact ⟨k', a, by simpa [hne] using b, by simpa [hne] using e⟩
      · exact ⟨k, hk, by simpa using a, by simpa using e⟩
    · rintro ⟨k', a, b, e⟩
      by_cases hkk : k' = k
      · subst hkk
        simp only [if_true] at b e
        exact .inr ⟨b, e⟩
      · simp only [if_neg hkk] at b e
        left
        rcases (mL z).1 ((h.lm z).2 ⟨k', a, b, e⟩) with e2 | hz
        · exfalso
          rw [e2, he] at e
          exact hkk (item_inj e).1.symm
        · exact hz
  · rw [List.pairwise_append]
    exact ⟨h.es, by simp, fun x hx y hy => by rw [List.mem_singleton] at hy; subst hy; exact h.el x hx _ hmem⟩
  · rw [List.mem_append, List.mem_singleton, h.em]
    constructor
    · rintro (⟨k', a, i, hi, hn, e, hf⟩ | e)
      · refine ⟨k', a, i, ?_, hn, e, hf⟩
        by_cases hkk : k' = k
        · subst hkk; simp; omega
        · simpa [hkk] using hi
      · refine ⟨k, hk, nx k, by simp, hkn, by rw [e, he], ?_⟩
        rw [e, he]; exact h.lf k hk hkn
    · rintro ⟨k', a, i, hi, hn, e, hf⟩
      by_cases hkk : k' = k
      · subst hkk
        simp only [if_true] at hi
        rcases (show i < nx k' ∨ i = nx k' by omega) with hlt | rfl
        · exact .inl ⟨k', a, i, hlt, hn, e, hf⟩
        · exact .inr (by rw [e, he])
      · simp only [if_neg hkk] at hi
        exact .inl ⟨k', a, i, hi, hn, e, hf⟩
  · rw [List.mem_append, List.mem_singleton] at hz
    rcases hz with hz | rfl
    · exact h.et z hz
    · exact htt
  · rw [List.mem_append, List.mem_singleton] at hz
    rw [mL2] at hy
    rcases hz with hz | rfl
    · rcases hy with hy | ⟨a, rfl⟩
      · exact h.el z hz y ((mL y).2 (.inr hy))
      · exact lt3_trans (h.el z hz _ hmem) (hnew a)
    · rcases hy with hy | ⟨a, rfl⟩
      · exact after y hy
      · exact hnew a
  · by_cases hkk : j = k
    · subst hkk
      simp only [if_true] at hjn ⊢
      have h1 := h.lf j hj hkn
      have h2 := hmono (nx j) (nx j + 1) (by omega) hjn
      unfold item at *
      simp only at *
      omega
    · simp only [if_neg hkk] at hjn ⊢
      exact h.lf j hj hjn

theorem Mg.done_empty {nA nP : Nat} {P : Nat → Nat → Int} {Z : Nat → Int} {fr tt : Int} {E : List M3} {nx : Nat → Nat} (h : Mg nA nP P Z fr tt [] E nx) : E.Pairwise lt3 ∧ ∀ z, z ∈ E ↔ InR nA nP P Z fr tt z := by
  refine ⟨h.es, fun z => ⟨fun hz => ?_, fun ⟨k, hk, i, hi, e, h1, h2⟩ => ?_⟩⟩
  · obtain ⟨k, hk, i, _, hn, e, hf⟩ := (h.em z).1 hz
    exact ⟨k, hk, i, hn, e, hf, h.et z hz⟩
  · have : ¬ nx k < nP := fun hx => by have := (h.lm (item P Z k (nx k))).2 ⟨k, hk, hx, rfl⟩; simp at this
    exact (h.em z).2 ⟨k, hk, i, by omega, hi, e, h1⟩

theorem Mg.done_far {nA nP : Nat} {P : Nat → Nat → Int} {Z : Nat → Int} {fr tt : Int} {L E : List M3} {nx : Nat → Nat} (h : Mg nA nP P Z fr tt L E nx) (hmono : ∀ i j, i ≤ j → j < nP → P i 0 ≤ P j 0) (htt : tt < (at3 L 0).f) : E.Pairwise lt3 ∧ ∀ z, z ∈ E ↔ InR nA nP P Z fr tt z := by
  refine ⟨h.es, fun z => ⟨fun hz => ?_, fun ⟨k, hk, i, hi, e, h1, h2⟩ => ?_⟩⟩
  · obtain ⟨k, hk, i, _, hn, e, hf⟩ := (h.em z).1 hz
    exact ⟨k, hk, i, hn, e, hf, h.et z hz⟩
  · refine (h.em z).2 ⟨k, hk, i, ?_, hi, e, h1⟩
    rcases Nat.lt_or_ge i (nx k) with hx | hx
    · exact hx
    · exfalso
      have hl := (h.lm (item P Z k (nx k))).2 ⟨k, hk, by omega, rfl⟩
      obtain ⟨j, hj, ej⟩ := mem_at3 hl
      have hb := h.hp.min j hj
      rw [ej, bef_not] at hb
      have hm := hmono (nx k) i hx hi
      subst e
      unfold item at *
      simp only at *
      omega

#print axioms Mg.step
end Go.Proofs.YtlpopfhaephfaaaDoor.Ps

namespace Go.Proofs.YtlpopfhaephfaaaDoor.Ps
open Go.RowKit Go.Sort

theorem Fr.below {w W W' : World} {B hb : Nat} {r : Option Nat} (h : Below B w W) (hF : Fr W W' hb r) (hBW : B ≤ W.heap.size) (h1 : B ≤ hb) (h2 : ∀ g, r = some g → B ≤ g) : Below B w W' :=
  h.trans ⟨hF.os, hF.tape, hF.output, hF.size, fun k hk => hF.block k (by omega) (by omega) (fun e => by have := h2 k e.symm; omega)⟩

/-- the heap holds the first meetings of the first k axles -/
structure FM (w : World) (hb lo : Nat) (v : Value) (L : List M3) (k nP : Nat) (P : Nat → Nat → Int) (Z : Nat → Int) (fr : Int) : Prop where
  at_ : HeapAt w hb lo v L
  hp : HeapL L
  nd : L.Nodup
  len : L.length ≤ k
  lm : ∀ z, z ∈ L ↔ ∃ j, j < k ∧ fst P nP fr (Z j) < nP ∧ z = item P Z j (fst P nP fr (Z j))

theorem FM.skip {w : World} {hb lo k nP : Nat} {v : Value} {L : List M3} {P : Nat → Nat → Int} {Z : Nat → Int} {fr : Int} (h : FM w hb lo v L k nP P Z fr) (hs : fst P nP fr (Z k) = nP) : FM w hb lo v L (k + 1) nP P Z fr :=
  ⟨h.at_, h.hp, h.nd, by have := h.len; omega, fun z => by
    rw [h.lm]
    constructor
    · rintro ⟨j, a, b, e⟩; exact ⟨j, by omega, b, e⟩
    · rintro ⟨j, a, b, e⟩
      rcases (show j < k ∨ j = k by omega) with h' | rfl
      · exact ⟨j, h', b, e⟩
      · omega⟩

theorem FM.push {w w' : World} {hb lo k nP i : Nat} {v v' : Value} {L L' : List M3} {P : Nat → Nat → Int} {Z : Nat → Int} {fr : Int} (h : FM w hb lo v L k nP P Z fr) (hs : fst P nP fr (Z k) = i) (hi : i < nP) (hA : HeapAt w' hb lo v' L') (hH : HeapL L') (hP : L'.Perm (L ++ [item P Z k i])) : FM w' hb lo v' L' (k + 1) nP P Z fr := by
  refine ⟨hA, hH, ?_, ?_, fun z => ?_⟩
  · rw [hP.nodup_iff, List.nodup_append]
    refine ⟨h.nd, by simp, fun x hx y hy e => ?_⟩
    rw [List.mem_singleton] at hy
    subst hy; subst e
    obtain ⟨j, a, _, e⟩ := (h.lm _).1 hx
    have := (item_inj e).1
    omega
  · have := hP.length_eq; have := h.len; simp at *; omega
  · rw [hP.mem_iff, List.mem_append, List.mem_singleton, h.lm]
    constructor
    · rintro (⟨j, a, b, e⟩ | e)
      · exact ⟨j, by omega, b, e⟩
      · exact ⟨k, by omega, by omega, by rw [hs]; exact e⟩
    · rintro ⟨j, a, b, e⟩
      rcases (show j < k ∨ j = k by omega) with h' | rfl
      · exact .inl ⟨j, h', b, e⟩
      · rw [hs] at e; exact .inr e

set_option maxRecDepth 100000 in
set_option maxHeartbeats 2000000 in
theorem firstMeetings_any (gp ga nP nA : Nat) (P : Nat → Nat → Int) (Z : Nat → Int) (fr : Int) (w : World) (hP : PRow w gp nP P) (hA : ARow w ga nA Z) (h1 : nP ≤ 120) (h2 : nA ≤ 200)
    (bP : ∀ i, i < nP → 0 ≤ P i 0 ∧ P i 0 ≤ 1000000) (bZ : ∀ i, i < nA → 0 ≤ Z i ∧ Z i ≤ 1000000) :
    Calls Tryd.prog 33 #[.slice (gA gp) nP (gC gp), .slice (gA ga) nA (gC ga), .int .i64 fr] w fun e w' => ∃ v L, e = .returned (.pointer (some ⟨w.heap.size, 0, none⟩)) ∧ FM w' w.heap.size w.heap.size v L nA nP P Z fr ∧ Below w.heap.size w w' := by
  go_enter Tryd.func33, Tryd.ntmps33
  go_wp2
  have F0 : FM (w.alloc (.cells #[.slice none 0 0, .func (.func 56) #[] #[]] 116)) w.heap.size w.heap.size (.slice none 0 0) [] 0 nP P Z fr :=
    ⟨⟨Blk.new w #[.slice none 0 0, .func (.func 56) #[] #[]] _ _ (fun i hi => by match i, hi with | 0, _ => rfl | 1, _ => rfl), World.ownsRow_nil _ _ _ _⟩, fun i _ hi => by simp at hi, by simp, by simp, fun z => ⟨fun h => by simp at h, fun ⟨j, hj, _⟩ => by omega⟩⟩
  go_loopw [15] (fun i wr => ∃ (k : Nat) (v : Value) (L : List M3), k ≤ nA ∧ i = .int .i64 k ∧ FM wr w.heap.size w.heap.size v L k nP P Z fr ∧ Below w.heap.size w wr) (fun i _ => nA - (intOf i).toNat)
  case atStart => exact ⟨0, _, [], Nat.zero_le _, rfl, F0, (by repeat (first | exact Below.refl _ _ | assumption | refine below_alloc ?_ _ | refine Below.setCell ?_ (by first | omega | (simp; done) | (simp; omega)) _ | refine Below.alloc ?_ (by first | omega | (simp; done) | (simp; omega)) _ | refine Below.drew ?_))⟩
  case round =>
    obtain ⟨k, v, L, hk, rfl, hF, hbel⟩ := hrel
    clear F0
    by_cases hlt : k < nA
    · rename World => wo
      have HF : Hid (FM wo w.heap.size w.heap.size v L k nP P Z fr) := hF
      have HB : Hid (RowKit.Below w.heap.size w wo) := hbel
      have z1 := bZ k hlt
      go_wp2
      go_loopw [20] (fun i ws => ∃ j : Nat, j ≤ nP ∧ i = .int .i64 j ∧ RowKit.Below wo.heap.size wo ws ∧ ∀ i, i < j → P i 0 + Z k ≤ fr) (fun i _ => nP - (intOf i).toNat)
      case atStart => exact ⟨0, Nat.zero_le _, rfl, RowKit.Below.refl _ _, fun i hi => by omega⟩
      case round =>
        obtain ⟨j, hj, rfl, hbs, hno⟩ := hrel
        have HNo : Hid (∀ i, i < j → P i 0 + Z k ≤ fr) := hno
        have HBs : Hid (RowKit.Below wo.heap.size wo wr) := hbs
        clear hno
        by_cases hlj : j < nP
        · have BB := below_on hbel hbs
          have p1 := bP j hlj
          have hm := meet_any gp ga nP nA k j P Z wr (hP.on BB) (hA.on BB) hlt hlj p1.1 p1.2 z1.1 z1.2
          obtain ⟨x, hx⟩ : ∃ x, P j 0 + Z k = x := ⟨_, rfl⟩
          have HX : Hid (P j 0 + Z k = x) := hx
          rw [hx] at hm
          have hpu := fun W (hW : HeapAt W w.heap.size w.heap.size v L) hlo => push_any w.heap.size w.heap.size v L ⟨x, k, j⟩ W hW hlo (by have := hF.len; omega) hF.hp
          clear hx BB hF hbel hbs
          go_wp2_with fail
          refine hm.mono ?_
          rintro e w2 ⟨rfl, hb2⟩
          have B2 := below_on HBs.out hb2
          clear hm hb2
          by_cases hit : fr < x
          · have hA2 := (HF.out.at_.on B2).on (below_alloc (RowKit.Below.refl _ _) (.cells #[.int .i64 x, .int .i64 k, .int .i64 j] 89))
            have hs2 : w.heap.size ≤ w2.heap.size := Nat.le_trans HB.out.size B2.size
            have hpp := hpu _ hA2 (by simp; omega)
            clear hpu
            go_wp2_with fail
            refine hpp.mono ?_
            rintro e w3 ⟨rfl, v', L', hA3, hH3, hP3, hloc3, hF3⟩
            have FF := FM.push HF.out (fst_hit hlj (fun i hi => Int.not_lt.2 (HNo.out i hi)) (by rw [HX.out]; exact hit)) hlj hA3 hH3 (by unfold item; rw [HX.out]; exact hP3)
            have B3 := Fr.below (below_alloc (below_on HB.out B2) _) hF3 (by simp; omega) (Nat.le_refl _) (fun g hg => (hA2.2.lt g hg).1)
            clear hpp hA2 hA3 hH3 hP3 hF3
            go_wp2_with fail
            go_roundw
            case rel => exact ⟨k + 1, v', L', by omega, by go_num, FF, B3⟩
            case measure => simp [intOf]; omega
          · clear hpu
            go_wp2_with fail
            go_roundw
            case rel =>
              refine ⟨j + 1, by omega, by go_num, below_alloc B2 _, fun i hi => ?_⟩
              rcases (show i < j ∨ i = j by omega) with h' | rfl
              · exact HNo.out i h'
              · rw [HX.out]; omega
            case measure => simp [intOf]; omega
        · have hjn : j = nP := by omega
          subst hjn
          have FF := FM.skip HF.out (fst_none (fun i hi => Int.not_lt.2 (HNo.out i hi)))
          have FF2 : FM wr w.heap.size w.heap.size v L (k + 1) j P Z fr := ⟨FF.at_.on hbs, FF.hp, FF.nd, FF.len, FF.lm⟩
          have B3 := below_on hbel hbs
          clear FF
          go_wp2_with fail
          go_roundw
          case rel => exact ⟨k + 1, v, L, by omega, by go_num, FF2, B3⟩
          case measure => simp [intOf]; omega
    · go_wp2
      go_ret
      have : k = nA := by omega
      subst this
      exact ⟨v, L, rfl, hF, hbel⟩

end Go.Proofs.YtlpopfhaephfaaaDoor.Ps

namespace Go.Proofs.YtlpopfhaephfaaaDoor.Ps
open Go.RowKit Go.Sort

open Classical in
theorem ascend_none (ao : Option Addr) (cap : Nat) (Z : Nat → Int) (w : World) :
    Calls Tryd.prog 55 #[.slice ao 0 cap] w fun e w' => e = .returned (.bool (decide (Asc 0 Z))) ∧ Below w.heap.size w w' := by
  have e1 : decide (Asc 0 Z) = true := decide_eq_true fun i hi => by omega
  rw [e1]
  go_enter Tryd.func55, Tryd.ntmps55
  go_wp2
  refine wp_loop_rounds 1 ?_
  rw [rounds_succ]
  go_wp2
  go_ret
  exact ⟨rfl, Below.refl _ _⟩

open Classical in
theorem ascend_any (b n : Nat) (v : Value) (Z : Nat → Int) (w : World) (hn : n ≤ 1048576) (h : IntF w b v n Z) :
    Calls Tryd.prog 55 #[v] w fun e w' => e = .returned (.bool (decide (Asc n Z))) ∧ Below w.heap.size w w' := by
  obtain ⟨ao, cap, rfl, h0⟩ := h
  rcases Nat.eq_zero_or_pos n with rfl | hp
  · exact ascend_none _ _ _ _
  · rcases h0 with h0 | ⟨g, m, f, rfl, _, h2, h3, h4⟩
    · omega
    · exact ascend_some g m n cap f Z w hn h3 h2 h4

/-- posts that are right, in a layout of n counters -/
def postOk (n : Nat) (P : Nat → Nat → Int) (i : Nat) : Prop := okAt (fun i => P i 0) i ∧ (0 ≤ P i 1 ∧ P i 1 < (n : Int)) ∧ (P i 2 = 1 ∨ P i 2 = -1)
def PostsV (n nP : Nat) (P : Nat → Nat → Int) : Prop := nP ≤ 120 ∧ ∀ i, i < nP → postOk n P i
def AxlesV (nA : Nat) (Z : Nat → Int) : Prop := nA ≤ 200 ∧ Asc nA Z


end Go.Proofs.YtlpopfhaephfaaaDoor.Ps

namespace Go.Proofs.YtlpopfhaephfaaaDoor.Ps
open Go.RowKit Go.Sort

theorem IntF.of_row {w : World} {base : Nat} {v : Value} {zs : List Int} (h : w.ownsRow base 3 1 v zs.length (zs.map (Value.int .i64))) : IntF w base v zs.length (fun i => zs.getD i 0) := by
  rcases h.2 with ⟨rfl, h0⟩ | ⟨g, cap, cur, rfl, hb, hh, hn, hm, hs, ht⟩
  · exact ⟨none, 0, by rw [h0], .inl h0⟩
  · refine ⟨_, cap, rfl, .inr ⟨g, cap, fun i => cur.toList.getD i (.int .i64 0), rfl, hb, hn, ⟨cur, hh, by simpa using hs, fun i hi => ?_⟩, fun i hi => ?_⟩⟩
    · have : i < cur.size := by rw [hs]; omega
      simp [this]
    · have e : (cur.toList.take (zs.length * 1))[i]? = (zs.map (Value.int .i64))[i]? := by rw [ht]
      rw [List.getElem?_take_of_lt (by omega)] at e
      simp only [List.getElem?_map, List.getElem?_eq_getElem hi, Option.map_some] at e
      simp [List.getD, e, List.getElem?_eq_getElem hi]

theorem own_below {w w' : World} {base e sz n : Nat} {v : Value} {xs : List Value} (h : w.ownsRow base e sz v n xs) (hB : Below w.heap.size w w') : w'.ownsRow base e sz v n xs := by
  refine ⟨h.1, ?_⟩
  rcases h.2 with h1 | ⟨g, cap, cur, h1, h2, h3, r⟩
  · exact .inl h1
  · exact .inr ⟨g, cap, cur, h1, h2, (hB.block g (Array.getElem?_eq_some_iff.1 h3).1).trans h3, r⟩

def atsTo (P : Nat → Nat → Int) (k : Nat) : List Int := (List.range k).map (fun i => P i 0)
theorem atsTo_len (P : Nat → Nat → Int) (k : Nat) : (atsTo P k).length = k := by simp [atsTo]
theorem atsTo_succ (P : Nat → Nat → Int) (k : Nat) : (atsTo P (k + 1)).map (Value.int .i64) = (atsTo P k).map (Value.int .i64) ++ [.int .i64 (P k 0)] := by simp [atsTo, List.range_succ]
theorem atsTo_at (P : Nat → Nat → Int) {k i : Nat} (h : i < k) : (atsTo P k).getD i 0 = P i 0 := by simp [atsTo, h]

theorem Asc.congr {n : Nat} {Z Z' : Nat → Int} (h : Asc n Z) (e : ∀ i, i < n → Z i = Z' i) : Asc n Z' := fun i hi => by
  have := h i hi
  unfold okAt prevZ at *
  rw [e i hi] at this
  by_cases h0 : i = 0
  · simpa [h0] using this
  · simp only [h0, if_false] at this ⊢
    rw [e (i - 1) (by omega)] at this
    exact this

open Classical in
set_option maxRecDepth 100000 in
set_option maxHeartbeats 2000000 in
theorem postsOk_any (S : Int) (g n gp nP : Nat) (P : Nat → Nat → Int) (w : World) (hP : PRow w gp nP P) (hp : nP ≤ 1048576) :
    Calls Tryd.prog 30 #[.agg #[.int .i64 S, .slice (gA g) n (gC g)], .slice (gA gp) nP (gC gp)] w fun e w' => e = .returned (.bool (decide (PostsV n nP P))) ∧ Below w.heap.size w w' := by
  obtain ⟨i0, hi, hz0, hz1, hz2⟩ := info_parts Tryd.infoI
  by_cases hbig : (nP : Int) ≤ 120
  · have hnp : nP ≤ 120 := by omega
    go_enter Tryd.func30, Tryd.ntmps30
    go_wp2_with (first
      | (at_make; refine wpList_make_own _ rfl _ _ 44 rfl (w.heap.size + 1) 3 i0 (.int .i64 0) 1 Tryd.underlying44 hi hz0 hz1 .i64 .i64 _ nP rfl rfl rfl (by rw [hz2]; omega) (by unfold maxLen; omega) (by simp) ?_; intro w1 hown1 hgrow1))
    have B1 : Below (w.heap.size + 1) (w.alloc (.cells #[.int .i64 S, .slice (gA g) n (gC g)] 25)) w1 := (Below.refl _ _).grown hgrow1 (by first | omega | (simp; done) | (simp; omega)) (fun k hk => by simp at hk)
    go_loopw [5, 16] (fun v i wr => ∃ k : Nat, k ≤ nP ∧ i = .int .i64 k ∧ Below (w.heap.size + 1) (w.alloc (.cells #[.int .i64 S, .slice (gA g) n (gC g)] 25)) wr ∧ wr.ownsRow (w.heap.size + 1) 3 1 v k ((atsTo P k).map (Value.int .i64)) ∧ ∀ i, i < k → (0 ≤ P i 1 ∧ P i 1 < (n : Int)) ∧ (P i 2 = 1 ∨ P i 2 = -1)) (fun _ i _ => nP - (intOf i).toNat)
    case atStart => exact ⟨0, Nat.zero_le _, rfl, B1, by simpa [atsTo] using hown1, fun i hi => by omega⟩
    case round =>
      obtain ⟨k, hk, rfl, hbel, hown, hgood⟩ := hrel
      clear B1 hown1 hgrow1
      have HG : Hid (∀ i, i < k → (0 ≤ P i 1 ∧ P i 1 < (n : Int)) ∧ (P i 2 = 1 ∨ P i 2 = -1)) := hgood
      have hB : Below w.heap.size w wr := (show Below w.heap.size w _ from (by repeat (first | exact Below.refl _ _ | assumption | refine below_alloc ?_ _ | refine Below.setCell ?_ (by first | omega | (simp; done) | (simp; omega)) _ | refine Below.alloc ?_ (by first | omega | (simp; done) | (simp; omega)) _ | refine Below.drew ?_))).trans (hbel.mono (by first | omega | (simp; done) | (simp; omega)))
      have HB : Hid (Below w.heap.size w wr) := hB
      have HBel : Hid (Below (w.heap.size + 1) (w.alloc (.cells #[.int .i64 S, .slice (gA g) n (gC g)] 25)) wr) := hbel
      have hsz : w.heap.size < wr.heap.size := by have := hbel.size; simp at this; omega
      have cL0 : wr.cell? ⟨w.heap.size, 0, none⟩ = some (.int .i64 S) := (hbel.cell (p := ⟨w.heap.size, 0, none⟩) (by first | omega | (simp; done) | (simp; omega))).trans (by simp)
      have cL1 : wr.cell? ⟨w.heap.size, 1, none⟩ = some (.slice (gA g) n (gC g)) := (hbel.cell (p := ⟨w.heap.size, 1, none⟩) (by first | omega | (simp; done) | (simp; omega))).trans (by simp)
      clear hgood
      by_cases hlt : k < nP
      · obtain ⟨bp, ep, hgl, c0, c1, c2⟩ := (hP.on hB).at hlt
        rw [ep]
        clear ep
        have HA : Hid ((atsTo P (k + 1)).map (Value.int .i64) = (atsTo P k).map (Value.int .i64) ++ [.int .i64 (P k 0)]) := atsTo_succ P k
        obtain ⟨x, hx⟩ : ∃ x, P k 0 = x := ⟨_, rfl⟩
        obtain ⟨y, hy⟩ : ∃ y, P k 1 = y := ⟨_, rfl⟩
        obtain ⟨z, hz⟩ : ∃ z, P k 2 = z := ⟨_, rfl⟩
        have HX : Hid (P k 0 = x ∧ P k 1 = y ∧ P k 2 = z) := ⟨hx, hy, hz⟩
        rw [hx] at c0 HA
        rw [hy] at c1
        rw [hz] at c2
        clear hP hx hy hz hbel hB
        have bad : ¬ (0 ≤ y ∧ y < (n : Int) ∧ (z = 1 ∨ z = -1)) → Hid (decide (PostsV n nP P) = false) := fun hb => by
          refine decide_eq_false fun hA => hb ?_
          have := hA.2 k hlt
          unfold postOk at this
          simp only [HX.out.2.1, HX.out.2.2] at this
          omega
        by_cases h1 : 0 ≤ y ∧ y < (n : Int)
        · have hc1 := fun w => counterOk_any S y g n w true (by simp [h1])
          by_cases h2 : z = 1 ∨ z = -1
          · have hc2 := fun w => dirOk_any z w true (by simp [h2])
            clear bad
            go_wp2_with fail
            refine (hc1 _).mono ?_
            rintro e w2 ⟨rfl, hb2⟩
            have d0 : w2.cell? ⟨wr.heap.size, 0, none⟩ = some (.int .i64 x) := (hb2.cell (p := ⟨wr.heap.size, 0, none⟩) (by first | omega | (simp; done) | (simp; omega))).trans (by simp)
            have d2 : w2.cell? ⟨wr.heap.size, 2, none⟩ = some (.int .i64 z) := (hb2.cell (p := ⟨wr.heap.size, 2, none⟩) (by first | omega | (simp; done) | (simp; omega))).trans (by simp)
            have l2 : wr.heap.size < w2.heap.size := by have := hb2.size; simp at this; omega
            have own2 := own_below (hown.alloc (.cells #[.int .i64 x, .int .i64 y, .int .i64 z] 81)) hb2
            have B2 := (HBel.out.alloc (o := .cells #[.int .i64 x, .int .i64 y, .int .i64 z] 81) (by first | omega | (simp; done) | (simp; omega))).trans (hb2.mono (by first | omega | (simp; done) | (simp; omega)))
            clear hc1 hb2
            go_wp2_with fail
            refine (hc2 _).mono ?_
            rintro e w3 ⟨rfl, hb3⟩
            have d0 : w3.cell? ⟨wr.heap.size, 0, none⟩ = some (.int .i64 x) := (hb3.cell (p := ⟨wr.heap.size, 0, none⟩) l2).trans d0
            have own3 := own_below own2 hb3
            have B3 := B2.trans (hb3.mono (by have := l2; omega))
            have hs3 := hb3.size
            have hnw := cell_one_new w3 (.int .i64 x) 3
            clear hc2 hb3 own2 B2 d2
            go_wp2_with (first
              | (at_builtin; refine wpList_append_own _ rfl _ _ 44 rfl (w.heap.size + 1) 3 i0 (.int .i64 0) 1 8 Tryd.underlying44 hi hz0 hz1 hz2 rfl (by decide) _ _ _ rfl (own3.alloc _) ⟨w3.heap.size, 0, none⟩ 1 1 [.int .i64 x] rfl rfl hnw (ints_oneCell .i64 [x]) (by unfold maxLen; omega) (by omega) (by simp; omega) ?_; intro v' w4 hown' hgrow hnil))
            go_wp2
            go_roundw
            case rel =>
              refine ⟨k + 1, by omega, by go_num, (B3.alloc (by omega) _).grown hgrow (by simp; omega) (fun j hj => (own3.lt j hj).1), by rw [HA.out]; exact hown', fun i hi => ?_⟩
              rcases (show i < k ∨ i = k by omega) with h' | rfl
              · exact HG.out i h'
              · rw [HX.out.2.1, HX.out.2.2]; exact ⟨h1, h2⟩
            case measure => simp [intOf]; omega
          · have hc2 := fun w => dirOk_any z w false (by simp [h2])
            have HN := bad (fun h => h2 h.2.2)
            clear bad
            go_wp2_with fail
            refine (hc1 _).mono ?_
            rintro e w2 ⟨rfl, hb2⟩
            have d2 : w2.cell? ⟨wr.heap.size, 2, none⟩ = some (.int .i64 z) := (hb2.cell (p := ⟨wr.heap.size, 2, none⟩) (by first | omega | (simp; done) | (simp; omega))).trans (by simp)
            have B2 := below_on (below_alloc HB.out (.cells #[.int .i64 x, .int .i64 y, .int .i64 z] 81)) hb2
            clear hc1 hb2
            go_wp2_with fail
            refine (hc2 _).mono ?_
            rintro e w3 ⟨rfl, hb3⟩
            go_wp2
            go_ret
            exact ⟨by rw [HN.out]; rfl, below_on B2 hb3⟩
        · have hc1 := fun w => counterOk_any S y g n w false (by simpa using h1)
          have HN := bad (fun h => h1 ⟨h.1, h.2.1⟩)
          clear bad
          go_wp2_with fail
          refine (hc1 _).mono ?_
          rintro e w2 ⟨rfl, hb2⟩
          go_wp2
          go_ret
          exact ⟨by rw [HN.out]; rfl, below_on (below_alloc HB.out _) hb2⟩
      · have hkn : k = nP := by omega
        subst hkn
        have hF := IntF.of_row (zs := atsTo P k) (by rw [atsTo_len]; exact hown)
        rw [atsTo_len] at hF
        have hc := ascend_any _ _ _ _ wr (by omega) hF
        have HN : Hid (decide (PostsV n k P) = decide (Asc k (fun i => (atsTo P k).getD i 0))) := decide_eq_decide.2 ⟨fun h => Asc.congr (Z := fun i => P i 0) (fun i hi => (h.2 i hi).1) (fun i hi => (atsTo_at P hi).symm), fun h => ⟨hnp, fun i hi => ⟨(Asc.congr h (Z' := fun i => P i 0) (fun i hi => atsTo_at P hi)) i hi, HG.out i hi⟩⟩⟩
        go_wp2_with fail
        refine hc.mono ?_
        rintro e w2 ⟨rfl, hb2⟩
        go_wp2
        go_ret
        exact ⟨by rw [HN.out]; rfl, below_on HB.out hb2⟩
  · have e1 : decide (PostsV n nP P) = false := decide_eq_false fun h => by have := h.1; omega
    rw [e1]
    clear e1
    go_enter Tryd.func30, Tryd.ntmps30
    go_wp2
    go_ret
    exact ⟨rfl, (by repeat (first | exact Below.refl _ _ | assumption | refine below_alloc ?_ _ | refine Below.setCell ?_ (by first | omega | (simp; done) | (simp; omega)) _ | refine Below.alloc ?_ (by first | omega | (simp; done) | (simp; omega)) _ | refine Below.drew ?_))⟩

end Go.Proofs.YtlpopfhaephfaaaDoor.Ps

namespace Go.Proofs.YtlpopfhaephfaaaDoor.Ps
open Go.RowKit

/-- A slice of n structs of three ints (element type e), in a block g with lo ≤ g and g < hi, or an empty one. -/
def TriF (w : World) (e lo hi : Nat) (v : Value) (n : Nat) (P : Nat → Nat → Int) : Prop :=
  ∃ ao cap, v = .slice ao n cap ∧ (n = 0 ∨ ∃ g m f, ao = some ⟨g, 0, none⟩ ∧ lo ≤ g ∧ g < hi ∧ n * 3 ≤ m ∧ Blk w g e m f ∧ ∀ i, i < n → ∀ j, j < 3 → f (i * 3 + j) = .int .i64 (P i j))

theorem TriF.of_block {w w' : World} {e lo hi n : Nat} {v : Value} {P : Nat → Nat → Int} (h : TriF w e lo hi v n P) (hb : ∀ g m f, Blk w g e m f → lo ≤ g → g < hi → w'.heap[g]? = w.heap[g]?) : TriF w' e lo hi v n P := by
  obtain ⟨ao, cap, rfl, h0 | ⟨g, m, f, rfl, h1, h1', h2, h3, h4⟩⟩ := h
  · exact ⟨ao, cap, rfl, .inl h0⟩
  · exact ⟨_, cap, rfl, .inr ⟨g, m, f, rfl, h1, h1', h2, h3.of_block (hb g m f h3 h1 h1'), h4⟩⟩
theorem TriF.on {w w' : World} {e lo hi n : Nat} {v : Value} {P : Nat → Nat → Int} (h : TriF w e lo hi v n P) (hb : Below w.heap.size w w') : TriF w' e lo hi v n P := h.of_block fun g _ _ h1 _ _ => hb.block g h1.lt
theorem TriF.below {w w' : World} {e lo hi n B : Nat} {v : Value} {P : Nat → Nat → Int} (h : TriF w e lo hi v n P) (hb : Below B w w') (ht : hi ≤ B) : TriF w' e lo hi v n P := h.of_block fun g _ _ _ _ h2 => hb.block g (by omega)
theorem TriF.drew {w : World} {e lo hi n : Nat} {v : Value} {P : Nat → Nat → Int} (h : TriF w e lo hi v n P) : TriF w.drew e lo hi v n P := h
theorem TriF.alloc {w : World} {e lo hi n : Nat} {v : Value} {P : Nat → Nat → Int} (h : TriF w e lo hi v n P) (o : Obj) : TriF (w.alloc o) e lo hi v n P := h.of_block fun _ _ _ h1 _ _ => Below.heap_alloc _ _ _ h1.lt
/-- a write to a block of another element type leaves it alone -/
theorem TriF.marked {w w' : World} {e lo hi n gx m e' : Nat} {v : Value} {P : Nat → Nat → Int} {f : Nat → Value} (h : TriF w e lo hi v n P) (hx : Blk w gx e' m f) (he : e' ≠ e) (hg : w.grownBy w' (some gx)) : TriF w' e lo hi v n P :=
  h.of_block fun g _ _ h1 _ _ => hg.block g h1.lt (fun e1 => by
    simp only [Option.some.injEq] at e1; subst e1
    obtain ⟨_, a1, _⟩ := h1; obtain ⟨_, a2, _⟩ := hx
    rw [a1] at a2; simp only [Option.some.injEq, Obj.cells.injEq] at a2
    exact he a2.2.1.symm)

theorem mark3_cells {w : World} {g e m k n : Nat} {f : Nat → Value} (h : Blk w g e m f) (hm : n * 3 ≤ m) (hk : k < n) : w.cell? ⟨g, k * 3, none⟩ = some (f (k * 3)) ∧ w.cell? ⟨g, k * 3 + 1, none⟩ = some (f (k * 3 + 1)) ∧ w.cell? ⟨g, k * 3 + 2, none⟩ = some (f (k * 3 + 2)) :=
  ⟨h.cell (by omega), h.cell (by omega), h.cell (by omega)⟩

/-- what stands in the block behind k rounds of marking -/
def mark3 (q0 : Int) (k : Nat) (f : Nat → Value) : Nat → Value := fun c => if c < k * 3 then .int .i64 (q0 + (c : Int)) else f c

theorem mark3_step (q0 : Int) (k : Nat) (f : Nat → Value) (c : Nat) :
    (if c = k * 3 + 2 then Value.int .i64 (q0 + 3 * (k : Int) + 1 + 1) else if c = k * 3 + 1 then Value.int .i64 (q0 + 3 * (k : Int) + 1) else if c = k * 3 then Value.int .i64 (q0 + 3 * (k : Int)) else mark3 q0 k f c) = mark3 q0 (k + 1) f c := by
  unfold mark3
  split
  · rename_i h; subst h; rw [if_pos (by omega)]; congr 1; omega
  · split
    · rename_i h; subst h; rw [if_pos (by omega)]; congr 1; omega
    · split
      · rename_i h; subst h; rw [if_pos (by omega)]; congr 1; omega
      · by_cases h : c < k * 3
        · rw [if_pos h, if_pos (by omega)]
        · rw [if_neg h, if_neg (by omega)]

end Go.Proofs.YtlpopfhaephfaaaDoor.Ps

namespace Go.Proofs.YtlpopfhaephfaaaDoor.Ps
open Go.RowKit Go.Sort

theorem Tryd.infoE : (Tryd.prog.info? 56).map (fun i => (i.zero, i.size, i.bytes)) = some (some (.agg #[.int .i64 0, .int .i64 0, .int .i64 0]), 3, 24) := by kernel_rfl

def sumR (n : Nat) (f : Nat → Nat) : Nat := ((List.range n).map f).sum
theorem sumR_succ (n : Nat) (f : Nat → Nat) : sumR (n + 1) f = sumR n f + f n := by simp [sumR, List.range_succ]
theorem sumR_le {n m : Nat} {f : Nat → Nat} (h : ∀ k, k < n → f k ≤ m) : sumR n f ≤ n * m := by
  induction n with
  | zero => simp [sumR]
  | succ n ih => rw [sumR_succ, Nat.succ_mul]; have := ih (fun k hk => h k (by omega)); have := h n (by omega); omega
theorem sumR_congr {n : Nat} {f g : Nat → Nat} (h : ∀ k, k < n → f k = g k) : sumR n f = sumR n g := by
  induction n with
  | zero => rfl
  | succ n ih => rw [sumR_succ, sumR_succ, ih (fun k hk => h k (by omega)), h n (by omega)]
theorem sumR_step {n k : Nat} {f g : Nat → Nat} (hk : k < n) (h1 : f k = g k + 1) (h2 : ∀ j, j ≠ k → f j = g j) : sumR n f = sumR n g + 1 := by
  induction n with
  | zero => omega
  | succ n ih =>
    rw [sumR_succ, sumR_succ]
    rcases (show k < n ∨ k = n by omega) with h | rfl
    · rw [ih h, h2 n (by omega)]; omega
    · rw [sumR_congr (fun j hj => h2 j (by omega)), h1]; omega

def lenOf : Value → Nat
  | .slice _ n _ => n
  | _ => 0

/-- the event of a meeting -/
def evM (P : Nat → Nat → Int) (z : M3) : M3 := ⟨1, P z.p.toNat 1, P z.p.toNat 2⟩

theorem own_len {w : World} {base e : Nat} {v : Value} {n : Nat} {xs : List Value} {sz : Nat} (h : w.ownsRow base e sz v n xs) : lenOf v = n := by
  rcases h.2 with ⟨rfl, h0⟩ | ⟨g, cap, cur, rfl, _⟩
  · rw [h0]; rfl
  · rfl

/-- a row of another element type stays under what push and pop do -/
theorem own_fr {w w' : World} {hb lo base e sz n : Nat} {v ve : Value} {L : List M3} {xs : List Value} (h : w.ownsRow base e sz ve n xs) (hA : HeapAt w hb lo v L) (hF : Fr w w' hb v.ownBlock) (h1 : e ≠ 89) (h2 : e ≠ 116) : w'.ownsRow base e sz ve n xs := by
  refine ⟨h.1, ?_⟩
  rcases h.2 with h0 | ⟨g, cap, cur, rfl, hb1, hh, r⟩
  · exact .inl h0
  · refine .inr ⟨g, cap, cur, rfl, hb1, ?_, r⟩
    rw [hF.block g (Array.getElem?_eq_some_iff.1 hh).1 ?_ ?_]
    · exact hh
    · rintro rfl
      obtain ⟨ys, a1, _⟩ := hA.1
      rw [hh] at a1
      simp only [Option.some.injEq, Obj.cells.injEq] at a1
      exact h2 a1.2.1
    · intro e1
      rcases hA.2.2 with ⟨rfl, _⟩ | ⟨g', cap', cur', rfl, _, hh', _⟩
      · simp [Value.ownBlock] at e1
      · simp only [Value.ownBlock, Option.some.injEq] at e1
        subst e1
        rw [hh] at hh'
        simp only [Option.some.injEq, Obj.cells.injEq] at hh'
        exact h1 hh'.2.1

/-- what Passing is asked of -/
def PasV (S : Int) (n : Nat) (F T : Nat → Int) (nP : Nat) (P : Nat → Nat → Int) (nA : Nat) (Z : Nat → Int) (fr tt : Int) : Prop :=
  lokZ S n F T = 0 ∧ PostsV n nP P ∧ AxlesV nA Z ∧ (0 ≤ fr ∧ fr ≤ 1000000 ∧ fr ≤ tt ∧ tt ≤ 1000000)

/-- the meetings that are told -/
def IsPas (S : Int) (n : Nat) (F T : Nat → Int) (nP : Nat) (P : Nat → Nat → Int) (nA : Nat) (Z : Nat → Int) (fr tt : Int) (E : List M3) : Prop :=
  (PasV S n F T nP P nA Z fr tt → E.Pairwise lt3 ∧ ∀ z, z ∈ E ↔ InR nA nP P Z fr tt z) ∧ (¬ PasV S n F T nP P nA Z fr tt → E = [])

theorem IsPas.unique {S : Int} {n : Nat} {F T : Nat → Int} {nP : Nat} {P : Nat → Nat → Int} {nA : Nat} {Z : Nat → Int} {fr tt : Int} {E E' : List M3} (h : IsPas S n F T nP P nA Z fr tt E) (h' : IsPas S n F T nP P nA Z fr tt E') : E = E' := by
  by_cases hV : PasV S n F T nP P nA Z fr tt
  · exact sorted_unique (h.1 hV).1 (h'.1 hV).1 (fun z => by rw [(h.1 hV).2, (h'.1 hV).2])
  · rw [h.2 hV, h'.2 hV]

theorem IsPas.nil {S : Int} {n : Nat} {F T : Nat → Int} {nP : Nat} {P : Nat → Nat → Int} {nA : Nat} {Z : Nat → Int} {fr tt : Int} (h : ¬ PasV S n F T nP P nA Z fr tt) : IsPas S n F T nP P nA Z fr tt [] := ⟨fun h' => absurd h' h, fun _ => rfl⟩

/-- the loop of Passing -/
structure PL (w wr : World) (hb lo : Nat) (ve : Value) (nA nP : Nat) (P : Nat → Nat → Int) (Z : Nat → Int) (fr tt : Int) (v : Value) (L E : List M3) (nx : Nat → Nat) : Prop where
  mg : Mg nA nP P Z fr tt L E nx
  hp : HeapAt wr hb lo v L
  ll : L.length ≤ nA
  ev : wr.ownsRow w.heap.size 56 3 ve (E.map (evM P)).length (flat (E.map (evM P)))
  sm : E.length + sumR nA (fun k => nP - nx k) ≤ nA * nP
  bl : RowKit.Below w.heap.size w wr

end Go.Proofs.YtlpopfhaephfaaaDoor.Ps

namespace Go.Proofs.YtlpopfhaephfaaaDoor.Ps
open Go.RowKit Go.Sort

open Classical in
/-- the four tests ahead, each by its contract -/
theorem tests_any (S : Int) (g n gp nP ga nA : Nat) (F T : Nat → Int) (P : Nat → Nat → Int) (Z : Nat → Int) (fr tt : Int) (w : World) (hL : CRow w g n F T) (hP : PRow w gp nP P) (hA : ARow w ga nA Z) (hp : nP ≤ 1048576) (ha : nA ≤ 1048576) :
    (∀ W, RowKit.Below w.heap.size w W → Calls Tryd.prog 17 #[.agg #[.int .i64 S, .slice (gA g) n (gC g)]] W fun e w' => e = .returned (.int .i64 (lokZ S n F T)) ∧ RowKit.Below W.heap.size W w') ∧
    (∀ W, RowKit.Below w.heap.size w W → Calls Tryd.prog 30 #[.agg #[.int .i64 S, .slice (gA g) n (gC g)], .slice (gA gp) nP (gC gp)] W fun e w' => e = .returned (.bool (decide (PostsV n nP P))) ∧ RowKit.Below W.heap.size W w') ∧
    (∀ W, RowKit.Below w.heap.size w W → Calls Tryd.prog 31 #[.slice (gA ga) nA (gC ga)] W fun e w' => e = .returned (.bool (decide (AxlesV nA Z))) ∧ RowKit.Below W.heap.size W w') ∧
    (∀ W, Calls Tryd.prog 32 #[.int .i64 fr, .int .i64 tt] W fun e w' => e = .returned (.bool (decide (0 ≤ fr ∧ fr ≤ 1000000 ∧ fr ≤ tt ∧ tt ≤ 1000000))) ∧ RowKit.Below W.heap.size W w') :=
  ⟨fun W hW => implLayoutOk_any S g n F T W (hL.on hW), fun W hW => postsOk_any S g n gp nP P W (hP.on hW) hp, fun W hW => by
    have := axlesOk_any ga nA Z W ha (hA.on hW)
    rw [show decide (AxlesV nA Z) = decide (nA ≤ 200 ∧ Asc nA Z) from decide_eq_decide.2 Iff.rfl]
    exact this, fun W => by
    have := stretchOk_any fr tt W
    rw [decide_eq_decide.2 (Iff.refl (0 ≤ fr ∧ fr ≤ 1000000 ∧ fr ≤ tt ∧ tt ≤ 1000000))] at this
    exact this⟩

theorem ev_nil (w : World) (B : Nat) : w.ownsRow B 56 3 (.slice none 0 0) (([] : List M3).map (evM (fun _ _ => 0))).length (flat (([] : List M3).map (evM (fun _ _ => 0)))) := World.ownsRow_nil _ _ _ _

open Classical in
set_option maxRecDepth 100000 in
set_option maxHeartbeats 2000000 in
theorem implPassing_bad (S : Int) (g n gp nP ga nA : Nat) (F T : Nat → Int) (P : Nat → Nat → Int) (Z : Nat → Int) (fr tt : Int) (w : World) (hL : CRow w g n F T) (hP : PRow w gp nP P) (hA : ARow w ga nA Z) (hp : nP ≤ 1048576) (ha : nA ≤ 1048576)
    (hV : ¬ PasV S n F T nP P nA Z fr tt) :
    Calls Tryd.prog 13 #[.agg #[.int .i64 S, .slice (gA g) n (gC g)], .slice (gA gp) nP (gC gp), .slice (gA ga) nA (gC ga), .int .i64 fr, .int .i64 tt] w fun e w' => e = .returned (.slice none 0 0) ∧ RowKit.Below w.heap.size w w' := by
  obtain ⟨t1, t2, t3, t4⟩ := tests_any S g n gp nP ga nA F T P Z fr tt w hL hP hA hp ha
  clear hL hP hA hp ha
  have hA : ∀ W, RowKit.Below (w.alloc (.cells #[.int .i64 S, .slice (gA g) n (gC g)] 25)).heap.size (w.alloc (.cells #[.int .i64 S, .slice (gA g) n (gC g)] 25)) W → RowKit.Below w.heap.size w W ∧ W.cell? ⟨w.heap.size, 0, none⟩ = some (.int .i64 S) ∧ W.cell? ⟨w.heap.size, 1, none⟩ = some (.slice (gA g) n (gC g)) := fun W hb =>
    ⟨below_on (below_alloc (RowKit.Below.refl _ _) _) hb, (hb.cell (p := ⟨w.heap.size, 0, none⟩) (by first | omega | (simp; done) | (simp; omega))).trans (by simp), (hb.cell (p := ⟨w.heap.size, 1, none⟩) (by first | omega | (simp; done) | (simp; omega))).trans (by simp)⟩
  by_cases h1 : lokZ S n F T = 0
  · rw [h1] at t1
    by_cases h2 : PostsV n nP P
    · simp only [decide_eq_true h2] at t2
      by_cases h3 : AxlesV nA Z
      · simp only [decide_eq_true h3] at t3
        have h4 : ¬ (0 ≤ fr ∧ fr ≤ 1000000 ∧ fr ≤ tt ∧ tt ≤ 1000000) := fun h => hV ⟨h1, h2, h3, h⟩
        simp only [decide_eq_false h4] at t4
        clear h1 h2 h3 h4 hV
        go_enter Tryd.func13, Tryd.ntmps13
        go_wp2_with fail
        refine (t1 _ (below_alloc (RowKit.Below.refl _ _) _)).mono ?_
        rintro e w1 ⟨rfl, B1⟩
        obtain ⟨B1', a0, a1⟩ := hA _ B1
        go_wp2_with fail
        refine (t2 _ B1').mono ?_
        rintro e w2 ⟨rfl, hb2⟩
        have B2 := below_on B1' hb2
        go_wp2_with fail
        refine (t3 _ B2).mono ?_
        rintro e w3 ⟨rfl, hb3⟩
        have B3 := below_on B2 hb3
        go_wp2_with fail
        refine (t4 _).mono ?_
        rintro e w4 ⟨rfl, hb4⟩
        go_wp2
        go_ret
        exact ⟨rfl, below_on B3 hb4⟩
      · simp only [decide_eq_false h3] at t3
        clear h1 h2 h3 hV t4
        go_enter Tryd.func13, Tryd.ntmps13
        go_wp2_with fail
        refine (t1 _ (below_alloc (RowKit.Below.refl _ _) _)).mono ?_
        rintro e w1 ⟨rfl, B1⟩
        obtain ⟨B1', a0, a1⟩ := hA _ B1
        go_wp2_with fail
        refine (t2 _ B1').mono ?_
        rintro e w2 ⟨rfl, hb2⟩
        have B2 := below_on B1' hb2
        go_wp2_with fail
        refine (t3 _ B2).mono ?_
        rintro e w3 ⟨rfl, hb3⟩
        go_wp2
        go_ret
        exact ⟨rfl, below_on B2 hb3⟩
    · simp only [decide_eq_false h2] at t2
      clear h1 h2 hV t3 t4
      go_enter Tryd.func13, Tryd.ntmps13
      go_wp2_with fail
      refine (t1 _ (below_alloc (RowKit.Below.refl _ _) _)).mono ?_
      rintro e w1 ⟨rfl, B1⟩
      obtain ⟨B1', a0, a1⟩ := hA _ B1
      go_wp2_with fail
      refine (t2 _ B1').mono ?_
      rintro e w2 ⟨rfl, hb2⟩
      go_wp2
      go_ret
      exact ⟨rfl, below_on B1' hb2⟩
  · have h1' : (lokZ S n F T != 0) = true := by simpa using h1
    clear h1 hV t2 t3 t4
    go_enter Tryd.func13, Tryd.ntmps13
    go_wp2_with fail
    refine (t1 _ (below_alloc (RowKit.Below.refl _ _) _)).mono ?_
    rintro e w1 ⟨rfl, B1⟩
    go_wp2
    go_ret
    exact ⟨rfl, (hA _ B1).1⟩

theorem PL.step {w wr w' : World} {hb lo nA nP : Nat} {ve v7 v v' : Value} {P : Nat → Nat → Int} {Z : Nat → Int} {fr tt : Int} {L L' L'' E : List M3} {nx : Nat → Nat} (h : PL w wr hb lo ve nA nP P Z fr tt v L E nx) (hn : 0 < L.length) (hmono : ∀ i j, i ≤ j → j < nP → P i 0 ≤ P j 0) (hp : (at3 L 0 :: L').Perm L) (htt : (at3 L 0).f ≤ tt)
    {k : Nat} (hk : k < nA) (hkn : nx k < nP) (he : at3 L 0 = item P Z k (nx k)) (hA : HeapAt w' hb lo v' L'') (hh : HeapL L'')
    (hL : (nx k + 1 < nP ∧ L''.Perm (L' ++ [item P Z k (nx k + 1)])) ∨ (nP ≤ nx k + 1 ∧ L''.Perm L'))
    (hev : w'.ownsRow w.heap.size 56 3 v7 (E.length + 1) (flat (E.map (evM P)) ++ [.int .i64 1, .int .i64 (P (nx k) 1), .int .i64 (P (nx k) 2)])) (hb' : RowKit.Below w.heap.size w w') :
    PL w w' hb lo v7 nA nP P Z fr tt v' L'' (E ++ [at3 L 0]) (fun j => if j = k then nx k + 1 else nx j) := by
  have e1 : evM P (at3 L 0) = ⟨1, P (nx k) 1, P (nx k) 2⟩ := by rw [he]; rfl
  refine ⟨h.mg.step hn hmono hp htt hk hkn he hh hL, hA, ?_, ?_, ?_, hb'⟩
  · have l1 := hp.length_eq
    have := h.ll
    rcases hL with ⟨_, b⟩ | ⟨_, b⟩
    · have := b.length_eq; simp at *; omega
    · have := b.length_eq; simp at *; omega
  · rw [List.map_append, List.map_cons, List.map_nil, flat_snoc, e1]
    simpa using hev
  · have := sumR_step (n := nA) (k := k) (f := fun j => nP - nx j) (g := fun j => nP - (if j = k then nx k + 1 else nx j)) hk (by simp; omega) (fun j hj => by simp [hj])
    have h2 := h.sm
    simp at *
    omega

theorem heap_kept {w w' : World} {hb lo base e sz n : Nat} {v ve : Value} {L : List M3} {xs : List Value} (hA : HeapAt w hb lo v L) (h : w.ownsRow base e sz ve n xs) (hg : w.grownBy w' ve.ownBlock) (h1 : e ≠ 89) (h2 : e ≠ 116) : HeapAt w' hb lo v L := by
  refine ⟨hA.1.grown hg (row_ne h hA.1 (fun x => h2 x.symm)), hA.2.1, ?_⟩
  rcases hA.2.2 with h0 | ⟨g, cap, cur, rfl, hb1, hh, r⟩
  · exact .inl h0
  · refine .inr ⟨g, cap, cur, rfl, hb1, ?_, r⟩
    rw [hg.block g (Array.getElem?_eq_some_iff.1 hh).1 ?_]
    · exact hh
    · intro e1
      rcases h.2 with ⟨rfl, _⟩ | ⟨g', cap', cur', rfl, _, hh', _⟩
      · simp [Value.ownBlock] at e1
      · simp only [Value.ownBlock, Option.some.injEq] at e1
        subst e1
        rw [hh] at hh'
        simp only [Option.some.injEq, Obj.cells.injEq] at hh'
        exact h1 hh'.2.1.symm

open Classical in
set_option maxRecDepth 100000 in
set_option maxHeartbeats 4000000 in
theorem implPassing_good (S : Int) (g n gp nP ga nA : Nat) (F T : Nat → Int) (P : Nat → Nat → Int) (Z : Nat → Int) (fr tt : Int) (w : World) (hL : CRow w g n F T) (hP : PRow w gp nP P) (hA : ARow w ga nA Z)
    (hV : PasV S n F T nP P nA Z fr tt) (hnP : 0 < nP) :
    Calls Tryd.prog 13 #[.agg #[.int .i64 S, .slice (gA g) n (gC g)], .slice (gA gp) nP (gC gp), .slice (gA ga) nA (gC ga), .int .i64 fr, .int .i64 tt] w fun e w' => ∃ (v : Value) (E : List M3), e = .returned v ∧ (E.Pairwise lt3 ∧ ∀ z, z ∈ E ↔ InR nA nP P Z fr tt z) ∧ E.length ≤ nA * nP ∧ w'.ownsRow w.heap.size 56 3 v (E.map (evM P)).length (flat (E.map (evM P))) ∧ RowKit.Below w.heap.size w w' := by
  obtain ⟨h1, h2, h3, h4⟩ := hV
  obtain ⟨t1, t2, t3, t4⟩ := tests_any S g n gp nP ga nA F T P Z fr tt w hL hP hA (by have := h2.1; omega) (by have := h3.1; omega)
  rw [h1] at t1
  simp only [decide_eq_true h2] at t2
  simp only [decide_eq_true h3] at t3
  simp only [decide_eq_true h4] at t4
  have hmono := Asc.mono (n := nP) (Z := fun i => P i 0) (fun i hi => (h2.2 i hi).1)
  have bP := Asc.bound (n := nP) (Z := fun i => P i 0) (fun i hi => (h2.2 i hi).1)
  have bZ := h3.2.bound
  have n1 := h2.1
  have n2 := h3.1
  have hBox : ∀ W, RowKit.Below (w.alloc (.cells #[.int .i64 S, .slice (gA g) n (gC g)] 25)).heap.size (w.alloc (.cells #[.int .i64 S, .slice (gA g) n (gC g)] 25)) W → RowKit.Below w.heap.size w W ∧ W.cell? ⟨w.heap.size, 0, none⟩ = some (.int .i64 S) ∧ W.cell? ⟨w.heap.size, 1, none⟩ = some (.slice (gA g) n (gC g)) := fun W hb =>
    ⟨below_on (below_alloc (RowKit.Below.refl _ _) _) hb, (hb.cell (p := ⟨w.heap.size, 0, none⟩) (by first | omega | (simp; done) | (simp; omega))).trans (by simp), (hb.cell (p := ⟨w.heap.size, 1, none⟩) (by first | omega | (simp; done) | (simp; omega))).trans (by simp)⟩
  have hFM := fun W (hW : RowKit.Below w.heap.size w W) => firstMeetings_any gp ga nP nA P Z fr W (hP.on hW) (hA.on hW) n1 n2 bP bZ
  have hM := fun W (hW : RowKit.Below w.heap.size w W) k i (hk : k < nA) (hi : i < nP) => meet_any gp ga nP nA k i P Z W (hP.on hW) (hA.on hW) hk hi (bP i hi).1 (bP i hi).2 (bZ k hk).1 (bZ k hk).2
  have hR := fun W (hW : RowKit.Below w.heap.size w W) => hP.on hW
  obtain ⟨i0, hi, hz0, hz1, hz2⟩ := info_parts Tryd.infoE
  obtain ⟨bp, ep, _⟩ := hP.at hnP
  have EPH : Hid (gA gp = some ⟨bp, 0, none⟩) := ep
  simp only [ep] at t2 hFM hM
  rw [ep]
  clear h1 h2 h3 h4 hL hP hA ep
  go_enter Tryd.func13, Tryd.ntmps13
  go_wp2_with fail
  refine (t1 _ (below_alloc (RowKit.Below.refl _ _) _)).mono ?_
  rintro e w1 ⟨rfl, B1⟩
  obtain ⟨B1', a0, a1⟩ := hBox _ B1
  go_wp2_with fail
  refine (t2 _ B1').mono ?_
  rintro e w2 ⟨rfl, hb2⟩
  have B2 := below_on B1' hb2
  clear a0 a1 hb2 B1 B1'
  go_wp2_with fail
  refine (t3 _ B2).mono ?_
  rintro e w3 ⟨rfl, hb3⟩
  have B3 := below_on B2 hb3
  clear hb3 B2
  go_wp2_with fail
  refine (t4 _).mono ?_
  rintro e w4 ⟨rfl, hb4⟩
  have B4 := below_on B3 hb4
  clear hb4 B3 t1 t2 t3 t4 hBox
  go_wp2_with fail
  refine (hFM _ B4).mono ?_
  rintro e w5 ⟨v5, L5, rfl, FM5, hb5⟩
  have B5 := below_on B4 hb5
  have hs4 := B4.size
  have P5 : PL w w5 w4.heap.size w4.heap.size (.slice none 0 0) nA nP P Z fr tt v5 L5 [] (fun k => fst P nP fr (Z k)) :=
    ⟨Mg.start FM5.hp FM5.nd FM5.lm, FM5.at_, FM5.len, World.ownsRow_nil _ _ _ _, by
      have := sumR_le (n := nA) (m := nP) (f := fun k => nP - fst P nP fr (Z k)) (fun k _ => by omega)
      simpa using this, B5⟩
  clear FM5 hb5 hFM B4 B5
  go_wp2_with fail
  go_loopw [11] (fun ve wr => ∃ (v : Value) (L E : List M3) (nx : Nat → Nat), PL w wr w4.heap.size w4.heap.size ve nA nP P Z fr tt v L E nx) (fun ve _ => nA * nP - lenOf ve)
  case atStart => exact ⟨v5, L5, [], _, P5⟩
  case round =>
    obtain ⟨v, L, E, nx, hPL⟩ := hrel
    clear P5
    have hsz := size_any _ _ _ _ wr hPL.hp
    have hE0 : E.length ≤ 24000 := by have := hPL.sm; have : nA * nP ≤ 200 * 120 := Nat.mul_le_mul n2 n1; omega
    have hE1 : E.length ≤ nA * nP := by have := hPL.sm; omega
    rcases Nat.eq_zero_or_pos L.length with hl0 | hlp
    · have hL0 : L = [] := List.length_eq_zero_iff.1 hl0
      subst hL0
      go_wp2_with fail
      refine hsz.mono ?_
      rintro e w6 ⟨rfl, rfl⟩
      go_wp2
      go_ret
      exact ⟨_, E, rfl, hPL.mg.done_empty, hE1, hPL.ev, hPL.bl⟩
    · have hpop := pop_any _ _ _ _ wr hPL.hp hlp (by have := hPL.ll; omega) hPL.mg.hp
      obtain ⟨k, hk, hkn, he⟩ := (hPL.mg.lm _).1 (at3_mem hlp)
      obtain ⟨x, hx⟩ : ∃ x, (at3 L 0).f = x := ⟨_, rfl⟩
      have ea : (at3 L 0).a = (k : Int) := by rw [he]; rfl
      have ep : (at3 L 0).p = ((nx k : Nat) : Int) := by rw [he]; rfl
      simp only [hx, ea, ep] at hpop
      have hlI : (0 : Int) < (L.length : Int) := by omega
      have HPL : Hid (PL w wr w4.heap.size w4.heap.size u11 nA nP P Z fr tt v L E nx) := hPL
      have HX : Hid ((at3 L 0).f = x) := hx
      have HE : Hid (at3 L 0 = item P Z k (nx k)) := he
      clear hPL hx ea ep he
      go_wp2_with fail
      refine hsz.mono ?_
      rintro e w6 ⟨rfl, hw6⟩
      rw [hw6]
      clear hsz hw6 w6
      go_wp2_with fail
      refine hpop.mono ?_
      rintro e w6 ⟨rfl, v6, L6, hA6, hH6, hPm, hvo, hFr⟩
      have hsW : w4.heap.size ≤ wr.heap.size := Nat.le_of_lt HPL.out.hp.1.lt
      have B6 : RowKit.Below w.heap.size w w6 := Fr.below HPL.out.bl hFr HPL.out.bl.size (by omega) (fun g hg => by have := (HPL.out.hp.2.lt g hg).1; omega)
      have ev6 := own_fr HPL.out.ev HPL.out.hp hFr (by decide) (by decide)
      have s6 := hFr.size
      obtain ⟨bp', ep', g6, c0, c1, c2⟩ := (hR _ B6).at hkn
      rw [EPH.out] at ep'
      simp only [Option.some.injEq, Addr.mk.injEq, and_true] at ep'
      subst ep'
      have g7 : bp < w6.heap.size + 1 := by omega
      clear hpop
      by_cases hfar : tt < x
      · go_wp2
        go_ret
        exact ⟨_, E, rfl, HPL.out.mg.done_far hmono (by rw [HX.out]; exact hfar), hE1, own_alloc ev6 _, below_alloc B6 _⟩
      · have hEL : (E.map (evM P)).length = E.length := by simp
        have lt1 : ((nx k : Nat) : Int) < (nP : Int) := by omega
        have hnw : ∀ o1 o2, ∀ j u, [Value.int .i64 1, Value.int .i64 (P (nx k) 1), Value.int .i64 (P (nx k) 2)][j]? = some u → (((w6.alloc o1).alloc o2).alloc (.cells #[.int .i64 1, .int .i64 (P (nx k) 1), .int .i64 (P (nx k) 2)] 56)).cell? ((⟨w6.heap.size + 1 + 1, 0, none⟩ : Addr).add j) = some u := fun o1 o2 => by
          have := cells3_new ((w6.alloc o1).alloc o2) (.int .i64 1) (.int .i64 (P (nx k) 1)) (.int .i64 (P (nx k) 2)) 56
          simp only [World.size_alloc] at this
          exact this
        have hM7 : ∀ w7, (((w6.alloc (.cells #[.int .i64 x, .int .i64 k, .int .i64 ((nx k : Nat) : Int)] 89)).alloc (.cells #[.int .i64 (P (nx k) 0), .int .i64 (P (nx k) 1), .int .i64 (P (nx k) 2)] 81)).alloc (.cells #[.int .i64 1, .int .i64 (P (nx k) 1), .int .i64 (P (nx k) 2)] 56)).grownBy w7 u11.ownBlock →
            w7.cell? ⟨w6.heap.size, 1, none⟩ = some (.int .i64 k) ∧ w7.cell? ⟨w6.heap.size, 2, none⟩ = some (.int .i64 ((nx k : Nat) : Int)) := fun w7 hg => by
          have bM := ((Blk.new w6 #[.int .i64 x, .int .i64 k, .int .i64 ((nx k : Nat) : Int)] 89 (topcell ⟨x, k, ((nx k : Nat) : Int)⟩) (fun i hi => by match i, hi with | 0, _ => rfl | 1, _ => rfl | 2, _ => rfl)).alloc (.cells #[.int .i64 (P (nx k) 0), .int .i64 (P (nx k) 1), .int .i64 (P (nx k) 2)] 81)).alloc (.cells #[.int .i64 1, .int .i64 (P (nx k) 1), .int .i64 (P (nx k) 2)] 56)
          have bM7 := bM.grown hg (row_ne (own_alloc (own_alloc (own_alloc ev6 _) _) _) bM (by decide))
          exact ⟨bM7.cell (i := 1) (by simp), bM7.cell (i := 2) (by simp)⟩
        go_wp2_with (first
          | (at_builtin; refine wpList_append_own _ rfl _ _ 26 rfl w.heap.size 56 i0 (.agg #[.int .i64 0, .int .i64 0, .int .i64 0]) 3 24 Tryd.underlying26 hi hz0 hz1 hz2 rfl (by decide) _ _ _ rfl (own_alloc (own_alloc (own_alloc ev6 _) _) _) ⟨w6.heap.size + 1 + 1, 0, none⟩ 1 1 [.int .i64 1, .int .i64 (P (nx k) 1), .int .i64 (P (nx k) 2)] rfl rfl (hnw _ _) (by simp [Value.oneCell']) (by unfold maxLen; omega) (by omega) (by have := B6.size; simp; omega) ?_; intro v7 w7 hown7 hgrow7 hnil7; obtain ⟨m1, m2⟩ := hM7 w7 hgrow7))
        · have hlt : nx k + 1 < nP := by have : ((nx k : Nat) : Int) + 1 < (nP : Int) := by assumption
                                         omega
          have A7 := heap_kept (hA6.on (below_alloc (below_alloc (below_alloc (RowKit.Below.refl _ _) (.cells #[.int .i64 x, .int .i64 k, .int .i64 ((nx k : Nat) : Int)] 89)) (.cells #[.int .i64 (P (nx k) 0), .int .i64 (P (nx k) 1), .int .i64 (P (nx k) 2)] 81)) (.cells #[.int .i64 1, .int .i64 (P (nx k) 1), .int .i64 (P (nx k) 2)] 56))) (own_alloc (own_alloc (own_alloc ev6 _) _) _) hgrow7 (by decide) (by decide)
          have B7 := (below_alloc (below_alloc (below_alloc B6 (.cells #[.int .i64 x, .int .i64 k, .int .i64 ((nx k : Nat) : Int)] 89)) (.cells #[.int .i64 (P (nx k) 0), .int .i64 (P (nx k) 1), .int .i64 (P (nx k) 2)] 81)) (.cells #[.int .i64 1, .int .i64 (P (nx k) 1), .int .i64 (P (nx k) 2)] 56)).grown hgrow7 (by have := B6.size; simp; omega) (fun j hj => (ev6.lt j hj).1)
          have hme := hM w7 B7 k (nx k + 1) hk hlt
          have ec : (((nx k + 1 : Nat) : Int)) = ((nx k : Nat) : Int) + 1 := by omega
          rw [ec] at hme
          refine hme.mono ?_
          rintro e w8 ⟨rfl, hb8⟩
          have A8 := A7.on hb8
          have B8 := below_on B7 hb8
          have s8 : w4.heap.size ≤ w8.heap.size := Nat.le_of_lt A8.1.lt
          have hpu := push_any _ _ _ L6 ⟨P (nx k + 1) 0 + Z k, k, ((nx k : Nat) : Int) + 1⟩ w8 A8 s8 (by have := HPL.out.ll; have := hPm.length_eq; simp at this; omega) hH6
          have ev8 := own_below hown7 hb8
          go_wp2_with fail
          refine hpu.mono ?_
          rintro e w9 ⟨rfl, v9, L9, A9, H9, P9, loc9, F9⟩
          have ev9 := own_fr ev8 A8 F9 (by decide) (by decide)
          have B9 := Fr.below B8 F9 B8.size (by omega) (fun g hg => by have := (A8.2.lt g hg).1; omega)
          have PL9 := PL.step HPL.out hlp hmono hPm (by rw [HX.out]; omega) hk hkn HE.out A9 H9 (.inl ⟨hlt, by unfold item; rw [ec]; exact P9⟩) (by rw [← hEL]; exact ev9) B9
          have l9 := own_len ev9
          have l6 := own_len ev6
          have sm9 := PL9.sm
          clear hpu hme
          go_wp2_with fail
          go_roundw
          case rel => exact ⟨v9, L9, _, _, PL9⟩
          case measure => rw [l9, l6]; simp at sm9 ⊢; omega
        · have hlt : ¬ nx k + 1 < nP := by have : (nP : Int) ≤ ((nx k : Nat) : Int) + 1 := by assumption
                                           omega
          have A7 := heap_kept (hA6.on (below_alloc (below_alloc (below_alloc (RowKit.Below.refl _ _) (.cells #[.int .i64 x, .int .i64 k, .int .i64 ((nx k : Nat) : Int)] 89)) (.cells #[.int .i64 (P (nx k) 0), .int .i64 (P (nx k) 1), .int .i64 (P (nx k) 2)] 81)) (.cells #[.int .i64 1, .int .i64 (P (nx k) 1), .int .i64 (P (nx k) 2)] 56))) (own_alloc (own_alloc (own_alloc ev6 _) _) _) hgrow7 (by decide) (by decide)
          have B7 := (below_alloc (below_alloc (below_alloc B6 (.cells #[.int .i64 x, .int .i64 k, .int .i64 ((nx k : Nat) : Int)] 89)) (.cells #[.int .i64 (P (nx k) 0), .int .i64 (P (nx k) 1), .int .i64 (P (nx k) 2)] 81)) (.cells #[.int .i64 1, .int .i64 (P (nx k) 1), .int .i64 (P (nx k) 2)] 56)).grown hgrow7 (by have := B6.size; simp; omega) (fun j hj => (ev6.lt j hj).1)
          have PL9 := PL.step HPL.out hlp hmono hPm (by rw [HX.out]; omega) hk hkn HE.out A7 hH6 (.inr ⟨by omega, List.Perm.refl _⟩) (by rw [← hEL]; exact hown7) B7
          have l9 := own_len hown7
          have l6 := own_len ev6
          have sm9 := PL9.sm
          go_roundw
          case rel => exact ⟨v6, L6, _, _, PL9⟩
          case measure => rw [l9, l6]; simp at sm9 ⊢; omega

end Go.Proofs.YtlpopfhaephfaaaDoor.Ps
