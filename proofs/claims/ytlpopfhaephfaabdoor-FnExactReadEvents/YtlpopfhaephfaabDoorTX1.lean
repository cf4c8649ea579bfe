import Derived.Lib.Split
import Derived.Lib.AtoiAll
import Derived.Test.YtlpopfhaephfaabDoorTX0
namespace Go.Proofs.YtlpopfhaephfaabDoor
open Go.RowKit

/-! ## a text cut at the blanks -/

theorem index_cons1 (c : UInt8) : ∀ (p q : List UInt8), c ∉ p → Lib.index (p ++ c :: q) [c] = (p.length : Int) := by
  intro p q hp
  refine Lib.index_first (by simp) ?_ ?_
  · simp [Lib.occAt]
  · intro j hj
    cases h : Lib.occAt (p ++ c :: q) [c] j with
    | false => rfl
    | true =>
      have h2 := Lib.occAt_head rfl h
      rw [List.getElem?_append_left hj] at h2
      exact absurd (List.mem_of_getElem? h2) hp

theorem index_none1 (c : UInt8) (p : List UInt8) (hp : c ∉ p) : Lib.index p [c] = -1 := by
  refine Lib.index_none fun j hj => ?_
  cases h : Lib.occAt p [c] j with
  | false => rfl
  | true => exact absurd (List.mem_of_getElem? (Lib.occAt_head rfl h)) hp

theorem split_none1 (c : UInt8) (p : List UInt8) (hp : c ∉ p) : Lib.split p [c] = [p] := by
  unfold Lib.split
  rw [Lib.count_miss (index_none1 c p hp)]
  rfl

theorem split_cons1 (c : UInt8) (p q : List UInt8) (hp : c ∉ p) : Lib.split (p ++ c :: q) [c] = p :: Lib.split q [c] := by
  have hi := index_cons1 c p q hp
  have hd : (p ++ c :: q).drop (p.length + 1) = q := by
    rw [List.drop_append]; simp [show p.length + 1 - p.length = 1 by omega]
  unfold Lib.split
  rw [Lib.count_hit (by simp) hi, Nat.add_comm, Lib.splitK, hi]
  rw [if_neg (by simp)]
  simp only [List.length_cons, List.length_nil, Int.toNat_natCast, Nat.zero_add, Nat.add_zero]
  rw [hd]
  simp

theorem mem_parts (c : UInt8) : ∀ (l : List UInt8), c ∈ l → ∃ p q, l = p ++ c :: q ∧ c ∉ p
  | [], h => by simp at h
  | x :: r, h => by
    by_cases hx : c = x
    · exact ⟨[], r, by simp [hx], by simp⟩
    · obtain ⟨p, q, e, hp⟩ := mem_parts c r (by simpa [hx] using h)
      exact ⟨x :: p, q, by simp [e], by simp [hx, hp]⟩

/-- What the pieces are. -/
theorem split_two (c : UInt8) (l a b : List UInt8) (h : Lib.split l [c] = [a, b]) : l = a ++ c :: b := by
  by_cases h1 : c ∈ l
  · obtain ⟨p, q, rfl, hp⟩ := mem_parts c l h1
    rw [split_cons1 c p q hp] at h
    injection h with h2 h3
    by_cases h4 : c ∈ q
    · obtain ⟨p2, q2, rfl, hp2⟩ := mem_parts c q h4
      rw [split_cons1 c p2 q2 hp2] at h3
      injection h3 with _ h5
      by_cases h6 : c ∈ q2
      · obtain ⟨p3, q3, rfl, hp3⟩ := mem_parts c q2 h6
        rw [split_cons1 c p3 q3 hp3] at h5; cases h5
      · rw [split_none1 c q2 h6] at h5; cases h5
    · rw [split_none1 c q h4] at h3
      injection h3 with h3 _
      rw [h2, h3]
  · rw [split_none1 c l h1] at h; simp at h

theorem split_three (c : UInt8) (l a b d : List UInt8) (h : Lib.split l [c] = [a, b, d]) : l = a ++ c :: (b ++ c :: d) := by
  by_cases h1 : c ∈ l
  · obtain ⟨p, q, rfl, hp⟩ := mem_parts c l h1
    rw [split_cons1 c p q hp] at h
    injection h with h2 h3
    rw [h2, split_two c q b d h3]
  · rw [split_none1 c l h1] at h; simp at h

/-! ## words, numbers, signs -/

def opB (w : List UInt8) : Option Int :=
  if w = [112, 97, 115, 115] then some 1 else if w = [103, 104, 111, 115, 116] then some 2 else if w = [100, 101, 97, 100] then some 3
  else if w = [97, 108, 105, 118, 101] then some 4 else if w = [114, 101, 115, 101, 116] then some 5 else none

def dirB (w : List UInt8) : Option Int := if w = [43] then some 1 else if w = [45] then some (-1) else none

def numB (d : List UInt8) : Option Int :=
  match Lib.atoiAll d with
  | .ok v => if Lib.itoa v = d then some v else none
  | _ => none

/-- The event of a line as it is read. -/
def parB (S : Int) (n : Nat) (line : List UInt8) : Option (Int × Int × Int) :=
  match Lib.split line [32] with
  | [a, b] =>
    match opB a, numB b with
    | some op, some f => if evB S n op f 0 = true then some (op, f, 0) else none
    | _, _ => none
  | [a, b, c] =>
    match opB a, numB b, dirB c with
    | some op, some f, some d => if evB S n op f d = true then some (op, f, d) else none
    | _, _, _ => none
  | _ => none

theorem opB_word {op : Int} (h1 : 1 ≤ op) (h2 : op ≤ 5) : opB (wordB op) = some op ∧ 32 ∉ wordB op := by
  rcases (show op = 1 ∨ op = 2 ∨ op = 3 ∨ op = 4 ∨ op = 5 by omega) with rfl | rfl | rfl | rfl | rfl <;> decide

theorem opB_some {w : List UInt8} {op : Int} (h : opB w = some op) : wordB op = w := by
  unfold opB at h
  repeat' split at h
  all_goals first | cases h | skip
  all_goals
    rename_i e
    rw [e]
    decide

theorem dirB_some {w : List UInt8} {d : Int} (h : dirB w = some d) : signB d = 32 :: w ∧ (d = 1 ∨ d = -1) := by
  unfold dirB at h
  repeat' split at h
  all_goals first | cases h | skip
  all_goals
    rename_i e
    rw [e]
    decide

theorem numB_some {d : List UInt8} {f : Int} (h : numB d = some f) : Lib.itoa f = d := by
  unfold numB at h
  split at h
  · split at h
    · rename_i e; injection h with h; rw [← h]; exact e
    · cases h
  · cases h

theorem digs (k : Fin 120) : (Lib.atoiAll (Lib.decDigits k.val) = .ok (k.val : Int)) ∧ 32 ∉ Lib.decDigits k.val := by
  revert k
  decide +kernel

theorem numB_itoa {f : Int} (h0 : 0 ≤ f) (h1 : f < 120) : numB (Lib.itoa f) = some f ∧ 32 ∉ Lib.itoa f := by
  have e : Lib.itoa f = Lib.decDigits f.toNat := by unfold Lib.itoa; rw [if_neg (by omega)]
  have k := digs ⟨f.toNat, by omega⟩
  simp only at k
  rw [Int.toNat_of_nonneg h0] at k
  refine ⟨?_, by rw [e]; exact k.2⟩
  unfold numB
  rw [e, k.1]
  simp [e]

/-- A written line reads as its event. -/
theorem parB_line {S : Int} {n : Nat} {op f d : Int} (h : evB S n op f d = true) (hn : n ≤ 120) (hS : S ≤ 60) : parB S n (lineB op f d) = some (op, f, d) := by
  obtain ⟨⟨o1, o2⟩, ⟨f1, f2⟩, hd⟩ := evB_range h hn hS
  obtain ⟨w1, w2⟩ := opB_word o1 o2
  obtain ⟨n1, n2⟩ := numB_itoa f1 f2
  unfold parB lineB
  rw [split_cons1 _ _ _ w2]
  rcases hd with rfl | rfl | rfl
  · rw [show signB 1 = 32 :: [43] from by decide, split_cons1 _ _ _ n2, show Lib.split [43] [32] = [[43]] from split_none1 _ _ (by decide)]
    simp only [w1, n1, show dirB [43] = some 1 from by decide, h, if_true]
  · rw [show signB (-1) = 32 :: [45] from by decide, split_cons1 _ _ _ n2, show Lib.split [45] [32] = [[45]] from split_none1 _ _ (by decide)]
    simp only [w1, n1, show dirB [45] = some (-1) from by decide, h, if_true]
  · rw [show signB 0 = [] from by decide, List.append_nil, split_none1 _ _ n2]
    simp only [w1, n1, h, if_true]

/-- What is read would be written so. -/
theorem parB_some {S : Int} {n : Nat} {line : List UInt8} {op f d : Int} (h : parB S n line = some (op, f, d)) : evB S n op f d = true ∧ lineB op f d = line := by
  unfold parB at h
  split at h
  · rename_i a b e
    split at h
    · rename_i h1 h2
      split at h
      · rename_i h3
        injection h with h
        injection h with e1 h
        injection h with e2 e3
        subst e1 e2 e3
        refine ⟨h3, ?_⟩
        rw [split_two _ _ _ _ e]
        unfold lineB
        rw [opB_some h1, numB_some h2, show signB 0 = [] from by decide, List.append_nil]
      · cases h
    · cases h
  · rename_i a b c e
    split at h
    · rename_i h1 h2 h4
      split at h
      · rename_i h3
        injection h with h
        injection h with e1 h
        injection h with e2 e3
        subst e1 e2 e3
        refine ⟨h3, ?_⟩
        rw [split_three _ _ _ _ _ e]
        unfold lineB
        rw [opB_some h1, numB_some h2, (dirB_some h4).1]
      · cases h
    · cases h
  · cases h

end Go.Proofs.YtlpopfhaephfaabDoor
