import Derived.Test.YtlpopfhaephfaabDoorTX1
namespace Go.Proofs.YtlpopfhaephfaabDoor
open Go.RowKit

/-! ## a text line by line -/

theorem cut_hit1 (c : UInt8) (p q : List UInt8) (hp : c ∉ p) : Lib.cut (p ++ c :: q) [c] = (p, q, true) := by
  have hi := index_cons1 c p q hp
  have hd : (p ++ c :: q).drop (p.length + 1) = q := by
    rw [List.drop_append]; simp [show p.length + 1 - p.length = 1 by omega]
  unfold Lib.cut
  rw [hi, if_pos (by omega)]
  simp only [List.length_cons, List.length_nil, Int.toNat_natCast, Nat.zero_add, hd, List.take_left']

theorem cut_miss1 (c : UInt8) (p : List UInt8) (hp : c ∉ p) : Lib.cut p [c] = (p, [], false) := by
  unfold Lib.cut
  rw [index_none1 c p hp, if_neg (by omega)]

/-- The events of a text, or the number of the line at which it goes wrong. -/
def rdL (S : Int) (n : Nat) : Nat → List UInt8 → List (Int × Int × Int) → Nat ⊕ List (Int × Int × Int)
  | 0, _, acc => .inl (acc.length + 1)
  | k + 1, rest, acc =>
    if rest = [] then .inr acc
    else if (Lib.cut rest [10]).2.2 = true ∧ acc.length < 2000 then
      match parB S n (Lib.cut rest [10]).1 with
      | some e => rdL S n k (Lib.cut rest [10]).2.1 (acc ++ [e])
      | none => .inl (acc.length + 1)
    else .inl (acc.length + 1)

/-- What is left to be read ends as the whole does. -/
def RdTo (S : Int) (n : Nat) (rest : List UInt8) (acc : List (Int × Int × Int)) (Z : Nat ⊕ List (Int × Int × Int)) : Prop := ∃ k, rest.length < k ∧ rdL S n k rest acc = Z

theorem RdTo.nil {S : Int} {n : Nat} {acc : List (Int × Int × Int)} {Z : Nat ⊕ List (Int × Int × Int)} (h : RdTo S n [] acc Z) : Z = .inr acc := by
  obtain ⟨k, hk, rfl⟩ := h
  cases k with
  | zero => simp at hk
  | succ k => simp [rdL]

theorem RdTo.open {S : Int} {n : Nat} {rest : List UInt8} {acc : List (Int × Int × Int)} {Z : Nat ⊕ List (Int × Int × Int)} (h : RdTo S n rest acc Z) (h0 : rest ≠ []) (h1 : 10 ∉ rest) : Z = .inl (acc.length + 1) := by
  obtain ⟨k, hk, rfl⟩ := h
  cases k with
  | zero => simp at hk
  | succ k => simp [rdL, h0, cut_miss1 10 rest h1]

theorem RdTo.many {S : Int} {n : Nat} {rest : List UInt8} {acc : List (Int × Int × Int)} {Z : Nat ⊕ List (Int × Int × Int)} (h : RdTo S n rest acc Z) (h0 : rest ≠ []) (h1 : 2000 ≤ acc.length) : Z = .inl (acc.length + 1) := by
  obtain ⟨k, hk, rfl⟩ := h
  cases k with
  | zero => simp at hk
  | succ k => simp [rdL, h0, show ¬ acc.length < 2000 by omega]

theorem RdTo.bad {S : Int} {n : Nat} {p q : List UInt8} {acc : List (Int × Int × Int)} {Z : Nat ⊕ List (Int × Int × Int)} (h : RdTo S n (p ++ 10 :: q) acc Z) (h1 : 10 ∉ p) (h2 : parB S n p = none) : Z = .inl (acc.length + 1) := by
  obtain ⟨k, hk, rfl⟩ := h
  cases k with
  | zero => simp at hk
  | succ k =>
    simp only [rdL, cut_hit1 10 p q h1, h2]
    simp

theorem RdTo.step {S : Int} {n : Nat} {p q : List UInt8} {acc : List (Int × Int × Int)} {Z : Nat ⊕ List (Int × Int × Int)} {e : Int × Int × Int} (h : RdTo S n (p ++ 10 :: q) acc Z) (h1 : 10 ∉ p) (h2 : parB S n p = some e) (h3 : acc.length < 2000) : RdTo S n q (acc ++ [e]) Z := by
  obtain ⟨k, hk, rfl⟩ := h
  cases k with
  | zero => simp at hk
  | succ k =>
    refine ⟨k, by simp at hk; omega, ?_⟩
    simp only [rdL, cut_hit1 10 p q h1, h2, h3]
    simp

/-- The events of a list as rows of three. -/
def evL (l : List (Int × Int × Int)) (i j : Nat) : Int :=
  match l[i]? with
  | some (a, b, c) => if j = 0 then a else if j = 1 then b else c
  | none => 0

theorem evL_old {l : List (Int × Int × Int)} {e : Int × Int × Int} {i : Nat} (j : Nat) (h : i < l.length) : evL (l ++ [e]) i j = evL l i j := by
  unfold evL; rw [List.getElem?_append_left h]

theorem evL_new (l : List (Int × Int × Int)) (a b c : Int) : evL (l ++ [(a, b, c)]) l.length 0 = a ∧ evL (l ++ [(a, b, c)]) l.length 1 = b ∧ evL (l ++ [(a, b, c)]) l.length 2 = c := by
  unfold evL; simp

/-- What is read of a text over a layout. -/
def rdZ (S : Int) (n : Nat) (F T : Nat → Int) (t : List UInt8) : Int × Nat × List (Int × Int × Int) :=
  if lokZ S n F T = 0 then
    if t.length ≤ 20000 then
      match rdL S n (t.length + 1) t [] with
      | .inl k => (3, k, [])
      | .inr l => (0, 0, l)
    else (2, 0, [])
  else (1, 0, [])

end Go.Proofs.YtlpopfhaephfaabDoor
