import Derived.Lib.ItoaLen
import Derived.Test.YtlpopfhaephfaabDoorEV2
namespace Go.Proofs.YtlpopfhaephfaabDoor
open Go.RowKit

/-- What a text calls the events. -/
def wordB (op : Int) : List UInt8 :=
  if op = 1 then [112, 97, 115, 115] else if op = 2 then [103, 104, 111, 115, 116] else if op = 3 then [100, 101, 97, 100]
  else if op = 4 then [97, 108, 105, 118, 101] else if op = 5 then [114, 101, 115, 101, 116] else []

def signB (d : Int) : List UInt8 := if d = 1 then [32, 43] else if d = -1 then [32, 45] else []

/-- An event as a line, without its end. -/
def lineB (op f d : Int) : List UInt8 := wordB op ++ 32 :: (Lib.itoa f ++ signB d)

def linesB (P : Nat → Nat → Int) : Nat → List UInt8
  | 0 => []
  | k + 1 => linesB P k ++ (lineB (P k 0) (P k 1) (P k 2) ++ [10])

/-- The first k events are ones. -/
def evsB (S : Int) (n : Nat) (P : Nat → Nat → Int) : Nat → Bool
  | 0 => true
  | k + 1 => evsB S n P k && evB S n (P k 0) (P k 1) (P k 2)

/-- What is written. -/
def wrZ (S : Int) (n : Nat) (F T : Nat → Int) (P : Nat → Nat → Int) (m : Nat) : List UInt8 :=
  if (lokZ S n F T == 0 && decide (m ≤ 2000) && evsB S n P m && decide ((linesB P m).length ≤ 20000)) = true then linesB P m else []

theorem wordB_length (op : Int) : (wordB op).length ≤ 5 := by
  unfold wordB
  repeat' split
  all_goals simp

theorem signB_length (d : Int) : (signB d).length ≤ 2 := by
  unfold signB
  repeat' split
  all_goals simp

theorem lineB_length (op f d : Int) (h0 : 0 ≤ f) (h1 : f ≤ 9223372036854775807) : (lineB op f d).length ≤ 29 := by
  have a := wordB_length op
  have b := signB_length d
  have c := Lib.itoa_length_le f (by omega) h1
  unfold lineB
  simp only [List.length_append, List.length_cons]
  omega

theorem evB_range {S : Int} {n : Nat} {op f d : Int} (h : evB S n op f d = true) (hn : n ≤ 120) (hS : S ≤ 60) : (1 ≤ op ∧ op ≤ 5) ∧ (0 ≤ f ∧ f < 120) ∧ (d = 1 ∨ d = -1 ∨ d = 0) := by
  unfold evB at h
  repeat' split at h
  all_goals simp at h
  all_goals omega

theorem evsB_le {S : Int} {n : Nat} {P : Nat → Nat → Int} : ∀ {m : Nat}, evsB S n P m = true → ∀ i, i < m → evB S n (P i 0) (P i 1) (P i 2) = true
  | 0, _, i, hi => absurd hi (Nat.not_lt_zero i)
  | m + 1, h, i, hi => by
    simp only [evsB, Bool.and_eq_true] at h
    rcases Nat.lt_succ_iff_lt_or_eq.1 hi with hi | rfl
    · exact evsB_le h.1 i hi
    · exact h.2

theorem evsB_not {S : Int} {n : Nat} {P : Nat → Nat → Int} {i : Nat} (h : evB S n (P i 0) (P i 1) (P i 2) = false) : ∀ {m : Nat}, i < m → evsB S n P m = false
  | 0, hi => absurd hi (Nat.not_lt_zero i)
  | m + 1, hi => by
    simp only [evsB]
    rcases Nat.lt_succ_iff_lt_or_eq.1 hi with hi | rfl
    · rw [evsB_not h hi]; rfl
    · rw [h]; simp

theorem linesB_length {S : Int} {n : Nat} {P : Nat → Nat → Int} (hn : n ≤ 120) (hS : S ≤ 60) : ∀ {m : Nat}, evsB S n P m = true → (linesB P m).length ≤ 30 * m
  | 0, _ => by simp [linesB]
  | m + 1, h => by
    simp only [evsB, Bool.and_eq_true] at h
    have a := linesB_length hn hS h.1
    have b := evB_range h.2 hn hS
    have c := lineB_length (P m 0) (P m 1) (P m 2) b.2.1.1 (by omega)
    simp only [linesB, List.length_append, List.length_cons, List.length_nil]
    omega

end Go.Proofs.YtlpopfhaephfaabDoor
