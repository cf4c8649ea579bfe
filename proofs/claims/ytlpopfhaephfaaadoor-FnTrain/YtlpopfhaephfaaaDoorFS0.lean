import Derived.Test.YtlpopfhaephfaaaDoorRN2
import Derived.Test.YtlpopfhaephfaaaDoorOW
namespace Go.Proofs.YtlpopfhaephfaaaDoor
open Go.RowKit

theorem runS_congr (S : Int) (n : Nat) (F T : Nat → Int) (P P' : Nat → Nat → Int) (k : Nat) (h : ∀ j, j < k → ∀ i, i < 3 → P j i = P' j i) : runS S n F T P k = runS S n F T P' k := by
  induction k with
  | zero => rfl
  | succ k ih =>
    have := ih (fun j hj i hi => h j (by omega) i hi)
    simp only [runS]
    rw [this, h k (by omega) 0 (by omega), h k (by omega) 1 (by omega), h k (by omega) 2 (by omega)]

theorem cntSide_at (X : Nat → Sec) (s way : Int) (i : Nat) : cntSide X s way i = if s = (i : Int) then cnt (X i) way else X i := by
  unfold cntSide
  split
  · rw [if_neg (by omega)]
  · unfold cntAt
    by_cases h : s = (i : Int)
    · subst h; simp
    · rw [if_neg (by omega), if_neg h]

/-- what a pass does to one section -/
def pwS (fr tt : Int) (i : Nat) (x : Sec) : Sec := if tt = (i : Int) then cnt (if fr = (i : Int) then cnt x (-1) else x) 1 else if fr = (i : Int) then cnt x (-1) else x
def tlS (b : Bool) (x : Sec) : Sec := ⟨toldZ b x, x.count, x.lost, x.sweep, x.last⟩
theorem tlS_cnt (b : Bool) (x : Sec) (way : Int) : tlS b (cnt (tlS b x) way) = tlS b (cnt x way) := rfl
theorem tlS_tlS (b : Bool) (x : Sec) : tlS b (tlS b x) = tlS b x := rfl
theorem tlS_pw (b : Bool) (fr tt : Int) (i : Nat) (x : Sec) : tlS b (pwS fr tt i (tlS b x)) = tlS b (pwS fr tt i x) := by
  unfold pwS
  split <;> split <;> rfl
def pwD (F T : Nat → Int) (D : Nat → Bool) (f : Nat) (d : Int) (i : Nat) (x : Sec) : Sec := if D f then x else pwS (fromZ F T f d) (toZ F T f d) i x
theorem tlS_pwD (b : Bool) (F T : Nat → Int) (D : Nat → Bool) (f : Nat) (d : Int) (i : Nat) (x : Sec) : tlS b (pwD F T D f d i (tlS b x)) = tlS b (pwD F T D f d i x) := by
  unfold pwD
  split
  · rfl
  · exact tlS_pw _ _ _ _ _

theorem nxt_pass (S : Int) (n : Nat) (F T : Nat → Int) (X : Nat → Sec) (D : Nat → Bool) (f : Nat) (d : Int) (he : evB S n 1 f d = true) (i : Nat) :
    nxtX S n F T X D 1 f d i = tlS (deadB n F T D (i : Int)) (pwD F T D f d i (X i)) ∧ bhD S n D 1 f d = D := by
  have e1 : bhD S n D 1 f d = D := by unfold bhD effD; rw [he]; rfl
  refine ⟨?_, e1⟩
  unfold nxtX told1
  rw [e1]
  have e2 : bhX S n F T X D 1 f d i = pwD F T D f d i (X i) := by
    unfold bhX effX
    rw [he]
    simp only [if_true, Int.toNat_natCast]
    unfold passY pwD
    split
    · rfl
    · unfold passX pwS
      rw [cntSide_at]
      simp only [if_true]
      rw [cntSide_at]
  rw [e2]
  rfl

theorem pw_off {fr tt : Int} {i : Nat} (x : Sec) (h1 : ¬ fr = (i : Int)) (h2 : ¬ tt = (i : Int)) : pwS fr tt i x = x := by
  unfold pwS
  rw [if_neg h2, if_neg h1]
theorem ft_mem (F T : Nat → Int) (f : Nat) (d : Int) (i : Nat) (h1 : ¬ F f = (i : Int)) (h2 : ¬ T f = (i : Int)) : ¬ fromZ F T f d = (i : Int) ∧ ¬ toZ F T f d = (i : Int) := by
  unfold fromZ toZ
  split <;> exact ⟨by assumption, by assumption⟩

/-- whether two counters have no section in common -/
def apartB (F T : Nat → Int) (f h : Nat) : Prop := ∀ i : Nat, (F f = (i : Int) ∨ T f = (i : Int)) → ¬ (F h = (i : Int) ∨ T h = (i : Int))

theorem pw_swap (F T : Nat → Int) (D : Nat → Bool) (f h : Nat) (d e : Int) (i : Nat) (x : Sec) (ha : apartB F T f h) : pwD F T D h e i (pwD F T D f d i x) = pwD F T D f d i (pwD F T D h e i x) := by
  unfold pwD
  split
  · rfl
  · split
    · rfl
    · by_cases h1 : F f = (i : Int) ∨ T f = (i : Int)
      · have h2 := ha i h1
        obtain ⟨a, b⟩ := ft_mem F T h e i (fun x => h2 (.inl x)) (fun x => h2 (.inr x))
        rw [pw_off _ a b, pw_off _ a b]
      · obtain ⟨a, b⟩ := ft_mem F T f d i (fun x => h1 (.inl x)) (fun x => h1 (.inr x))
        rw [pw_off _ a b, pw_off _ a b]

theorem swap_two (S : Int) (n : Nat) (F T : Nat → Int) (X : Nat → Sec) (D : Nat → Bool) (f h : Nat) (d e : Int) (hf : evB S n 1 f d = true) (hh : evB S n 1 h e = true) (ha : apartB F T f h) (i : Nat) :
    nxtX S n F T (nxtX S n F T X D 1 f d) D 1 h e i = nxtX S n F T (nxtX S n F T X D 1 h e) D 1 f d i := by
  rw [(nxt_pass S n F T _ D h e hh i).1, (nxt_pass S n F T _ D f d hf i).1, (nxt_pass S n F T _ D f d hf i).1, (nxt_pass S n F T _ D h e hh i).1, tlS_pwD, tlS_pwD, pw_swap F T D f h d e i _ ha]

theorem trP_left (l m : List (Int × Int × Int)) (k : Nat) (h : k < l.length) (j : Nat) : trP (l ++ m) k j = trP l k j := by
  have e : (l ++ m).getD k (0, 0, 0) = l.getD k (0, 0, 0) := by simp [List.getD, List.getElem?_append_left h]
  unfold trP
  rw [e]
theorem trP_at (l : List (Int × Int × Int)) (a b : Int × Int × Int) (j : Nat) : trP (l ++ [a, b]) l.length j = (if j = 0 then a.1 else if j = 1 then a.2.1 else a.2.2) ∧ trP (l ++ [a, b]) (l.length + 1) j = (if j = 0 then b.1 else if j = 1 then b.2.1 else b.2.2) := by
  unfold trP
  constructor <;> simp [List.getD]

theorem swap_run (S : Int) (n : Nat) (F T : Nat → Int) (l : List (Int × Int × Int)) (f h : Nat) (d e : Int) (hf : evB S n 1 f d = true) (hh : evB S n 1 h e = true) (ha : apartB F T f h) :
    (∀ i, runX S n F T (trP (l ++ [(1, (f : Int), d), (1, (h : Int), e)])) (l.length + 2) i = runX S n F T (trP (l ++ [(1, (h : Int), e), (1, (f : Int), d)])) (l.length + 2) i) ∧ runD S n F T (trP (l ++ [(1, (f : Int), d), (1, (h : Int), e)])) (l.length + 2) = runD S n F T (trP (l ++ [(1, (h : Int), e), (1, (f : Int), d)])) (l.length + 2) := by
  have e0 : ∀ m, runS S n F T (trP (l ++ m)) l.length = runS S n F T (trP l) l.length := fun m => runS_congr _ _ _ _ _ _ _ (fun j hj i _ => trP_left l m j hj i)
  obtain ⟨X, D, e1⟩ : ∃ X D, runS S n F T (trP l) l.length = (X, D) := ⟨_, _, rfl⟩
  have eX : ∀ m, runX S n F T (trP (l ++ m)) l.length = X := fun m => by unfold runX; rw [e0 m, e1]
  have eD : ∀ m, runD S n F T (trP (l ++ m)) l.length = D := fun m => by unfold runD; rw [e0 m, e1]
  have go : ∀ (f h : Nat) (d e : Int), evB S n 1 f d = true → evB S n 1 h e = true → runX S n F T (trP (l ++ [(1, (f : Int), d), (1, (h : Int), e)])) (l.length + 2) = nxtX S n F T (nxtX S n F T X D 1 f d) D 1 h e ∧ runD S n F T (trP (l ++ [(1, (f : Int), d), (1, (h : Int), e)])) (l.length + 2) = D := by
    intro f h d e hf hh
    have p := trP_at l (1, (f : Int), d) (1, (h : Int), e)
    have q1 : runD S n F T (trP (l ++ [(1, (f : Int), d), (1, (h : Int), e)])) (l.length + 1) = D := by
      rw [runD_succ, (p 0).1, (p 1).1, (p 2).1, eD]
      exact (nxt_pass S n F T X D f d hf 0).2
    constructor
    · rw [runX_succ, q1, runX_succ, (p 0).1, (p 1).1, (p 2).1, (p 0).2, (p 1).2, (p 2).2, eX, eD]
      rfl
    · rw [runD_succ, q1, (p 0).2, (p 1).2, (p 2).2]
      exact (nxt_pass S n F T X D h e hh 0).2
  refine ⟨fun i => ?_, ?_⟩
  · rw [(go f h d e hf hh).1, (go h f e d hh hf).1]
    exact swap_two S n F T X D f h d e hf hh ha i
  · rw [(go f h d e hf hh).2, (go h f e d hh hf).2]

end Go.Proofs.YtlpopfhaephfaaaDoor
