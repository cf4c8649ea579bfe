import Derived.Test.YtlpopfhaephfaaaDoorFS0
import Derived.Test.YtlpopfhaephfaaaDoorQR
import Derived.Test.YtlpopfhaephfaaaDoorQU
import Derived.Test.YtlpopfhaephfaaaDoorCR
import Derived.Test.YtlpopfhaephfaaaDoorRN4
import Derived.Test.YtlpopfhaephfaaaDoorQT
import Derived.Test.YtlpopfhaephfaaaDoorRN2
import Derived.Test.YtlpopfhaephfaaaDoorQH
import Derived.Deep.RegionWith
import Derived.Test.YtlpopfhaephfaaaDoorCU3t
import Derived.Test.YtlpopfhaephfaaaDoorCU1
import Derived.Test.YtlpopfhaephfaaaDoorRows
import Derived.ChangeSlices
import Derived.ProofKit
import Derived.Lib.SmallJoins
import Derived.Deep.SlicePairs
import Derived.Test.YtlpopfhaephfaaaDoorCards
import Derived.Test.YtlpopfhaephfaaaDoorTie
import Derived.ChangeSame
import Derived.ChangeVars
import Derived.JoinedOf
import Derived.RowKitTokens
import Derived.LaidLaws
import Derived.LaidHandle
import Derived.Stop.LaidErr
import Derived.Stop.LaidTwo
import Derived.Stop.Joined
import Derived.SevenTiedAt
import Derived.WalkSmall
namespace Go.Proofs.YtlpopfhaephfaaaDoor
open Go.RowKit

theorem trZ_congr (S : Int) (n : Nat) (F T : Nat → Int) (P P' : Nat → Nat → Int) (k : Nat) (h : ∀ j, j < k → ∀ i, i < 3 → P j i = P' j i) : trZ S n F T P k = trZ S n F T P' k := by
  induction k with
  | zero => rfl
  | succ k ih =>
    simp only [trZ]
    rw [ih (fun j hj i hi => h j (by omega) i hi), h k (by omega) 0 (by omega), h k (by omega) 1 (by omega), h k (by omega) 2 (by omega)]
theorem trZ_left (S : Int) (n : Nat) (F T : Nat → Int) (l m : List (Int × Int × Int)) (k : Nat) (h : k ≤ l.length) : trZ S n F T (trP (l ++ m)) k = trZ S n F T (trP l) k :=
  trZ_congr _ _ _ _ _ _ _ (fun j hj i _ => trP_left l m j (by omega) i)
theorem trP_last (l : List (Int × Int × Int)) (x : Int × Int × Int) (j : Nat) : trP (l ++ [x]) l.length j = (if j = 0 then x.1 else if j = 1 then x.2.1 else x.2.2) := by
  unfold trP
  simp [List.getD]
theorem trZ_snoc (S : Int) (n : Nat) (F T : Nat → Int) (l : List (Int × Int × Int)) (x : Int × Int × Int) : trZ S n F T (trP (l ++ [x])) (l.length + 1) = stepZ S n F T (trZ S n F T (trP l) l.length) x.1 x.2.1 x.2.2 := by
  simp only [trZ]
  rw [trZ_left _ _ _ _ _ _ _ (Nat.le_refl _), trP_last, trP_last, trP_last]
  rfl

/-- nobody lies, and th says who is where -/
structure HonL (S : Int) (n : Nat) (F T : Nat → Int) (L : List (Int × Int × Int)) (th : Int → Int) : Prop where
  th : ∀ s : Nat, th (s : Int) = trZ S n F T (trP L) L.length s
  nn : ∀ k, k ≤ L.length → ∀ s : Nat, 0 ≤ trZ S n F T (trP L) k s
  rs : ∀ k, k < L.length → trP L k 0 = 5 → trZ S n F T (trP L) k (trP L k 1).toNat = 0

theorem HonL.nil (S : Int) (n : Nat) (F T : Nat → Int) : HonL S n F T [] (fun _ => 0) :=
  ⟨fun s => rfl, fun k hk s => by cases Nat.le_zero.1 hk; exact Int.le_refl _, fun k hk => absurd hk (Nat.not_lt_zero _)⟩

theorem stepZ_other (S : Int) (n : Nat) (F T Z : Nat → Int) (op f d : Int) (h : op ≠ 1) : stepZ S n F T Z op f d = Z := by
  unfold stepZ
  rw [if_neg (fun x => h x.2)]

section
variable {S : Int} {n : Nat} {F T : Nat → Int} {L : List (Int × Int × Int)} {th : Int → Int}

theorem HonL.snoc_rs (h : HonL S n F T L th) (x : Int × Int × Int) (hx : x.1 = 5 → trZ S n F T (trP L) L.length x.2.1.toNat = 0) : ∀ k, k < (L ++ [x]).length → trP (L ++ [x]) k 0 = 5 → trZ S n F T (trP (L ++ [x])) k (trP (L ++ [x]) k 1).toNat = 0 := by
  intro k hk h5
  rw [List.length_append, List.length_singleton] at hk
  rcases Nat.lt_or_ge k L.length with hlt | hge
  · rw [trP_left L [x] k hlt 0] at h5
    rw [trP_left L [x] k hlt 1, trZ_left _ _ _ _ _ _ _ (by omega)]
    exact h.rs k hlt h5
  · obtain rfl : k = L.length := by omega
    rw [trP_last] at h5 ⊢
    rw [trZ_left _ _ _ _ _ _ _ (Nat.le_refl _)]
    exact hx h5

theorem HonL.other (h : HonL S n F T L th) (x : Int × Int × Int) (h1 : x.1 ≠ 1) (h5 : x.1 = 5 → 0 ≤ x.2.1 ∧ th x.2.1 = 0) : HonL S n F T (L ++ [x]) th := by
  have e : trZ S n F T (trP (L ++ [x])) (L ++ [x]).length = trZ S n F T (trP L) L.length := by
    rw [List.length_append, List.length_singleton, trZ_snoc, stepZ_other _ _ _ _ _ _ _ _ h1]
  refine ⟨fun s => by rw [e]; exact h.th s, fun k hk s => ?_, h.snoc_rs x fun hx => ?_⟩
  · rw [List.length_append, List.length_singleton] at hk
    rcases Nat.lt_or_ge k (L.length + 1) with hlt | hge
    · rw [trZ_left _ _ _ _ _ _ _ (by omega)]
      exact h.nn k (by omega) s
    · obtain rfl : k = L.length + 1 := by omega
      rw [trZ_snoc, stepZ_other _ _ _ _ _ _ _ _ h1]
      exact h.nn _ (Nat.le_refl _) s
  · obtain ⟨a, b⟩ := h5 hx
    rw [← h.th, Int.toNat_of_nonneg a]
    exact b

theorem es_ft {k d : Int} (hd : d = 1 ∨ d = -1) : esFr F T k d = fromZ F T k.toNat d ∧ esTo F T k d = toZ F T k.toNat d := by
  unfold esFr esTo fromZ toZ
  rcases hd with rfl | rfl <;> simp

theorem ev1 {k d : Int} (h : evB S n 1 k d = true) : 0 ≤ k ∧ k < (n : Int) ∧ (d = 1 ∨ d = -1) := by
  unfold evB at h
  rw [if_pos (.inl rfl)] at h
  exact of_decide_eq_true h

theorem HonL.pass (h : HonL S n F T L th) (k d : Int) (hev : evB S n 1 k d = true) (hp : esFr F T k d < 0 ∨ 0 < th (esFr F T k d)) : HonL S n F T (L ++ [(1, k, d)]) (thSt th (esFr F T k d) (esTo F T k d)) := by
  obtain ⟨_, _, hd⟩ := ev1 hev
  obtain ⟨e1, e2⟩ := es_ft (F := F) (T := T) (k := k) hd
  rw [e1] at hp ⊢
  rw [e2]
  obtain ⟨fr, ef⟩ : ∃ fr, fromZ F T k.toNat d = fr := ⟨_, rfl⟩
  obtain ⟨tt, et⟩ : ∃ tt, toZ F T k.toNat d = tt := ⟨_, rfl⟩
  have e : ∀ s : Nat, trZ S n F T (trP (L ++ [(1, k, d)])) (L.length + 1) s = th (s : Int) - (if fr = (s : Int) then 1 else 0) + (if tt = (s : Int) then 1 else 0) := by
    intro s
    rw [trZ_snoc]
    unfold stepZ
    rw [if_pos ⟨hev, rfl⟩, h.th s, ef, et]
  rw [ef] at hp ⊢
  rw [et]
  have n0 : ∀ s : Nat, 0 ≤ th (s : Int) := fun s => by rw [h.th s]; exact h.nn _ (Nat.le_refl _) s
  refine ⟨fun s => ?_, fun j hj s => ?_, h.snoc_rs _ fun hx => by cases hx⟩
  · rw [List.length_append, List.length_singleton, e s]
    unfold thSt
    by_cases a : fr = (s : Int)
    · rw [if_pos ⟨a.symm, by omega⟩, if_pos a]
      by_cases b : tt = (s : Int)
      · rw [if_pos ⟨b.symm, by omega⟩, if_pos b]
      · rw [if_neg (by omega), if_neg b]
    · rw [if_neg (by omega), if_neg a]
      by_cases b : tt = (s : Int)
      · rw [if_pos ⟨b.symm, by omega⟩, if_pos b]; omega
      · rw [if_neg (by omega), if_neg b]; omega
  · rw [List.length_append, List.length_singleton] at hj
    rcases Nat.lt_or_ge j (L.length + 1) with hlt | hge
    · rw [trZ_left _ _ _ _ _ _ _ (by omega)]
      exact h.nn j (by omega) s
    · obtain rfl : j = L.length + 1 := by omega
      rw [e s]
      have := n0 s
      by_cases a : fr = (s : Int)
      · subst a
        rw [if_pos rfl]
        split <;> omega
      · rw [if_neg a]
        split <;> omega
end

/-- whatever holds of what is drawn honestly, event by event -/
theorem esRun_inv (C : Nat → Int) (m : Nat) {S : Int} {n : Nat} (F T : Nat → Int) (c : Cu) (hS : 1 ≤ S) (hn : 0 < n) (Q : List (Int × Int × Int) → (Int → Int) → Prop) (h0 : Q [] (fun _ => 0))
    (ho : ∀ L th x, Q L th → evB S n x.1 x.2.1 x.2.2 = true → x.1 ≠ 1 → (x.1 = 5 → 0 ≤ x.2.1 ∧ th x.2.1 = 0) → Q (L ++ [x]) th)
    (hp : ∀ L th k d, Q L th → evB S n 1 k d = true → (esFr F T k d < 0 ∨ 0 < th (esFr F T k d)) → Q (L ++ [(1, k, d)]) (thSt th (esFr F T k d) (esTo F T k d))) (j : Nat) :
    Q (esRun C m S n F T true c j).out (esRun C m S n F T true c j).th := by
  induction j with
  | zero => exact h0
  | succ j ih =>
    have ok := (esRun_ok C m F T true c hS hn (j + 1)).ev
    simp only [esRun] at ok ⊢
    obtain ⟨e, ee⟩ : ∃ e, esRun C m S n F T true c j = e := ⟨_, rfl⟩
    rw [ee] at ih ok ⊢
    clear ee
    unfold esStep at ok ⊢
    obtain ⟨K, eK⟩ : ∃ K, pkV C m e.cu n = K := ⟨_, rfl⟩
    obtain ⟨c, ec⟩ : ∃ c, pkC C m (pkC C m e.cu n) 16 = c := ⟨_, rfl⟩
    obtain ⟨t, et⟩ : ∃ t, pkV C m (pkC C m e.cu n) 16 = t := ⟨_, rfl⟩
    rw [eK, ec, et] at ok ⊢
    have last : ∀ (l : List (Int × Int × Int)) (x : Int × Int × Int), x ∈ l ++ [x] := fun l x => by simp
    unfold esAct at ok ⊢
    by_cases t0 : t = 0
    · rw [if_pos t0] at ok ⊢
      exact ho _ _ _ ih (ok _ (last _ _)) (by simp) (fun h => by simp at h)
    rw [if_neg t0] at ok ⊢
    by_cases t1 : t = 1
    · rw [if_pos t1] at ok ⊢
      exact ho _ _ _ ih (ok _ (last _ _)) (by simp) (fun h => by simp at h)
    rw [if_neg t1] at ok ⊢
    by_cases t2 : t = 2 ∨ t = 3
    · rw [if_pos t2] at ok ⊢
      exact ho _ _ _ ih (ok _ (last _ _)) (by simp) (fun h => by simp at h)
    rw [if_neg t2] at ok ⊢
    by_cases t4 : t = 4 ∨ t = 5 ∨ t = 6
    · rw [if_pos t4] at ok ⊢
      unfold esReset at ok ⊢
      by_cases z : e.th (pkV C m c S) = 0
      · rw [if_pos z] at ok ⊢
        exact ho _ _ _ ih (ok _ (last _ _)) (by simp) (fun _ => ⟨(pk_range C m c S).1, z⟩)
      · rw [if_neg z, if_pos rfl]
        exact ih
    · rw [if_neg t4] at ok ⊢
      unfold esPass at ok ⊢
      by_cases z : esFr F T K (1 - 2 * pkV C m c 2) < 0 ∨ 0 < e.th (esFr F T K (1 - 2 * pkV C m c 2))
      · rw [if_pos z] at ok ⊢
        exact hp _ _ _ _ ih (ok _ (last _ _)) z
      · rw [if_neg z, if_pos rfl]
        exact ih

def op1 (x : Int × Int × Int) : Bool := decide (x.1 = 1)

theorem drE_hon (C : Nat → Int) (m : Nat) : ∃ th, HonL (drS C m : Int) (drL C m).length (fstF (drL C m)) (sndF (drL C m)) (drE C m true) th := by
  have hS := drS_range C m
  unfold drE
  generalize (lyZ C m ⟨0, 0⟩).1 = c
  unfold evL
  split
  · split
    · refine ⟨fun _ => 0, (HonL.nil _ _ _ _).other _ (by simp) fun _ => ⟨(pk_range C m _ _).1, rfl⟩⟩
    · exact ⟨_, HonL.nil _ _ _ _⟩
  · exact ⟨_, esRun_inv C m (fstF (drL C m)) (sndF (drL C m)) _ (by omega) (by omega) (HonL _ _ _ _) (HonL.nil _ _ _ _) (fun L th x h _ h1 h5 => h.other x h1 h5) (fun L th k d h hev hp => h.pass k d hev hp) _⟩

theorem drE_jus (C : Nat → Int) (m : Nat) : ∃ th, HonL (drS C m : Int) (drL C m).length (fstF (drL C m)) (sndF (drL C m)) ((drE C m true).filter op1) th := by
  have hS := drS_range C m
  unfold drE
  generalize (lyZ C m ⟨0, 0⟩).1 = c
  unfold evL
  split
  · split
    · exact ⟨_, HonL.nil _ _ _ _⟩
    · exact ⟨_, HonL.nil _ _ _ _⟩
  · refine ⟨_, esRun_inv C m (fstF (drL C m)) (sndF (drL C m)) _ (by omega) (by omega) (fun L th => HonL _ _ _ _ (L.filter op1) th) (HonL.nil _ _ _ _) (fun L th x h _ h1 h5 => ?_) (fun L th k d h hev hp => ?_) _⟩
    · rw [List.filter_append, List.filter_cons_of_neg (by simp [op1, h1]), List.filter_nil, List.append_nil]
      exact h
    · rw [List.filter_append, List.filter_cons_of_pos (by simp [op1]), List.filter_nil]
      exact h.pass k d hev hp

/-- axles alone: how a section stands -/
def jusX (z : Int) (x : Sec) : Prop := x.count = z ∧ x.lost = false ∧ x.sweep = false ∧ x.told = if z = 0 then 0 else 1

theorem jus_cnt {z way : Int} {x : Sec} (h : x.count = z ∧ x.lost = false ∧ x.sweep = false) (h0 : 0 ≤ z + way) (h1 : z + way ≤ 1000000) : (cnt x way).count = z + way ∧ (cnt x way).lost = false ∧ (cnt x way).sweep = false := by
  obtain ⟨a, b, c⟩ := h
  have e : cntC x.count way = z + way := by
    unfold cntC inB
    rw [a, if_pos (by simp; omega)]
  unfold cnt
  simp only [e, b, c]
  refine ⟨trivial, by simp; omega, by simp⟩

theorem jus_told {z : Int} {x : Sec} (h : x.count = z ∧ x.lost = false ∧ x.sweep = false) : jusX z (tlS false x) := by
  obtain ⟨a, b, c⟩ := h
  refine ⟨a, b, c, ?_⟩
  show toldZ false x = _
  unfold toldZ
  rw [a, b, c]
  by_cases e : z = 0
  · simp [e]
  · simp [e]

theorem jus_run {S : Int} {n m : Nat} {F T : Nat → Int} {P : Nat → Nat → Int} (hl : lokZ S n F T = 0) (hm : m ≤ 2000) (hP : ∀ j, j < m → P j 0 = 1 ∧ evB S n 1 (P j 1) (P j 2) = true) (nn : ∀ k, k ≤ m → ∀ s : Nat, 0 ≤ trZ S n F T P k s) (k : Nat) (hk : k ≤ m) :
    (∀ s : Nat, jusX (trZ S n F T P k s) (runX S n F T P k s)) ∧ runD S n F T P k = fun _ => false := by
  induction k with
  | zero => exact ⟨fun s => ⟨rfl, rfl, rfl, rfl⟩, rfl⟩
  | succ k ih =>
    obtain ⟨hX, hD⟩ := ih (by omega)
    obtain ⟨p0, pe⟩ := hP k (by omega)
    obtain ⟨k1, k2, hd⟩ := ev1 pe
    obtain ⟨f, ef⟩ : ∃ f : Nat, P k 1 = (f : Int) := ⟨(P k 1).toNat, by omega⟩
    have hs := lok_sides hl f (by omega)
    rw [ef] at pe
    obtain ⟨d, ed⟩ : ∃ d, P k 2 = d := ⟨_, rfl⟩
    rw [ed] at pe hd
    have step : ∀ s : Nat, trZ S n F T P (k + 1) s = trZ S n F T P k s - (if fromZ F T f d = (s : Int) then 1 else 0) + (if toZ F T f d = (s : Int) then 1 else 0) := by
      intro s
      simp only [trZ]
      rw [p0, ef, ed]
      unfold stepZ
      rw [if_pos ⟨pe, rfl⟩]
      simp only [Int.toNat_natCast]
    constructor
    · intro s
      rw [runX_succ, p0, ef, ed, hD, (nxt_pass S n F T _ (fun _ => false) f d pe s).1, dead_none]
      refine jus_told ?_
      unfold pwD
      simp only [Bool.false_eq_true, if_false]
      obtain ⟨a, b, c, _⟩ := hX s
      have n1 := nn (k + 1) hk s
      have bd := trZ_bound S n F T P (k + 1) s
      rw [step s] at n1 bd ⊢
      have hne : fromZ F T f d ≠ toZ F T f d := by
        unfold fromZ toZ
        split <;> omega
      obtain ⟨fr, efr⟩ : ∃ fr, fromZ F T f d = fr := ⟨_, rfl⟩
      obtain ⟨tt, ett⟩ : ∃ tt, toZ F T f d = tt := ⟨_, rfl⟩
      rw [efr, ett] at n1 bd hne ⊢
      unfold pwS
      by_cases h1 : tt = (s : Int)
      · have h2 : ¬ fr = (s : Int) := by omega
        rw [if_pos h1, if_neg h2] at n1 bd ⊢
        rw [if_neg h2]
        have := jus_cnt (way := 1) ⟨a, b, c⟩ (by omega) (by omega)
        rw [if_pos h1]
        simpa using this
      · rw [if_neg h1]
        by_cases h2 : fr = (s : Int)
        · rw [if_pos h2, if_neg h1] at n1 bd
          rw [if_pos h2, if_pos h2, if_neg h1]
          have := jus_cnt (way := -1) ⟨a, b, c⟩ (by omega) (by omega)
          rw [show trZ S n F T P k s - 1 + 0 = trZ S n F T P k s + -1 by omega]
          exact this
        · rw [if_neg h2, if_neg h2, if_neg h1]
          simpa using ⟨a, b, c⟩
    · rw [runD_succ, p0, ef, ed, hD]
      exact (nxt_pass S n F T (fun _ => sec0) (fun _ => false) f d pe 0).2

theorem jus_code {S : Int} {n m : Nat} {F T : Nat → Int} {P : Nat → Nat → Int} (hl : lokZ S n F T = 0) (hm : m ≤ 2000) (hP : ∀ j, j < m → P j 0 = 1 ∧ evB S n 1 (P j 1) (P j 2) = true) (nn : ∀ k, k ≤ m → ∀ s : Nat, 0 ≤ trZ S n F T P k s) (k : Nat) (hk : k < m) : runC S n F T P k = 0 := by
  obtain ⟨_, hD⟩ := jus_run hl hm hP nn k (by omega)
  obtain ⟨p0, pe⟩ := hP k hk
  unfold runC bhC
  rw [p0, pe, hD]
  simp [effC, passC]

end Go.Proofs.YtlpopfhaephfaaaDoor

namespace Go.Proofs.YtlpopfhaephfaaaDoor
open Go.RowKit Go.Maps

/-- a section that has lost nothing counts at least those who are there -/
def safX (z b : Int) (x : Sec) : Prop := (x.lost = false → z ≤ x.count) ∧ -b ≤ x.count ∧ x.count ≤ b

theorem saf_more {z b : Int} {x : Sec} (h : safX z b x) : safX z (b + 1) x := ⟨h.1, by have := h.2.1; omega, by have := h.2.2; omega⟩

theorem saf_cnt {z b way : Int} {x : Sec} (h : safX z b x) (hb : b ≤ 900000) (hw : way = 1 ∨ way = -1) : safX (z + way) (b + 1) (cnt x way) := by
  obtain ⟨h1, h2, h3⟩ := h
  have e : cntC x.count way = x.count + way := by
    unfold cntC inB
    rw [if_pos (by simp; omega)]
  refine ⟨fun hl => ?_, ?_, ?_⟩
  · have hl' : (x.lost || decide (cntC x.count way < 0)) = false := hl
    show z + way ≤ cntC x.count way
    rw [e]
    have := h1 (by cases hx : x.lost <;> simp [hx] at hl' ⊢)
    omega
  · show -(b + 1) ≤ cntC x.count way
    rw [e]; omega
  · show cntC x.count way ≤ b + 1
    rw [e]; omega

theorem saf_ghost {z b : Int} {x : Sec} (h : safX z b x) (hb : b ≤ 900000) : safX z (b + 1) (cnt x 1) := by
  obtain ⟨h1, h2, h3⟩ := saf_cnt h hb (.inl rfl)
  exact ⟨fun hl => by have := h1 hl; omega, h2, h3⟩

theorem saf_lost {z z' b : Int} {x : Sec} (h : safX z b x) (hl : x.lost = true) : safX z' (b + 1) x := ⟨fun e => (by rw [hl] at e; cases e), by have := h.2.1; omega, by have := h.2.2; omega⟩

theorem dead_side {n : Nat} {F T : Nat → Int} {D : Nat → Bool} {f : Nat} {s : Int} (hf : f < n) (hd : D f = true) (hs : F f = s ∨ T f = s) : deadB n F T D s = true := by
  unfold deadB
  refine List.any_eq_true.2 ⟨(f : Int), ?_, by simpa using hd⟩
  unfold zsAt
  simp only [List.mem_map, List.mem_filter, List.mem_range]
  exact ⟨f, ⟨hf, by simpa using hs⟩, rfl⟩

theorem saf_next {S op f d : Int} {n ns : Nat} {F T Z : Nat → Int} {X : Nat → Sec} {D : Nat → Bool} {b : Int} (h : stOk S n F T true ns n X D = true) (hev : evB S n op f d = true) (hb : b ≤ 900000) (hX : ∀ s, s < ns → safX (Z s) b (X s)) (h5 : op = 5 → Z f.toNat = 0) :
    ∀ s, s < ns → safX (stepZ S n F T Z op f d s) (b + 1) (nxtX S n F T X D op f d s) := by
  obtain ⟨hl, _, hS, _, hsec⟩ := stOk_parts h
  intro s hs
  have hq := secOk_qua (hsec s hs)
  rw [qua_iff] at hq
  have hsx := hX s hs
  suffices hh : safX (stepZ S n F T Z op f d s) (b + 1) (bhX S n F T X D op f d s) from hh
  have hev0 := hev
  unfold evB at hev
  unfold bhX
  rw [hev0]
  simp only [if_true]
  by_cases h1 : op = 1
  · subst h1
    rw [if_pos (.inl rfl)] at hev
    obtain ⟨v1, v2, hd⟩ := of_decide_eq_true hev
    obtain ⟨k, rfl⟩ : ∃ k : Nat, f = (k : Int) := ⟨f.toNat, by omega⟩
    have hk : k < n := by omega
    have hsd := lok_sides hl k hk
    unfold stepZ
    rw [if_pos ⟨hev0, rfl⟩]
    simp only [Int.toNat_natCast]
    have e1 : effX n F T X D 1 (k : Int) d = passY F T X D k d true := by simp [effX]
    rw [e1]
    unfold passY
    cases hD : D k
    · simp only [Bool.false_eq_true, if_false]
      unfold passX
      simp only [if_true]
      rw [cntSide_at, cntSide_at]
      have hne : fromZ F T k d ≠ toZ F T k d := by
        unfold fromZ toZ
        split <;> omega
      obtain ⟨fr, efr⟩ : ∃ fr, fromZ F T k d = fr := ⟨_, rfl⟩
      obtain ⟨tt, ett⟩ : ∃ tt, toZ F T k d = tt := ⟨_, rfl⟩
      simp only [efr, ett] at hne ⊢
      by_cases h1 : tt = (s : Int)
      · have h2 : ¬ fr = (s : Int) := by omega
        rw [if_pos h1, if_pos h1, if_neg h2, if_neg h2]
        simpa using saf_cnt hsx hb (.inl rfl)
      · rw [if_neg h1, if_neg h1]
        by_cases h2 : fr = (s : Int)
        · rw [if_pos h2, if_pos h2]
          have := saf_cnt hsx hb (.inr rfl)
          rw [show Z s - 1 + 0 = Z s + -1 by omega]
          exact this
        · rw [if_neg h2, if_neg h2]
          simpa using saf_more hsx
    · simp only [if_true]
      by_cases hside : F k = (s : Int) ∨ T k = (s : Int)
      · have hdd := dead_side hk hD hside
        have hlost : (X s).lost = true := by
          rcases hq.2 with hq | ⟨_, hq, _⟩
          · exact hq
          · rw [hdd] at hq; cases hq
        exact saf_lost hsx hlost
      · have ha : ¬ F k = (s : Int) := fun e => hside (.inl e)
        have hc : ¬ T k = (s : Int) := fun e => hside (.inr e)
        obtain ⟨x1, x2⟩ := ft_mem F T k d s ha hc
        rw [if_neg x1, if_neg x2]
        simpa using saf_more hsx
  · rw [stepZ_other _ _ _ _ _ _ _ _ h1]
    by_cases h2 : op = 2
    · subst h2
      rw [if_pos (.inr rfl)] at hev
      have e1 : effX n F T X D 2 f d = passY F T X D f.toNat d false := by simp [effX]
      rw [e1]
      unfold passY
      split
      · exact saf_more hsx
      · unfold passX
        simp only [Bool.false_eq_true, if_false]
        rw [cntSide_at]
        split
        · exact saf_ghost hsx hb
        · exact saf_more hsx
    · by_cases h3 : op = 3
      · subst h3
        have e1 : effX n F T X D 3 f d = lostSide (lostSide X (F f.toNat)) (T f.toNat) := by simp [effX]
        rw [e1]
        have one : ∀ (Y : Nat → Sec) (side : Int), safX (Z s) (b + 1) (Y s) → safX (Z s) (b + 1) (lostSide Y side s) := by
          intro Y side hY
          by_cases e : side = (s : Int)
          · subst e
            rw [lost_same]
            exact ⟨fun e => (by cases e), hY.2.1, hY.2.2⟩
          · rw [lost_other e]; exact hY
        exact one _ _ (one _ _ (saf_more hsx))
      · by_cases h4 : op = 5
        · subst h4
          have e1 : effX n F T X D 5 f d = rstY n F T X D f.toNat := by simp [effX]
          rw [e1]
          unfold rstY
          split
          · exact saf_more hsx
          · split
            · exact saf_more hsx
            · unfold resetAt
              split
              · rename_i e
                have hz := h5 rfl
                rw [← e] at hz
                rw [hz]
                exact ⟨fun _ => Int.le_refl _, by show -(b + 1) ≤ 0; have := hsx.2.1; have := hsx.2.2; omega, by show 0 ≤ b + 1; have := hsx.2.1; have := hsx.2.2; omega⟩
              · exact saf_more hsx
        · have e1 : effX n F T X D op f d = X := by simp [effX, h1, h2, h3, h4]
          rw [e1]
          exact saf_more hsx

theorem saf_run {S : Int} {n ns m : Nat} {F T : Nat → Int} {P : Nat → Nat → Int} (hl : lokZ S n F T = 0) (hS : (ns : Int) = S) (hm : m ≤ 2000) (hP : ∀ j, j < m → evB S n (P j 0) (P j 1) (P j 2) = true) (rs : ∀ j, j < m → P j 0 = 5 → trZ S n F T P j (P j 1).toNat = 0) (k : Nat) (hk : k ≤ m) :
    ∀ s, s < ns → safX (trZ S n F T P k s) (k : Int) (runX S n F T P k s) := by
  induction k with
  | zero => exact fun s _ => ⟨fun _ => Int.le_refl _, Int.le_refl _, Int.le_refl _⟩
  | succ k ih =>
    intro s hs
    have := saf_next (run_ok (P := P) hl hS k) (hP k (by omega)) (b := (k : Int)) (by omega) (ih (by omega)) (rs k (by omega)) s hs
    simp only [trZ]
    rw [runX_succ]
    simpa using this

/-- NO GAP: a section that is told free has nobody in it -/
theorem saf_free {S : Int} {n ns m : Nat} {F T : Nat → Int} {P : Nat → Nat → Int} (hl : lokZ S n F T = 0) (hS : (ns : Int) = S) (hm : m ≤ 2000) (hP : ∀ j, j < m → evB S n (P j 0) (P j 1) (P j 2) = true) (rs : ∀ j, j < m → P j 0 = 5 → trZ S n F T P j (P j 1).toNat = 0) (nn : ∀ k, k ≤ m → ∀ s : Nat, 0 ≤ trZ S n F T P k s) (k : Nat) (hk : k ≤ m) (s : Nat) (hs : s < ns) (h0 : (runX S n F T P k s).told = 0) : trZ S n F T P k s = 0 := by
  have h1 := saf_run hl hS hm hP rs k hk s hs
  obtain ⟨_, _, _, _, hsec⟩ := stOk_parts (run_ok (P := P) hl hS k)
  have h2 := hsec s hs
  unfold secOk at h2
  simp only [Bool.and_eq_true, beq_iff_eq] at h2
  have h3 := h2.1.2
  rw [h0] at h3
  obtain ⟨x, ex⟩ : ∃ x, runX S n F T P k s = x := ⟨_, rfl⟩
  rw [ex] at h1 h3
  unfold toldZ at h3
  have h4 := nn k hk s
  cases hd : deadB n F T (runD S n F T P k) (s : Int)
  · rw [hd] at h3
    simp only [Bool.false_eq_true, if_false] at h3
    cases hlo : x.lost
    · cases hsw : x.sweep
      · rw [hlo, hsw] at h3
        by_cases hc : x.count = 0
        · have := h1.1 hlo
          omega
        · simp [hc] at h3
      · rw [hlo, hsw] at h3
        simp at h3
    · rw [hlo] at h3
      simp at h3
  · rw [hd] at h3
    simp at h3

end Go.Proofs.YtlpopfhaephfaaaDoor

namespace Go.Proofs.YtlpopfhaephfaaaDoor
open Go.RowKit Go.Maps Go.Sort

theorem hnewo (w : World) (o : Obj) : (w.alloc o).heap[w.heap.size]? = some o := by
  unfold World.alloc
  simp

theorem implRun_bad (S : Int) (g n m ce : Nat) (ae : Option Addr) (F T : Nat → Int) (w : World) (hm : m ≤ 1048576) (hrow : CRow w g n F T) (hb : ¬ (lokZ S n F T = 0 ∧ m ≤ 2000)) :
    Calls Tryd.prog 10 #[.agg #[.int .i64 S, .slice (gA g) n (gC g)], .slice ae m ce] w fun e w' => e = .returned (.slice none 0 0) ∧ Below w.heap.size w w' := by
  have kc := fun o => runOk_any S g n m ce ae F T _ hm (hrow.alloc o)
  have e0 : (lokZ S n F T == 0 && decide (m ≤ 2000)) = false := by
    cases h1 : (lokZ S n F T == 0)
    · rfl
    · simp only [beq_iff_eq] at h1
      simp only [Bool.true_and, decide_eq_false_iff_not]
      exact fun h => hb ⟨h1, h⟩
  rw [e0] at kc
  go_enter Tryd.func10, Tryd.ntmps10
  go_wp2_with fail
  refine (kc _).mono ?_
  rintro e w1 ⟨rfl, hb1⟩
  have B1 := below_on (show Below w.heap.size w _ from (by repeat (first | exact Below.refl _ _ | assumption | refine below_alloc ?_ _ | refine Below.setCell ?_ (by first | omega | (simp; done) | (simp; omega)) _ | refine Below.alloc ?_ (by first | omega | (simp; done) | (simp; omega)) _ | refine Below.drew ?_))) hb1
  go_wp2
  go_ret
  exact ⟨rfl, B1⟩

theorem implBegin_nice (S : Int) (g n ns : Nat) (F T : Nat → Int) (w : World) (hrow : CRow w g n F T) (hl : lokZ S n F T = 0) (hS : (ns : Int) = S) :
    Calls Tryd.prog 15 #[.agg #[.int .i64 S, .slice (gA g) n (gC g)]] w fun e w' => ∃ a1 c1 a2 c2, e = .returned (.agg #[.bool true, .slice a1 ns c1, .slice a2 n c2]) ∧ Lst w' w.heap.size w'.heap.size (.slice a1 ns c1) ns (fun _ => sec0) (.slice a2 n c2) n (fun _ => false) ∧ Below w.heap.size w w' := by
  refine (implBegin_ok S g n F T w hrow hl).mono ?_
  rintro e w' ⟨v, rfl, hB, hb⟩
  unfold BegF at hB
  simp only [if_true] at hB
  rw [show S.toNat = ns by omega] at hB
  obtain ⟨_, _, rfl, h1, h2⟩ := hB
  obtain ⟨a1, c1, rfl, _⟩ := id h1
  obtain ⟨a2, c2, rfl, _⟩ := id h2
  exact ⟨a1, c1, a2, c2, rfl, ⟨h1, h2⟩, hb⟩

/-- a board's box as it is laid -/
theorem bd_box (W : World) : Blk (W.alloc (.cells #[.int .i64 0, .slice none 0 0, .map none, .bool false, .slice none 0 0, .slice none 0 0] 78)) W.heap.size 78 6 (fun i => #[.int .i64 0, .slice none 0 0, .map none, .bool false, .slice none 0 0, .slice none 0 0][i]!) :=
  Blk.new W #[.int .i64 0, .slice none 0 0, .map none, .bool false, .slice none 0 0, .slice none 0 0] _ _ (fun i hi => by simp at hi; match i, hi with | 0, _ => rfl | 1, _ => rfl | 2, _ => rfl | 3, _ => rfl | 4, _ => rfl | 5, _ => rfl)

theorem bd_end {w2 W : World} {bb : Nat} {f : Nat → Value} {S : Int} {g n B ns lo hi : Nat} {F T : Nat → Int} {X : Nat → Sec} {D : Nat → Bool} {v1 v2 : Value} (hZ : Blk W bb 78 6 f) (hb : Below w2.heap.size w2 W) (h1 : w2.heap.size ≤ bb) (gB : Grp W B (2 * n) (zsAt F T n)) (hL : Lst W lo hi v1 ns X v2 n D) (hlo : w2.heap.size ≤ lo) (hlh : lo ≤ hi) (hhi : hi ≤ W.heap.size) :
    ∀ U, U = ((((((W.setCell ⟨bb, 0, none⟩ (.int .i64 S)).setCell ⟨bb, 1, none⟩ (.slice (gA g) n (gC g))).setCell ⟨bb, 2, none⟩ (.map (some B))).setCell ⟨bb, 3, none⟩ (.bool true)).setCell ⟨bb, 4, none⟩ v1).setCell ⟨bb, 5, none⟩ v2) →
    ∃ bb' B' v1' v2' lo' hi', Value.pointer (some ⟨bb, 0, none⟩) = .pointer (some ⟨bb', 0, none⟩) ∧ w2.heap.size ≤ bb' ∧ Bd6 U bb' S g n B' true v1' v2' ∧ Grp U B' (2 * n) (zsAt F T n) ∧ Lst U lo' hi' v1' ns X v2' n D ∧ w2.heap.size ≤ lo' ∧ lo' ≤ hi' ∧ hi' ≤ U.heap.size ∧ Below w2.heap.size w2 U := by
  rintro U rfl
  obtain ⟨k1, k2⟩ := bd6_sets hZ S g n B true v1 v2
  exact ⟨bb, B, v1, v2, lo, hi, rfl, h1, k1, gB.turned k2 (by decide), ⟨hL.1.turned k2 (.inl (by decide)), hL.2.turned k2 (.inl (by decide))⟩, hlo, hlh, Nat.le_trans hhi k2.size, hb.trans (k2.below h1 hb.size)⟩

set_option maxRecDepth 100000 in
set_option maxHeartbeats 4000000 in
theorem implRun_ok (S : Int) (g n le he m ns : Nat) (F T : Nat → Int) (P : Nat → Nat → Int) (ve : Value) (w : World) (hrow : CRow w g n F T) (hev : SlF w 56 3 le he ve m (evs P)) (hl : lokZ S n F T = 0) (hS : (ns : Int) = S) (hm : m ≤ 2000) :
    Calls Tryd.prog 10 #[.agg #[.int .i64 S, .slice (gA g) n (gC g)], ve] w fun e w' => ∃ u, e = .returned u ∧ DnF w' w.heap.size w'.heap.size u m ns n (runC S n F T P) (fun _ => true) (fun k => runX S n F T P (k + 1)) (fun k => runD S n F T P (k + 1)) ∧ Below w.heap.size w w' := by
  obtain ⟨r1, r2, r3⟩ := lok_range hl
  obtain ⟨f1, f2, f3⟩ := lok_wf hl
  have hp : 0 < ns := by omega
  have hm' : m ≤ 1048576 := by omega
  obtain ⟨ae, ce, rfl, he0⟩ := id hev
  obtain ⟨i0, hi, hz0, hz1, hz2⟩ := info_parts Tryd.infoDn
  obtain ⟨Cs, zs, mk0⟩ := made_dones m
  have mk := fun W => mk0 W hm
  have cb := fun W hr => bySide_any S g n F T W hr r3 f1 f2 f3
  have cg := fun W hr => implBegin_nice S g n ns F T W hr hl hS
  have kc := fun o => runOk_any S g n m ce ae F T _ hm' (hrow.alloc o)
  have e0 : (lokZ S n F T == 0 && decide (m ≤ 2000)) = true := by simp [hl, hm]
  rw [e0] at kc
  clear e0 f1 f2 f3 mk0
  obtain ⟨V, eV⟩ : ∃ V, w.alloc (.cells #[.int .i64 S, .slice (gA g) n (gC g)] 25) = V := ⟨_, rfl⟩
  have sV : V.heap.size = w.heap.size + 1 := by rw [← eV]; simp
  have bV : Below w.heap.size w V := by rw [← eV]; exact (by repeat (first | exact Below.refl _ _ | assumption | refine below_alloc ?_ _ | refine Below.setCell ?_ (by first | omega | (simp; done) | (simp; omega)) _ | refine Below.alloc ?_ (by first | omega | (simp; done) | (simp; omega)) _ | refine Below.drew ?_))
  have bL : Blk V w.heap.size 25 2 (fun i => if i = 0 then .int .i64 S else .slice (gA g) n (gC g)) := by
    rw [← eV]
    exact Blk.new w #[.int .i64 S, .slice (gA g) n (gC g)] 25 _ (fun i hi => by simp at hi; match i, hi with | 0, _ => rfl | 1, _ => rfl)
  have P0 : ∀ W, Below V.heap.size V W → W.cell? ⟨w.heap.size, 0, none⟩ = some (.int .i64 S) ∧ W.cell? ⟨w.heap.size, 1, none⟩ = some (.slice (gA g) n (gC g)) := fun W hb => ⟨(bL.on hb).cell (i := 0) (by omega), (bL.on hb).cell (i := 1) (by omega)⟩
  have kc' := kc (.cells #[.int .i64 S, .slice (gA g) n (gC g)] 25)
  rw [eV] at kc'
  have EV : Hid _ := eV
  clear eV bL kc
  go_enter Tryd.func10, Tryd.ntmps10
  go_wp2_with fail
  rw [EV.out]
  refine kc'.mono ?_
  clear kc'
  rintro e w1 ⟨rfl, B1⟩
  have z1 : w.heap.size + 1 ≤ w1.heap.size := by have := B1.size; omega
  go_upto_region 4 with fail
  have O2 : (w1.alloc (.cells Cs 41)).ownsRow w.heap.size 41 4 (.slice (some ⟨w1.heap.size, 0, none⟩) 0 m) 0 [] := ⟨rfl, .inr ⟨w1.heap.size, m, Cs, rfl, by omega, hnewo w1 _, by omega, by unfold maxLen; omega, by rw [zs], by simp⟩⟩
  obtain ⟨w2, e2⟩ : ∃ w2, w1.alloc (.cells Cs 41) = w2 := ⟨_, rfl⟩
  have B2 : Below V.heap.size V w2 := by rw [← e2]; exact below_alloc B1 _
  have z2 : w1.heap.size < w2.heap.size := by rw [← e2]; simp
  rw [e2] at O2 ⊢
  clear e2 mk
  have R2 := hrow.on (below_on bV B2)
  go_cut [6] from 23 (fun q wc => ∃ bb B v1 v2 lo hi, q = .pointer (some ⟨bb, 0, none⟩) ∧ w2.heap.size ≤ bb ∧ Bd6 wc bb S g n B true v1 v2 ∧ Grp wc B (2 * n) (zsAt F T n) ∧ Lst wc lo hi v1 ns (fun _ => sec0) v2 n (fun _ => false) ∧ w2.heap.size ≤ lo ∧ lo ≤ hi ∧ hi ≤ wc.heap.size ∧ Below w2.heap.size w2 wc)
  case first =>
    have P1 : Hid (∀ W, Below w2.heap.size w2 W → _) := fun W hb => P0 W (below_on B2 hb)
    refine wp_region_any (by kernel_rfl) ?_
    refine InC.any (C := fun W => Below w2.heap.size w2 W) _ _ _ _ ?_
    have C0 : Below w2.heap.size w2 w2.drew := (Below.refl _ _).drew
    refine InC.take (i := 0) (v := .agg #[.int .i64 S, .slice (gA g) n (gC g)]) rfl (by kernel_rfl) (by kernel_rfl) (by kernel_rfl) (fun _ _ _ h => h) C0 (Or.inl ⟨by rfl, ?_⟩) ?_
    · intro W hW
      obtain ⟨k0, k1⟩ := P1.out W hW
      go_simp
    refine InC.take (i := 1) (v := .agg #[.int .i64 S, .slice (gA g) n (gC g)]) rfl (by kernel_rfl) (by kernel_rfl) (by kernel_rfl) (fun _ _ _ h => h) C0 (Or.inl ⟨by rfl, ?_⟩) ?_
    · intro W hW
      obtain ⟨k0, k1⟩ := P1.out W hW
      go_simp
    refine InC.take (i := 3) (v := .agg #[.int .i64 S, .slice (gA g) n (gC g)]) rfl (by kernel_rfl) (by kernel_rfl) (by kernel_rfl) (fun _ _ _ h => h) C0 (Or.inl ⟨by rfl, ?_⟩) ?_
    · intro W hW
      obtain ⟨k0, k1⟩ := P1.out W hW
      go_simp
    refine InC.next2 (i := 2) (j := 6) (by kernel_rfl) (InC.one rfl fun K hK => ?_) (InC.one rfl fun K hK => ?_)
    · go_simp
      refine (cb _ R2.drew).mono ?_
      rintro e wB ⟨B, rfl, hB0, gB, hbB⟩
      have CB : Below w2.heap.size w2 wB := below_on C0 hbB
      refine hK _ _ CB ?_
      clear hK K
      refine InC.next2 (i := 4) (j := 6) (by kernel_rfl) (InC.one rfl fun K hK => ?_) (InC.one rfl fun K hK => ?_)
      · go_simp
        refine (cg _ (R2.on CB)).mono ?_
        rintro e wG ⟨a1, c1, a2, c2, rfl, LG, hbG⟩
        have CG := below_on CB hbG
        have zG := hbG.size
        have zB := CB.size
        refine hK _ _ CG ?_
        clear hK K
        refine InC.take (i := 5) (v := .agg #[.int .i64 S, .slice (gA g) n (gC g), .map (some B), .bool true, .slice a1 ns c1, .slice a2 n c2]) rfl (by kernel_rfl) (by kernel_rfl) (by kernel_rfl) (fun _ _ _ h => h) CG (Or.inl ⟨by rfl, ?_⟩) ?_
        · intro W hW
          go_simp
        refine InC.next1 (i := 6) (by kernel_rfl) (InC.one rfl fun K hK => ?_)
        go_simp
        refine hK _ _ (below_alloc CG _) ?_
        clear hK K
        refine InC.next1 (i := 7) (by kernel_rfl) (InC.one rfl fun K hK => ?_)
        go_simp
        refine hK _ _ (below_alloc CG _) ?_
        clear hK K
        refine InC.done (by kernel_rfl) ?_
        go_wp2_with fail
        go_meet
        case rel => exact ⟨wG.heap.size, B, _, _, wB.heap.size, wG.heap.size, rfl, by omega, Bd6.lay _ _ _ _ _ _ _ _, (gB.on hbG).alloc _, LG.on (below_alloc (Below.refl _ _) _), by omega, by omega, by simp, below_alloc CG _⟩
      · go_simp
        have CA := below_alloc CB (.cells #[.int .i64 0, .slice none 0 0, .map none, .bool false, .slice none 0 0, .slice none 0 0] 78)
        refine hK _ _ CA ?_
        clear hK K
        refine InC.next1 (i := 4) (by kernel_rfl) (InC.one rfl fun K hK => ?_)
        go_simp
        refine (cg _ (R2.on CA)).mono ?_
        rintro e wG ⟨a1, c1, a2, c2, rfl, LG, hbG⟩
        have CG := below_on CA hbG
        have zG := hbG.size
        have zB := CB.size
        rw [World.size_alloc] at zG
        have hZ := (bd_box wB).on hbG
        have y0 := hZ.cell (i := 0) (by omega)
        have y1 := hZ.cell (i := 1) (by omega)
        have y2 := hZ.cell (i := 2) (by omega)
        have y3 := hZ.cell (i := 3) (by omega)
        have y4 := hZ.cell (i := 4) (by omega)
        have y5 := hZ.cell (i := 5) (by omega)
        have x0 := hZ.frozen 0
        have x1 := hZ.frozen 1
        have x2 := hZ.frozen 2
        have x3 := hZ.frozen 3
        have x4 := hZ.frozen 4
        have x5 := hZ.frozen 5
        refine hK _ _ CG ?_
        clear hK K
        refine InC.next1 (i := 5) (by kernel_rfl) (InC.one rfl fun K hK => ?_)
        go_simp
        refine hK _ _ CG ?_
        clear hK K
        refine InC.next1 (i := 7) (by kernel_rfl) (InC.one rfl fun K hK => ?_)
        go_simp
        have E := bd_end (S := S) (g := g) hZ CG (by omega) ((gB.alloc _).on hbG) LG (by simp; omega) (by simpa using zG) (Nat.le_refl _) _ rfl
        refine hK _ _ (by obtain ⟨_, _, _, _, _, _, _, _, _, _, _, _, _, _, h⟩ := E; exact h) ?_
        clear hK K
        refine InC.done (by kernel_rfl) ?_
        go_wp2_with fail
        go_meet
        case rel => exact E
    · go_simp
      have CA : Below w2.heap.size w2 (w2.alloc (.cells #[.int .i64 0, .slice none 0 0, .map none, .bool false, .slice none 0 0, .slice none 0 0] 78)).drew := (below_alloc (Below.refl _ _) _).drew
      refine hK _ _ CA ?_
      clear hK K
      refine InC.next1 (i := 2) (by kernel_rfl) (InC.one rfl fun K hK => ?_)
      go_simp
      refine (cb _ (R2.on CA)).mono ?_
      rintro e wB ⟨B, rfl, hB0, gB, hbB⟩
      have CB : Below w2.heap.size w2 wB := below_on CA hbB
      have zB := hbB.size
      refine hK _ _ CB ?_
      clear hK K
      refine InC.next1 (i := 4) (by kernel_rfl) (InC.one rfl fun K hK => ?_)
      go_simp
      refine (cg _ (R2.on CB)).mono ?_
      rintro e wG ⟨a1, c1, a2, c2, rfl, LG, hbG⟩
      have CG := below_on CB hbG
      have zG := hbG.size
      have zC := CB.size
      have hZ := ((bd_box w2).drew.on hbB).on hbG
      have y0 := hZ.cell (i := 0) (by omega)
      have y1 := hZ.cell (i := 1) (by omega)
      have y2 := hZ.cell (i := 2) (by omega)
      have y3 := hZ.cell (i := 3) (by omega)
      have y4 := hZ.cell (i := 4) (by omega)
      have y5 := hZ.cell (i := 5) (by omega)
      have x0 := hZ.frozen 0
      have x1 := hZ.frozen 1
      have x2 := hZ.frozen 2
      have x3 := hZ.frozen 3
      have x4 := hZ.frozen 4
      have x5 := hZ.frozen 5
      refine hK _ _ CG ?_
      clear hK K
      refine InC.next1 (i := 5) (by kernel_rfl) (InC.one rfl fun K hK => ?_)
      go_simp
      refine hK _ _ CG ?_
      clear hK K
      refine InC.next1 (i := 7) (by kernel_rfl) (InC.one rfl fun K hK => ?_)
      go_simp
      have E := bd_end (S := S) (g := g) hZ CG (Nat.le_refl _) (gB.on hbG) LG zC zG (Nat.le_refl _) _ rfl
      refine hK _ _ (by obtain ⟨_, _, _, _, _, _, _, _, _, _, _, _, _, _, h⟩ := E; exact h) ?_
      clear hK K
      refine InC.done (by kernel_rfl) ?_
      go_wp2_with fail
      go_meet
      case rel => exact E
  case rest =>
    obtain ⟨bb, B, u1, u2, lo, hi', rfl, hbb, hbd, gB, LB, hlo, hlh, hhi, hbc⟩ := hcut
    have Bc := below_on bV (below_on B2 hbc)
    have zw : w.heap.size < w2.heap.size := by omega
    have I0 : RunI wc w.heap.size w2.heap.size (.slice (some ⟨w1.heap.size, 0, none⟩) 0 m) 0 ns n (runC S n F T P) (fun k => runX S n F T P (k + 1)) (fun k => runD S n F T P (k + 1)) := ⟨fun _ => .slice none 0 0, fun _ => .slice none 0 0, fun _ => w2.heap.size, own_on O2 hbc, Nat.le_of_lt zw, Nat.le_refl _, fun i hi => by omega⟩
    have zc : w2.heap.size ≤ wc.heap.size := hbc.size
    clear O2 B2 B1 R2 P0 cb cg hbc EV bV
    go_wp2
    go_loopw [5, 25] (fun q i wr => ∃ (k : Nat) (u1 u2 : Value) (lo hi top : Nat), k ≤ m ∧ i = .int .i64 k ∧ Bd6 wr bb S g n B true u1 u2 ∧ Grp wr B (2 * n) (zsAt F T n) ∧ Lst wr lo hi u1 ns (runX S n F T P k) u2 n (runD S n F T P k) ∧ RunI wr w.heap.size top q k ns n (runC S n F T P) (fun k => runX S n F T P (k + 1)) (fun k => runD S n F T P (k + 1)) ∧ top ≤ wr.heap.size ∧ Below w.heap.size w wr) (fun _ i _ => m - (intOf i).toNat)
    case atStart => exact ⟨0, u1, u2, lo, hi', w2.heap.size, Nat.zero_le _, rfl, hbd, gB, LB, I0, zc, Bc⟩
    case round =>
      clear hbd gB LB I0 Bc hlo hlh hhi
      obtain ⟨k, u1, u2, lo, hi', top, hk, rfl, hbd, gB, LB, hI, htop, Bw⟩ := hrel
      by_cases hlt : k < m
      · rcases he0 with he0 | ⟨ge, me, fe, rfl, _, _, h2, h3, h4⟩
        · omega
        obtain ⟨c0, c1, c2⟩ := three (h3.on Bw) h2 hlt h4
        have hst := run_ok (P := P) hl hS k
        have hc := fun j hj => secOk_count ((stOk_parts hst).2.2.2.2 j hj)
        obtain ⟨a1, d1, rfl, _⟩ := id LB.1
        obtain ⟨a2, d2, rfl, _⟩ := id LB.2
        obtain ⟨gs, rfl⟩ := LB.1.addr hp
        have eX : runX S n F T P (k + 1) = nxtX S n F T (runX S n F T P k) (runD S n F T P k) (P k 0) (P k 1) (P k 2) := rfl
        have eD : runD S n F T P (k + 1) = bhD S n (runD S n F T P k) (P k 0) (P k 1) (P k 2) := rfl
        have eC : runC S n F T P k = bhC S n F T (runX S n F T P k) (runD S n F T P k) (P k 0) (P k 1) (P k 2) := rfl
        obtain ⟨op, eop⟩ : ∃ op, P k 0 = op := ⟨_, rfl⟩
        obtain ⟨f, ef⟩ : ∃ f, P k 1 = f := ⟨_, rfl⟩
        obtain ⟨d, ed⟩ : ∃ d, P k 2 = d := ⟨_, rfl⟩
        rw [eop] at c0 eX eD eC
        rw [ef] at c1 eX eD eC
        rw [ed] at c2 eX eD eC
        have kb := behind_any S op f d g n B lo hi' F T true gs d1 ns a2 d2 _ _ (wr.alloc (.cells #[.int .i64 op, .int .i64 f, .int .i64 d] 56)) hl hS hc ((hrow.on Bw).alloc _) (gB.alloc _) (LB.on (below_alloc (Below.refl _ _) _))
        unfold brdV at kb
        rw [← eC, ← eX, ← eD] at kb
        obtain ⟨C, eC'⟩ : ∃ C, runC S n F T P k = C := ⟨_, rfl⟩
        rw [eC'] at kb
        have EC : Hid _ := eC'
        obtain ⟨A1, A2, L, q1, q2, q3, q4⟩ := hI
        obtain ⟨y0, y1, y2, y3, y4, y5⟩ := hbd.cells
        have hbb' := Blk.lt hbd
        have hi1 : (k : Int) < (m : Int) := by omega
        clear eX eD eC eC' eop ef ed h3 h4 hst hc
        go_wp2_with fail
        refine kb.mono ?_
        clear kb
        rintro e w3 ⟨g', k1, a', k2, rfl, L3, hb3⟩
        have zU : wr.heap.size + 1 ≤ w3.heap.size := by have := hb3.size; simpa using this
        have hbU : Below wr.heap.size wr w3 := below_on (below_alloc (Below.refl _ _) _) hb3
        have bx := (Box4.lay w3 C true (.slice (some ⟨g', 0, none⟩) ns k1) (.slice a' n k2)).alloc (.cells #[.int .i64 C, .bool true, .slice (some ⟨g', 0, none⟩) ns k1, .slice a' n k2] 41)
        have hnw := new_cells4 (w3.alloc (.cells #[.int .i64 C, .bool true, .slice (some ⟨g', 0, none⟩) ns k1, .slice a' n k2] 41)) (.int .i64 C) (.bool true) (.slice (some ⟨g', 0, none⟩) ns k1) (.slice a' n k2) 41
        rw [World.size_alloc] at hnw
        have h1c : ∀ u ∈ [Value.int .i64 C, .bool true, .slice (some ⟨g', 0, none⟩) ns k1, .slice a' n k2], u.oneCell' = true := fun u hu => by
          simp only [List.mem_cons, List.not_mem_nil, or_false] at hu
          rcases hu with rfl | rfl | rfl | rfl <;> rfl
        obtain ⟨U, eU⟩ : ∃ U, (w3.alloc (.cells #[.int .i64 C, .bool true, .slice (some ⟨g', 0, none⟩) ns k1, .slice a' n k2] 41)).alloc (.cells #[.int .i64 C, .bool true, .slice (some ⟨g', 0, none⟩) ns k1, .slice a' n k2] 41) = U := ⟨_, rfl⟩
        have hb3U : Below w3.heap.size w3 U := by rw [← eU]; exact (by repeat (first | exact Below.refl _ _ | assumption | refine below_alloc ?_ _ | refine Below.setCell ?_ (by first | omega | (simp; done) | (simp; omega)) _ | refine Below.alloc ?_ (by first | omega | (simp; done) | (simp; omega)) _ | refine Below.drew ?_))
        have szU : U.heap.size = w3.heap.size + 1 + 1 := by rw [← eU]; simp
        rw [eU] at bx hnw
        have hU := below_on hbU hb3U
        have own3 := own_on q1 hU
        have EU : Hid _ := eU
        have q4' : ∀ i, i < k → L i ≤ L (i + 1) ∧ SlF U 43 5 (L i) (L (i + 1)) (A1 i) ns (secs (runX S n F T P (i + 1))) ∧ SlF U 4 1 (L i) (L (i + 1)) (A2 i) n (bools (runD S n F T P (i + 1))) := fun i hi => ⟨(q4 i hi).1, (q4 i hi).2.1.on hU, (q4 i hi).2.2.on hU⟩
        have L3' := L3.on hb3U
        have bd3 := hbd.on hU
        have gB3 := gB.on hU
        have BU := below_on Bw hU
        have Q4 : Hid _ := q4'
        have post : ∀ w4, U.grownBy w4 (Value.ownBlock _) → Box4 w4 w3.heap.size C true (.slice (some ⟨g', 0, none⟩) ns k1) (.slice a' n k2) := fun w4 hg => Blk.grown bx hg (fun e => by have := (q1.lt _ e).2; omega)
        have HP : Hid _ := post
        clear q4 q4' eU L3 hbd gB LB bx post hU hb3U
        go_wp2_with (first
          | (at_builtin; rw [EU.out]; refine wpList_append_own _ rfl _ _ 34 rfl w.heap.size 41 i0 _ 4 64 Tryd.underlying34 hi hz0 hz1 hz2 rfl (by decide) _ _ _ rfl own3 ⟨w3.heap.size + 1, 0, none⟩ 1 1 [.int .i64 C, .bool true, .slice (some ⟨g', 0, none⟩) ns k1, .slice a' n k2] rfl rfl hnw h1c (by unfold maxLen; omega) (by omega) (by have := BU.size; omega) ?_; intro v' w4 hown' hgrow hnil; obtain ⟨g5, cap5, rfl⟩ := own_some hown' (by omega); have b4 := HP.out w4 hgrow; obtain ⟨t0, t1, t2, t3⟩ := b4.cells; have tg := own_grown own3 hgrow; have bd4 := bd3.turned tg (by decide); obtain ⟨s0, s1, s2, s3, s4, s5⟩ := bd4.cells; have x3 := Blk.frozen bd4 3; have x4 := Blk.frozen bd4 4; have x5 := Blk.frozen bd4 5))
        obtain ⟨n1, n2⟩ := bd6_state (ok' := true) (v1' := .slice (some ⟨g', 0, none⟩) ns k1) (v2' := .slice a' n k2) bd4
        have I5 := RunI.step (X := fun k => runX S n F T P (k + 1)) (D := fun k => runD S n F T P (k + 1)) own3 q2 q3 Q4.out EC.out.symm L3' (by simp; omega) (by simpa using zU) hown' hgrow
        have B5 : Below w.heap.size w _ := (BU.trans (tg.below (Nat.le_refl _) BU.size)).trans (n2.below (B := w.heap.size) (by omega) (by have := BU.size; have := tg.size; omega))
        have z5 : w3.heap.size ≤ (((w4.setCell ⟨bb, 3, none⟩ (.bool true)).setCell ⟨bb, 4, none⟩ (.slice (some ⟨g', 0, none⟩) ns k1)).setCell ⟨bb, 5, none⟩ (.slice a' n k2)).heap.size := by have h1 := n2.size; have h2 := tg.size; omega
        go_roundw
        case rel => exact ⟨k + 1, _, _, _, _, _, by omega, by go_num, n1, (gB3.turned tg (by decide)).turned n2 (by decide), ⟨(L3'.1.turned tg (.inl (by decide))).turned n2 (.inl (by decide)), (L3'.2.turned tg (.inl (by decide))).turned n2 (.inl (by decide))⟩, I5.turned n2 (by decide) (by decide) (by decide), z5, B5⟩
        case measure => simp [intOf]; omega
      · have hkm : k = m := by omega
        subst hkm
        go_wp2
        go_ret
        exact ⟨_, rfl, hI.dones htop, Bw⟩

end Go.Proofs.YtlpopfhaephfaaaDoor

namespace Go.Proofs.YtlpopfhaephfaaaDoor
open Go.RowKit Go.Maps

theorem duo {w : World} {g e m n k : Nat} {f : Nat → Value} {P : Nat → Nat → Int} (h : Blk w g e m f) (hm : n * 2 ≤ m) (hk : k < n) (hf : ∀ i, i < n → ∀ j, j < 2 → f (i * 2 + j) = evs P i j) :
    w.cell? ⟨g, k * 2, none⟩ = some (.int .i64 (P k 0)) ∧ w.cell? ⟨g, k * 2 + 1, none⟩ = some (.int .i64 (P k 1)) :=
  ⟨by rw [h.cell (by omega)]; exact congrArg some (hf k hk 0 (by omega)), by rw [h.cell (by omega), hf k hk 1 (by omega)]; rfl⟩

/-- what stands in the block behind k rounds of marking -/
def mark2 (q0 : Int) (k : Nat) (f : Nat → Value) : Nat → Value := fun c => if c < k * 2 then .int .i64 (q0 + (c : Int)) else f c

theorem mark2_step (q0 : Int) (k : Nat) (f : Nat → Value) (c : Nat) :
    (if c = k * 2 + 1 then Value.int .i64 (q0 + 2 * (k : Int) + 1) else if c = k * 2 then Value.int .i64 (q0 + 2 * (k : Int)) else mark2 q0 k f c) = mark2 q0 (k + 1) f c := by
  unfold mark2
  split
  · rename_i h; subst h; rw [if_pos (by omega)]; congr 1; omega
  · split
    · rename_i h; subst h; rw [if_pos (by omega)]; congr 1; omega
    · by_cases h : c < k * 2
      · rw [if_pos h, if_pos (by omega)]
      · rw [if_neg h, if_neg (by omega)]

def mkG (q0 : Int) (i j : Nat) : Int := q0 + ((i * 2 + j : Nat) : Int)

/-- the cells of a list of gaps -/
def gpC (l : List (Int × Int)) : List Value := l.flatMap fun p => [.int .i64 p.1, .int .i64 p.2]
theorem gpC_len (l : List (Int × Int)) : (gpC l).length = l.length * 2 := by
  induction l with
  | nil => rfl
  | cons a l ih => simp only [gpC, List.flatMap_cons, List.length_append, List.length_cons, List.length_nil] at ih ⊢; omega
theorem gpC_snoc (l : List (Int × Int)) (p : Int × Int) : gpC (l ++ [p]) = gpC l ++ [.int .i64 p.1, .int .i64 p.2] := by simp [gpC]
def gpP (l : List (Int × Int)) (i j : Nat) : Int := if j = 0 then (l.getD i (0, 0)).1 else (l.getD i (0, 0)).2
theorem gpC_get (l : List (Int × Int)) (i j : Nat) (hi : i < l.length) (hj : j < 2) : (gpC l)[i * 2 + j]? = some (evs (gpP l) i j) := by
  induction l generalizing i with
  | nil => simp at hi
  | cons a l ih =>
    simp only [gpC, List.flatMap_cons]
    cases i with
    | zero =>
      rw [List.getElem?_append_left (by simp; omega)]
      rcases (show j = 0 ∨ j = 1 by omega) with rfl | rfl <;> simp [evs, gpP]
    | succ i =>
      rw [List.getElem?_append_right (by simp; omega)]
      simp only [List.length_cons, List.length_nil]
      rw [show (i + 1) * 2 + j - (0 + 1 + 1) = i * 2 + j by omega]
      have := ih i (by simpa using hi)
      simp only [gpC] at this
      rw [this]
      simp [evs, gpP]

/-- whether a section is told free behind the k-th event though somebody is there -/
def gapB (S : Int) (n : Nat) (F T : Nat → Int) (P : Nat → Nat → Int) (k i : Nat) : Bool := decide ((runX S n F T P (k + 1) i).told = 0) && decide (¬ trZ S n F T P (k + 1) i = 0)
/-- the gaps of the k-th event up to a section; of the events up to one -/
def gpR (S : Int) (n : Nat) (F T : Nat → Int) (P : Nat → Nat → Int) (k : Nat) : Nat → List (Int × Int)
  | 0 => []
  | s + 1 => gpR S n F T P k s ++ (if gapB S n F T P k s then [((k : Int), (s : Int))] else [])
def gpA (S : Int) (n : Nat) (F T : Nat → Int) (P : Nat → Nat → Int) (ns : Nat) : Nat → List (Int × Int)
  | 0 => []
  | k + 1 => gpA S n F T P ns k ++ gpR S n F T P k ns
theorem gpR_len (S : Int) (n : Nat) (F T : Nat → Int) (P : Nat → Nat → Int) (k s : Nat) : (gpR S n F T P k s).length ≤ s := by
  induction s with
  | zero => simp [gpR]
  | succ s ih =>
    simp only [gpR, List.length_append]
    split <;> simp <;> omega
theorem gpA_len (S : Int) (n : Nat) (F T : Nat → Int) (P : Nat → Nat → Int) (ns k : Nat) (h : ns ≤ 60) : (gpA S n F T P ns k).length ≤ 60 * k := by
  induction k with
  | zero => simp [gpA]
  | succ k ih =>
    have := gpR_len S n F T P k ns
    simp only [gpA, List.length_append]
    omega

theorem Tryd.infoGp : (Tryd.prog.info? 72).map (fun i => (i.zero, i.size, i.bytes)) = some (some (.agg #[.int .i64 0, .int .i64 0]), 2, 16) := by kernel_rfl

theorem new_cells2 (w : World) (a b : Value) (e : TypeId) : ∀ j u, [a, b][j]? = some u → (w.alloc (.cells #[a, b] e)).cell? ((⟨w.heap.size, 0, none⟩ : Addr).add j) = some u := by
  intro j u hu
  have hj : j < 2 := (List.getElem?_eq_some_iff.1 hu).1
  have ea : (⟨w.heap.size, 0, none⟩ : Addr).add j = ⟨w.heap.size, j, none⟩ := by simp [Addr.add]; exact fun h => h.symm
  rw [ea]
  match j, hj with
  | 0, _ => simpa using hu
  | 1, _ => simpa using hu

end Go.Proofs.YtlpopfhaephfaaaDoor

namespace Go.Proofs.YtlpopfhaephfaaaDoor
open Go.RowKit Go.Shelf
attribute [local go_sem] Oper.semAt_some

/-- what lies below B, but for one block, is as it was -/
def KB (w3 : World) (gb : Nat) (W : World) : Prop := w3.heap.size ≤ W.heap.size ∧ ∀ b, b < w3.heap.size → b ≠ gb → W.heap[b]? = w3.heap[b]?

theorem KB.grown {w3 A B : World} {gb : Nat} {row : Option Nat} (h : KB w3 gb A) (hg : A.grownBy B row) (hr : ∀ r, row = some r → w3.heap.size ≤ r ∨ r = gb) : KB w3 gb B :=
  ⟨Nat.le_trans h.1 hg.size, fun b hb hne => (hg.block b (Nat.lt_of_lt_of_le hb h.1) (fun e => by have := hr b e.symm; omega)).trans (h.2 b hb hne)⟩

theorem KB.turned {w3 A B : World} {gb lo hi : Nat} {E : Nat → Prop} (h : KB w3 gb A) (ht : Turned A B E lo hi) (hr : w3.heap.size ≤ lo ∨ (lo = gb ∧ hi = gb + 1)) : KB w3 gb B :=
  ⟨Nat.le_trans h.1 ht.size, fun b hb hne => by
    rcases ht.block b (Nat.lt_of_lt_of_le hb h.1) with h' | ⟨a1, a2, _⟩
    · exact h'.trans (h.2 b hb hne)
    · omega⟩

theorem KB.blk {w3 W : World} {gb b e e' m m' : Nat} {f f' : Nat → Value} (h : KB w3 gb W) (hG : Blk w3 gb e' m' f') (hb : Blk w3 b e m f) (he : e ≠ e') : W.heap[b]? = w3.heap[b]? :=
  h.2 b hb.lt (fun e1 => by subst e1; exact he (hb.type_eq hG))

/-- behind a gap that was found -/
theorem gap_fin {w w3 W wq w6 : World} {gb rb ns k s : Nat} {v v' : Value} {l : List (Int × Int)} {Z : Nat → Int} (hgb : w.heap.size ≤ gb) (hw3 : w.heap.size ≤ w3.heap.size) (hb : Blk wq gb 30 1 (fun _ => v)) (hO : wq.ownsRow w3.heap.size 72 2 v l.length (gpC l)) (hi : IntB wq rb ns Z) (hK : KB w3 gb wq) (hB : Below w.heap.size w wq) (k1 : KeepsOthers W wq) (k2 : KpT W wq)
    (r1 : w6.ownsRow w3.heap.size 72 2 v' (l.length + 1) (gpC l ++ [.int .i64 (k : Int), .int .i64 (s : Int)])) (r2 : (wq.alloc (.cells #[.int .i64 (k : Int), .int .i64 (s : Int)] 72)).grownBy w6 v.ownBlock) :
    Blk w6 gb 30 1 (fun _ => v) ∧ Blk (w6.setCell ⟨gb, 0, none⟩ v') gb 30 1 (fun _ => v') ∧ (w6.setCell ⟨gb, 0, none⟩ v').ownsRow w3.heap.size 72 2 v' (l ++ [((k : Int), (s : Int))]).length (gpC (l ++ [((k : Int), (s : Int))])) ∧ v'.ownBlock ≠ some rb ∧ IntB (w6.setCell ⟨gb, 0, none⟩ v') rb ns Z ∧ KB w3 gb (w6.setCell ⟨gb, 0, none⟩ v') ∧ Below w.heap.size w (w6.setCell ⟨gb, 0, none⟩ v') ∧ KeepsOthers W (w6.setCell ⟨gb, 0, none⟩ v') ∧ KpT W (w6.setCell ⟨gb, 0, none⟩ v') := by
  have hU : Below wq.heap.size wq (wq.alloc (.cells #[.int .i64 (k : Int), .int .i64 (s : Int)] 72)) := below_alloc (Below.refl _ _) _
  have ownU := own_on hO hU
  have tg := own_grown ownU r2
  have tW : Turned wq w6 (· = 72) w3.heap.size (wq.alloc (.cells #[.int .i64 (k : Int), .int .i64 (s : Int)] 72)).heap.size := (Turned.of_below hU).trans tg
  have b6 := hb.turned tW (.inl (by decide))
  have i6 : IntB w6 rb ns Z := Blk.turned hi tW (.inl (by decide))
  have tS : Turned w6 (w6.setCell ⟨gb, 0, none⟩ v') (· = 30) gb (gb + 1) := Turned.of_grown (grown_set (World.grownBy.refl _ _) _) (Nat.le_refl _) (by omega) rfl b6
  have z6 : wq.heap.size ≤ w6.heap.size := tW.size
  have hs := hB.size
  refine ⟨b6, blk_one b6 v', by rw [gpC_snoc, List.length_append]; exact own_turned r1 tS (by decide), fun e => ?_, Blk.turned i6 tS (.inl (by decide)), (hK.turned tW (.inl (Nat.le_refl _))).turned tS (.inr ⟨rfl, rfl⟩), (hB.trans (tW.below hw3 hs)).trans (tS.below hgb (by omega)), k1.trans ((keeps_turned tW).trans (keeps_turned tS)), k2.trans ((KpT.of_turned tW (by decide) (by decide) (by decide) (by decide)).trans (KpT.of_turned tS (by decide) (by decide) (by decide) (by decide)))⟩
  obtain ⟨_, mm, f, h9⟩ := own_blk r1 e
  exact absurd (h9.type_eq i6) (by decide)

theorem implGaps_bad (S : Int) (g n m ce : Nat) (ae : Option Addr) (F T : Nat → Int) (w : World) (hm : m ≤ 1048576) (hrow : CRow w g n F T) (hb : ¬ (lokZ S n F T = 0 ∧ m ≤ 2000)) :
    Calls Tryd.prog 8 #[.agg #[.int .i64 S, .slice (gA g) n (gC g)], .slice ae m ce] w fun e w' => e = .returned (.slice none 0 0) ∧ Below w.heap.size w w' := by
  have kc := fun o => runOk_any S g n m ce ae F T _ hm (hrow.alloc o)
  have e0 : (lokZ S n F T == 0 && decide (m ≤ 2000)) = false := by
    cases h1 : (lokZ S n F T == 0)
    · rfl
    · simp only [beq_iff_eq] at h1
      simp only [Bool.true_and, decide_eq_false_iff_not]
      exact fun h => hb ⟨h1, h⟩
  rw [e0] at kc
  go_enter Tryd.func8, Tryd.ntmps8
  go_wp2_with fail
  refine (kc _).mono ?_
  rintro e w1 ⟨rfl, hb1⟩
  have B1 := below_on (show Below w.heap.size w _ from (by repeat (first | exact Below.refl _ _ | assumption | refine below_alloc ?_ _ | refine Below.setCell ?_ (by first | omega | (simp; done) | (simp; omega)) _ | refine Below.alloc ?_ (by first | omega | (simp; done) | (simp; omega)) _ | refine Below.drew ?_))) hb1
  go_wp2
  go_ret
  exact ⟨rfl, B1⟩

set_option maxRecDepth 100000 in
set_option maxHeartbeats 4000000 in
theorem implGaps_ok (g n le he m ns : Nat) (F T : Nat → Int) (P : Nat → Nat → Int) (ve : Value) (w : World) (hrow : CRow w g n F T) (hev : SlF w 56 3 le he ve m (evs P)) (hl : lokZ (ns : Int) n F T = 0) (hm : m ≤ 2000) :
    Calls Tryd.prog 8 #[.agg #[.int .i64 (ns : Int), .slice (gA g) n (gC g)], ve] w fun e w' => ∃ u, e = .returned u ∧ SlF w' 72 2 w.heap.size w'.heap.size u (gpA (ns : Int) n F T P ns m).length (evs (gpP (gpA (ns : Int) n F T P ns m))) ∧ Below w.heap.size w w' := by
  obtain ⟨r1, r2, r3⟩ := lok_range hl
  have hp : 0 < ns := by omega
  have hm' : m ≤ 1048576 := by omega
  obtain ⟨ae, ce, rfl, he0⟩ := id hev
  obtain ⟨i0, hi, hz0, hz1, hz2⟩ := info_parts Tryd.infoGp
  have kc := fun o => runOk_any (ns : Int) g n m ce ae F T _ hm' (hrow.alloc o)
  have kr := fun W hr hv => implRun_ok (ns : Int) g n le he m ns F T P (.slice ae m ce) W hr hv hl rfl hm
  have e0 : (lokZ (ns : Int) n F T == 0 && decide (m ≤ 2000)) = true := by simp [hl, hm]
  rw [e0] at kc
  clear e0 he0
  obtain ⟨V, eV⟩ : ∃ V, w.alloc (.cells #[.int .i64 (ns : Int), .slice (gA g) n (gC g)] 25) = V := ⟨_, rfl⟩
  have sV : V.heap.size = w.heap.size + 1 := by rw [← eV]; simp
  have bV : Below w.heap.size w V := by rw [← eV]; exact (by repeat (first | exact Below.refl _ _ | assumption | refine below_alloc ?_ _ | refine Below.setCell ?_ (by first | omega | (simp; done) | (simp; omega)) _ | refine Below.alloc ?_ (by first | omega | (simp; done) | (simp; omega)) _ | refine Below.drew ?_))
  have bL : Blk V w.heap.size 25 2 (fun i => if i = 0 then .int .i64 (ns : Int) else .slice (gA g) n (gC g)) := by
    rw [← eV]
    exact Blk.new w #[.int .i64 (ns : Int), .slice (gA g) n (gC g)] 25 _ (fun i hi => by simp at hi; match i, hi with | 0, _ => rfl | 1, _ => rfl)
  have P0 : ∀ W, Below V.heap.size V W → W.cell? ⟨w.heap.size, 0, none⟩ = some (.int .i64 (ns : Int)) ∧ W.cell? ⟨w.heap.size, 1, none⟩ = some (.slice (gA g) n (gC g)) := fun W hb => ⟨(bL.on hb).cell (i := 0) (by omega), (bL.on hb).cell (i := 1) (by omega)⟩
  have kc' := kc (.cells #[.int .i64 (ns : Int), .slice (gA g) n (gC g)] 25)
  rw [eV] at kc'
  have EV : Hid _ := eV
  clear eV bL kc
  refine (callsIn_wide (n := 3)).1 ?_
  refine callsIn_of_wp_marks Tryd.func8 rfl trivial ?_ rfl
  simp only [Tryd.ntmps8, List.size_toArray, List.length_cons, List.length_nil, Nat.reduceAdd, Nat.reduceSub, Array.replicate_succ, Array.replicate_zero, List.push_toArray, List.append_toArray, List.nil_append, List.cons_append]
  gi_wp2_with fail
  rw [EV.out]
  refine ⟨trivial, (callsIn_wide.2 kc').mono ?_⟩
  clear kc'
  rintro e w1 ⟨rfl, B1⟩
  obtain ⟨y0, y1⟩ := P0 w1 B1
  gi_wp2_with fail
  refine ⟨trivial, (callsIn_wide.2 (kr _ (hrow.on (below_on bV B1)) (hev.on (below_on bV B1)))).mono ?_⟩
  clear kr y0 y1
  rintro e w2 ⟨dv, rfl, D2, hb2⟩
  have B2 := below_on B1 hb2
  obtain ⟨A1, A2, L, hsl, hL0, hLm, hdn⟩ := D2
  obtain ⟨ad, cd, rfl, _⟩ := id hsl
  obtain ⟨y0, y1⟩ := P0 w2 B2
  have zl : w.heap.size < w2.heap.size := by have := B2.size; omega
  have zl1 : w.heap.size < w2.heap.size + 1 := by omega
  gi_wp2_with fail
  have bD : Blk ((w2.alloc (.cells #[.slice ad m cd] 34)).alloc (.cells #[.slice none 0 0] 30)) w2.heap.size 34 1 (fun _ => .slice ad m cd) :=
    (Blk.new w2 #[.slice ad m cd] 34 (fun _ => .slice ad m cd) (fun i hi => by simp at hi; match i, hi with | 0, _ => rfl)).alloc _
  have bG : Blk ((w2.alloc (.cells #[.slice ad m cd] 34)).alloc (.cells #[.slice none 0 0] 30)) (w2.heap.size + 1) 30 1 (fun _ => .slice none 0 0) := by
    have := Blk.new (w2.alloc (.cells #[.slice ad m cd] 34)) #[.slice none 0 0] 30 (fun _ => .slice none 0 0) (fun i hi => by simp at hi; match i, hi with | 0, _ => rfl)
    rw [World.size_alloc] at this
    exact this
  have B3' : Below w2.heap.size w2 ((w2.alloc (.cells #[.slice ad m cd] 34)).alloc (.cells #[.slice none 0 0] 30)) := below_alloc (below_alloc (Below.refl _ _) _) _
  obtain ⟨W2, e2⟩ : ∃ W2, (w2.alloc (.cells #[.slice ad m cd] 34)).alloc (.cells #[.slice none 0 0] 30) = W2 := ⟨_, rfl⟩
  have z2 : w2.heap.size + 1 < W2.heap.size := by rw [← e2]; simp
  rw [e2] at bD bG B3' ⊢
  clear e2 y0 y1
  refine ⟨trivial, (callsIn_wide.2 (rows_any (ns : Int) g n m ce ae W2)).mono ?_⟩
  rintro e w3 ⟨rfl, hw3⟩
  have h23 : Below W2.heap.size W2 w3 := by rw [hw3]; exact (by repeat (first | exact Below.refl _ _ | assumption | refine below_alloc ?_ _ | refine Below.setCell ?_ (by first | omega | (simp; done) | (simp; omega)) _ | refine Below.alloc ?_ (by first | omega | (simp; done) | (simp; omega)) _ | refine Below.drew ?_))
  have z3 : w3.heap.size = W2.heap.size + 1 + 1 := by rw [hw3]; simp
  have h2w3 := below_on B3' h23
  have B3 := below_on bV (below_on B2 h2w3)
  have eL : Blk w3 W2.heap.size 25 2 (fun i => if i = 0 then .int .i64 (ns : Int) else .slice (gA g) n (gC g)) := by
    rw [hw3]
    exact (Blk.new W2 #[.int .i64 (ns : Int), .slice (gA g) n (gC g)] 25 _ (fun i hi => by simp at hi; match i, hi with | 0, _ => rfl | 1, _ => rfl)).alloc _
  have eE : Blk w3 (W2.heap.size + 1) 26 1 (fun _ => .slice ae m ce) := by
    rw [hw3]
    have := Blk.new (W2.alloc (.cells #[.int .i64 (ns : Int), .slice (gA g) n (gC g)] 25)) #[.slice ae m ce] 26 (fun _ => .slice ae m ce) (fun i hi => by simp at hi; match i, hi with | 0, _ => rfl)
    rw [World.size_alloc] at this
    exact this
  have EN : EnvT w3 W2.heap.size (W2.heap.size + 1) (ns : Int) g n le he m ae ce F T P := ⟨eL, eE, hrow.on B3, hev.on B3⟩
  have bD3 := bD.on h23
  have bG3 := bG.on h23
  have hsl3 := hsl.on h2w3
  have hdn3 : ∀ i, i < m → SlF w3 43 5 (L i) (L (i + 1)) (A1 i) ns (secs (runX (ns : Int) n F T P (i + 1))) ∧ ∃ x2 y2, A2 i = .slice x2 n y2 := fun i hi => ⟨(hdn i hi).2.1.on h2w3, by obtain ⟨x2, y2, e2, _⟩ := (hdn i hi).2.2; exact ⟨x2, y2, e2⟩⟩
  have zT : w2.heap.size + 1 < w3.heap.size := by omega
  have zw : w.heap.size ≤ w3.heap.size := B3.size
  have zw2 : w.heap.size ≤ w2.heap.size := by omega
  clear hw3 eL eE h23 bD bG B3' h2w3 B2 B1 EV P0 z3 sV bV hb2 hsl hdn hL0 hLm
  gi_wp2_with fail
  refine range_rows (gf := 47) (lb := #[.pointer (some ⟨W2.heap.size, 0, none⟩), .pointer (some ⟨W2.heap.size + 1, 0, none⟩)]) rfl (enters_of Tryd.func47 (by kernel_rfl) rfl) (rows1_in _ W2.heap.size (W2.heap.size + 1) g n le he m ce ns ae F T P w3 hl hm EN) (fun _ _ => rfl)
    (fun rb k W l o o' h h1 h2 => Blk.of_block h (World.putObj_heap_other (fun e1 => by subst e1; obtain ⟨o2, h3, h4⟩ := blk_cells h; rw [h1] at h3; cases h3; rw [h2] at h4; cases h4)))
    KpT.trans KpT.putObj
    (fun k W => ∃ v, Blk W (w2.heap.size + 1) 30 1 (fun _ => v) ∧ W.ownsRow w3.heap.size 72 2 v (gpA (ns : Int) n F T P ns k).length (gpC (gpA (ns : Int) n F T P ns k)) ∧ v.ownBlock ≠ some (w3.heap.size + 1 + 1) ∧ KB w3 (w2.heap.size + 1) W ∧ Below w.heap.size w W)
    ?own ⟨_, bG3, World.ownsRow_nil _ _ _ _, by simp [Value.ownBlock], ⟨Nat.le_refl _, fun _ _ _ => rfl⟩, B3⟩
    (fun k => { tmps := #[.agg #[.int .i64 (ns : Int), .slice (gA g) n (gC g)], .slice ae m ce, .pointer (some ⟨w.heap.size, 0, none⟩), undef, .slice none 0 0, .pointer (some ⟨w2.heap.size, 0, none⟩), .pointer (some ⟨w2.heap.size + 1, 0, none⟩), .int .i64 (k : Int), .slice (some ⟨w3.heap.size + 1 + 1, 0, none⟩) ns ns, undef, undef, .agg #[.int .i64 (ns : Int), .slice (gA g) n (gC g)], .slice ae m ce, .bool true, .bool false, .agg #[.int .i64 (ns : Int), .slice (gA g) n (gC g)], .slice ae m ce, .slice ad m cd, .agg #[.int .i64 (ns : Int), .slice (gA g) n (gC g)], .slice ae m ce, .func (.func 47) #[] #[.pointer (some ⟨W2.heap.size, 0, none⟩), .pointer (some ⟨W2.heap.size + 1, 0, none⟩)], .int .i64 (k : Int), .slice (some ⟨w3.heap.size + 1 + 1, 0, none⟩) ns ns, undef, undef, undef, undef, undef, undef, undef, undef, undef, undef, undef, undef, undef, undef, undef, undef, undef, undef, undef, undef, undef, undef, undef, undef, undef, undef, undef, undef, undef, undef], defers := [] }) ?assign ?body ?done
  case own =>
    rintro k A B row ⟨v, hb, hO, hne, hK, hB⟩ hg hr
    have key : ∀ b e mm f, Blk A b e mm f → b ≠ w3.heap.size + 1 + 1 → B.heap[b]? = A.heap[b]? := fun b e mm f h1 h2 => hg.block b h1.lt (fun e1 => by
      rcases hr b e1.symm with h | ⟨_, o, ho, hc⟩
      · exact h2 h
      · obtain ⟨o2, h3, h4⟩ := blk_cells h1
        rw [ho] at h3; cases h3; rw [hc] at h4; cases h4)
    refine ⟨v, hb.of_block (key _ _ _ _ hb (by omega)), own_of_block hO (fun b h1 => ?_), hne, hK.grown hg (fun r e => ?_), hB.grown hg hB.size (fun r e => ?_)⟩
    · obtain ⟨_, mm, f, h2⟩ := own_blk hO h1
      exact key _ _ _ _ h2 (fun e => hne (by rw [h1, e]))
    · rcases hr r e with h | ⟨h, _⟩ <;> omega
    · rcases hr r e with h | ⟨h, _⟩ <;> omega
  case assign =>
    intro l k W K hK
    gi_wp2
    exact hK
  case body =>
    rintro l k W hk ⟨v, hb, hO, hne, hKB, hB⟩ hrw
    have hi1 : (k : Int) < (m : Int) := by omega
    obtain ⟨s1, x2, y2, e2⟩ := hdn3 k hk
    obtain ⟨x1, y1, e1, _⟩ := id s1
    obtain ⟨ad', cd', ee, hd0⟩ := id hsl3
    simp only [Value.slice.injEq] at ee
    obtain ⟨rfl, _, rfl⟩ := ee
    rcases hd0 with hd0 | ⟨gd, md, fd, rfl, _, _, d2, d3, d4⟩
    · omega
    rw [e1] at s1
    obtain ⟨gs, rfl⟩ := s1.addr hp
    obtain ⟨_, _, m5, f5, b1, b2, b3⟩ := s1.blk hp
    have lg := gpA_len (ns : Int) n F T P ns k (by omega)
    have lg1 : (gpA (ns : Int) n F T P ns k).length ≤ 120000 := by omega
    gi_wp2
    gi_loopw [25] (fun i wq => ∃ (s : Nat) (v : Value), s ≤ ns ∧ i = .int .i64 s ∧ Blk wq (w2.heap.size + 1) 30 1 (fun _ => v) ∧ wq.ownsRow w3.heap.size 72 2 v (gpA (ns : Int) n F T P ns k ++ gpR (ns : Int) n F T P k s).length (gpC (gpA (ns : Int) n F T P ns k ++ gpR (ns : Int) n F T P k s)) ∧ v.ownBlock ≠ some (w3.heap.size + 1 + 1) ∧ IntB wq (w3.heap.size + 1 + 1) ns (trZ (ns : Int) n F T P (k + 1)) ∧ KB w3 (w2.heap.size + 1) wq ∧ Below w.heap.size w wq ∧ KeepsOthers W wq ∧ KpT W wq) (fun i _ => ns - (intOf i).toNat)
    case atStart => exact ⟨0, v, Nat.zero_le _, rfl, hb, by simpa [gpR] using hO, hne, hrw, hKB, hB, KeepsOthers.refl _, ⟨Nat.le_refl _, fun _ _ _ _ _ _ => rfl⟩⟩
    case round =>
      clear hb hO hne hKB hB hrw
      obtain ⟨s, v, hs, rfl, hb, hO, hne, hrw, hKB, hB, k1, k2⟩ := hrel
      by_cases hsl : s < ns
      · have hs1 : (s : Int) < (ns : Int) := by omega
        rename World => wq
        have q0 := Blk.cell hrw hsl
        have bD' := bD3.of_block (hKB.blk bG3 bD3 (by decide))
        have dc := bD'.cell (i := 0) (by omega)
        have d3' := d3.of_block (hKB.blk bG3 d3 (by decide))
        obtain ⟨c0, c1, c2, c3⟩ := four d3' d2 hk d4
        rw [e1] at c2
        rw [e2] at c3
        have b2' := b2.of_block (hKB.blk bG3 b2 (by decide))
        obtain ⟨f0, f1, f2, f3, f4⟩ := five b2' b1 hsl b3
        have gc := hb.cell (i := 0) (by omega)
        have lr := gpR_len (ns : Int) n F T P k s
        have eG : gpR (ns : Int) n F T P k (s + 1) = gpR (ns : Int) n F T P k s ++ (if gapB (ns : Int) n F T P k s then [((k : Int), (s : Int))] else []) := rfl
        have eB : gapB (ns : Int) n F T P k s = (decide ((runX (ns : Int) n F T P (k + 1) s).told = 0) && decide (¬ trZ (ns : Int) n F T P (k + 1) s = 0)) := rfl
        obtain ⟨l', el⟩ : ∃ l', gpA (ns : Int) n F T P ns k ++ gpR (ns : Int) n F T P k s = l' := ⟨_, rfl⟩
        have ll : l'.length ≤ 130000 := by rw [← el, List.length_append]; omega
        rw [el] at hO
        obtain ⟨x, ex⟩ : ∃ x, runX (ns : Int) n F T P (k + 1) s = x := ⟨_, rfl⟩
        obtain ⟨z, ez⟩ : ∃ z, trZ (ns : Int) n F T P (k + 1) s = z := ⟨_, rfl⟩
        rw [ex] at f0 f1 f2 f3 f4 eB
        simp only [ez] at q0
        rw [ez] at eB
        have EL : Hid _ := el
        have EG : Hid _ := eG
        have zt := hb.lt
        have zdb := bD'.lt
        have zgd := d3'.lt
        have zgs := b2'.lt
        have zrb : w3.heap.size + 1 + 1 < wq.heap.size := Blk.lt hrw
        clear ex ez el eG d3' b2' bD'
        obtain ⟨told, count, lost, sweep, last⟩ := x
        simp only at f0 f1 f2 f3 f4 eB
        by_cases hzz : z = 0
        · subst hzz
          have eB' : gapB (ns : Int) n F T P k s = false := by rw [eB]; simp
          have EB : Hid _ := eB'
          clear eB eB'
          gi_wp2
          go_roundw
          case rel => exact ⟨s + 1, v, by omega, by go_num, hb, by rw [EG.out, EB.out]; simp only [Bool.false_eq_true, if_false, List.append_nil]; rw [EL.out]; exact hO, hne, hrw, hKB, hB, k1, k2⟩
          case measure => simp [intOf]; omega
        · have hzz' : (z == 0) = false := by simp [hzz]
          by_cases ht : told = 0
          · subst ht
            have eB' : gapB (ns : Int) n F T P k s = true := by rw [eB]; simp [hzz]
            have EB : Hid _ := eB'
            have hnw := new_cells2 wq (.int .i64 (k : Int)) (.int .i64 (s : Int)) 72
            have h1c : ∀ u ∈ [Value.int .i64 (k : Int), .int .i64 (s : Int)], u.oneCell' = true := fun u hu => by
              simp only [List.mem_cons, List.not_mem_nil, or_false] at hu
              rcases hu with rfl | rfl <;> rfl
            have ownU := own_on hO (below_alloc (Below.refl wq.heap.size wq) (.cells #[.int .i64 (k : Int), .int .i64 (s : Int)] 72))
            have zbase : w3.heap.size ≤ (wq.alloc (.cells #[.int .i64 (k : Int), .int .i64 (s : Int)] 72)).heap.size := by simp; omega
            have fin := fun w6 v' r1 r2 => gap_fin (w := w) (w6 := w6) (v' := v') (k := k) (s := s) (show w.heap.size ≤ w2.heap.size + 1 by omega) zw hb hO hrw hKB hB k1 k2 r1 r2
            have FI : Hid _ := fin
            clear eB eB' fin
            gi_wp2_with (first
              | (gi_at_builtin; refine wpListIn_append_own _ rfl _ _ 30 rfl w3.heap.size 72 i0 _ 2 16 Tryd.underlying30 hi hz0 hz1 hz2 rfl (by decide) _ _ _ rfl ownU ⟨wq.heap.size, 0, none⟩ 1 1 [.int .i64 (k : Int), .int .i64 (s : Int)] rfl rfl hnw h1c (by unfold maxLen; omega) (by omega) zbase ?_; intro v' w6 hown' hgrow hnil; obtain ⟨g6, cap6, rfl⟩ := own_some hown' (by omega); obtain ⟨b6, fin⟩ := FI.out w6 _ hown' hgrow; have x6 := b6.cell (i := 0) (by omega); have u6 := b6.frozen 0; have FJ : Hid _ := fin; clear fin))
            obtain ⟨n1, n2, n3, n4, n5, n6, n7, n8⟩ := FJ.out
            go_roundw
            case rel =>
              refine ⟨s + 1, _, by omega, by go_num, n1, ?_, n3, n4, n5, n6, n7, n8⟩
              rw [EG.out, EB.out]
              simp only [if_true]
              rw [← List.append_assoc, EL.out]
              exact n2
            case measure => simp [intOf]; omega
          · have eB' : gapB (ns : Int) n F T P k s = false := by rw [eB]; simp [ht]
            have EB : Hid _ := eB'
            have ht' : (told == 0) = false := by simp [ht]
            clear eB eB'
            gi_wp2
            go_roundw
            case rel => exact ⟨s + 1, v, by omega, by go_num, hb, by rw [EG.out, EB.out]; simp only [Bool.false_eq_true, if_false, List.append_nil]; rw [EL.out]; exact hO, hne, hrw, hKB, hB, k1, k2⟩
            case measure => simp [intOf]; omega
      · have hsn : s = ns := by omega
        subst hsn
        gi_wp2
        exact ⟨k1, k2, hrw, v, hb, hO, hne, hKB, hB⟩
  case done =>
    rintro W ⟨v, hb, hO, hne, hKB, hB⟩ hD
    have c0 := hb.cell (i := 0) (by omega)
    have SW := SlF.of_ownsRow hO (fun i hi j hj => gpC_get _ i j hi hj)
    have BB : Below w.heap.size w (W.putObj w3.heap.size (.deferred none)) := hB.grown (grownBy_putObj' W w3.heap.size (.deferred none)) hB.size (fun r e => by cases e; exact zw)
    have SB : SlF (W.putObj w3.heap.size (.deferred none)) 72 2 w3.heap.size W.heap.size v _ (evs (gpP (gpA (ns : Int) n F T P ns m))) := SW.of_block (fun b _ _ h1 _ _ => World.putObj_heap_other (fun e1 => by
      subst e1
      obtain ⟨o2, h3, h4⟩ := blk_cells h1
      rw [hD] at h3; cases h3; cases h4))
    have HS : Hid _ := SB.wide (lo' := w.heap.size) zw (Nat.le_refl _)
    clear SW SB hO hb hne hKB
    gi_wp2
    refine ⟨by simp, .inl ⟨_, _, rfl, run_takeDeferred hD, ?_⟩⟩
    refine ⟨_, results_tmp rfl _ _ _, _, rfl, ?_, BB⟩
    rw [World.putObj_size]
    exact HS.out

end Go.Proofs.YtlpopfhaephfaaaDoor

namespace Go.Proofs.YtlpopfhaephfaaaDoor
open Go.RowKit

theorem dnAt {w : World} {lo hi : Nat} {v : Value} {m ns nd k : Nat} {C : Nat → Int} {B : Nat → Bool} {X : Nat → Nat → Sec} {D : Nat → Nat → Bool} (h : DnF w lo hi v m ns nd C B X D) (hk : k < m) : ∃ g c u1 u2 lo' hi', v = .slice (some ⟨g, 0, none⟩) m c ∧ w.cell? ⟨g, k * 4, none⟩ = some (.int .i64 (C k)) ∧ w.cell? ⟨g, k * 4 + 1, none⟩ = some (.bool (B k)) ∧ w.cell? ⟨g, k * 4 + 2, none⟩ = some u1 ∧ w.cell? ⟨g, k * 4 + 3, none⟩ = some u2 ∧ SlF w 43 5 lo' hi' u1 ns (secs (X k)) ∧ SlF w 4 1 lo' hi' u2 nd (bools (D k)) := by
  obtain ⟨A1, A2, L, ⟨ao, c, rfl, h0 | ⟨g, m', f, rfl, _, _, h2, h3, h4⟩⟩, _, _, hh⟩ := h
  · omega
  · obtain ⟨c0, c1, c2, c3⟩ := four h3 h2 hk h4
    exact ⟨g, c, _, _, _, _, rfl, c0, c1, c2, c3, (hh k hk).2.1, (hh k hk).2.2⟩

theorem seAt {w : World} {lo hi : Nat} {u : Value} {n k : Nat} {X : Nat → Sec} (h : SlF w 43 5 lo hi u n (secs X)) (hk : k < n) : ∃ g c, u = .slice (some ⟨g, 0, none⟩) n c ∧ w.cell? ⟨g, k * 5, none⟩ = some (.int .i64 (X k).told) ∧ w.cell? ⟨g, k * 5 + 1, none⟩ = some (.int .i64 (X k).count) ∧ w.cell? ⟨g, k * 5 + 2, none⟩ = some (.bool (X k).lost) ∧ w.cell? ⟨g, k * 5 + 3, none⟩ = some (.bool (X k).sweep) ∧ w.cell? ⟨g, k * 5 + 4, none⟩ = some (.int .i64 (X k).last) := by
  obtain ⟨ao, c, rfl, h0 | ⟨g, m, f, rfl, _, _, h2, h3, h4⟩⟩ := h
  · omega
  · exact ⟨g, c, rfl, five h3 h2 hk h4⟩

end Go.Proofs.YtlpopfhaephfaaaDoor

namespace Go.Proofs.YtlpopfhaephfaaaDoor
open Go.RowKit

theorem gpR_nil (S : Int) (n : Nat) (F T : Nat → Int) (P : Nat → Nat → Int) (k s : Nat) (h : ∀ i, i < s → gapB S n F T P k i = false) : gpR S n F T P k s = [] := by
  induction s with
  | zero => rfl
  | succ s ih =>
    simp only [gpR]
    rw [ih (fun i hi => h i (by omega)), h s (by omega)]
    rfl
theorem gpA_nil (S : Int) (n : Nat) (F T : Nat → Int) (P : Nat → Nat → Int) (ns k : Nat) (h : ∀ j, j < k → ∀ i, i < ns → gapB S n F T P j i = false) : gpA S n F T P ns k = [] := by
  induction k with
  | zero => rfl
  | succ k ih =>
    simp only [gpA]
    rw [ih (fun j hj => h j (by omega)), gpR_nil _ _ _ _ _ _ _ (h k (by omega))]
    rfl

/-- honest events: none lies -/
theorem hon_none {S : Int} {n ns m : Nat} {F T : Nat → Int} {P : Nat → Nat → Int} (hP : ∀ j, j < m → evB S n (P j 0) (P j 1) (P j 2) = true) (rs : ∀ j, j < m → P j 0 = 5 → trZ S n F T P j (P j 1).toNat = 0) (nn : ∀ k, k ≤ m → ∀ s : Nat, 0 ≤ trZ S n F T P k s) : honP S n ns F T P m := by
  intro k hk
  unfold lieE
  rw [if_neg (by rw [hP k hk]; decide)]
  have h5 : ¬ (P k 0 = 5 ∧ ¬ trZ S n F T P (k + 1) (P k 1).toNat = 0) := by
    rintro ⟨h5, h0⟩
    refine h0 ?_
    simp only [trZ]
    rw [stepZ_other _ _ _ _ _ _ _ _ (by rw [h5]; decide)]
    exact rs k hk h5
  rw [if_neg h5, if_neg]
  intro h
  obtain ⟨s, _, hs⟩ := List.any_eq_true.1 h
  have h1 := nn (k + 1) (by omega) s
  have h2 := of_decide_eq_true hs
  omega

theorem rowAt2 {w : World} {lo hi : Nat} {u : Value} {n k : Nat} {Z : Nat → Int} (h : SlF w 3 1 lo hi u n (rowV Z)) (hk : k < n) : ∃ g c, u = .slice (some ⟨g, 0, none⟩) n c ∧ w.cell? ⟨g, k, none⟩ = some (.int .i64 (Z k)) := by
  obtain ⟨ao, c, rfl, h0 | ⟨g, m, f, rfl, _, _, h2, h3, h4⟩⟩ := h
  · omega
  · exact ⟨g, c, rfl, oneA (A := fun i => .int .i64 (Z i)) h3 h2 hk (fun i hi j hj => by rw [h4 i hi j hj]; rfl)⟩

theorem rwAt2 {w : World} {lo hi : Nat} {v : Value} {m ns k : Nat} {Z : Nat → Nat → Int} (h : RwF w lo hi v m ns Z) (hk : k < m) : ∃ g c u lo' hi', v = .slice (some ⟨g, 0, none⟩) m c ∧ w.cell? ⟨g, k, none⟩ = some u ∧ SlF w 3 1 lo' hi' u ns (rowV (Z k)) := by
  obtain ⟨A, L, ⟨ao, c, rfl, h0 | ⟨g, m', f, rfl, _, _, h2, h3, h4⟩⟩, _, _, hh⟩ := h
  · omega
  · exact ⟨g, c, _, _, _, rfl, oneA h3 h2 hk h4, (hh k hk).2⟩

set_option maxRecDepth 100000 in
set_option maxHeartbeats 8000000 in
theorem safe_small (hev : EvC true) (a : Nat → Addr) (m1 c1 : Nat) (a1 : Option Addr) (C1 : Nat → Int) (w : World) (ha : Snt w a) (h1 : Cod w w.heap.size a1 m1 C1) (hm1 : m1 ≤ 1048576) :
    Calls Tryd.prog 3 #[.slice a1 m1 c1] w fun e w' => e = .returned (.bool true) ∧ Below w.heap.size w w' := by
  have i1 : ¬ (1048576 : Int) < m1 := by omega
  have ok := dr_ok C1 m1
  obtain ⟨e1, e2⟩ := drE_facts C1 m1 true
  obtain ⟨s1, s2⟩ := drS_range C1 m1
  obtain ⟨th, hon⟩ := drE_hon C1 m1
  have kd := drawn_of hev m1 c1 a1 C1 w h1 (by unfold maxLen; omega)
  unfold DrP at kd
  obtain ⟨S, eS⟩ : ∃ S, drS C1 m1 = S := ⟨_, rfl⟩
  obtain ⟨n, en⟩ : ∃ n, (drL C1 m1).length = n := ⟨_, rfl⟩
  obtain ⟨F, eF⟩ : ∃ F, fstF (drL C1 m1) = F := ⟨_, rfl⟩
  obtain ⟨T, eT⟩ : ∃ T, sndF (drL C1 m1) = T := ⟨_, rfl⟩
  obtain ⟨E, eE⟩ : ∃ E, drE C1 m1 true = E := ⟨_, rfl⟩
  rw [eS, en, eF, eT] at ok
  rw [eS, en, eE] at e2
  rw [eE] at e1
  rw [eS] at s1 s2
  rw [eS, en, eF, eT, eE] at hon kd
  clear eS en eF eT eE
  have hP : ∀ j, j < E.length → evB (S : Int) n (trP E j 0) (trP E j 1) (trP E j 2) = true := fun j hj => by
    have e : E.getD j (0, 0, 0) = E[j] := by rw [List.getD_eq_getElem?_getD, List.getElem?_eq_getElem hj]; rfl
    unfold trP
    rw [e]
    exact e2 _ (List.getElem_mem hj)
  have rs := hon.rs
  have nn := hon.nn
  obtain ⟨m, em⟩ : ∃ m, E.length = m := ⟨_, rfl⟩
  obtain ⟨P, eP⟩ : ∃ P, trP E = P := ⟨_, rfl⟩
  rw [em, eP] at kd hP rs nn
  rw [em] at e1
  have hm : m ≤ 2000 := by omega
  have hho : honP (S : Int) n S F T P m := hon_none hP rs nn
  have fr : ∀ k, k < m → ∀ s, s < S → (runX (S : Int) n F T P (k + 1) s).told = 0 → trZ (S : Int) n F T P (k + 1) s = 0 := fun k hk s hs h0 => saf_free ok rfl hm hP rs nn (k + 1) (by omega) s hs h0
  have gn : gpA (S : Int) n F T P S m = [] := gpA_nil _ _ _ _ _ _ _ (fun j hj i hi => by
    unfold gapB
    by_cases h0 : (runX (S : Int) n F T P (j + 1) i).told = 0
    · rw [fr j hj i hi h0]; simp
    · simp [h0])
  have FR : Hid _ := fr
  have OK : Hid (lokZ (S : Int) n F T = 0) := ok
  clear hon e2 ok em eP hP rs nn fr
  go_enter Tryd.func3, Tryd.ntmps3
  go_wp2_with fail
  refine kd.mono ?_
  rintro e w1 ⟨g, u, rfl, R1, E1, B1, hcp⟩
  obtain ⟨au, cu, rfl, ev0⟩ := E1
  have E1 : SlF w1 56 3 w.heap.size w1.heap.size (.slice au m cu) m (evs P) := ⟨au, cu, rfl, ev0⟩
  have hcap : m ≤ cu := of_decide_eq_true hcp
  obtain ⟨V, eV⟩ : ∃ V, w1.alloc (.cells #[.int .i64 (S : Int), .slice (gA g) n (gC g)] 25) = V := ⟨_, rfl⟩
  have lay : Box2 V w1.heap.size 25 (.int .i64 (S : Int)) (.slice (gA g) n (gC g)) := by rw [← eV]; exact Box2.lay _ _ _ _
  have row : CRow V g n F T := by rw [← eV]; exact R1.alloc _
  have evt : SlF V 56 3 w.heap.size w1.heap.size (.slice au m cu) m (evs P) := by rw [← eV]; exact E1.alloc _
  have bel : Below w.heap.size w V := by rw [← eV]; exact below_alloc B1 _
  have snt : Snt V a := ha.on bel
  have bV : Below V.heap.size V (V.alloc (.cells #[.int .i64 (S : Int), .slice (gA g) n (gC g)] 25)) := below_alloc (Below.refl _ _) _
  have kh := honest_of (S : Int) g n _ a V _ _ snt rfl (lie_ok g n _ _ m S cu au F T P a _ (row.on bV) (evt.on bV) (snt.on bV) OK.out hm)
  obtain ⟨lb, elb⟩ : ∃ lb, w1.heap.size = lb := ⟨_, rfl⟩
  rw [elb] at lay evt
  have EV : Hid _ := eV
  have ELB : Hid _ := elb
  have kg := fun W hW => implGaps_ok g n _ _ m S F T P _ W (CRow.on row hW) (evt.on hW) OK.out hm
  rw [gn] at kg
  have kt := fun W hW => specTruth_ok g n _ _ m S cu au F T P W (CRow.on row hW) (evt.on hW) hcap OK.out hm
  have kr := fun W hW => implRun_ok (S : Int) g n _ _ m S F T P _ W (CRow.on row hW) (evt.on hW) OK.out rfl hm
  have KG : Hid _ := kg
  have KT : Hid _ := kt
  have KR : Hid _ := kr
  have LAY : Hid _ := lay
  have BEL : Hid _ := bel
  have HHO : Hid _ := hho
  clear kd kg kt kr R1 E1 B1 h1 elb eV ev0 row evt bel snt bV gn ha hho
  obtain ⟨y0, y1⟩ := (show Box2 V lb 25 (.int .i64 (S : Int)) (.slice (gA g) n (gC g)) from LAY.out).cells
  have ly := (show Box2 V lb 25 (.int .i64 (S : Int)) (.slice (gA g) n (gC g)) from LAY.out).lt
  go_upto_region 4 with fail
  rw [EV.out, ELB.out]
  go_wp2_with fail
  refine kh.mono ?_
  rintro _ w2 ⟨o, rfl, hq, hb2⟩
  obtain rfl : o = none := hq.2 HHO.out
  clear kh hq EV ELB y0 y1 ly
  obtain ⟨y0, y1⟩ := (Box2.on LAY.out hb2).cells
  have ly := (Box2.on LAY.out hb2).lt
  go_wp2_with fail
  refine (KG.out _ hb2).mono ?_
  rintro _ w3 ⟨ug, rfl, G3, hb3⟩
  obtain ⟨ag, cg, rfl, _⟩ := G3
  have hb3 := below_on hb2 hb3
  clear y0 y1 ly hb2 KG
  obtain ⟨y0, y1⟩ := (Box2.on LAY.out hb3).cells
  have ly := (Box2.on LAY.out hb3).lt
  go_wp2_with fail
  refine (KT.out _ hb3).mono ?_
  rintro _ w4 ⟨r3, rfl, A3, hb4⟩
  have hb4 := below_on hb3 hb4
  clear y0 y1 ly hb3 KT
  obtain ⟨y0, y1⟩ := (Box2.on LAY.out hb4).cells
  have ly := (Box2.on LAY.out hb4).lt
  go_wp2_with fail
  refine (KR.out _ hb4).mono ?_
  rintro _ w5 ⟨r2, rfl, A2, hb5⟩
  have A3 := A3.on hb5
  have hb5 := below_on hb4 hb5
  have lay5 := Box2.on LAY.out hb5
  have FIN := below_on BEL.out hb5
  clear y0 y1 ly hb4 KR LAY BEL hb5
  obtain ⟨_, _, ⟨ar3, cr3, er3, _⟩, _⟩ := id A3
  subst er3
  obtain ⟨_, _, _, ⟨ar2, cr2, er2, _⟩, _⟩ := id A2
  subst er2
  go_wp2
  go_loopw [43] (fun i wr => ∃ k : Nat, k ≤ m ∧ i = .int .i64 k ∧ Below w5.heap.size w5 wr) (fun i _ => m - (intOf i).toNat)
  case atStart => exact ⟨0, Nat.zero_le _, rfl, Below.refl _ _⟩
  case round =>
    obtain ⟨k, hk, rfl, hb⟩ := hrel
    by_cases hlt : k < m
    · have hi1 : (k : Int) < (m : Int) := by omega
      obtain ⟨y0, y1⟩ := (lay5.on hb).cells
      have ly := (lay5.on hb).lt
      obtain ⟨g2, k2, v1, v2, lo2, hi2, e2, d0, d1, d2, d3, sS, sB⟩ := dnAt (A2.on hb) hlt
      cases e2
      obtain ⟨g3, k3, u3, lo3, hi3, e3, q3, z3⟩ := rwAt2 (A3.on hb) hlt
      cases e3
      obtain ⟨as1, cs1, es1, _⟩ := id sS
      subst es1
      obtain ⟨ab1, cb1, eb1, _⟩ := id sB
      subst eb1
      obtain ⟨C, eC⟩ : ∃ C, runC (S : Int) n F T P k = C := ⟨_, rfl⟩
      rw [eC] at d0
      obtain ⟨U, eU⟩ : ∃ U, wr.alloc (.cells #[.int .i64 C, .bool true, .slice as1 S cs1, .slice ab1 n cb1] 41) = U := ⟨_, rfl⟩
      have bU : Below wr.heap.size wr U := by rw [← eU]; exact (by repeat (first | exact Below.refl _ _ | assumption | refine below_alloc ?_ _ | refine Below.setCell ?_ (by first | omega | (simp; done) | (simp; omega)) _ | refine Below.alloc ?_ (by first | omega | (simp; done) | (simp; omega)) _ | refine Below.drew ?_))
      have HB : Hid (Below w5.heap.size w5 wr) := hb
      have BU : Hid (Below wr.heap.size wr U) := bU
      have Z3 : Hid (SlF U 3 1 lo3 hi3 u3 S (rowV (trZ (S : Int) n F T P (k + 1)))) := z3.on bU
      have SS : Hid (SlF U 43 5 lo2 hi2 (.slice as1 S cs1) S (secs (runX (S : Int) n F T P (k + 1)))) := sS.on bU
      have Q3 : Hid (U.cell? ⟨g3, k, none⟩ = some u3) := (bU.cell (World.block_lt_of_cell? _ _ q3)).trans q3
      have EU : Hid _ := eU
      clear sB z3 sS hb eU bU q3 eC
      go_wp2
      rw [EU.out]
      clear y0 y1 ly d0 d1 d2 d3
      go_loopw [59] (fun i wx => ∃ s : Nat, s ≤ S ∧ i = .int .i64 s ∧ Below U.heap.size U wx) (fun i _ => S - (intOf i).toNat)
      case atStart => exact ⟨0, Nat.zero_le _, rfl, Below.refl _ _⟩
      case round =>
        rename World => wx
        obtain ⟨s, hs, rfl, hbx⟩ := hrel
        by_cases hls : s < S
        · have hi2 : (s : Int) < (S : Int) := by omega
          obtain ⟨gs, cs, es, t0, t1, t2, t3, t4⟩ := seAt (SlF.on SS.out hbx) hls
          cases es
          obtain ⟨gc, cc, ec, rc⟩ := rowAt2 (SlF.on Z3.out hbx) hls
          have qc := (hbx.cell (p := ⟨g3, k, none⟩) (World.block_lt_of_cell? _ _ Q3.out)).trans Q3.out
          rw [ec] at qc
          have fr := FR.out k hlt s hls
          obtain ⟨x, ex⟩ : ∃ x, runX (S : Int) n F T P (k + 1) s = x := ⟨_, rfl⟩
          obtain ⟨z, ez⟩ : ∃ z, trZ (S : Int) n F T P (k + 1) s = z := ⟨_, rfl⟩
          rw [ex] at t0 t1 t2 t3 t4 fr
          rw [ez] at rc fr
          have l1 := World.block_lt_of_cell? _ _ qc
          have l2 := World.block_lt_of_cell? _ _ rc
          clear ex ez ec
          obtain ⟨xt, xc, xl, xs, xa⟩ := x
          simp only at t0 t1 t2 t3 t4 fr
          have HX : Hid (Below U.heap.size U (wx.alloc (.cells #[.int .i64 xt, .int .i64 xc, .bool xl, .bool xs, .int .i64 xa] 43))) := below_alloc hbx _
          clear hbx
          by_cases hx0 : xt = 0
          · subst hx0
            obtain rfl : z = 0 := fr rfl
            clear fr
            go_wp2
            go_roundw
            case rel => exact ⟨s + 1, by omega, by go_num, HX.out⟩
            case measure => simp [intOf] <;> omega
          · have hx1 : (xt == 0) = false := by simp [hx0]
            clear fr
            go_wp2
            go_roundw
            case rel => exact ⟨s + 1, by omega, by go_num, HX.out⟩
            case measure => simp [intOf] <;> omega
        · have hss : s = S := by omega
          subst hss
          go_wp2
          go_roundw
          case rel => exact ⟨k + 1, by omega, by go_num, below_on (below_on HB.out BU.out) hbx⟩
          case measure => simp [intOf] <;> omega
    · have hkm : k = m := by omega
      subst hkm
      go_wp2
      go_ret
      exact ⟨rfl, below_on FIN hb⟩

end Go.Proofs.YtlpopfhaephfaaaDoor

namespace Go.Proofs.YtlpopfhaephfaaaDoor
open Go.RowKit

theorem ev_true : EvC true := events_true
theorem drawn_true (m cap : Nat) (ao : Option Addr) (C : Nat → Int) (w : World) (hc : Cod w w.heap.size ao m C) (hm : m ≤ maxLen) :
    Calls Tryd.prog 6 #[.slice ao m cap, .bool true] w fun e w' => ∃ g u, e = .returned (.tuple #[.agg #[.int .i64 (drS C m : Int), .slice (gA g) (drL C m).length (gC g)], u]) ∧ DrP w w' C m true g u := drawn_of ev_true m cap ao C w hc hm

end Go.Proofs.YtlpopfhaephfaaaDoor

namespace Go.Proofs.YtlpopfhaephfaaaDoor
open Go.ChangeShapes Go.WideShapes Go.ChangeAt Go.RowKit Go.Joins

theorem Tryd.ownD : ownKnob Tryd.prog.godebug = none := by kernel_rfl
theorem Tryd.laidD : laidOutB Tryd.prog = true := by kernel_rfl
theorem Tryd.cellsU8 : Tryd.prog.cellsOf 5 = 1 := by kernel_rfl

theorem u8_wf {n : Int} (h : (Lit.int .u8 n).wf = true) : 0 ≤ n ∧ n < 256 := by
  unfold Lit.wf at h
  simp only [Bool.and_eq_true, decide_eq_true_eq] at h
  have h1 : IntKind.u8.min = 0 := by decide
  have h2 : IntKind.u8.max = 255 := by decide
  rw [h1, h2] at h
  omega

theorem cod_of_trod {H : Type} {enc : TypeId × Value → H} {W : World} {base : Nat} {spare : Nat → Bool} {held : Bool} {fuel : Nat} {c : Value} {x : DataW H × List MemPlace} (h : DataW.trod enc Tryd.prog W base spare held fuel 22 [c] = some x) :
    ∃ (ao : Option Addr) (n cap : Nat) (C : Nat → Int), c = .slice ao n cap ∧ n ≤ maxLen ∧ Cod W W.heap.size ao n C := by
  rcases open_ints Tryd.underlying22 Tryd.underlying5 Tryd.cellsU8 h with ⟨hc, _⟩ | ⟨a, len, cap, zs, hc, _, hl, hm, hz, _, hcell, hwf⟩
  · simp only [List.cons.injEq, and_true] at hc
    exact ⟨none, 0, 0, fun _ => 0, hc, Nat.zero_le _, .inl rfl⟩
  · simp only [List.cons.injEq, and_true] at hc
    refine ⟨some a, len, cap, fun i => zs.getD i 0, hc, Nat.le_trans hl hm, ?_⟩
    have hlz : len ≤ zs.length := by rw [hz]; split <;> omega
    rcases Nat.eq_zero_or_pos len with h0 | h0
    · exact .inl h0
    · right
      obtain ⟨b, off, spot⟩ := a
      have hs : spot = none := by simpa [Addr.add] using World.cell?_spot (hcell 0 (by omega))
      subst hs
      refine ⟨b, off, rfl, ?_, fun i hi => ⟨?_, ?_⟩⟩
      · have := World.block_lt_of_cell? W _ (hcell 0 (by omega))
        simpa [Addr.add] using this
      · have := hcell i (by omega)
        have e : (⟨b, off, none⟩ : Addr).add i = ⟨b, off + i, none⟩ := by simp [Addr.add]
        rw [e] at this
        exact this
      · have hi' : i < zs.length := by omega
        have e : zs.getD i 0 = zs[i] := by rw [List.getD_eq_getElem?_getD, List.getElem?_eq_getElem hi']; rfl
        show 0 ≤ zs.getD i 0 ∧ zs.getD i 0 < 256
        rw [e]
        exact u8_wf (hwf _ (List.getElem_mem hi'))

theorem cod_of {H : Type} {enc : TypeId × Value → H} {W : World} {base : Nat} {spare : Nat → Bool} {held : Bool} {ao : Option Addr} {n cap : Nat} {d : DataW H} {p : List MemPlace} (h : DataW.Trod enc Tryd.prog W base spare held 22 (.slice ao n cap) d p) :
    n ≤ maxLen ∧ ∃ C, Cod W W.heap.size ao n C := by
  obtain ⟨fuel, hf⟩ := h
  obtain ⟨ao', n', cap', C, e, hm, hc⟩ := cod_of_trod (c := .slice ao n cap) hf
  simp only [Value.slice.injEq] at e
  obtain ⟨rfl, rfl, rfl⟩ := e
  exact ⟨hm, C, hc⟩

end Go.Proofs.YtlpopfhaephfaaaDoor

namespace Go.Proofs.YtlpopfhaephfaaaDoor
open Go.ChangeShapes Go.WideShapes Go.ChangeAt Go.RowKit Go.Joins

theorem Tryd.gE0 : Tryd.prog.globalNamed "loop.example/treadle/impl.errNoRun" = some 0 := by kernel_rfl
theorem Tryd.gE1 : Tryd.prog.globalNamed "loop.example/treadle/impl.errNoEvent" = some 1 := by kernel_rfl
theorem Tryd.gE2 : Tryd.prog.globalNamed "loop.example/treadle/impl.errSomebody" = some 2 := by kernel_rfl
theorem Tryd.gE3 : Tryd.prog.globalNamed "loop.example/treadle/impl.errBelow" = some 3 := by kernel_rfl
theorem Tryd.gT0 : (Tryd.prog.globals[0]?).map (·.type) = some 65 := by kernel_rfl
theorem Tryd.gT1 : (Tryd.prog.globals[1]?).map (·.type) = some 65 := by kernel_rfl
theorem Tryd.gT2 : (Tryd.prog.globals[2]?).map (·.type) = some 65 := by kernel_rfl
theorem Tryd.gT3 : (Tryd.prog.globals[3]?).map (·.type) = some 65 := by kernel_rfl
theorem Tryd.esCells : Tryd.prog.cellsOf 180 = 1 := by kernel_rfl
theorem Tryd.stCells : Tryd.prog.cellsOf 9 = 1 := by kernel_rfl
theorem esStar : "*" ++ "errors.errorString" = "*errors.errorString" := by decide
theorem Tryd.esRow (u : TypeId) (h : Tryd.prog.typeName? 3 u = some "*errors.errorString") : u = 155 :=
  typeName_ptr_named (nm := "errors.errorString") (by rw [esStar]; kernel_rfl) (by kernel_rfl) (by decide) u (by rw [esStar]; exact h)

/-- the fourA errors' addresses -/
def fourA (a0 a1 a2 a3 : Addr) : Nat → Addr
  | 0 => a0
  | 1 => a1
  | 2 => a2
  | _ => a3

set_option maxRecDepth 100000 in
theorem snt_of_laid {W : World} (h : laidMet Tryd.prog [("loop.example/treadle/impl.errNoRun", Rows.laid_loop_example_treadle_impl_errNoRun), ("loop.example/treadle/impl.errNoEvent", Rows.laid_loop_example_treadle_impl_errNoEvent), ("loop.example/treadle/impl.errSomebody", Rows.laid_loop_example_treadle_impl_errSomebody), ("loop.example/treadle/impl.errBelow", Rows.laid_loop_example_treadle_impl_errBelow)] W) :
    ∃ a0 a1 a2 a3 : Addr, W.var? Tryd.prog "loop.example/treadle/impl.errNoRun" = some #[.iface 155 (.pointer (some a0))] ∧ W.var? Tryd.prog "loop.example/treadle/impl.errNoEvent" = some #[.iface 155 (.pointer (some a1))] ∧
      W.var? Tryd.prog "loop.example/treadle/impl.errSomebody" = some #[.iface 155 (.pointer (some a2))] ∧ W.var? Tryd.prog "loop.example/treadle/impl.errBelow" = some #[.iface 155 (.pointer (some a3))] ∧ Snt W (fourA a0 a1 a2 a3) := by
  obtain ⟨ps, ⟨g0, t0, cs0, f0, p0, q0, hg0, ht0, hv0, hd0, ⟨g1, t1, cs1, f1, p1, q1, hg1, ht1, hv1, hd1, ⟨g2, t2, cs2, f2, p2, q2, hg2, ht2, hv2, hd2, ⟨g3, t3, cs3, f3, p3, q3, hg3, ht3, hv3, hd3, hq3, e3⟩, e2⟩, e1⟩, e0⟩, hnd, hrows⟩ := h
  obtain rfl := Option.some.inj (Tryd.gE0.symm.trans hg0)
  obtain rfl := Option.some.inj (Tryd.gE1.symm.trans hg1)
  obtain rfl := Option.some.inj (Tryd.gE2.symm.trans hg2)
  obtain rfl := Option.some.inj (Tryd.gE3.symm.trans hg3)
  obtain rfl := Option.some.inj (Tryd.gT0.symm.trans ht0)
  obtain rfl := Option.some.inj (Tryd.gT1.symm.trans ht1)
  obtain rfl := Option.some.inj (Tryd.gT2.symm.trans ht2)
  obtain rfl := Option.some.inj (Tryd.gT3.symm.trans ht3)
  have hq3' : q3 = [] := hq3
  subst hq3'
  subst e3
  subst e2
  subst e1
  subst e0
  obtain ⟨l0⟩ := cs0
  obtain ⟨l1⟩ := cs1
  obtain ⟨l2⟩ := cs2
  obtain ⟨l3⟩ := cs3
  have ok0 : ∀ u v, l0 = [.iface u v] → Value.okWide Tryd.prog W .any 0 u v := fun u v e => by
    subst e
    exact (hrows 0 0 (by simp [MemPlace.row])).2 u v (by simpa using World.var?_cell hg0 hv0 0)
  have ok1 : ∀ u v, l1 = [.iface u v] → Value.okWide Tryd.prog W .any 0 u v := fun u v e => by
    subst e
    exact (hrows 1 0 (by simp [MemPlace.row])).2 u v (by simpa using World.var?_cell hg1 hv1 0)
  have ok2 : ∀ u v, l2 = [.iface u v] → Value.okWide Tryd.prog W .any 0 u v := fun u v e => by
    subst e
    exact (hrows 2 0 (by simp [MemPlace.row])).2 u v (by simpa using World.var?_cell hg2 hv2 0)
  have ok3 : ∀ u v, l3 = [.iface u v] → Value.okWide Tryd.prog W .any 0 u v := fun u v e => by
    subst e
    exact (hrows 3 0 (by simp [MemPlace.row])).2 u v (by simpa using World.var?_cell hg3 hv3 0)
  obtain ⟨a0, s0, rfl, hc0, hs0, hz0, rfl⟩ := errorString_of_trod Tryd.underlying65 Tryd.esRow Tryd.underlying155 Tryd.underlying180 rfl rfl Tryd.underlying9 Tryd.esCells Tryd.stCells hd0 ok0
  obtain ⟨a1, s1, rfl, hc1, hs1, hz1, rfl⟩ := errorString_of_trod Tryd.underlying65 Tryd.esRow Tryd.underlying155 Tryd.underlying180 rfl rfl Tryd.underlying9 Tryd.esCells Tryd.stCells hd1 ok1
  obtain ⟨a2, s2, rfl, hc2, hs2, hz2, rfl⟩ := errorString_of_trod Tryd.underlying65 Tryd.esRow Tryd.underlying155 Tryd.underlying180 rfl rfl Tryd.underlying9 Tryd.esCells Tryd.stCells hd2 ok2
  obtain ⟨a3, s3, rfl, hc3, hs3, hz3, rfl⟩ := errorString_of_trod Tryd.underlying65 Tryd.esRow Tryd.underlying155 Tryd.underlying180 rfl rfl Tryd.underlying9 Tryd.esCells Tryd.stCells hd3 ok3
  have b0 := (hrows a0.block a0.off (by simp [MemPlace.row])).1
  have b1 := (hrows a1.block a1.off (by simp [MemPlace.row])).1
  have b2 := (hrows a2.block a2.off (by simp [MemPlace.row])).1
  have b3 := (hrows a3.block a3.off (by simp [MemPlace.row])).1
  have c0 : W.cell? ⟨0, 0, none⟩ = some (.iface 155 (.pointer (some a0))) := by simpa using World.var?_cell hg0 hv0 0
  have c1 : W.cell? ⟨1, 0, none⟩ = some (.iface 155 (.pointer (some a1))) := by simpa using World.var?_cell hg1 hv1 0
  have c2 : W.cell? ⟨2, 0, none⟩ = some (.iface 155 (.pointer (some a2))) := by simpa using World.var?_cell hg2 hv2 0
  have c3 : W.cell? ⟨3, 0, none⟩ = some (.iface 155 (.pointer (some a3))) := by simpa using World.var?_cell hg3 hv3 0
  have n01 : a0 ≠ a1 := by rintro rfl; simp [MemPlace.row] at hnd
  have n02 : a0 ≠ a2 := by rintro rfl; simp [MemPlace.row] at hnd
  have n03 : a0 ≠ a3 := by rintro rfl; simp [MemPlace.row] at hnd
  have n12 : a1 ≠ a2 := by rintro rfl; simp [MemPlace.row] at hnd
  have n13 : a1 ≠ a3 := by rintro rfl; simp [MemPlace.row] at hnd
  have n23 : a2 ≠ a3 := by rintro rfl; simp [MemPlace.row] at hnd
  refine ⟨a0, a1, a2, a3, hv0, hv1, hv2, hv3, ⟨fun i hi => ?_, fun i hi => ?_, fun i j hi hj hij => ?_⟩⟩
  · match i, hi with
    | 0, _ => exact c0
    | 1, _ => exact c1
    | 2, _ => exact c2
    | 3, _ => exact c3
  · match i, hi with
    | 0, _ => exact b0
    | 1, _ => exact b1
    | 2, _ => exact b2
    | 3, _ => exact b3
  · match i, hi, j, hj, hij with
    | 0, _, 1, _, _ => exact n01
    | 0, _, 2, _, _ => exact n02
    | 0, _, 3, _, _ => exact n03
    | 1, _, 0, _, _ => exact n01.symm
    | 1, _, 2, _, _ => exact n12
    | 1, _, 3, _, _ => exact n13
    | 2, _, 0, _, _ => exact n02.symm
    | 2, _, 1, _, _ => exact n12.symm
    | 2, _, 3, _, _ => exact n23
    | 3, _, 0, _, _ => exact n03.symm
    | 3, _, 1, _, _ => exact n13.symm
    | 3, _, 2, _, _ => exact n23.symm
    | 0, _, 0, _, h => exact absurd rfl h
    | 1, _, 1, _, h => exact absurd rfl h
    | 2, _, 2, _, h => exact absurd rfl h
    | 3, _, 3, _, h => exact absurd rfl h

theorem vars_read4 {H : Type} (enc : TypeId × Value → H) {W : World} {x0 x1 x2 x3 : Value} (h0 : W.var? Tryd.prog "loop.example/treadle/impl.errNoRun" = some #[x0]) (h1 : W.var? Tryd.prog "loop.example/treadle/impl.errNoEvent" = some #[x1]) (h2 : W.var? Tryd.prog "loop.example/treadle/impl.errSomebody" = some #[x2]) (h3 : W.var? Tryd.prog "loop.example/treadle/impl.errBelow" = some #[x3]) (i0 : IsIface x0) (i1 : IsIface x1) (i2 : IsIface x2) (i3 : IsIface x3) (sp : Nat → Bool) :
    DataW.TrodVars enc Tryd.prog W sp ["loop.example/treadle/impl.errNoRun", "loop.example/treadle/impl.errNoEvent", "loop.example/treadle/impl.errSomebody", "loop.example/treadle/impl.errBelow"] [tok enc x0, tok enc x1, tok enc x2, tok enc x3] [.cell 0 0, .cell 1 0, .cell 2 0, .cell 3 0] :=
  ⟨0, 65, #[x0], 1, [], [.cell 1 0, .cell 2 0, .cell 3 0], Tryd.gE0, Tryd.gT0, h0, trod_held Tryd.underlying65 i0 0, ⟨1, 65, #[x1], 1, [], [.cell 2 0, .cell 3 0], Tryd.gE1, Tryd.gT1, h1, trod_held Tryd.underlying65 i1 0, ⟨2, 65, #[x2], 1, [], [.cell 3 0], Tryd.gE2, Tryd.gT2, h2, trod_held Tryd.underlying65 i2 0, ⟨3, 65, #[x3], 1, [], [], Tryd.gE3, Tryd.gT3, h3, trod_held Tryd.underlying65 i3 0, rfl, rfl⟩, rfl⟩, rfl⟩, rfl⟩

/-- a world in which the fourA errors are laid -/
def laidW (P : Program) (os : Os) : World :=
  let k := (World.holding P default ⟨#[], #[], []⟩).heap.size
  let w0 := World.holding P os ⟨#[.cells #[.string { data := #[116, 104, 101, 32, 108, 97, 121, 111, 117, 116, 32, 105, 115, 32, 110, 111, 116, 32, 114, 105, 103, 104, 116, 44, 32, 111, 114, 32, 116, 104, 101, 32, 101, 118, 101, 110, 116, 115, 32, 97, 114, 101, 32, 116, 111, 111, 32, 109, 97, 110, 121] }] 180, .cells #[.string { data := #[97, 110, 32, 101, 118, 101, 110, 116, 32, 105, 115, 32, 110, 111, 110, 101] }] 180, .cells #[.string { data := #[97, 32, 115, 101, 99, 116, 105, 111, 110, 32, 105, 115, 32, 114, 101, 115, 101, 116, 32, 119, 105, 116, 104, 32, 115, 111, 109, 101, 98, 111, 100, 121, 32, 105, 110, 32, 105, 116] }] 180, .cells #[.string { data := #[102, 101, 119, 101, 114, 32, 116, 104, 97, 110, 32, 110, 111, 98, 111, 100, 121, 32, 97, 114, 101, 32, 105, 110, 32, 97, 32, 115, 101, 99, 116, 105, 111, 110] }] 180], #[], []⟩
  { w0 with heap := (((w0.heap.modify 0 fun
      | .cells _ t frozen => .cells #[.iface 155 (.pointer (some ⟨k, 0, none⟩))] t frozen
      | o => o).modify 1 fun
      | .cells _ t frozen => .cells #[.iface 155 (.pointer (some ⟨k + 1, 0, none⟩))] t frozen
      | o => o).modify 2 fun
      | .cells _ t frozen => .cells #[.iface 155 (.pointer (some ⟨k + 2, 0, none⟩))] t frozen
      | o => o).modify 3 fun
      | .cells _ t frozen => .cells #[.iface 155 (.pointer (some ⟨k + 3, 0, none⟩))] t frozen
      | o => o }
theorem laidW_met (os : Os) (args : Array Value) : laidMet Tryd.prog [("loop.example/treadle/impl.errNoRun", Rows.laid_loop_example_treadle_impl_errNoRun), ("loop.example/treadle/impl.errNoEvent", Rows.laid_loop_example_treadle_impl_errNoEvent), ("loop.example/treadle/impl.errSomebody", Rows.laid_loop_example_treadle_impl_errSomebody), ("loop.example/treadle/impl.errBelow", Rows.laid_loop_example_treadle_impl_errBelow)] ((laidW Tryd.prog os).forCall (fun _ _ => 0) ⟨#[], args, []⟩).memory :=
  laidMet_of_run (ps := [.cell 0 0, .cell (World.holding Tryd.prog default ⟨#[], #[], []⟩).heap.size 0, .cell 1 0, .cell ((World.holding Tryd.prog default ⟨#[], #[], []⟩).heap.size + 1) 0, .cell 2 0, .cell ((World.holding Tryd.prog default ⟨#[], #[], []⟩).heap.size + 2) 0, .cell 3 0, .cell ((World.holding Tryd.prog default ⟨#[], #[], []⟩).heap.size + 3) 0]) 8 (by kernel_rfl) (by kernel_rfl) (by kernel_rfl)

end Go.Proofs.YtlpopfhaephfaaaDoor

namespace Go.Proofs.YtlpopfhaephfaaaDoor
open Go.ChangeShapes Go.WideShapes Go.ChangeAt Go.RowKit Go.Joins

set_option maxRecDepth 100000 in
theorem fnSafe_great (m1 c1 : Nat) (a1 : Option Addr) (w : World) (h1 : 1048576 < m1) :
    Calls Tryd.prog 3 #[.slice a1 m1 c1] w fun e w' => e = .returned (.bool true) ∧ Below w.heap.size w w' := by
  have i1 : (1048576 : Int) < m1 := by omega
  go_enter Tryd.func3, Tryd.ntmps3
  go_wp2
  go_ret
  exact ⟨rfl, Below.refl _ _⟩

theorem fnSafe_all (a : Nat → Addr) (m1 c1 : Nat) (a1 : Option Addr) (C1 : Nat → Int) (w : World) (ha : Snt w a) (h1 : Cod w w.heap.size a1 m1 C1) :
    Calls Tryd.prog 3 #[.slice a1 m1 c1] w fun e w' => e = .returned (.bool true) ∧ Below w.heap.size w w' := by
  by_cases h : 1048576 < m1
  · exact fnSafe_great m1 c1 a1 w h
  · exact safe_small ev_true a m1 c1 a1 C1 w ha h1 (by omega)

set_option maxRecDepth 100000 in
theorem fnSafe_lifted (os : Os) (started : os.Started) (H : Type) (enc : TypeId × Value → H) :
    ReturnsInHanded {} Tryd.checked os 3 .any (fun w args => (Rows.fnSafeSpec.pre enc Tryd.prog Tryd.f3 [] false w args ∧ laidMet Tryd.prog Rows.fnSafeRow.laid w) ∧ sizedMet enc Tryd.prog Tryd.f3 (OpenSpec.ofChange Rows.fnSafeSpec) false w args)
      (Rows.fnSafeSpec.post enc Tryd.prog Tryd.f3 false true false false) := by
  refine returnsInHanded_of_change_and (C := Tryd.checked) (X := fun w _ => laidMet Tryd.prog Rows.fnSafeRow.laid w) (fun _ _ _ hh h => h.of_heap hh) Tryd.ownD started (by kernel_rfl) Tryd.func3
    (ChangeSpec.witness_at (enc := enc) (C := Tryd.checked) (os := os) (X := fun w _ => laidMet Tryd.prog Rows.fnSafeRow.laid w) false (laidW Tryd.prog os) #[.slice none 0 0] 8 rfl (by kernel_rfl) (by kernel_rfl) (by kernel_rfl) (by kernel_rfl) (by kernel_rfl) (laidW_met os _)) ?_
  intro W base args ds gs before hval0 hW _ _ hL _
  have hval : ∀ (j : Nat) t v, Tryd.f3.params[j]? = some t → args[j]? = some v → Value.okWide Tryd.prog W .any base t v := hval0
  have hW' := hW
  obtain ⟨p, q, hA0, hV0, rfl, hfz, hnd⟩ := hW
  have hA : DataW.TrodAll enc Tryd.prog W 0 (fun _ => true) true Tryd.f3.params.toList args.toList ds p := hA0
  have hV : DataW.TrodVars enc Tryd.prog W (fun _ => true) ["loop.example/treadle/impl.errNoRun", "loop.example/treadle/impl.errNoEvent", "loop.example/treadle/impl.errSomebody", "loop.example/treadle/impl.errBelow"] gs q := hV0
  rw [Tryd.params3] at hA hval
  obtain ⟨v0, d0, rfl, rfl, h0⟩ := trodAll_one hA
  obtain ⟨a0, a1, a2, a3, x0, x1, x2, x3, hS⟩ := snt_of_laid hL
  obtain ⟨rfl, rfl⟩ := hV.unique (vars_read4 enc x0 x1 x2 x3 trivial trivial trivial trivial _)
  have hl0 : ∀ x ∈ p, x.block < W.heap.size := fun x hx => by simpa using hW'.lt x (by simp [hx])
  obtain ⟨ao, m1, c1, rfl⟩ := okWide_slice Tryd.underlying22 (hval 0 22 v0 rfl rfl)
  obtain ⟨_, C1, hc1⟩ := cod_of h0
  clear hA0 hval0 hV0
  refine (fnSafe_all _ m1 c1 ao C1 W hS hc1).mono fun e W' ⟨he, hb⟩ => ?_
  subst he
  have lt : ∀ i, i < 4 → i < W.heap.size := fun i hi => World.block_lt_of_cell? W _ (hS.cell i hi)
  refine ⟨_, rfl, _, _, _, [], p, [.cell 0 0, .cell 1 0, .cell 2 0, .cell 3 0], hW', ?_, ?_, ?_, hb.frame _, fun h => by cases h⟩
  · exact trodAll_mk1 (shut_bool Tryd.underlying4 true)
  · exact trodAll_mk1 (Below.trod Tryd.laidD (by kernel_rfl) (of_decide_eq_true (by kernel_rfl)) h0 hb hl0)
  · exact vars_read4 enc (var?_below hb Tryd.gE0 (lt 0 (by omega)) x0) (var?_below hb Tryd.gE1 (lt 1 (by omega)) x1) (var?_below hb Tryd.gE2 (lt 2 (by omega)) x2) (var?_below hb Tryd.gE3 (lt 3 (by omega)) x3) trivial trivial trivial trivial _

theorem fnSafe_row : Rows.FnSafeSaid :=
  OpenClaim.holds_of_wide 3 Tryd.f3 rfl rfl rfl rfl rfl rfl rfl ⟨rfl, rfl, rfl, rfl, rfl⟩ rfl rfl rfl rfl rfl (by kernel_rfl) Tryd.func3 (by kernel_rfl)
    (of_decide_eq_true (by kernel_rfl)) (by unfold Func.isWrapper; first | (rw [if_pos (by decide +kernel)]; kernel_rfl) | (rw [if_neg (by decide +kernel)]; exact ⟨rfl, rfl⟩))
    (fun os started H enc _ => fnSafe_lifted os started H enc)

theorem fnSafe_holds : Rows.FnSafeCardSaid :=
  Claim7.holds_tied_plain_at .later [] [.sentinel, .sentinel, .sentinel, .sentinel] true (true, "5e9e66964d3763e6ce57c902b8ad56f32d3ae6dd48d88a5b4502855b4b325035") true
    fnSafe_row (fun _ h => by cases h) (by kernel_rfl) (fun _ h => by cases h) fnSafe_row_tie rfl ⟨rfl, rfl⟩ (by kernel_rfl) rfl
    (fun f fn hf hfn => by
      obtain rfl : f = 3 := Option.some.inj ((show Tryd.prog.funcNamed "loop.example/treadle/laws.FnSafe" = some 3 by kernel_rfl).symm.trans hf) |>.symm
      obtain rfl : fn = Tryd.f3 := (Option.some.inj (Tryd.func3.symm.trans hfn)).symm
      exact ⟨by kernel_rfl, fun j t ht => by
        rw [Tryd.params3] at ht
        match j with
        | 0 =>
          have h3 : t = 22 := by simpa using ht.symm
          subst h3
          exact (show Tryd.prog.wantsStandIn 22 = false by kernel_rfl)
        | j + 1 => simp at ht⟩)
    (by kernel_rfl)

#print axioms fnSafe_holds

end Go.Proofs.YtlpopfhaephfaaaDoor
