import Derived.Test.YtlpopfhaephfaaaDoorFS0
import Derived.Test.YtlpopfhaephfaaaDoorQR
import Derived.Test.YtlpopfhaephfaaaDoorQU
import Derived.Test.YtlpopfhaephfaaaDoorRN2
import Derived.Test.YtlpopfhaephfaaaDoorQT
import Derived.Test.YtlpopfhaephfaaaDoorRN5
import Derived.Test.YtlpopfhaephfaaaDoorQH
import Derived.Test.YtlpopfhaephfaaaDoorQG
import Derived.Deep.RegionWith
import Derived.Test.YtlpopfhaephfaaaDoorCU3t
import Derived.Test.YtlpopfhaephfaaaDoorQC
import Derived.Test.YtlpopfhaephfaaaDoorRows
import Derived.ChangeSlices
import Derived.ProofKit
import Derived.Lib.SmallJoins
import Derived.Deep.SlicePairs
import Derived.Test.YtlpopfhaephfaaaDoorCards
import Derived.Test.YtlpopfhaephfaaaDoorTie
import Derived.ChangeSame
import Derived.ChangeVars
import Derived.JoinedOf
import Derived.RowKitTokens
import Derived.LaidLaws
import Derived.LaidHandle
import Derived.Stop.LaidErr
import Derived.Stop.LaidTwo
import Derived.Stop.Joined
import Derived.SevenTiedAt
import Derived.WalkSmall
namespace Go.Proofs.YtlpopfhaephfaaaDoor
open Go.RowKit

theorem trZ_congr (S : Int) (n : Nat) (F T : Nat → Int) (P P' : Nat → Nat → Int) (k : Nat) (h : ∀ j, j < k → ∀ i, i < 3 → P j i = P' j i) : trZ S n F T P k = trZ S n F T P' k := by
  induction k with
  | zero => rfl
  | succ k ih =>
    simp only [trZ]
    rw [ih (fun j hj i hi => h j (by omega) i hi), h k (by omega) 0 (by omega), h k (by omega) 1 (by omega), h k (by omega) 2 (by omega)]
theorem trZ_left (S : Int) (n : Nat) (F T : Nat → Int) (l m : List (Int × Int × Int)) (k : Nat) (h : k ≤ l.length) : trZ S n F T (trP (l ++ m)) k = trZ S n F T (trP l) k :=
  trZ_congr _ _ _ _ _ _ _ (fun j hj i _ => trP_left l m j (by omega) i)
theorem trP_last (l : List (Int × Int × Int)) (x : Int × Int × Int) (j : Nat) : trP (l ++ [x]) l.length j = (if j = 0 then x.1 else if j = 1 then x.2.1 else x.2.2) := by
  unfold trP
  simp [List.getD]
theorem trZ_snoc (S : Int) (n : Nat) (F T : Nat → Int) (l : List (Int × Int × Int)) (x : Int × Int × Int) : trZ S n F T (trP (l ++ [x])) (l.length + 1) = stepZ S n F T (trZ S n F T (trP l) l.length) x.1 x.2.1 x.2.2 := by
  simp only [trZ]
  rw [trZ_left _ _ _ _ _ _ _ (Nat.le_refl _), trP_last, trP_last, trP_last]
  rfl

/-- nobody lies, and th says who is where -/
structure HonL (S : Int) (n : Nat) (F T : Nat → Int) (L : List (Int × Int × Int)) (th : Int → Int) : Prop where
  th : ∀ s : Nat, th (s : Int) = trZ S n F T (trP L) L.length s
  nn : ∀ k, k ≤ L.length → ∀ s : Nat, 0 ≤ trZ S n F T (trP L) k s
  rs : ∀ k, k < L.length → trP L k 0 = 5 → trZ S n F T (trP L) k (trP L k 1).toNat = 0

theorem HonL.nil (S : Int) (n : Nat) (F T : Nat → Int) : HonL S n F T [] (fun _ => 0) :=
  ⟨fun s => rfl, fun k hk s => by cases Nat.le_zero.1 hk; exact Int.le_refl _, fun k hk => absurd hk (Nat.not_lt_zero _)⟩

theorem stepZ_other (S : Int) (n : Nat) (F T Z : Nat → Int) (op f d : Int) (h : op ≠ 1) : stepZ S n F T Z op f d = Z := by
  unfold stepZ
  rw [if_neg (fun x => h x.2)]

section
variable {S : Int} {n : Nat} {F T : Nat → Int} {L : List (Int × Int × Int)} {th : Int → Int}

theorem HonL.snoc_rs (h : HonL S n F T L th) (x : Int × Int × Int) (hx : x.1 = 5 → trZ S n F T (trP L) L.length x.2.1.toNat = 0) : ∀ k, k < (L ++ [x]).length → trP (L ++ [x]) k 0 = 5 → trZ S n F T (trP (L ++ [x])) k (trP (L ++ [x]) k 1).toNat = 0 := by
  intro k hk h5
  rw [List.length_append, List.length_singleton] at hk
  rcases Nat.lt_or_ge k L.length with hlt | hge
  · rw [trP_left L [x] k hlt 0] at h5
    rw [trP_left L [x] k hlt 1, trZ_left _ _ _ _ _ _ _ (by omega)]
    exact h.rs k hlt h5
  · obtain rfl : k = L.length := by omega
    rw [trP_last] at h5 ⊢
    rw [trZ_left _ _ _ _ _ _ _ (Nat.le_refl _)]
    exact hx h5

theorem HonL.other (h : HonL S n F T L th) (x : Int × Int × Int) (h1 : x.1 ≠ 1) (h5 : x.1 = 5 → 0 ≤ x.2.1 ∧ th x.2.1 = 0) : HonL S n F T (L ++ [x]) th := by
  have e : trZ S n F T (trP (L ++ [x])) (L ++ [x]).length = trZ S n F T (trP L) L.length := by
    rw [List.length_append, List.length_singleton, trZ_snoc, stepZ_other _ _ _ _ _ _ _ _ h1]
  refine ⟨fun s => by rw [e]; exact h.th s, fun k hk s => ?_, h.snoc_rs x fun hx => ?_⟩
  · rw [List.length_append, List.length_singleton] at hk
    rcases Nat.lt_or_ge k (L.length + 1) with hlt | hge
    · rw [trZ_left _ _ _ _ _ _ _ (by omega)]
      exact h.nn k (by omega) s
    · obtain rfl : k = L.length + 1 := by omega
      rw [trZ_snoc, stepZ_other _ _ _ _ _ _ _ _ h1]
      exact h.nn _ (Nat.le_refl _) s
  · obtain ⟨a, b⟩ := h5 hx
    rw [← h.th, Int.toNat_of_nonneg a]
    exact b

theorem es_ft {k d : Int} (hd : d = 1 ∨ d = -1) : esFr F T k d = fromZ F T k.toNat d ∧ esTo F T k d = toZ F T k.toNat d := by
  unfold esFr esTo fromZ toZ
  rcases hd with rfl | rfl <;> simp

theorem ev1 {k d : Int} (h : evB S n 1 k d = true) : 0 ≤ k ∧ k < (n : Int) ∧ (d = 1 ∨ d = -1) := by
  unfold evB at h
  rw [if_pos (.inl rfl)] at h
  exact of_decide_eq_true h

theorem HonL.pass (h : HonL S n F T L th) (k d : Int) (hev : evB S n 1 k d = true) (hp : esFr F T k d < 0 ∨ 0 < th (esFr F T k d)) : HonL S n F T (L ++ [(1, k, d)]) (thSt th (esFr F T k d) (esTo F T k d)) := by
  obtain ⟨_, _, hd⟩ := ev1 hev
  obtain ⟨e1, e2⟩ := es_ft (F := F) (T := T) (k := k) hd
  rw [e1] at hp ⊢
  rw [e2]
  obtain ⟨fr, ef⟩ : ∃ fr, fromZ F T k.toNat d = fr := ⟨_, rfl⟩
  obtain ⟨tt, et⟩ : ∃ tt, toZ F T k.toNat d = tt := ⟨_, rfl⟩
  have e : ∀ s : Nat, trZ S n F T (trP (L ++ [(1, k, d)])) (L.length + 1) s = th (s : Int) - (if fr = (s : Int) then 1 else 0) + (if tt = (s : Int) then 1 else 0) := by
    intro s
    rw [trZ_snoc]
    unfold stepZ
    rw [if_pos ⟨hev, rfl⟩, h.th s, ef, et]
  rw [ef] at hp ⊢
  rw [et]
  have n0 : ∀ s : Nat, 0 ≤ th (s : Int) := fun s => by rw [h.th s]; exact h.nn _ (Nat.le_refl _) s
  refine ⟨fun s => ?_, fun j hj s => ?_, h.snoc_rs _ fun hx => by cases hx⟩
  · rw [List.length_append, List.length_singleton, e s]
    unfold thSt
    by_cases a : fr = (s : Int)
    · rw [if_pos ⟨a.symm, by omega⟩, if_pos a]
      by_cases b : tt = (s : Int)
      · rw [if_pos ⟨b.symm, by omega⟩, if_pos b]
      · rw [if_neg (by omega), if_neg b]
    · rw [if_neg (by omega), if_neg a]
      by_cases b : tt = (s : Int)
      · rw [if_pos ⟨b.symm, by omega⟩, if_pos b]; omega
      · rw [if_neg (by omega), if_neg b]; omega
  · rw [List.length_append, List.length_singleton] at hj
    rcases Nat.lt_or_ge j (L.length + 1) with hlt | hge
    · rw [trZ_left _ _ _ _ _ _ _ (by omega)]
      exact h.nn j (by omega) s
    · obtain rfl : j = L.length + 1 := by omega
      rw [e s]
      have := n0 s
      by_cases a : fr = (s : Int)
      · subst a
        rw [if_pos rfl]
        split <;> omega
      · rw [if_neg a]
        split <;> omega
end

/-- whatever holds of what is drawn honestly, event by event -/
theorem esRun_inv (C : Nat → Int) (m : Nat) {S : Int} {n : Nat} (F T : Nat → Int) (c : Cu) (hS : 1 ≤ S) (hn : 0 < n) (Q : List (Int × Int × Int) → (Int → Int) → Prop) (h0 : Q [] (fun _ => 0))
    (ho : ∀ L th x, Q L th → evB S n x.1 x.2.1 x.2.2 = true → x.1 ≠ 1 → (x.1 = 5 → 0 ≤ x.2.1 ∧ th x.2.1 = 0) → Q (L ++ [x]) th)
    (hp : ∀ L th k d, Q L th → evB S n 1 k d = true → (esFr F T k d < 0 ∨ 0 < th (esFr F T k d)) → Q (L ++ [(1, k, d)]) (thSt th (esFr F T k d) (esTo F T k d))) (j : Nat) :
    Q (esRun C m S n F T true c j).out (esRun C m S n F T true c j).th := by
  induction j with
  | zero => exact h0
  | succ j ih =>
    have ok := (esRun_ok C m F T true c hS hn (j + 1)).ev
    simp only [esRun] at ok ⊢
    obtain ⟨e, ee⟩ : ∃ e, esRun C m S n F T true c j = e := ⟨_, rfl⟩
    rw [ee] at ih ok ⊢
    clear ee
    unfold esStep at ok ⊢
    obtain ⟨K, eK⟩ : ∃ K, pkV C m e.cu n = K := ⟨_, rfl⟩
    obtain ⟨c, ec⟩ : ∃ c, pkC C m (pkC C m e.cu n) 16 = c := ⟨_, rfl⟩
    obtain ⟨t, et⟩ : ∃ t, pkV C m (pkC C m e.cu n) 16 = t := ⟨_, rfl⟩
    rw [eK, ec, et] at ok ⊢
    have last : ∀ (l : List (Int × Int × Int)) (x : Int × Int × Int), x ∈ l ++ [x] := fun l x => by simp
    unfold esAct at ok ⊢
    by_cases t0 : t = 0
    · rw [if_pos t0] at ok ⊢
      exact ho _ _ _ ih (ok _ (last _ _)) (by simp) (fun h => by simp at h)
    rw [if_neg t0] at ok ⊢
    by_cases t1 : t = 1
    · rw [if_pos t1] at ok ⊢
      exact ho _ _ _ ih (ok _ (last _ _)) (by simp) (fun h => by simp at h)
    rw [if_neg t1] at ok ⊢
    by_cases t2 : t = 2 ∨ t = 3
    · rw [if_pos t2] at ok ⊢
      exact ho _ _ _ ih (ok _ (last _ _)) (by simp) (fun h => by simp at h)
    rw [if_neg t2] at ok ⊢
    by_cases t4 : t = 4 ∨ t = 5 ∨ t = 6
    · rw [if_pos t4] at ok ⊢
      unfold esReset at ok ⊢
      by_cases z : e.th (pkV C m c S) = 0
      · rw [if_pos z] at ok ⊢
        exact ho _ _ _ ih (ok _ (last _ _)) (by simp) (fun _ => ⟨(pk_range C m c S).1, z⟩)
      · rw [if_neg z, if_pos rfl]
        exact ih
    · rw [if_neg t4] at ok ⊢
      unfold esPass at ok ⊢
      by_cases z : esFr F T K (1 - 2 * pkV C m c 2) < 0 ∨ 0 < e.th (esFr F T K (1 - 2 * pkV C m c 2))
      · rw [if_pos z] at ok ⊢
        exact hp _ _ _ _ ih (ok _ (last _ _)) z
      · rw [if_neg z, if_pos rfl]
        exact ih

def op1 (x : Int × Int × Int) : Bool := decide (x.1 = 1)

theorem drE_hon (C : Nat → Int) (m : Nat) : ∃ th, HonL (drS C m : Int) (drL C m).length (fstF (drL C m)) (sndF (drL C m)) (drE C m true) th := by
  have hS := drS_range C m
  unfold drE
  generalize (lyZ C m ⟨0, 0⟩).1 = c
  unfold evL
  split
  · split
    · refine ⟨fun _ => 0, (HonL.nil _ _ _ _).other _ (by simp) fun _ => ⟨(pk_range C m _ _).1, rfl⟩⟩
    · exact ⟨_, HonL.nil _ _ _ _⟩
  · exact ⟨_, esRun_inv C m (fstF (drL C m)) (sndF (drL C m)) _ (by omega) (by omega) (HonL _ _ _ _) (HonL.nil _ _ _ _) (fun L th x h _ h1 h5 => h.other x h1 h5) (fun L th k d h hev hp => h.pass k d hev hp) _⟩

theorem drE_jus (C : Nat → Int) (m : Nat) : ∃ th, HonL (drS C m : Int) (drL C m).length (fstF (drL C m)) (sndF (drL C m)) ((drE C m true).filter op1) th := by
  have hS := drS_range C m
  unfold drE
  generalize (lyZ C m ⟨0, 0⟩).1 = c
  unfold evL
  split
  · split
    · exact ⟨_, HonL.nil _ _ _ _⟩
    · exact ⟨_, HonL.nil _ _ _ _⟩
  · refine ⟨_, esRun_inv C m (fstF (drL C m)) (sndF (drL C m)) _ (by omega) (by omega) (fun L th => HonL _ _ _ _ (L.filter op1) th) (HonL.nil _ _ _ _) (fun L th x h _ h1 h5 => ?_) (fun L th k d h hev hp => ?_) _⟩
    · rw [List.filter_append, List.filter_cons_of_neg (by simp [op1, h1]), List.filter_nil, List.append_nil]
      exact h
    · rw [List.filter_append, List.filter_cons_of_pos (by simp [op1]), List.filter_nil]
      exact h.pass k d hev hp

/-- axles alone: how a section stands -/
def jusX (z : Int) (x : Sec) : Prop := x.count = z ∧ x.lost = false ∧ x.sweep = false ∧ x.told = if z = 0 then 0 else 1

theorem jus_cnt {z way : Int} {x : Sec} (h : x.count = z ∧ x.lost = false ∧ x.sweep = false) (h0 : 0 ≤ z + way) (h1 : z + way ≤ 1000000) : (cnt x way).count = z + way ∧ (cnt x way).lost = false ∧ (cnt x way).sweep = false := by
  obtain ⟨a, b, c⟩ := h
  have e : cntC x.count way = z + way := by
    unfold cntC inB
    rw [a, if_pos (by simp; omega)]
  unfold cnt
  simp only [e, b, c]
  refine ⟨trivial, by simp; omega, by simp⟩

theorem jus_told {z : Int} {x : Sec} (h : x.count = z ∧ x.lost = false ∧ x.sweep = false) : jusX z (tlS false x) := by
  obtain ⟨a, b, c⟩ := h
  refine ⟨a, b, c, ?_⟩
  show toldZ false x = _
  unfold toldZ
  rw [a, b, c]
  by_cases e : z = 0
  · simp [e]
  · simp [e]

theorem jus_run {S : Int} {n m : Nat} {F T : Nat → Int} {P : Nat → Nat → Int} (hl : lokZ S n F T = 0) (hm : m ≤ 2000) (hP : ∀ j, j < m → P j 0 = 1 ∧ evB S n 1 (P j 1) (P j 2) = true) (nn : ∀ k, k ≤ m → ∀ s : Nat, 0 ≤ trZ S n F T P k s) (k : Nat) (hk : k ≤ m) :
    (∀ s : Nat, jusX (trZ S n F T P k s) (runX S n F T P k s)) ∧ runD S n F T P k = fun _ => false := by
  induction k with
  | zero => exact ⟨fun s => ⟨rfl, rfl, rfl, rfl⟩, rfl⟩
  | succ k ih =>
    obtain ⟨hX, hD⟩ := ih (by omega)
    obtain ⟨p0, pe⟩ := hP k (by omega)
    obtain ⟨k1, k2, hd⟩ := ev1 pe
    obtain ⟨f, ef⟩ : ∃ f : Nat, P k 1 = (f : Int) := ⟨(P k 1).toNat, by omega⟩
    have hs := lok_sides hl f (by omega)
    rw [ef] at pe
    obtain ⟨d, ed⟩ : ∃ d, P k 2 = d := ⟨_, rfl⟩
    rw [ed] at pe hd
    have step : ∀ s : Nat, trZ S n F T P (k + 1) s = trZ S n F T P k s - (if fromZ F T f d = (s : Int) then 1 else 0) + (if toZ F T f d = (s : Int) then 1 else 0) := by
      intro s
      simp only [trZ]
      rw [p0, ef, ed]
      unfold stepZ
      rw [if_pos ⟨pe, rfl⟩]
      simp only [Int.toNat_natCast]
    constructor
    · intro s
      rw [runX_succ, p0, ef, ed, hD, (nxt_pass S n F T _ (fun _ => false) f d pe s).1, dead_none]
      refine jus_told ?_
      unfold pwD
      simp only [Bool.false_eq_true, if_false]
      obtain ⟨a, b, c, _⟩ := hX s
      have n1 := nn (k + 1) hk s
      have bd := trZ_bound S n F T P (k + 1) s
      rw [step s] at n1 bd ⊢
      have hne : fromZ F T f d ≠ toZ F T f d := by
        unfold fromZ toZ
        split <;> omega
      obtain ⟨fr, efr⟩ : ∃ fr, fromZ F T f d = fr := ⟨_, rfl⟩
      obtain ⟨tt, ett⟩ : ∃ tt, toZ F T f d = tt := ⟨_, rfl⟩
      rw [efr, ett] at n1 bd hne ⊢
      unfold pwS
      by_cases h1 : tt = (s : Int)
      · have h2 : ¬ fr = (s : Int) := by omega
        rw [if_pos h1, if_neg h2] at n1 bd ⊢
        rw [if_neg h2]
        have := jus_cnt (way := 1) ⟨a, b, c⟩ (by omega) (by omega)
        rw [if_pos h1]
        simpa using this
      · rw [if_neg h1]
        by_cases h2 : fr = (s : Int)
        · rw [if_pos h2, if_neg h1] at n1 bd
          rw [if_pos h2, if_pos h2, if_neg h1]
          have := jus_cnt (way := -1) ⟨a, b, c⟩ (by omega) (by omega)
          rw [show trZ S n F T P k s - 1 + 0 = trZ S n F T P k s + -1 by omega]
          exact this
        · rw [if_neg h2, if_neg h2, if_neg h1]
          simpa using ⟨a, b, c⟩
    · rw [runD_succ, p0, ef, ed, hD]
      exact (nxt_pass S n F T (fun _ => sec0) (fun _ => false) f d pe 0).2

theorem jus_code {S : Int} {n m : Nat} {F T : Nat → Int} {P : Nat → Nat → Int} (hl : lokZ S n F T = 0) (hm : m ≤ 2000) (hP : ∀ j, j < m → P j 0 = 1 ∧ evB S n 1 (P j 1) (P j 2) = true) (nn : ∀ k, k ≤ m → ∀ s : Nat, 0 ≤ trZ S n F T P k s) (k : Nat) (hk : k < m) : runC S n F T P k = 0 := by
  obtain ⟨_, hD⟩ := jus_run hl hm hP nn k (by omega)
  obtain ⟨p0, pe⟩ := hP k hk
  unfold runC bhC
  rw [p0, pe, hD]
  simp [effC, passC]

end Go.Proofs.YtlpopfhaephfaaaDoor

namespace Go.Proofs.YtlpopfhaephfaaaDoor
open Go.RowKit Go.Maps

/-- a section that has lost nothing counts at least those who are there -/
def safX (z b : Int) (x : Sec) : Prop := (x.lost = false → z ≤ x.count) ∧ -b ≤ x.count ∧ x.count ≤ b

theorem saf_more {z b : Int} {x : Sec} (h : safX z b x) : safX z (b + 1) x := ⟨h.1, by have := h.2.1; omega, by have := h.2.2; omega⟩

theorem saf_cnt {z b way : Int} {x : Sec} (h : safX z b x) (hb : b ≤ 900000) (hw : way = 1 ∨ way = -1) : safX (z + way) (b + 1) (cnt x way) := by
  obtain ⟨h1, h2, h3⟩ := h
  have e : cntC x.count way = x.count + way := by
    unfold cntC inB
    rw [if_pos (by simp; omega)]
  refine ⟨fun hl => ?_, ?_, ?_⟩
  · have hl' : (x.lost || decide (cntC x.count way < 0)) = false := hl
    show z + way ≤ cntC x.count way
    rw [e]
    have := h1 (by cases hx : x.lost <;> simp [hx] at hl' ⊢)
    omega
  · show -(b + 1) ≤ cntC x.count way
    rw [e]; omega
  · show cntC x.count way ≤ b + 1
    rw [e]; omega

theorem saf_ghost {z b : Int} {x : Sec} (h : safX z b x) (hb : b ≤ 900000) : safX z (b + 1) (cnt x 1) := by
  obtain ⟨h1, h2, h3⟩ := saf_cnt h hb (.inl rfl)
  exact ⟨fun hl => by have := h1 hl; omega, h2, h3⟩

theorem saf_lost {z z' b : Int} {x : Sec} (h : safX z b x) (hl : x.lost = true) : safX z' (b + 1) x := ⟨fun e => (by rw [hl] at e; cases e), by have := h.2.1; omega, by have := h.2.2; omega⟩

theorem dead_side {n : Nat} {F T : Nat → Int} {D : Nat → Bool} {f : Nat} {s : Int} (hf : f < n) (hd : D f = true) (hs : F f = s ∨ T f = s) : deadB n F T D s = true := by
  unfold deadB
  refine List.any_eq_true.2 ⟨(f : Int), ?_, by simpa using hd⟩
  unfold zsAt
  simp only [List.mem_map, List.mem_filter, List.mem_range]
  exact ⟨f, ⟨hf, by simpa using hs⟩, rfl⟩

theorem saf_next {S op f d : Int} {n ns : Nat} {F T Z : Nat → Int} {X : Nat → Sec} {D : Nat → Bool} {b : Int} (h : stOk S n F T true ns n X D = true) (hev : evB S n op f d = true) (hb : b ≤ 900000) (hX : ∀ s, s < ns → safX (Z s) b (X s)) (h5 : op = 5 → Z f.toNat = 0) :
    ∀ s, s < ns → safX (stepZ S n F T Z op f d s) (b + 1) (nxtX S n F T X D op f d s) := by
  obtain ⟨hl, _, hS, _, hsec⟩ := stOk_parts h
  intro s hs
  have hq := secOk_qua (hsec s hs)
  rw [qua_iff] at hq
  have hsx := hX s hs
  suffices hh : safX (stepZ S n F T Z op f d s) (b + 1) (bhX S n F T X D op f d s) from hh
  have hev0 := hev
  unfold evB at hev
  unfold bhX
  rw [hev0]
  simp only [if_true]
  by_cases h1 : op = 1
  · subst h1
    rw [if_pos (.inl rfl)] at hev
    obtain ⟨v1, v2, hd⟩ := of_decide_eq_true hev
    obtain ⟨k, rfl⟩ : ∃ k : Nat, f = (k : Int) := ⟨f.toNat, by omega⟩
    have hk : k < n := by omega
    have hsd := lok_sides hl k hk
    unfold stepZ
    rw [if_pos ⟨hev0, rfl⟩]
    simp only [Int.toNat_natCast]
    have e1 : effX n F T X D 1 (k : Int) d = passY F T X D k d true := by simp [effX]
    rw [e1]
    unfold passY
    cases hD : D k
    · simp only [Bool.false_eq_true, if_false]
      unfold passX
      simp only [if_true]
      rw [cntSide_at, cntSide_at]
      have hne : fromZ F T k d ≠ toZ F T k d := by
        unfold fromZ toZ
        split <;> omega
      obtain ⟨fr, efr⟩ : ∃ fr, fromZ F T k d = fr := ⟨_, rfl⟩
      obtain ⟨tt, ett⟩ : ∃ tt, toZ F T k d = tt := ⟨_, rfl⟩
      simp only [efr, ett] at hne ⊢
      by_cases h1 : tt = (s : Int)
      · have h2 : ¬ fr = (s : Int) := by omega
        rw [if_pos h1, if_pos h1, if_neg h2, if_neg h2]
        simpa using saf_cnt hsx hb (.inl rfl)
      · rw [if_neg h1, if_neg h1]
        by_cases h2 : fr = (s : Int)
        · rw [if_pos h2, if_pos h2]
          have := saf_cnt hsx hb (.inr rfl)
          rw [show Z s - 1 + 0 = Z s + -1 by omega]
          exact this
        · rw [if_neg h2, if_neg h2]
          simpa using saf_more hsx
    · simp only [if_true]
      by_cases hside : F k = (s : Int) ∨ T k = (s : Int)
      · have hdd := dead_side hk hD hside
        have hlost : (X s).lost = true := by
          rcases hq.2 with hq | ⟨_, hq, _⟩
          · exact hq
          · rw [hdd] at hq; cases hq
        exact saf_lost hsx hlost
      · have ha : ¬ F k = (s : Int) := fun e => hside (.inl e)
        have hc : ¬ T k = (s : Int) := fun e => hside (.inr e)
        obtain ⟨x1, x2⟩ := ft_mem F T k d s ha hc
        rw [if_neg x1, if_neg x2]
        simpa using saf_more hsx
  · rw [stepZ_other _ _ _ _ _ _ _ _ h1]
    by_cases h2 : op = 2
    · subst h2
      rw [if_pos (.inr rfl)] at hev
      have e1 : effX n F T X D 2 f d = passY F T X D f.toNat d false := by simp [effX]
      rw [e1]
      unfold passY
      split
      · exact saf_more hsx
      · unfold passX
        simp only [Bool.false_eq_true, if_false]
        rw [cntSide_at]
        split
        · exact saf_ghost hsx hb
        · exact saf_more hsx
    · by_cases h3 : op = 3
      · subst h3
        have e1 : effX n F T X D 3 f d = lostSide (lostSide X (F f.toNat)) (T f.toNat) := by simp [effX]
        rw [e1]
        have one : ∀ (Y : Nat → Sec) (side : Int), safX (Z s) (b + 1) (Y s) → safX (Z s) (b + 1) (lostSide Y side s) := by
          intro Y side hY
          by_cases e : side = (s : Int)
          · subst e
            rw [lost_same]
            exact ⟨fun e => (by cases e), hY.2.1, hY.2.2⟩
          · rw [lost_other e]; exact hY
        exact one _ _ (one _ _ (saf_more hsx))
      · by_cases h4 : op = 5
        · subst h4
          have e1 : effX n F T X D 5 f d = rstY n F T X D f.toNat := by simp [effX]
          rw [e1]
          unfold rstY
          split
          · exact saf_more hsx
          · split
            · exact saf_more hsx
            · unfold resetAt
              split
              · rename_i e
                have hz := h5 rfl
                rw [← e] at hz
                rw [hz]
                exact ⟨fun _ => Int.le_refl _, by show -(b + 1) ≤ 0; have := hsx.2.1; have := hsx.2.2; omega, by show 0 ≤ b + 1; have := hsx.2.1; have := hsx.2.2; omega⟩
              · exact saf_more hsx
        · have e1 : effX n F T X D op f d = X := by simp [effX, h1, h2, h3, h4]
          rw [e1]
          exact saf_more hsx

theorem saf_run {S : Int} {n ns m : Nat} {F T : Nat → Int} {P : Nat → Nat → Int} (hl : lokZ S n F T = 0) (hS : (ns : Int) = S) (hm : m ≤ 2000) (hP : ∀ j, j < m → evB S n (P j 0) (P j 1) (P j 2) = true) (rs : ∀ j, j < m → P j 0 = 5 → trZ S n F T P j (P j 1).toNat = 0) (k : Nat) (hk : k ≤ m) :
    ∀ s, s < ns → safX (trZ S n F T P k s) (k : Int) (runX S n F T P k s) := by
  induction k with
  | zero => exact fun s _ => ⟨fun _ => Int.le_refl _, Int.le_refl _, Int.le_refl _⟩
  | succ k ih =>
    intro s hs
    have := saf_next (run_ok (P := P) hl hS k) (hP k (by omega)) (b := (k : Int)) (by omega) (ih (by omega)) (rs k (by omega)) s hs
    simp only [trZ]
    rw [runX_succ]
    simpa using this

/-- NO GAP: a section that is told free has nobody in it -/
theorem saf_free {S : Int} {n ns m : Nat} {F T : Nat → Int} {P : Nat → Nat → Int} (hl : lokZ S n F T = 0) (hS : (ns : Int) = S) (hm : m ≤ 2000) (hP : ∀ j, j < m → evB S n (P j 0) (P j 1) (P j 2) = true) (rs : ∀ j, j < m → P j 0 = 5 → trZ S n F T P j (P j 1).toNat = 0) (nn : ∀ k, k ≤ m → ∀ s : Nat, 0 ≤ trZ S n F T P k s) (k : Nat) (hk : k ≤ m) (s : Nat) (hs : s < ns) (h0 : (runX S n F T P k s).told = 0) : trZ S n F T P k s = 0 := by
  have h1 := saf_run hl hS hm hP rs k hk s hs
  obtain ⟨_, _, _, _, hsec⟩ := stOk_parts (run_ok (P := P) hl hS k)
  have h2 := hsec s hs
  unfold secOk at h2
  simp only [Bool.and_eq_true, beq_iff_eq] at h2
  have h3 := h2.1.2
  rw [h0] at h3
  obtain ⟨x, ex⟩ : ∃ x, runX S n F T P k s = x := ⟨_, rfl⟩
  rw [ex] at h1 h3
  unfold toldZ at h3
  have h4 := nn k hk s
  cases hd : deadB n F T (runD S n F T P k) (s : Int)
  · rw [hd] at h3
    simp only [Bool.false_eq_true, if_false] at h3
    cases hlo : x.lost
    · cases hsw : x.sweep
      · rw [hlo, hsw] at h3
        by_cases hc : x.count = 0
        · have := h1.1 hlo
          omega
        · simp [hc] at h3
      · rw [hlo, hsw] at h3
        simp at h3
    · rw [hlo] at h3
      simp at h3
  · rw [hd] at h3
    simp at h3

end Go.Proofs.YtlpopfhaephfaaaDoor

namespace Go.Proofs.YtlpopfhaephfaaaDoor
open Go.RowKit

theorem dnAt {w : World} {lo hi : Nat} {v : Value} {m ns nd k : Nat} {C : Nat → Int} {B : Nat → Bool} {X : Nat → Nat → Sec} {D : Nat → Nat → Bool} (h : DnF w lo hi v m ns nd C B X D) (hk : k < m) : ∃ g c u1 u2 lo' hi', v = .slice (some ⟨g, 0, none⟩) m c ∧ w.cell? ⟨g, k * 4, none⟩ = some (.int .i64 (C k)) ∧ w.cell? ⟨g, k * 4 + 1, none⟩ = some (.bool (B k)) ∧ w.cell? ⟨g, k * 4 + 2, none⟩ = some u1 ∧ w.cell? ⟨g, k * 4 + 3, none⟩ = some u2 ∧ SlF w 43 5 lo' hi' u1 ns (secs (X k)) ∧ SlF w 4 1 lo' hi' u2 nd (bools (D k)) := by
  obtain ⟨A1, A2, L, ⟨ao, c, rfl, h0 | ⟨g, m', f, rfl, _, _, h2, h3, h4⟩⟩, _, _, hh⟩ := h
  · omega
  · obtain ⟨c0, c1, c2, c3⟩ := four h3 h2 hk h4
    exact ⟨g, c, _, _, _, _, rfl, c0, c1, c2, c3, (hh k hk).2.1, (hh k hk).2.2⟩

theorem seAt {w : World} {lo hi : Nat} {u : Value} {n k : Nat} {X : Nat → Sec} (h : SlF w 43 5 lo hi u n (secs X)) (hk : k < n) : ∃ g c, u = .slice (some ⟨g, 0, none⟩) n c ∧ w.cell? ⟨g, k * 5, none⟩ = some (.int .i64 (X k).told) ∧ w.cell? ⟨g, k * 5 + 1, none⟩ = some (.int .i64 (X k).count) ∧ w.cell? ⟨g, k * 5 + 2, none⟩ = some (.bool (X k).lost) ∧ w.cell? ⟨g, k * 5 + 3, none⟩ = some (.bool (X k).sweep) ∧ w.cell? ⟨g, k * 5 + 4, none⟩ = some (.int .i64 (X k).last) := by
  obtain ⟨ao, c, rfl, h0 | ⟨g, m, f, rfl, _, _, h2, h3, h4⟩⟩ := h
  · omega
  · exact ⟨g, c, rfl, five h3 h2 hk h4⟩

end Go.Proofs.YtlpopfhaephfaaaDoor

namespace Go.Proofs.YtlpopfhaephfaaaDoor
open Go.RowKit

theorem gpR_nil (S : Int) (n : Nat) (F T : Nat → Int) (P : Nat → Nat → Int) (k s : Nat) (h : ∀ i, i < s → gapB S n F T P k i = false) : gpR S n F T P k s = [] := by
  induction s with
  | zero => rfl
  | succ s ih =>
    simp only [gpR]
    rw [ih (fun i hi => h i (by omega)), h s (by omega)]
    rfl
theorem gpA_nil (S : Int) (n : Nat) (F T : Nat → Int) (P : Nat → Nat → Int) (ns k : Nat) (h : ∀ j, j < k → ∀ i, i < ns → gapB S n F T P j i = false) : gpA S n F T P ns k = [] := by
  induction k with
  | zero => rfl
  | succ k ih =>
    simp only [gpA]
    rw [ih (fun j hj => h j (by omega)), gpR_nil _ _ _ _ _ _ _ (h k (by omega))]
    rfl

/-- honest events: none lies -/
theorem hon_none {S : Int} {n ns m : Nat} {F T : Nat → Int} {P : Nat → Nat → Int} (hP : ∀ j, j < m → evB S n (P j 0) (P j 1) (P j 2) = true) (rs : ∀ j, j < m → P j 0 = 5 → trZ S n F T P j (P j 1).toNat = 0) (nn : ∀ k, k ≤ m → ∀ s : Nat, 0 ≤ trZ S n F T P k s) : honP S n ns F T P m := by
  intro k hk
  unfold lieE
  rw [if_neg (by rw [hP k hk]; decide)]
  have h5 : ¬ (P k 0 = 5 ∧ ¬ trZ S n F T P (k + 1) (P k 1).toNat = 0) := by
    rintro ⟨h5, h0⟩
    refine h0 ?_
    simp only [trZ]
    rw [stepZ_other _ _ _ _ _ _ _ _ (by rw [h5]; decide)]
    exact rs k hk h5
  rw [if_neg h5, if_neg]
  intro h
  obtain ⟨s, _, hs⟩ := List.any_eq_true.1 h
  have h1 := nn (k + 1) (by omega) s
  have h2 := of_decide_eq_true hs
  omega

theorem rowAt2 {w : World} {lo hi : Nat} {u : Value} {n k : Nat} {Z : Nat → Int} (h : SlF w 3 1 lo hi u n (rowV Z)) (hk : k < n) : ∃ g c, u = .slice (some ⟨g, 0, none⟩) n c ∧ w.cell? ⟨g, k, none⟩ = some (.int .i64 (Z k)) := by
  obtain ⟨ao, c, rfl, h0 | ⟨g, m, f, rfl, _, _, h2, h3, h4⟩⟩ := h
  · omega
  · exact ⟨g, c, rfl, oneA (A := fun i => .int .i64 (Z i)) h3 h2 hk (fun i hi j hj => by rw [h4 i hi j hj]; rfl)⟩

theorem rwAt2 {w : World} {lo hi : Nat} {v : Value} {m ns k : Nat} {Z : Nat → Nat → Int} (h : RwF w lo hi v m ns Z) (hk : k < m) : ∃ g c u lo' hi', v = .slice (some ⟨g, 0, none⟩) m c ∧ w.cell? ⟨g, k, none⟩ = some u ∧ SlF w 3 1 lo' hi' u ns (rowV (Z k)) := by
  obtain ⟨A, L, ⟨ao, c, rfl, h0 | ⟨g, m', f, rfl, _, _, h2, h3, h4⟩⟩, _, _, hh⟩ := h
  · omega
  · exact ⟨g, c, _, _, _, rfl, oneA h3 h2 hk h4, (hh k hk).2⟩

set_option maxRecDepth 100000 in
set_option maxHeartbeats 8000000 in
theorem safe_small (hev : EvC true) (a : Nat → Addr) (m1 c1 : Nat) (a1 : Option Addr) (C1 : Nat → Int) (w : World) (ha : Snt w a) (h1 : Cod w w.heap.size a1 m1 C1) (hm1 : m1 ≤ 1048576) :
    Calls Tryd.prog 3 #[.slice a1 m1 c1] w fun e w' => e = .returned (.bool true) ∧ Below w.heap.size w w' := by
  have i1 : ¬ (1048576 : Int) < m1 := by omega
  have ok := dr_ok C1 m1
  obtain ⟨e1, e2⟩ := drE_facts C1 m1 true
  obtain ⟨s1, s2⟩ := drS_range C1 m1
  obtain ⟨th, hon⟩ := drE_hon C1 m1
  have kd := drawn_of hev m1 c1 a1 C1 w h1 (by unfold maxLen; omega)
  unfold DrP at kd
  obtain ⟨S, eS⟩ : ∃ S, drS C1 m1 = S := ⟨_, rfl⟩
  obtain ⟨n, en⟩ : ∃ n, (drL C1 m1).length = n := ⟨_, rfl⟩
  obtain ⟨F, eF⟩ : ∃ F, fstF (drL C1 m1) = F := ⟨_, rfl⟩
  obtain ⟨T, eT⟩ : ∃ T, sndF (drL C1 m1) = T := ⟨_, rfl⟩
  obtain ⟨E, eE⟩ : ∃ E, drE C1 m1 true = E := ⟨_, rfl⟩
  rw [eS, en, eF, eT] at ok
  rw [eS, en, eE] at e2
  rw [eE] at e1
  rw [eS] at s1 s2
  rw [eS, en, eF, eT, eE] at hon kd
  clear eS en eF eT eE
  have hP : ∀ j, j < E.length → evB (S : Int) n (trP E j 0) (trP E j 1) (trP E j 2) = true := fun j hj => by
    have e : E.getD j (0, 0, 0) = E[j] := by rw [List.getD_eq_getElem?_getD, List.getElem?_eq_getElem hj]; rfl
    unfold trP
    rw [e]
    exact e2 _ (List.getElem_mem hj)
  have rs := hon.rs
  have nn := hon.nn
  obtain ⟨m, em⟩ : ∃ m, E.length = m := ⟨_, rfl⟩
  obtain ⟨P, eP⟩ : ∃ P, trP E = P := ⟨_, rfl⟩
  rw [em, eP] at kd hP rs nn
  rw [em] at e1
  have hm : m ≤ 2000 := by omega
  have hho : honP (S : Int) n S F T P m := hon_none hP rs nn
  have fr : ∀ k, k < m → ∀ s, s < S → (runX (S : Int) n F T P (k + 1) s).told = 0 → trZ (S : Int) n F T P (k + 1) s = 0 := fun k hk s hs h0 => saf_free ok rfl hm hP rs nn (k + 1) (by omega) s hs h0
  have gn : gpA (S : Int) n F T P S m = [] := gpA_nil _ _ _ _ _ _ _ (fun j hj i hi => by
    unfold gapB
    by_cases h0 : (runX (S : Int) n F T P (j + 1) i).told = 0
    · rw [fr j hj i hi h0]; simp
    · simp [h0])
  have FR : Hid _ := fr
  have OK : Hid (lokZ (S : Int) n F T = 0) := ok
  clear hon e2 ok em eP hP rs nn fr
  go_enter Tryd.func3, Tryd.ntmps3
  go_wp2_with fail
  refine kd.mono ?_
  rintro e w1 ⟨g, u, rfl, R1, E1, B1, hcp⟩
  obtain ⟨au, cu, rfl, ev0⟩ := E1
  have E1 : SlF w1 56 3 w.heap.size w1.heap.size (.slice au m cu) m (evs P) := ⟨au, cu, rfl, ev0⟩
  have hcap : m ≤ cu := of_decide_eq_true hcp
  obtain ⟨V, eV⟩ : ∃ V, w1.alloc (.cells #[.int .i64 (S : Int), .slice (gA g) n (gC g)] 25) = V := ⟨_, rfl⟩
  have lay : Box2 V w1.heap.size 25 (.int .i64 (S : Int)) (.slice (gA g) n (gC g)) := by rw [← eV]; exact Box2.lay _ _ _ _
  have row : CRow V g n F T := by rw [← eV]; exact R1.alloc _
  have evt : SlF V 56 3 w.heap.size w1.heap.size (.slice au m cu) m (evs P) := by rw [← eV]; exact E1.alloc _
  have bel : Below w.heap.size w V := by rw [← eV]; exact below_alloc B1 _
  have snt : Snt V a := ha.on bel
  have bV : Below V.heap.size V (V.alloc (.cells #[.int .i64 (S : Int), .slice (gA g) n (gC g)] 25)) := below_alloc (Below.refl _ _) _
  have kh := honest_of (S : Int) g n _ a V _ _ snt rfl (lie_ok g n _ _ m S cu au F T P a _ (row.on bV) (evt.on bV) (snt.on bV) OK.out hm)
  obtain ⟨lb, elb⟩ : ∃ lb, w1.heap.size = lb := ⟨_, rfl⟩
  rw [elb] at lay evt
  have EV : Hid _ := eV
  have ELB : Hid _ := elb
  have kg := fun W hW => implGaps_ok g n _ _ m S F T P _ W (CRow.on row hW) (evt.on hW) OK.out hm
  rw [gn] at kg
  have kt := fun W hW => specTruth_ok g n _ _ m S cu au F T P W (CRow.on row hW) (evt.on hW) hcap OK.out hm
  have kr := fun W hW => implRun_ok (S : Int) g n _ _ m S F T P _ W (CRow.on row hW) (evt.on hW) OK.out rfl hm
  have KG : Hid _ := kg
  have KT : Hid _ := kt
  have KR : Hid _ := kr
  have LAY : Hid _ := lay
  have BEL : Hid _ := bel
  have HHO : Hid _ := hho
  clear kd kg kt kr R1 E1 B1 h1 elb eV ev0 row evt bel snt bV gn ha hho
  obtain ⟨y0, y1⟩ := (show Box2 V lb 25 (.int .i64 (S : Int)) (.slice (gA g) n (gC g)) from LAY.out).cells
  have ly := (show Box2 V lb 25 (.int .i64 (S : Int)) (.slice (gA g) n (gC g)) from LAY.out).lt
  go_upto_region 4 with fail
  rw [EV.out, ELB.out]
  go_wp2_with fail
  refine kh.mono ?_
  rintro _ w2 ⟨o, rfl, hq, hb2⟩
  obtain rfl : o = none := hq.2 HHO.out
  clear kh hq EV ELB y0 y1 ly
  obtain ⟨y0, y1⟩ := (Box2.on LAY.out hb2).cells
  have ly := (Box2.on LAY.out hb2).lt
  go_wp2_with fail
  refine (KG.out _ hb2).mono ?_
  rintro _ w3 ⟨ug, rfl, G3, hb3⟩
  obtain ⟨ag, cg, rfl, _⟩ := G3
  have hb3 := below_on hb2 hb3
  clear y0 y1 ly hb2 KG
  obtain ⟨y0, y1⟩ := (Box2.on LAY.out hb3).cells
  have ly := (Box2.on LAY.out hb3).lt
  go_wp2_with fail
  refine (KT.out _ hb3).mono ?_
  rintro _ w4 ⟨r3, rfl, A3, hb4⟩
  have hb4 := below_on hb3 hb4
  clear y0 y1 ly hb3 KT
  obtain ⟨y0, y1⟩ := (Box2.on LAY.out hb4).cells
  have ly := (Box2.on LAY.out hb4).lt
  go_wp2_with fail
  refine (KR.out _ hb4).mono ?_
  rintro _ w5 ⟨r2, rfl, A2, hb5⟩
  have A3 := A3.on hb5
  have hb5 := below_on hb4 hb5
  have lay5 := Box2.on LAY.out hb5
  have FIN := below_on BEL.out hb5
  clear y0 y1 ly hb4 KR LAY BEL hb5
  obtain ⟨_, _, ⟨ar3, cr3, er3, _⟩, _⟩ := id A3
  subst er3
  obtain ⟨_, _, _, ⟨ar2, cr2, er2, _⟩, _⟩ := id A2
  subst er2
  go_wp2
  go_loopw [43] (fun i wr => ∃ k : Nat, k ≤ m ∧ i = .int .i64 k ∧ Below w5.heap.size w5 wr) (fun i _ => m - (intOf i).toNat)
  case atStart => exact ⟨0, Nat.zero_le _, rfl, Below.refl _ _⟩
  case round =>
    obtain ⟨k, hk, rfl, hb⟩ := hrel
    by_cases hlt : k < m
    · have hi1 : (k : Int) < (m : Int) := by omega
      obtain ⟨y0, y1⟩ := (lay5.on hb).cells
      have ly := (lay5.on hb).lt
      obtain ⟨g2, k2, v1, v2, lo2, hi2, e2, d0, d1, d2, d3, sS, sB⟩ := dnAt (A2.on hb) hlt
      cases e2
      obtain ⟨g3, k3, u3, lo3, hi3, e3, q3, z3⟩ := rwAt2 (A3.on hb) hlt
      cases e3
      obtain ⟨as1, cs1, es1, _⟩ := id sS
      subst es1
      obtain ⟨ab1, cb1, eb1, _⟩ := id sB
      subst eb1
      obtain ⟨C, eC⟩ : ∃ C, runC (S : Int) n F T P k = C := ⟨_, rfl⟩
      rw [eC] at d0
      obtain ⟨U, eU⟩ : ∃ U, wr.alloc (.cells #[.int .i64 C, .bool true, .slice as1 S cs1, .slice ab1 n cb1] 41) = U := ⟨_, rfl⟩
      have bU : Below wr.heap.size wr U := by rw [← eU]; exact (by repeat (first | exact Below.refl _ _ | assumption | refine below_alloc ?_ _ | refine Below.setCell ?_ (by first | omega | (simp; done) | (simp; omega)) _ | refine Below.alloc ?_ (by first | omega | (simp; done) | (simp; omega)) _ | refine Below.drew ?_))
      have HB : Hid (Below w5.heap.size w5 wr) := hb
      have BU : Hid (Below wr.heap.size wr U) := bU
      have Z3 : Hid (SlF U 3 1 lo3 hi3 u3 S (rowV (trZ (S : Int) n F T P (k + 1)))) := z3.on bU
      have SS : Hid (SlF U 43 5 lo2 hi2 (.slice as1 S cs1) S (secs (runX (S : Int) n F T P (k + 1)))) := sS.on bU
      have Q3 : Hid (U.cell? ⟨g3, k, none⟩ = some u3) := (bU.cell (World.block_lt_of_cell? _ _ q3)).trans q3
      have EU : Hid _ := eU
      clear sB z3 sS hb eU bU q3 eC
      go_wp2
      rw [EU.out]
      clear y0 y1 ly d0 d1 d2 d3
      go_loopw [59] (fun i wx => ∃ s : Nat, s ≤ S ∧ i = .int .i64 s ∧ Below U.heap.size U wx) (fun i _ => S - (intOf i).toNat)
      case atStart => exact ⟨0, Nat.zero_le _, rfl, Below.refl _ _⟩
      case round =>
        rename World => wx
        obtain ⟨s, hs, rfl, hbx⟩ := hrel
        by_cases hls : s < S
        · have hi2 : (s : Int) < (S : Int) := by omega
          obtain ⟨gs, cs, es, t0, t1, t2, t3, t4⟩ := seAt (SlF.on SS.out hbx) hls
          cases es
          obtain ⟨gc, cc, ec, rc⟩ := rowAt2 (SlF.on Z3.out hbx) hls
          have qc := (hbx.cell (p := ⟨g3, k, none⟩) (World.block_lt_of_cell? _ _ Q3.out)).trans Q3.out
          rw [ec] at qc
          have fr := FR.out k hlt s hls
          obtain ⟨x, ex⟩ : ∃ x, runX (S : Int) n F T P (k + 1) s = x := ⟨_, rfl⟩
          obtain ⟨z, ez⟩ : ∃ z, trZ (S : Int) n F T P (k + 1) s = z := ⟨_, rfl⟩
          rw [ex] at t0 t1 t2 t3 t4 fr
          rw [ez] at rc fr
          have l1 := World.block_lt_of_cell? _ _ qc
          have l2 := World.block_lt_of_cell? _ _ rc
          clear ex ez ec
          obtain ⟨xt, xc, xl, xs, xa⟩ := x
          simp only at t0 t1 t2 t3 t4 fr
          have HX : Hid (Below U.heap.size U (wx.alloc (.cells #[.int .i64 xt, .int .i64 xc, .bool xl, .bool xs, .int .i64 xa] 43))) := below_alloc hbx _
          clear hbx
          by_cases hx0 : xt = 0
          · subst hx0
            obtain rfl : z = 0 := fr rfl
            clear fr
            go_wp2
            go_roundw
            case rel => exact ⟨s + 1, by omega, by go_num, HX.out⟩
            case measure => simp [intOf] <;> omega
          · have hx1 : (xt == 0) = false := by simp [hx0]
            clear fr
            go_wp2
            go_roundw
            case rel => exact ⟨s + 1, by omega, by go_num, HX.out⟩
            case measure => simp [intOf] <;> omega
        · have hss : s = S := by omega
          subst hss
          go_wp2
          go_roundw
          case rel => exact ⟨k + 1, by omega, by go_num, below_on (below_on HB.out BU.out) hbx⟩
          case measure => simp [intOf] <;> omega
    · have hkm : k = m := by omega
      subst hkm
      go_wp2
      go_ret
      exact ⟨rfl, below_on FIN hb⟩

end Go.Proofs.YtlpopfhaephfaaaDoor

namespace Go.Proofs.YtlpopfhaephfaaaDoor
open Go.RowKit

theorem ev_true : EvC true := events_true
theorem drawn_true (m cap : Nat) (ao : Option Addr) (C : Nat → Int) (w : World) (hc : Cod w w.heap.size ao m C) (hm : m ≤ maxLen) :
    Calls Tryd.prog 6 #[.slice ao m cap, .bool true] w fun e w' => ∃ g u, e = .returned (.tuple #[.agg #[.int .i64 (drS C m : Int), .slice (gA g) (drL C m).length (gC g)], u]) ∧ DrP w w' C m true g u := drawn_of ev_true m cap ao C w hc hm

end Go.Proofs.YtlpopfhaephfaaaDoor

namespace Go.Proofs.YtlpopfhaephfaaaDoor
open Go.ChangeShapes Go.WideShapes Go.ChangeAt Go.RowKit Go.Joins

theorem Tryd.ownD : ownKnob Tryd.prog.godebug = none := by kernel_rfl
theorem Tryd.laidD : laidOutB Tryd.prog = true := by kernel_rfl
theorem Tryd.cellsU8 : Tryd.prog.cellsOf 5 = 1 := by kernel_rfl

theorem u8_wf {n : Int} (h : (Lit.int .u8 n).wf = true) : 0 ≤ n ∧ n < 256 := by
  unfold Lit.wf at h
  simp only [Bool.and_eq_true, decide_eq_true_eq] at h
  have h1 : IntKind.u8.min = 0 := by decide
  have h2 : IntKind.u8.max = 255 := by decide
  rw [h1, h2] at h
  omega

theorem cod_of_trod {H : Type} {enc : TypeId × Value → H} {W : World} {base : Nat} {spare : Nat → Bool} {held : Bool} {fuel : Nat} {c : Value} {x : DataW H × List MemPlace} (h : DataW.trod enc Tryd.prog W base spare held fuel 22 [c] = some x) :
    ∃ (ao : Option Addr) (n cap : Nat) (C : Nat → Int), c = .slice ao n cap ∧ n ≤ maxLen ∧ Cod W W.heap.size ao n C := by
  rcases open_ints Tryd.underlying22 Tryd.underlying5 Tryd.cellsU8 h with ⟨hc, _⟩ | ⟨a, len, cap, zs, hc, _, hl, hm, hz, _, hcell, hwf⟩
  · simp only [List.cons.injEq, and_true] at hc
    exact ⟨none, 0, 0, fun _ => 0, hc, Nat.zero_le _, .inl rfl⟩
  · simp only [List.cons.injEq, and_true] at hc
    refine ⟨some a, len, cap, fun i => zs.getD i 0, hc, Nat.le_trans hl hm, ?_⟩
    have hlz : len ≤ zs.length := by rw [hz]; split <;> omega
    rcases Nat.eq_zero_or_pos len with h0 | h0
    · exact .inl h0
    · right
      obtain ⟨b, off, spot⟩ := a
      have hs : spot = none := by simpa [Addr.add] using World.cell?_spot (hcell 0 (by omega))
      subst hs
      refine ⟨b, off, rfl, ?_, fun i hi => ⟨?_, ?_⟩⟩
      · have := World.block_lt_of_cell? W _ (hcell 0 (by omega))
        simpa [Addr.add] using this
      · have := hcell i (by omega)
        have e : (⟨b, off, none⟩ : Addr).add i = ⟨b, off + i, none⟩ := by simp [Addr.add]
        rw [e] at this
        exact this
      · have hi' : i < zs.length := by omega
        have e : zs.getD i 0 = zs[i] := by rw [List.getD_eq_getElem?_getD, List.getElem?_eq_getElem hi']; rfl
        show 0 ≤ zs.getD i 0 ∧ zs.getD i 0 < 256
        rw [e]
        exact u8_wf (hwf _ (List.getElem_mem hi'))

theorem cod_of {H : Type} {enc : TypeId × Value → H} {W : World} {base : Nat} {spare : Nat → Bool} {held : Bool} {ao : Option Addr} {n cap : Nat} {d : DataW H} {p : List MemPlace} (h : DataW.Trod enc Tryd.prog W base spare held 22 (.slice ao n cap) d p) :
    n ≤ maxLen ∧ ∃ C, Cod W W.heap.size ao n C := by
  obtain ⟨fuel, hf⟩ := h
  obtain ⟨ao', n', cap', C, e, hm, hc⟩ := cod_of_trod (c := .slice ao n cap) hf
  simp only [Value.slice.injEq] at e
  obtain ⟨rfl, rfl, rfl⟩ := e
  exact ⟨hm, C, hc⟩

end Go.Proofs.YtlpopfhaephfaaaDoor

namespace Go.Proofs.YtlpopfhaephfaaaDoor
open Go.ChangeShapes Go.WideShapes Go.ChangeAt Go.RowKit Go.Joins

theorem Tryd.gE0 : Tryd.prog.globalNamed "loop.example/treadle/impl.errNoRun" = some 0 := by kernel_rfl
theorem Tryd.gE1 : Tryd.prog.globalNamed "loop.example/treadle/impl.errNoEvent" = some 1 := by kernel_rfl
theorem Tryd.gE2 : Tryd.prog.globalNamed "loop.example/treadle/impl.errSomebody" = some 2 := by kernel_rfl
theorem Tryd.gE3 : Tryd.prog.globalNamed "loop.example/treadle/impl.errBelow" = some 3 := by kernel_rfl
theorem Tryd.gT0 : (Tryd.prog.globals[0]?).map (·.type) = some 65 := by kernel_rfl
theorem Tryd.gT1 : (Tryd.prog.globals[1]?).map (·.type) = some 65 := by kernel_rfl
theorem Tryd.gT2 : (Tryd.prog.globals[2]?).map (·.type) = some 65 := by kernel_rfl
theorem Tryd.gT3 : (Tryd.prog.globals[3]?).map (·.type) = some 65 := by kernel_rfl
theorem Tryd.esCells : Tryd.prog.cellsOf 180 = 1 := by kernel_rfl
theorem Tryd.stCells : Tryd.prog.cellsOf 9 = 1 := by kernel_rfl
theorem esStar : "*" ++ "errors.errorString" = "*errors.errorString" := by decide
theorem Tryd.esRow (u : TypeId) (h : Tryd.prog.typeName? 3 u = some "*errors.errorString") : u = 155 :=
  typeName_ptr_named (nm := "errors.errorString") (by rw [esStar]; kernel_rfl) (by kernel_rfl) (by decide) u (by rw [esStar]; exact h)

/-- the fourA errors' addresses -/
def fourA (a0 a1 a2 a3 : Addr) : Nat → Addr
  | 0 => a0
  | 1 => a1
  | 2 => a2
  | _ => a3

set_option maxRecDepth 100000 in
theorem snt_of_laid {W : World} (h : laidMet Tryd.prog [("loop.example/treadle/impl.errNoRun", Rows.laid_loop_example_treadle_impl_errNoRun), ("loop.example/treadle/impl.errNoEvent", Rows.laid_loop_example_treadle_impl_errNoEvent), ("loop.example/treadle/impl.errSomebody", Rows.laid_loop_example_treadle_impl_errSomebody), ("loop.example/treadle/impl.errBelow", Rows.laid_loop_example_treadle_impl_errBelow)] W) :
    ∃ a0 a1 a2 a3 : Addr, W.var? Tryd.prog "loop.example/treadle/impl.errNoRun" = some #[.iface 155 (.pointer (some a0))] ∧ W.var? Tryd.prog "loop.example/treadle/impl.errNoEvent" = some #[.iface 155 (.pointer (some a1))] ∧
      W.var? Tryd.prog "loop.example/treadle/impl.errSomebody" = some #[.iface 155 (.pointer (some a2))] ∧ W.var? Tryd.prog "loop.example/treadle/impl.errBelow" = some #[.iface 155 (.pointer (some a3))] ∧ Snt W (fourA a0 a1 a2 a3) := by
  obtain ⟨ps, ⟨g0, t0, cs0, f0, p0, q0, hg0, ht0, hv0, hd0, ⟨g1, t1, cs1, f1, p1, q1, hg1, ht1, hv1, hd1, ⟨g2, t2, cs2, f2, p2, q2, hg2, ht2, hv2, hd2, ⟨g3, t3, cs3, f3, p3, q3, hg3, ht3, hv3, hd3, hq3, e3⟩, e2⟩, e1⟩, e0⟩, hnd, hrows⟩ := h
  obtain rfl := Option.some.inj (Tryd.gE0.symm.trans hg0)
  obtain rfl := Option.some.inj (Tryd.gE1.symm.trans hg1)
  obtain rfl := Option.some.inj (Tryd.gE2.symm.trans hg2)
  obtain rfl := Option.some.inj (Tryd.gE3.symm.trans hg3)
  obtain rfl := Option.some.inj (Tryd.gT0.symm.trans ht0)
  obtain rfl := Option.some.inj (Tryd.gT1.symm.trans ht1)
  obtain rfl := Option.some.inj (Tryd.gT2.symm.trans ht2)
  obtain rfl := Option.some.inj (Tryd.gT3.symm.trans ht3)
  have hq3' : q3 = [] := hq3
  subst hq3'
  subst e3
  subst e2
  subst e1
  subst e0
  obtain ⟨l0⟩ := cs0
  obtain ⟨l1⟩ := cs1
  obtain ⟨l2⟩ := cs2
  obtain ⟨l3⟩ := cs3
  have ok0 : ∀ u v, l0 = [.iface u v] → Value.okWide Tryd.prog W .any 0 u v := fun u v e => by
    subst e
    exact (hrows 0 0 (by simp [MemPlace.row])).2 u v (by simpa using World.var?_cell hg0 hv0 0)
  have ok1 : ∀ u v, l1 = [.iface u v] → Value.okWide Tryd.prog W .any 0 u v := fun u v e => by
    subst e
    exact (hrows 1 0 (by simp [MemPlace.row])).2 u v (by simpa using World.var?_cell hg1 hv1 0)
  have ok2 : ∀ u v, l2 = [.iface u v] → Value.okWide Tryd.prog W .any 0 u v := fun u v e => by
    subst e
    exact (hrows 2 0 (by simp [MemPlace.row])).2 u v (by simpa using World.var?_cell hg2 hv2 0)
  have ok3 : ∀ u v, l3 = [.iface u v] → Value.okWide Tryd.prog W .any 0 u v := fun u v e => by
    subst e
    exact (hrows 3 0 (by simp [MemPlace.row])).2 u v (by simpa using World.var?_cell hg3 hv3 0)
  obtain ⟨a0, s0, rfl, hc0, hs0, hz0, rfl⟩ := errorString_of_trod Tryd.underlying65 Tryd.esRow Tryd.underlying155 Tryd.underlying180 rfl rfl Tryd.underlying9 Tryd.esCells Tryd.stCells hd0 ok0
  obtain ⟨a1, s1, rfl, hc1, hs1, hz1, rfl⟩ := errorString_of_trod Tryd.underlying65 Tryd.esRow Tryd.underlying155 Tryd.underlying180 rfl rfl Tryd.underlying9 Tryd.esCells Tryd.stCells hd1 ok1
  obtain ⟨a2, s2, rfl, hc2, hs2, hz2, rfl⟩ := errorString_of_trod Tryd.underlying65 Tryd.esRow Tryd.underlying155 Tryd.underlying180 rfl rfl Tryd.underlying9 Tryd.esCells Tryd.stCells hd2 ok2
  obtain ⟨a3, s3, rfl, hc3, hs3, hz3, rfl⟩ := errorString_of_trod Tryd.underlying65 Tryd.esRow Tryd.underlying155 Tryd.underlying180 rfl rfl Tryd.underlying9 Tryd.esCells Tryd.stCells hd3 ok3
  have b0 := (hrows a0.block a0.off (by simp [MemPlace.row])).1
  have b1 := (hrows a1.block a1.off (by simp [MemPlace.row])).1
  have b2 := (hrows a2.block a2.off (by simp [MemPlace.row])).1
  have b3 := (hrows a3.block a3.off (by simp [MemPlace.row])).1
  have c0 : W.cell? ⟨0, 0, none⟩ = some (.iface 155 (.pointer (some a0))) := by simpa using World.var?_cell hg0 hv0 0
  have c1 : W.cell? ⟨1, 0, none⟩ = some (.iface 155 (.pointer (some a1))) := by simpa using World.var?_cell hg1 hv1 0
  have c2 : W.cell? ⟨2, 0, none⟩ = some (.iface 155 (.pointer (some a2))) := by simpa using World.var?_cell hg2 hv2 0
  have c3 : W.cell? ⟨3, 0, none⟩ = some (.iface 155 (.pointer (some a3))) := by simpa using World.var?_cell hg3 hv3 0
  have n01 : a0 ≠ a1 := by rintro rfl; simp [MemPlace.row] at hnd
  have n02 : a0 ≠ a2 := by rintro rfl; simp [MemPlace.row] at hnd
  have n03 : a0 ≠ a3 := by rintro rfl; simp [MemPlace.row] at hnd
  have n12 : a1 ≠ a2 := by rintro rfl; simp [MemPlace.row] at hnd
  have n13 : a1 ≠ a3 := by rintro rfl; simp [MemPlace.row] at hnd
  have n23 : a2 ≠ a3 := by rintro rfl; simp [MemPlace.row] at hnd
  refine ⟨a0, a1, a2, a3, hv0, hv1, hv2, hv3, ⟨fun i hi => ?_, fun i hi => ?_, fun i j hi hj hij => ?_⟩⟩
  · match i, hi with
    | 0, _ => exact c0
    | 1, _ => exact c1
    | 2, _ => exact c2
    | 3, _ => exact c3
  · match i, hi with
    | 0, _ => exact b0
    | 1, _ => exact b1
    | 2, _ => exact b2
    | 3, _ => exact b3
  · match i, hi, j, hj, hij with
    | 0, _, 1, _, _ => exact n01
    | 0, _, 2, _, _ => exact n02
    | 0, _, 3, _, _ => exact n03
    | 1, _, 0, _, _ => exact n01.symm
    | 1, _, 2, _, _ => exact n12
    | 1, _, 3, _, _ => exact n13
    | 2, _, 0, _, _ => exact n02.symm
    | 2, _, 1, _, _ => exact n12.symm
    | 2, _, 3, _, _ => exact n23
    | 3, _, 0, _, _ => exact n03.symm
    | 3, _, 1, _, _ => exact n13.symm
    | 3, _, 2, _, _ => exact n23.symm
    | 0, _, 0, _, h => exact absurd rfl h
    | 1, _, 1, _, h => exact absurd rfl h
    | 2, _, 2, _, h => exact absurd rfl h
    | 3, _, 3, _, h => exact absurd rfl h

theorem vars_read4 {H : Type} (enc : TypeId × Value → H) {W : World} {x0 x1 x2 x3 : Value} (h0 : W.var? Tryd.prog "loop.example/treadle/impl.errNoRun" = some #[x0]) (h1 : W.var? Tryd.prog "loop.example/treadle/impl.errNoEvent" = some #[x1]) (h2 : W.var? Tryd.prog "loop.example/treadle/impl.errSomebody" = some #[x2]) (h3 : W.var? Tryd.prog "loop.example/treadle/impl.errBelow" = some #[x3]) (i0 : IsIface x0) (i1 : IsIface x1) (i2 : IsIface x2) (i3 : IsIface x3) (sp : Nat → Bool) :
    DataW.TrodVars enc Tryd.prog W sp ["loop.example/treadle/impl.errNoRun", "loop.example/treadle/impl.errNoEvent", "loop.example/treadle/impl.errSomebody", "loop.example/treadle/impl.errBelow"] [tok enc x0, tok enc x1, tok enc x2, tok enc x3] [.cell 0 0, .cell 1 0, .cell 2 0, .cell 3 0] :=
  ⟨0, 65, #[x0], 1, [], [.cell 1 0, .cell 2 0, .cell 3 0], Tryd.gE0, Tryd.gT0, h0, trod_held Tryd.underlying65 i0 0, ⟨1, 65, #[x1], 1, [], [.cell 2 0, .cell 3 0], Tryd.gE1, Tryd.gT1, h1, trod_held Tryd.underlying65 i1 0, ⟨2, 65, #[x2], 1, [], [.cell 3 0], Tryd.gE2, Tryd.gT2, h2, trod_held Tryd.underlying65 i2 0, ⟨3, 65, #[x3], 1, [], [], Tryd.gE3, Tryd.gT3, h3, trod_held Tryd.underlying65 i3 0, rfl, rfl⟩, rfl⟩, rfl⟩, rfl⟩

/-- a world in which the fourA errors are laid -/
def laidW (P : Program) (os : Os) : World :=
  let k := (World.holding P default ⟨#[], #[], []⟩).heap.size
  let w0 := World.holding P os ⟨#[.cells #[.string { data := #[116, 104, 101, 32, 108, 97, 121, 111, 117, 116, 32, 105, 115, 32, 110, 111, 116, 32, 114, 105, 103, 104, 116, 44, 32, 111, 114, 32, 116, 104, 101, 32, 101, 118, 101, 110, 116, 115, 32, 97, 114, 101, 32, 116, 111, 111, 32, 109, 97, 110, 121] }] 180, .cells #[.string { data := #[97, 110, 32, 101, 118, 101, 110, 116, 32, 105, 115, 32, 110, 111, 110, 101] }] 180, .cells #[.string { data := #[97, 32, 115, 101, 99, 116, 105, 111, 110, 32, 105, 115, 32, 114, 101, 115, 101, 116, 32, 119, 105, 116, 104, 32, 115, 111, 109, 101, 98, 111, 100, 121, 32, 105, 110, 32, 105, 116] }] 180, .cells #[.string { data := #[102, 101, 119, 101, 114, 32, 116, 104, 97, 110, 32, 110, 111, 98, 111, 100, 121, 32, 97, 114, 101, 32, 105, 110, 32, 97, 32, 115, 101, 99, 116, 105, 111, 110] }] 180], #[], []⟩
  { w0 with heap := (((w0.heap.modify 0 fun
      | .cells _ t frozen => .cells #[.iface 155 (.pointer (some ⟨k, 0, none⟩))] t frozen
      | o => o).modify 1 fun
      | .cells _ t frozen => .cells #[.iface 155 (.pointer (some ⟨k + 1, 0, none⟩))] t frozen
      | o => o).modify 2 fun
      | .cells _ t frozen => .cells #[.iface 155 (.pointer (some ⟨k + 2, 0, none⟩))] t frozen
      | o => o).modify 3 fun
      | .cells _ t frozen => .cells #[.iface 155 (.pointer (some ⟨k + 3, 0, none⟩))] t frozen
      | o => o }
theorem laidW_met (os : Os) (args : Array Value) : laidMet Tryd.prog [("loop.example/treadle/impl.errNoRun", Rows.laid_loop_example_treadle_impl_errNoRun), ("loop.example/treadle/impl.errNoEvent", Rows.laid_loop_example_treadle_impl_errNoEvent), ("loop.example/treadle/impl.errSomebody", Rows.laid_loop_example_treadle_impl_errSomebody), ("loop.example/treadle/impl.errBelow", Rows.laid_loop_example_treadle_impl_errBelow)] ((laidW Tryd.prog os).forCall (fun _ _ => 0) ⟨#[], args, []⟩).memory :=
  laidMet_of_run (ps := [.cell 0 0, .cell (World.holding Tryd.prog default ⟨#[], #[], []⟩).heap.size 0, .cell 1 0, .cell ((World.holding Tryd.prog default ⟨#[], #[], []⟩).heap.size + 1) 0, .cell 2 0, .cell ((World.holding Tryd.prog default ⟨#[], #[], []⟩).heap.size + 2) 0, .cell 3 0, .cell ((World.holding Tryd.prog default ⟨#[], #[], []⟩).heap.size + 3) 0]) 8 (by kernel_rfl) (by kernel_rfl) (by kernel_rfl)

end Go.Proofs.YtlpopfhaephfaaaDoor

namespace Go.Proofs.YtlpopfhaephfaaaDoor
open Go.ChangeShapes Go.WideShapes Go.ChangeAt Go.RowKit Go.Joins

set_option maxRecDepth 100000 in
theorem fnSafe_great (m1 c1 : Nat) (a1 : Option Addr) (w : World) (h1 : 1048576 < m1) :
    Calls Tryd.prog 3 #[.slice a1 m1 c1] w fun e w' => e = .returned (.bool true) ∧ Below w.heap.size w w' := by
  have i1 : (1048576 : Int) < m1 := by omega
  go_enter Tryd.func3, Tryd.ntmps3
  go_wp2
  go_ret
  exact ⟨rfl, Below.refl _ _⟩

theorem fnSafe_all (a : Nat → Addr) (m1 c1 : Nat) (a1 : Option Addr) (C1 : Nat → Int) (w : World) (ha : Snt w a) (h1 : Cod w w.heap.size a1 m1 C1) :
    Calls Tryd.prog 3 #[.slice a1 m1 c1] w fun e w' => e = .returned (.bool true) ∧ Below w.heap.size w w' := by
  by_cases h : 1048576 < m1
  · exact fnSafe_great m1 c1 a1 w h
  · exact safe_small ev_true a m1 c1 a1 C1 w ha h1 (by omega)

set_option maxRecDepth 100000 in
theorem fnSafe_lifted (os : Os) (started : os.Started) (H : Type) (enc : TypeId × Value → H) :
    ReturnsInHanded {} Tryd.checked os 3 .any (fun w args => (Rows.fnSafeSpec.pre enc Tryd.prog Tryd.f3 [] false w args ∧ laidMet Tryd.prog Rows.fnSafeRow.laid w) ∧ sizedMet enc Tryd.prog Tryd.f3 (OpenSpec.ofChange Rows.fnSafeSpec) false w args)
      (Rows.fnSafeSpec.post enc Tryd.prog Tryd.f3 false true false false) := by
  refine returnsInHanded_of_change_and (C := Tryd.checked) (X := fun w _ => laidMet Tryd.prog Rows.fnSafeRow.laid w) (fun _ _ _ hh h => h.of_heap hh) Tryd.ownD started (by kernel_rfl) Tryd.func3
    (ChangeSpec.witness_at (enc := enc) (C := Tryd.checked) (os := os) (X := fun w _ => laidMet Tryd.prog Rows.fnSafeRow.laid w) false (laidW Tryd.prog os) #[.slice none 0 0] 8 rfl (by kernel_rfl) (by kernel_rfl) (by kernel_rfl) (by kernel_rfl) (by kernel_rfl) (laidW_met os _)) ?_
  intro W base args ds gs before hval0 hW _ _ hL _
  have hval : ∀ (j : Nat) t v, Tryd.f3.params[j]? = some t → args[j]? = some v → Value.okWide Tryd.prog W .any base t v := hval0
  have hW' := hW
  obtain ⟨p, q, hA0, hV0, rfl, hfz, hnd⟩ := hW
  have hA : DataW.TrodAll enc Tryd.prog W 0 (fun _ => true) true Tryd.f3.params.toList args.toList ds p := hA0
  have hV : DataW.TrodVars enc Tryd.prog W (fun _ => true) ["loop.example/treadle/impl.errNoRun", "loop.example/treadle/impl.errNoEvent", "loop.example/treadle/impl.errSomebody", "loop.example/treadle/impl.errBelow"] gs q := hV0
  rw [Tryd.params3] at hA hval
  obtain ⟨v0, d0, rfl, rfl, h0⟩ := trodAll_one hA
  obtain ⟨a0, a1, a2, a3, x0, x1, x2, x3, hS⟩ := snt_of_laid hL
  obtain ⟨rfl, rfl⟩ := hV.unique (vars_read4 enc x0 x1 x2 x3 trivial trivial trivial trivial _)
  have hl0 : ∀ x ∈ p, x.block < W.heap.size := fun x hx => by simpa using hW'.lt x (by simp [hx])
  obtain ⟨ao, m1, c1, rfl⟩ := okWide_slice Tryd.underlying22 (hval 0 22 v0 rfl rfl)
  obtain ⟨_, C1, hc1⟩ := cod_of h0
  clear hA0 hval0 hV0
  refine (fnSafe_all _ m1 c1 ao C1 W hS hc1).mono fun e W' ⟨he, hb⟩ => ?_
  subst he
  have lt : ∀ i, i < 4 → i < W.heap.size := fun i hi => World.block_lt_of_cell? W _ (hS.cell i hi)
  refine ⟨_, rfl, _, _, _, [], p, [.cell 0 0, .cell 1 0, .cell 2 0, .cell 3 0], hW', ?_, ?_, ?_, hb.frame _, fun h => by cases h⟩
  · exact trodAll_mk1 (shut_bool Tryd.underlying4 true)
  · exact trodAll_mk1 (Below.trod Tryd.laidD (by kernel_rfl) (of_decide_eq_true (by kernel_rfl)) h0 hb hl0)
  · exact vars_read4 enc (var?_below hb Tryd.gE0 (lt 0 (by omega)) x0) (var?_below hb Tryd.gE1 (lt 1 (by omega)) x1) (var?_below hb Tryd.gE2 (lt 2 (by omega)) x2) (var?_below hb Tryd.gE3 (lt 3 (by omega)) x3) trivial trivial trivial trivial _

theorem fnSafe_row : Rows.FnSafeSaid :=
  OpenClaim.holds_of_wide 3 Tryd.f3 rfl rfl rfl rfl rfl rfl rfl ⟨rfl, rfl, rfl, rfl, rfl⟩ rfl rfl rfl rfl rfl (by kernel_rfl) Tryd.func3 (by kernel_rfl)
    (of_decide_eq_true (by kernel_rfl)) (by unfold Func.isWrapper; first | (rw [if_pos (by decide +kernel)]; kernel_rfl) | (rw [if_neg (by decide +kernel)]; exact ⟨rfl, rfl⟩))
    (fun os started H enc _ => fnSafe_lifted os started H enc)

theorem fnSafe_holds : Rows.FnSafeCardSaid :=
  Claim7.holds_tied_plain_at .later [] [.sentinel, .sentinel, .sentinel, .sentinel] true (true, "5e9e66964d3763e6ce57c902b8ad56f32d3ae6dd48d88a5b4502855b4b325035") true
    fnSafe_row (fun _ h => by cases h) (by kernel_rfl) (fun _ h => by cases h) fnSafe_row_tie rfl ⟨rfl, rfl⟩ (by kernel_rfl) rfl
    (fun f fn hf hfn => by
      obtain rfl : f = 3 := Option.some.inj ((show Tryd.prog.funcNamed "loop.example/treadle/laws.FnSafe" = some 3 by kernel_rfl).symm.trans hf) |>.symm
      obtain rfl : fn = Tryd.f3 := (Option.some.inj (Tryd.func3.symm.trans hfn)).symm
      exact ⟨by kernel_rfl, fun j t ht => by
        rw [Tryd.params3] at ht
        match j with
        | 0 =>
          have h3 : t = 22 := by simpa using ht.symm
          subst h3
          exact (show Tryd.prog.wantsStandIn 22 = false by kernel_rfl)
        | j + 1 => simp at ht⟩)
    (by kernel_rfl)

#print axioms fnSafe_holds

end Go.Proofs.YtlpopfhaephfaaaDoor
