import Derived.Test.YtlpopfhaephfaaaGreatDoorCR
import Derived.Test.YtlpopfhaephfaaaGreatDoorOW
import Derived.Test.YtlpopfhaephfaaaGreatDoorW2
import Derived.Test.YtlpopfhaephfaaaGreatDoorEV1
namespace Go.Proofs.YtlpopfhaephfaaaGreatDoor
open Go.RowKit

/-- where a cursor stands, and its seed -/
structure Cu where
  pos : Nat
  sd : Int

/-- the seed behind a byte, or behind the end -/
def sdA (s b : Int) : Int := IntKind.u64.wrap (IntKind.u64.wrap (IntKind.u64.wrap (s * 6364136223846793005) + b) + 1442695040888963407)
def sdB (s : Int) : Int := IntKind.u64.wrap (IntKind.u64.wrap (s * 6364136223846793005) + 1442695040888963407)
/-- the byte that a seed gives -/
def sdV (s : Int) : Int := (s / 1099511627776) % 256

def nxV (C : Nat → Int) (m : Nat) (c : Cu) : Int := if c.pos < m then C c.pos else sdV (sdB c.sd)
def nxC (C : Nat → Int) (m : Nat) (c : Cu) : Cu := ⟨c.pos + 1, if c.pos < m then sdA c.sd (C c.pos) else sdB c.sd⟩
def pkV (C : Nat → Int) (m : Nat) (c : Cu) (n : Int) : Int := if n ≤ 1 then 0 else nxV C m c % n
def pkC (C : Nat → Int) (m : Nat) (c : Cu) (n : Int) : Cu := if n ≤ 1 then c else nxC C m c

theorem pk_range (C : Nat → Int) (m : Nat) (c : Cu) (n : Int) : 0 ≤ pkV C m c n ∧ (1 ≤ n → pkV C m c n < n) := by
  unfold pkV
  split
  · exact ⟨Int.le_refl _, fun h => by omega⟩
  · exact ⟨Int.emod_nonneg _ (by omega), fun _ => Int.emod_lt_of_pos _ (by omega)⟩
theorem pk_pos (C : Nat → Int) (m : Nat) (c : Cu) (n : Int) : (pkC C m c n).pos ≤ c.pos + 1 := by
  unfold pkC nxC
  split <;> simp

/-- the counters of a row of sections; the counters more -/
def lyA (C : Nat → Int) (m : Nat) (S : Int) (c : Cu) : Nat → Cu × List (Int × Int)
  | 0 => (c, [])
  | i + 1 => (pkC C m (lyA C m S c i).1 12, (lyA C m S c i).2 ++ (if 0 < pkV C m (lyA C m S c i).1 12 then [((i : Int) - 1, if (i : Int) = S then -1 else (i : Int))] else []))
def lyB (C : Nat → Int) (m : Nat) (S : Int) (r : Cu × List (Int × Int)) : Nat → Cu × List (Int × Int)
  | 0 => r
  | k + 1 => (pkC C m (pkC C m (lyB C m S r k).1 (S + 1)) (S + 1), (lyB C m S r k).2 ++ (if pkV C m (lyB C m S r k).1 (S + 1) - 1 = pkV C m (pkC C m (lyB C m S r k).1 (S + 1)) (S + 1) - 1 then [] else [(pkV C m (lyB C m S r k).1 (S + 1) - 1, pkV C m (pkC C m (lyB C m S r k).1 (S + 1)) (S + 1) - 1)]))

def goodL (S : Int) (l : List (Int × Int)) : Prop := ∀ p ∈ l, badB S p.1 p.2 = false
theorem goodL.app {S : Int} {l l' : List (Int × Int)} (h : goodL S l) (h' : goodL S l') : goodL S (l ++ l') := fun p hp => (List.mem_append.1 hp).elim (h p) (h' p)

theorem lyA_facts (C : Nat → Int) (m : Nat) (S : Int) (c : Cu) (i : Nat) (hi : (i : Int) ≤ S + 1) (hS : 1 ≤ S) : (lyA C m S c i).1.pos ≤ c.pos + i ∧ (lyA C m S c i).2.length ≤ i ∧ goodL S (lyA C m S c i).2 := by
  induction i with
  | zero => exact ⟨Nat.le_refl _, Nat.le_refl _, fun p hp => by cases hp⟩
  | succ i ih =>
    obtain ⟨h1, h2, h3⟩ := ih (by omega)
    have h4 := pk_pos C m (lyA C m S c i).1 12
    refine ⟨by simp only [lyA]; omega, ?_, ?_⟩
    · simp only [lyA, List.length_append]
      split <;> simp <;> omega
    · simp only [lyA]
      refine h3.app ?_
      split
      · intro p hp
        simp only [List.mem_singleton] at hp
        subst hp
        split
        · exact bad_not _ _ _ (by omega) (by omega) (by omega) (by omega) (by omega)
        · exact bad_not _ _ _ (by omega) (by omega) (by omega) (by omega) (by omega)
      · intro p hp; cases hp

theorem lyB_facts (C : Nat → Int) (m : Nat) (S : Int) (r : Cu × List (Int × Int)) (k : Nat) (hS : 1 ≤ S) (hr : goodL S r.2) : (lyB C m S r k).1.pos ≤ r.1.pos + 2 * k ∧ (lyB C m S r k).2.length ≤ r.2.length + k ∧ goodL S (lyB C m S r k).2 := by
  induction k with
  | zero => exact ⟨Nat.le_refl _, Nat.le_refl _, hr⟩
  | succ k ih =>
    obtain ⟨h1, h2, h3⟩ := ih
    have h4 := pk_pos C m (lyB C m S r k).1 (S + 1)
    have h5 := pk_pos C m (pkC C m (lyB C m S r k).1 (S + 1)) (S + 1)
    have h6 := pk_range C m (lyB C m S r k).1 (S + 1)
    have h7 := pk_range C m (pkC C m (lyB C m S r k).1 (S + 1)) (S + 1)
    have h8 := h6.2 (by omega)
    have h9 := h7.2 (by omega)
    refine ⟨by simp only [lyB]; omega, ?_, ?_⟩
    · simp only [lyB, List.length_append]
      split <;> simp <;> omega
    · simp only [lyB]
      refine h3.app ?_
      split
      · intro p hp; cases hp
      · intro p hp
        simp only [List.mem_singleton] at hp
        subst hp
        exact bad_not _ _ _ (by omega) (by omega) (by omega) (by omega) (by assumption)

/-- the drawn layout: its sections, its counters, and the cursor behind it -/
def lyS (C : Nat → Int) (m : Nat) (c : Cu) : Nat := (1 + pkV C m c 5).toNat
def lyR (C : Nat → Int) (m : Nat) (c : Cu) : Cu × List (Int × Int) := lyA C m (lyS C m c : Int) (pkC C m c 5) (lyS C m c + 1)
def lyZ (C : Nat → Int) (m : Nat) (c : Cu) : Cu × List (Int × Int) := lyB C m (lyS C m c : Int) (pkC C m (lyR C m c).1 3, (lyR C m c).2) (pkV C m (lyR C m c).1 3).toNat
theorem lyS_range (C : Nat → Int) (m : Nat) (c : Cu) : (lyS C m c : Int) = 1 + pkV C m c 5 ∧ 1 ≤ lyS C m c ∧ lyS C m c ≤ 5 := by
  have h := pk_range C m c 5
  have h2 := h.2 (by omega)
  unfold lyS
  omega
theorem lyR_facts (C : Nat → Int) (m : Nat) (c : Cu) : (lyR C m c).1.pos ≤ c.pos + 7 ∧ (lyR C m c).2.length ≤ 6 ∧ goodL (lyS C m c : Int) (lyR C m c).2 := by
  obtain ⟨h1, h2, h3⟩ := lyS_range C m c
  obtain ⟨a, b, d⟩ := lyA_facts C m (lyS C m c : Int) (pkC C m c 5) (lyS C m c + 1) (by omega) (by omega)
  have e := pk_pos C m c 5
  unfold lyR
  exact ⟨by omega, by omega, d⟩
theorem lyZ_facts (C : Nat → Int) (m : Nat) (c : Cu) : (lyZ C m c).1.pos ≤ c.pos + 12 ∧ (lyZ C m c).2.length ≤ 8 ∧ goodL (lyS C m c : Int) (lyZ C m c).2 := by
  obtain ⟨h1, h2, h3⟩ := lyS_range C m c
  obtain ⟨a, b, d⟩ := lyR_facts C m c
  have e := pk_pos C m (lyR C m c).1 3
  have f := pk_range C m (lyR C m c).1 3
  have f2 := f.2 (by omega)
  obtain ⟨a', b', d'⟩ := lyB_facts C m (lyS C m c : Int) (pkC C m (lyR C m c).1 3, (lyR C m c).2) (pkV C m (lyR C m c).1 3).toNat (by omega) d
  unfold lyZ
  simp only at a' b' d' ⊢
  exact ⟨by omega, by omega, d'⟩

theorem good_at {S : Int} {l : List (Int × Int)} (h : goodL S l) {i : Nat} (hi : i < l.length) : badB S (fstF l i) (sndF l i) = false := by
  have := h _ (List.getElem_mem hi)
  unfold fstF sndF
  rw [List.getD_eq_getElem?_getD, List.getElem?_eq_getElem hi]
  exact this
theorem ly_ok (C : Nat → Int) (m : Nat) (c : Cu) : lokZ (lyS C m c : Int) (lyZ C m c).2.length (fstF (lyZ C m c).2) (sndF (lyZ C m c).2) = 0 := by
  obtain ⟨h1, h2, h3⟩ := lyS_range C m c
  obtain ⟨a, b, d⟩ := lyZ_facts C m c
  exact lokZ_zero (by omega) (fun i hi => good_at d hi)

/-- what happens, so far -/
structure Es where
  cu : Cu
  out : List (Int × Int × Int)
  th : Int → Int
  dead : Int

def thSt (th : Int → Int) (fr to : Int) (s : Int) : Int :=
  (if s = fr ∧ 0 ≤ fr then th s - 1 else th s) + (if s = to ∧ 0 ≤ to then 1 else 0)

def esReset (C : Nat → Int) (m : Nat) (S : Int) (hon : Bool) (e : Es) (c : Cu) : Es :=
  if e.th (pkV C m c S) = 0 then ⟨pkC C m c S, e.out ++ [(5, pkV C m c S, 0)], e.th, e.dead⟩
  else if hon then ⟨pkC C m c S, e.out, e.th, e.dead⟩
  else if pkV C m (pkC C m c S) 4 = 0 then ⟨pkC C m (pkC C m c S) 4, e.out ++ [(5, pkV C m c S, 0)], e.th, e.dead⟩
  else ⟨pkC C m (pkC C m c S) 4, e.out, e.th, e.dead⟩
def esFr (F T : Nat → Int) (k d : Int) : Int := if d < 0 then T k.toNat else F k.toNat
def esTo (F T : Nat → Int) (k d : Int) : Int := if d < 0 then F k.toNat else T k.toNat
def esPass (C : Nat → Int) (m : Nat) (F T : Nat → Int) (hon : Bool) (e : Es) (k d : Int) (c : Cu) : Es :=
  if esFr F T k d < 0 ∨ 0 < e.th (esFr F T k d) then ⟨c, e.out ++ [(1, k, d)], thSt e.th (esFr F T k d) (esTo F T k d), e.dead⟩
  else if hon then ⟨c, e.out, e.th, e.dead⟩
  else if pkV C m c 8 = 0 then ⟨pkC C m c 8, e.out ++ [(1, k, d)], thSt e.th (esFr F T k d) (esTo F T k d), e.dead⟩
  else ⟨pkC C m c 8, e.out, e.th, e.dead⟩
def esAct (C : Nat → Int) (m : Nat) (S : Int) (F T : Nat → Int) (hon : Bool) (e : Es) (k t : Int) (c : Cu) : Es :=
  if t = 0 then ⟨pkC C m c 2, e.out ++ [(2, k, 1 - 2 * pkV C m c 2)], e.th, e.dead⟩
  else if t = 1 then ⟨c, e.out ++ [(3, k, 0)], e.th, k⟩
  else if t = 2 ∨ t = 3 then ⟨c, e.out ++ [(4, if 0 ≤ e.dead then e.dead else k, 0)], e.th, -1⟩
  else if t = 4 ∨ t = 5 ∨ t = 6 then esReset C m S hon e c
  else esPass C m F T hon e k (1 - 2 * pkV C m c 2) (pkC C m c 2)
def esStep (C : Nat → Int) (m : Nat) (S : Int) (n : Nat) (F T : Nat → Int) (hon : Bool) (e : Es) : Es :=
  esAct C m S F T hon e (pkV C m e.cu n) (pkV C m (pkC C m e.cu n) 16) (pkC C m (pkC C m e.cu n) 16)
def esRun (C : Nat → Int) (m : Nat) (S : Int) (n : Nat) (F T : Nat → Int) (hon : Bool) (c : Cu) : Nat → Es
  | 0 => ⟨c, [], fun _ => 0, -1⟩
  | k + 1 => esStep C m S n F T hon (esRun C m S n F T hon c k)

/-- what a round keeps -/
structure EsOk (S : Int) (n : Nat) (p k : Nat) (e : Es) : Prop where
  pos : e.cu.pos ≤ p + 5 * k
  len : e.out.length ≤ k
  th : ∀ s, -(k : Int) ≤ e.th s ∧ e.th s ≤ k
  dead : -1 ≤ e.dead ∧ e.dead < n
  ev : ∀ x ∈ e.out, evB S n x.1 x.2.1 x.2.2 = true

theorem ev_snoc {S : Int} {n : Nat} {l : List (Int × Int × Int)} (h : ∀ x ∈ l, evB S n x.1 x.2.1 x.2.2 = true) {a b d : Int} (h' : evB S n a b d = true) : ∀ x ∈ l ++ [(a, b, d)], evB S n x.1 x.2.1 x.2.2 = true := by
  intro x hx
  rcases List.mem_append.1 hx with h1 | h1
  · exact h x h1
  · simp only [List.mem_singleton] at h1; subst h1; exact h'

theorem ev_pass {S : Int} {n : Nat} {op k q : Int} (h : op = 1 ∨ op = 2) (h1 : 0 ≤ k) (h2 : k < n) (h3 : 0 ≤ q) (h4 : q < 2) : evB S n op k (1 - 2 * q) = true := by
  unfold evB
  rw [if_pos h]
  simp only [decide_eq_true_eq]
  omega
theorem ev_dead {S : Int} {n : Nat} {op k : Int} (h : op = 3 ∨ op = 4) (h1 : 0 ≤ k) (h2 : k < n) : evB S n op k 0 = true := by
  unfold evB
  rw [if_neg (by omega), if_pos h]
  exact decide_eq_true ⟨h1, h2, rfl⟩
theorem ev_reset {S : Int} {n : Nat} {k : Int} (h1 : 0 ≤ k) (h2 : k < S) : evB S n 5 k 0 = true := by
  unfold evB
  rw [if_neg (by omega), if_neg (by omega), if_pos rfl]
  exact decide_eq_true ⟨h1, h2, rfl⟩
theorem thSt_range {th : Int → Int} {k : Nat} (h : ∀ s, -(k : Int) ≤ th s ∧ th s ≤ k) (fr to s : Int) : -((k + 1 : Nat) : Int) ≤ thSt th fr to s ∧ thSt th fr to s ≤ ((k + 1 : Nat) : Int) := by
  have := h s
  unfold thSt
  split <;> split <;> omega

theorem EsOk.more {S : Int} {n p k : Nat} {e : Es} (h : EsOk S n p k e) (c : Cu) (hc : c.pos ≤ p + 5 * (k + 1)) : EsOk S n p (k + 1) ⟨c, e.out, e.th, e.dead⟩ :=
  ⟨hc, Nat.le_succ_of_le h.len, fun s => by have := h.th s; simp only; omega, h.dead, h.ev⟩
theorem EsOk.snoc {S : Int} {n p k : Nat} {e : Es} (h : EsOk S n p k e) (c : Cu) (hc : c.pos ≤ p + 5 * (k + 1)) {a b d dd : Int} {th : Int → Int} (hth : ∀ s, -((k + 1 : Nat) : Int) ≤ th s ∧ th s ≤ ((k + 1 : Nat) : Int)) (hd : -1 ≤ dd ∧ dd < n) (h' : evB S n a b d = true) : EsOk S n p (k + 1) ⟨c, e.out ++ [(a, b, d)], th, dd⟩ :=
  ⟨hc, by simp only [List.length_append, List.length_singleton]; have := h.len; omega, hth, hd, ev_snoc h.ev h'⟩

theorem esStep_ok (C : Nat → Int) (m : Nat) {S : Int} {n p k : Nat} (F T : Nat → Int) (hon : Bool) {e : Es} (h : EsOk S n p k e) (hS : 1 ≤ S) (hn : 0 < n) : EsOk S n p (k + 1) (esStep C m S n F T hon e) := by
  have a1 := pk_range C m e.cu n
  have a2 := a1.2 (by omega)
  have b1 := pk_pos C m e.cu n
  have b2 := pk_pos C m (pkC C m e.cu n) 16
  have hp := h.pos
  have hth : ∀ s, -((k + 1 : Nat) : Int) ≤ e.th s ∧ e.th s ≤ ((k + 1 : Nat) : Int) := fun s => by have := h.th s; omega
  have hdd := h.dead
  unfold esStep
  obtain ⟨K, eK⟩ : ∃ K, pkV C m e.cu n = K := ⟨_, rfl⟩
  obtain ⟨c, ec⟩ : ∃ c, pkC C m (pkC C m e.cu n) 16 = c := ⟨_, rfl⟩
  obtain ⟨t, et⟩ : ∃ t, pkV C m (pkC C m e.cu n) 16 = t := ⟨_, rfl⟩
  rw [eK, ec, et]
  rw [eK] at a1 a2
  rw [ec] at b2
  have c1 := pk_range C m c 2
  have c2 := c1.2 (by omega)
  have d1 := pk_pos C m c 2
  unfold esAct
  split
  · exact h.snoc _ (by omega) hth hdd (ev_pass (.inr rfl) a1.1 a2 c1.1 c2)
  split
  · exact h.snoc _ (by omega) hth ⟨by omega, by omega⟩ (ev_dead (.inl rfl) a1.1 a2)
  split
  · refine h.snoc _ (by omega) hth ⟨by omega, by omega⟩ ?_
    split
    · exact ev_dead (.inr rfl) (by assumption) hdd.2
    · exact ev_dead (.inr rfl) a1.1 a2
  split
  · have f1 := pk_range C m c S
    have f2 := f1.2 hS
    have f3 := pk_pos C m c S
    have f4 := pk_pos C m (pkC C m c S) 4
    unfold esReset
    split
    · exact h.snoc _ (by omega) hth hdd (ev_reset f1.1 f2)
    split
    · exact h.more _ (by omega)
    split
    · exact h.snoc _ (by omega) hth hdd (ev_reset f1.1 f2)
    · exact h.more _ (by omega)
  · have f4 := pk_pos C m (pkC C m c 2) 8
    unfold esPass
    split
    · exact h.snoc _ (by omega) (thSt_range h.th _ _) hdd (ev_pass (.inl rfl) a1.1 a2 c1.1 c2)
    split
    · exact h.more _ (by omega)
    split
    · exact h.snoc _ (by omega) (thSt_range h.th _ _) hdd (ev_pass (.inl rfl) a1.1 a2 c1.1 c2)
    · exact h.more _ (by omega)

theorem esRun_ok (C : Nat → Int) (m : Nat) {S : Int} {n : Nat} (F T : Nat → Int) (hon : Bool) (c : Cu) (hS : 1 ≤ S) (hn : 0 < n) (k : Nat) : EsOk S n c.pos k (esRun C m S n F T hon c k) := by
  induction k with
  | zero => exact ⟨Nat.le_refl _, Nat.le_refl _, fun s => by simp [esRun], by simp only [esRun]; omega, fun x hx => by cases hx⟩
  | succ k ih => exact esStep_ok C m F T hon ih hS hn

/-- the events of a right layout that a cursor draws -/
def evL (C : Nat → Int) (m : Nat) (S : Int) (n : Nat) (F T : Nat → Int) (hon : Bool) (c : Cu) : List (Int × Int × Int) :=
  if n = 0 then (if 0 < pkV C m c 30 then [(5, pkV C m (pkC C m c 30) S, 0)] else [])
  else (esRun C m S n F T hon (pkC C m c 30) (pkV C m c 30).toNat).out
theorem evL_facts (C : Nat → Int) (m : Nat) {S : Int} {n : Nat} (F T : Nat → Int) (hon : Bool) (c : Cu) (hS : 1 ≤ S) : (evL C m S n F T hon c).length ≤ 29 ∧ ∀ x ∈ evL C m S n F T hon c, evB S n x.1 x.2.1 x.2.2 = true := by
  have a1 := pk_range C m c 30
  have a2 := a1.2 (by omega)
  unfold evL
  split
  · split
    · have b1 := pk_range C m (pkC C m c 30) S
      refine ⟨by simp, fun x hx => ?_⟩
      simp only [List.mem_singleton] at hx
      subst hx
      exact ev_reset b1.1 (b1.2 hS)
    · exact ⟨by simp, fun x hx => by cases hx⟩
  · have h := esRun_ok C m F T hon (pkC C m c 30) hS (show 0 < n by omega) (pkV C m c 30).toNat
    exact ⟨Nat.le_trans h.len (by omega), h.ev⟩

end Go.Proofs.YtlpopfhaephfaaaGreatDoor
