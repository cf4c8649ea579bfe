import Derived.Test.YtlpopfhaephfaaaDoorCR
import Derived.Test.YtlpopfhaephfaaaDoorOW
import Derived.Test.YtlpopfhaephfaaaDoorW2
import Derived.Test.YtlpopfhaephfaaaDoorEV1
import Derived.BigQuiet
import Derived.WalkSmall
import Derived.Deep.QuietTactic
namespace Go.Proofs.YtlpopfhaephfaaaDoor
open Go.RowKit

/-- where a cursor stands, and its seed -/
structure Cu where
  pos : Nat
  sd : Int

/-- the seed behind a byte, or behind the end -/
def sdA (s b : Int) : Int := IntKind.u64.wrap (IntKind.u64.wrap (IntKind.u64.wrap (s * 6364136223846793005) + b) + 1442695040888963407)
def sdB (s : Int) : Int := IntKind.u64.wrap (IntKind.u64.wrap (s * 6364136223846793005) + 1442695040888963407)
/-- the byte that a seed gives -/
def sdV (s : Int) : Int := (s / 1099511627776) % 256

def nxV (C : Nat → Int) (m : Nat) (c : Cu) : Int := if c.pos < m then C c.pos else sdV (sdB c.sd)
def nxC (C : Nat → Int) (m : Nat) (c : Cu) : Cu := ⟨c.pos + 1, if c.pos < m then sdA c.sd (C c.pos) else sdB c.sd⟩
def pkV (C : Nat → Int) (m : Nat) (c : Cu) (n : Int) : Int := if n ≤ 1 then 0 else nxV C m c % n
def pkC (C : Nat → Int) (m : Nat) (c : Cu) (n : Int) : Cu := if n ≤ 1 then c else nxC C m c

theorem pk_range (C : Nat → Int) (m : Nat) (c : Cu) (n : Int) : 0 ≤ pkV C m c n ∧ (1 ≤ n → pkV C m c n < n) := by
  unfold pkV
  split
  · exact ⟨Int.le_refl _, fun h => by omega⟩
  · exact ⟨Int.emod_nonneg _ (by omega), fun _ => Int.emod_lt_of_pos _ (by omega)⟩
theorem pk_pos (C : Nat → Int) (m : Nat) (c : Cu) (n : Int) : (pkC C m c n).pos ≤ c.pos + 1 := by
  unfold pkC nxC
  split <;> simp

/-- the counters of a row of sections; the counters more -/
def lyA (C : Nat → Int) (m : Nat) (S : Int) (c : Cu) : Nat → Cu × List (Int × Int)
  | 0 => (c, [])
  | i + 1 => (pkC C m (lyA C m S c i).1 12, (lyA C m S c i).2 ++ (if 0 < pkV C m (lyA C m S c i).1 12 then [((i : Int) - 1, if (i : Int) = S then -1 else (i : Int))] else []))
def lyB (C : Nat → Int) (m : Nat) (S : Int) (r : Cu × List (Int × Int)) : Nat → Cu × List (Int × Int)
  | 0 => r
  | k + 1 => (pkC C m (pkC C m (lyB C m S r k).1 (S + 1)) (S + 1), (lyB C m S r k).2 ++ (if pkV C m (lyB C m S r k).1 (S + 1) - 1 = pkV C m (pkC C m (lyB C m S r k).1 (S + 1)) (S + 1) - 1 then [] else [(pkV C m (lyB C m S r k).1 (S + 1) - 1, pkV C m (pkC C m (lyB C m S r k).1 (S + 1)) (S + 1) - 1)]))

def goodL (S : Int) (l : List (Int × Int)) : Prop := ∀ p ∈ l, badB S p.1 p.2 = false
theorem goodL.app {S : Int} {l l' : List (Int × Int)} (h : goodL S l) (h' : goodL S l') : goodL S (l ++ l') := fun p hp => (List.mem_append.1 hp).elim (h p) (h' p)

theorem lyA_facts (C : Nat → Int) (m : Nat) (S : Int) (c : Cu) (i : Nat) (hi : (i : Int) ≤ S + 1) (hS : 1 ≤ S) : (lyA C m S c i).1.pos ≤ c.pos + i ∧ (lyA C m S c i).2.length ≤ i ∧ goodL S (lyA C m S c i).2 := by
  induction i with
  | zero => exact ⟨Nat.le_refl _, Nat.le_refl _, fun p hp => by cases hp⟩
  | succ i ih =>
    obtain ⟨h1, h2, h3⟩ := ih (by omega)
    have h4 := pk_pos C m (lyA C m S c i).1 12
    refine ⟨by simp only [lyA]; omega, ?_, ?_⟩
    · simp only [lyA, List.length_append]
      split <;> simp <;> omega
    · simp only [lyA]
      refine h3.app ?_
      split
      · intro p hp
        simp only [List.mem_singleton] at hp
        subst hp
        split
        · exact bad_not _ _ _ (by omega) (by omega) (by omega) (by omega) (by omega)
        · exact bad_not _ _ _ (by omega) (by omega) (by omega) (by omega) (by omega)
      · intro p hp; cases hp

theorem lyB_facts (C : Nat → Int) (m : Nat) (S : Int) (r : Cu × List (Int × Int)) (k : Nat) (hS : 1 ≤ S) (hr : goodL S r.2) : (lyB C m S r k).1.pos ≤ r.1.pos + 2 * k ∧ (lyB C m S r k).2.length ≤ r.2.length + k ∧ goodL S (lyB C m S r k).2 := by
  induction k with
  | zero => exact ⟨Nat.le_refl _, Nat.le_refl _, hr⟩
  | succ k ih =>
    obtain ⟨h1, h2, h3⟩ := ih
    have h4 := pk_pos C m (lyB C m S r k).1 (S + 1)
    have h5 := pk_pos C m (pkC C m (lyB C m S r k).1 (S + 1)) (S + 1)
    have h6 := pk_range C m (lyB C m S r k).1 (S + 1)
    have h7 := pk_range C m (pkC C m (lyB C m S r k).1 (S + 1)) (S + 1)
    have h8 := h6.2 (by omega)
    have h9 := h7.2 (by omega)
    refine ⟨by simp only [lyB]; omega, ?_, ?_⟩
    · simp only [lyB, List.length_append]
      split <;> simp <;> omega
    · simp only [lyB]
      refine h3.app ?_
      split
      · intro p hp; cases hp
      · intro p hp
        simp only [List.mem_singleton] at hp
        subst hp
        exact bad_not _ _ _ (by omega) (by omega) (by omega) (by omega) (by assumption)

/-- the drawn layout: its sections, its counters, and the cursor behind it -/
def lyS (C : Nat → Int) (m : Nat) (c : Cu) : Nat := (1 + pkV C m c 5).toNat
def lyR (C : Nat → Int) (m : Nat) (c : Cu) : Cu × List (Int × Int) := lyA C m (lyS C m c : Int) (pkC C m c 5) (lyS C m c + 1)
def lyZ (C : Nat → Int) (m : Nat) (c : Cu) : Cu × List (Int × Int) := lyB C m (lyS C m c : Int) (pkC C m (lyR C m c).1 3, (lyR C m c).2) (pkV C m (lyR C m c).1 3).toNat
theorem lyS_range (C : Nat → Int) (m : Nat) (c : Cu) : (lyS C m c : Int) = 1 + pkV C m c 5 ∧ 1 ≤ lyS C m c ∧ lyS C m c ≤ 5 := by
  have h := pk_range C m c 5
  have h2 := h.2 (by omega)
  unfold lyS
  omega
theorem lyR_facts (C : Nat → Int) (m : Nat) (c : Cu) : (lyR C m c).1.pos ≤ c.pos + 7 ∧ (lyR C m c).2.length ≤ 6 ∧ goodL (lyS C m c : Int) (lyR C m c).2 := by
  obtain ⟨h1, h2, h3⟩ := lyS_range C m c
  obtain ⟨a, b, d⟩ := lyA_facts C m (lyS C m c : Int) (pkC C m c 5) (lyS C m c + 1) (by omega) (by omega)
  have e := pk_pos C m c 5
  unfold lyR
  exact ⟨by omega, by omega, d⟩
theorem lyZ_facts (C : Nat → Int) (m : Nat) (c : Cu) : (lyZ C m c).1.pos ≤ c.pos + 12 ∧ (lyZ C m c).2.length ≤ 8 ∧ goodL (lyS C m c : Int) (lyZ C m c).2 := by
  obtain ⟨h1, h2, h3⟩ := lyS_range C m c
  obtain ⟨a, b, d⟩ := lyR_facts C m c
  have e := pk_pos C m (lyR C m c).1 3
  have f := pk_range C m (lyR C m c).1 3
  have f2 := f.2 (by omega)
  obtain ⟨a', b', d'⟩ := lyB_facts C m (lyS C m c : Int) (pkC C m (lyR C m c).1 3, (lyR C m c).2) (pkV C m (lyR C m c).1 3).toNat (by omega) d
  unfold lyZ
  simp only at a' b' d' ⊢
  exact ⟨by omega, by omega, d'⟩

theorem good_at {S : Int} {l : List (Int × Int)} (h : goodL S l) {i : Nat} (hi : i < l.length) : badB S (fstF l i) (sndF l i) = false := by
  have := h _ (List.getElem_mem hi)
  unfold fstF sndF
  rw [List.getD_eq_getElem?_getD, List.getElem?_eq_getElem hi]
  exact this
theorem ly_ok (C : Nat → Int) (m : Nat) (c : Cu) : lokZ (lyS C m c : Int) (lyZ C m c).2.length (fstF (lyZ C m c).2) (sndF (lyZ C m c).2) = 0 := by
  obtain ⟨h1, h2, h3⟩ := lyS_range C m c
  obtain ⟨a, b, d⟩ := lyZ_facts C m c
  exact lokZ_zero (by omega) (fun i hi => good_at d hi)

/-- what happens, so far -/
structure Es where
  cu : Cu
  out : List (Int × Int × Int)
  th : Int → Int
  dead : Int

def thSt (th : Int → Int) (fr to : Int) (s : Int) : Int :=
  (if s = fr ∧ 0 ≤ fr then th s - 1 else th s) + (if s = to ∧ 0 ≤ to then 1 else 0)

def esReset (C : Nat → Int) (m : Nat) (S : Int) (hon : Bool) (e : Es) (c : Cu) : Es :=
  if e.th (pkV C m c S) = 0 then ⟨pkC C m c S, e.out ++ [(5, pkV C m c S, 0)], e.th, e.dead⟩
  else if hon then ⟨pkC C m c S, e.out, e.th, e.dead⟩
  else if pkV C m (pkC C m c S) 4 = 0 then ⟨pkC C m (pkC C m c S) 4, e.out ++ [(5, pkV C m c S, 0)], e.th, e.dead⟩
  else ⟨pkC C m (pkC C m c S) 4, e.out, e.th, e.dead⟩
def esFr (F T : Nat → Int) (k d : Int) : Int := if d < 0 then T k.toNat else F k.toNat
def esTo (F T : Nat → Int) (k d : Int) : Int := if d < 0 then F k.toNat else T k.toNat
def esPass (C : Nat → Int) (m : Nat) (F T : Nat → Int) (hon : Bool) (e : Es) (k d : Int) (c : Cu) : Es :=
  if esFr F T k d < 0 ∨ 0 < e.th (esFr F T k d) then ⟨c, e.out ++ [(1, k, d)], thSt e.th (esFr F T k d) (esTo F T k d), e.dead⟩
  else if hon then ⟨c, e.out, e.th, e.dead⟩
  else if pkV C m c 8 = 0 then ⟨pkC C m c 8, e.out ++ [(1, k, d)], thSt e.th (esFr F T k d) (esTo F T k d), e.dead⟩
  else ⟨pkC C m c 8, e.out, e.th, e.dead⟩
def esAct (C : Nat → Int) (m : Nat) (S : Int) (F T : Nat → Int) (hon : Bool) (e : Es) (k t : Int) (c : Cu) : Es :=
  if t = 0 then ⟨pkC C m c 2, e.out ++ [(2, k, 1 - 2 * pkV C m c 2)], e.th, e.dead⟩
  else if t = 1 then ⟨c, e.out ++ [(3, k, 0)], e.th, k⟩
  else if t = 2 ∨ t = 3 then ⟨c, e.out ++ [(4, if 0 ≤ e.dead then e.dead else k, 0)], e.th, -1⟩
  else if t = 4 ∨ t = 5 ∨ t = 6 then esReset C m S hon e c
  else esPass C m F T hon e k (1 - 2 * pkV C m c 2) (pkC C m c 2)
def esStep (C : Nat → Int) (m : Nat) (S : Int) (n : Nat) (F T : Nat → Int) (hon : Bool) (e : Es) : Es :=
  esAct C m S F T hon e (pkV C m e.cu n) (pkV C m (pkC C m e.cu n) 16) (pkC C m (pkC C m e.cu n) 16)
def esRun (C : Nat → Int) (m : Nat) (S : Int) (n : Nat) (F T : Nat → Int) (hon : Bool) (c : Cu) : Nat → Es
  | 0 => ⟨c, [], fun _ => 0, -1⟩
  | k + 1 => esStep C m S n F T hon (esRun C m S n F T hon c k)

/-- what a round keeps -/
structure EsOk (S : Int) (n : Nat) (p k : Nat) (e : Es) : Prop where
  pos : e.cu.pos ≤ p + 5 * k
  len : e.out.length ≤ k
  th : ∀ s, -(k : Int) ≤ e.th s ∧ e.th s ≤ k
  dead : -1 ≤ e.dead ∧ e.dead < n
  ev : ∀ x ∈ e.out, evB S n x.1 x.2.1 x.2.2 = true

theorem ev_snoc {S : Int} {n : Nat} {l : List (Int × Int × Int)} (h : ∀ x ∈ l, evB S n x.1 x.2.1 x.2.2 = true) {a b d : Int} (h' : evB S n a b d = true) : ∀ x ∈ l ++ [(a, b, d)], evB S n x.1 x.2.1 x.2.2 = true := by
  intro x hx
  rcases List.mem_append.1 hx with h1 | h1
  · exact h x h1
  · simp only [List.mem_singleton] at h1; subst h1; exact h'

theorem ev_pass {S : Int} {n : Nat} {op k q : Int} (h : op = 1 ∨ op = 2) (h1 : 0 ≤ k) (h2 : k < n) (h3 : 0 ≤ q) (h4 : q < 2) : evB S n op k (1 - 2 * q) = true := by
  unfold evB
  rw [if_pos h]
  simp only [decide_eq_true_eq]
  omega
theorem ev_dead {S : Int} {n : Nat} {op k : Int} (h : op = 3 ∨ op = 4) (h1 : 0 ≤ k) (h2 : k < n) : evB S n op k 0 = true := by
  unfold evB
  rw [if_neg (by omega), if_pos h]
  exact decide_eq_true ⟨h1, h2, rfl⟩
theorem ev_reset {S : Int} {n : Nat} {k : Int} (h1 : 0 ≤ k) (h2 : k < S) : evB S n 5 k 0 = true := by
  unfold evB
  rw [if_neg (by omega), if_neg (by omega), if_pos rfl]
  exact decide_eq_true ⟨h1, h2, rfl⟩
theorem thSt_range {th : Int → Int} {k : Nat} (h : ∀ s, -(k : Int) ≤ th s ∧ th s ≤ k) (fr to s : Int) : -((k + 1 : Nat) : Int) ≤ thSt th fr to s ∧ thSt th fr to s ≤ ((k + 1 : Nat) : Int) := by
  have := h s
  unfold thSt
  split <;> split <;> omega

theorem EsOk.more {S : Int} {n p k : Nat} {e : Es} (h : EsOk S n p k e) (c : Cu) (hc : c.pos ≤ p + 5 * (k + 1)) : EsOk S n p (k + 1) ⟨c, e.out, e.th, e.dead⟩ :=
  ⟨hc, Nat.le_succ_of_le h.len, fun s => by have := h.th s; simp only; omega, h.dead, h.ev⟩
theorem EsOk.snoc {S : Int} {n p k : Nat} {e : Es} (h : EsOk S n p k e) (c : Cu) (hc : c.pos ≤ p + 5 * (k + 1)) {a b d dd : Int} {th : Int → Int} (hth : ∀ s, -((k + 1 : Nat) : Int) ≤ th s ∧ th s ≤ ((k + 1 : Nat) : Int)) (hd : -1 ≤ dd ∧ dd < n) (h' : evB S n a b d = true) : EsOk S n p (k + 1) ⟨c, e.out ++ [(a, b, d)], th, dd⟩ :=
  ⟨hc, by simp only [List.length_append, List.length_singleton]; have := h.len; omega, hth, hd, ev_snoc h.ev h'⟩

theorem esStep_ok (C : Nat → Int) (m : Nat) {S : Int} {n p k : Nat} (F T : Nat → Int) (hon : Bool) {e : Es} (h : EsOk S n p k e) (hS : 1 ≤ S) (hn : 0 < n) : EsOk S n p (k + 1) (esStep C m S n F T hon e) := by
  have a1 := pk_range C m e.cu n
  have a2 := a1.2 (by omega)
  have b1 := pk_pos C m e.cu n
  have b2 := pk_pos C m (pkC C m e.cu n) 16
  have hp := h.pos
  have hth : ∀ s, -((k + 1 : Nat) : Int) ≤ e.th s ∧ e.th s ≤ ((k + 1 : Nat) : Int) := fun s => by have := h.th s; omega
  have hdd := h.dead
  unfold esStep
  obtain ⟨K, eK⟩ : ∃ K, pkV C m e.cu n = K := ⟨_, rfl⟩
  obtain ⟨c, ec⟩ : ∃ c, pkC C m (pkC C m e.cu n) 16 = c := ⟨_, rfl⟩
  obtain ⟨t, et⟩ : ∃ t, pkV C m (pkC C m e.cu n) 16 = t := ⟨_, rfl⟩
  rw [eK, ec, et]
  rw [eK] at a1 a2
  rw [ec] at b2
  have c1 := pk_range C m c 2
  have c2 := c1.2 (by omega)
  have d1 := pk_pos C m c 2
  unfold esAct
  split
  · exact h.snoc _ (by omega) hth hdd (ev_pass (.inr rfl) a1.1 a2 c1.1 c2)
  split
  · exact h.snoc _ (by omega) hth ⟨by omega, by omega⟩ (ev_dead (.inl rfl) a1.1 a2)
  split
  · refine h.snoc _ (by omega) hth ⟨by omega, by omega⟩ ?_
    split
    · exact ev_dead (.inr rfl) (by assumption) hdd.2
    · exact ev_dead (.inr rfl) a1.1 a2
  split
  · have f1 := pk_range C m c S
    have f2 := f1.2 hS
    have f3 := pk_pos C m c S
    have f4 := pk_pos C m (pkC C m c S) 4
    unfold esReset
    split
    · exact h.snoc _ (by omega) hth hdd (ev_reset f1.1 f2)
    split
    · exact h.more _ (by omega)
    split
    · exact h.snoc _ (by omega) hth hdd (ev_reset f1.1 f2)
    · exact h.more _ (by omega)
  · have f4 := pk_pos C m (pkC C m c 2) 8
    unfold esPass
    split
    · exact h.snoc _ (by omega) (thSt_range h.th _ _) hdd (ev_pass (.inl rfl) a1.1 a2 c1.1 c2)
    split
    · exact h.more _ (by omega)
    split
    · exact h.snoc _ (by omega) (thSt_range h.th _ _) hdd (ev_pass (.inl rfl) a1.1 a2 c1.1 c2)
    · exact h.more _ (by omega)

theorem esRun_ok (C : Nat → Int) (m : Nat) {S : Int} {n : Nat} (F T : Nat → Int) (hon : Bool) (c : Cu) (hS : 1 ≤ S) (hn : 0 < n) (k : Nat) : EsOk S n c.pos k (esRun C m S n F T hon c k) := by
  induction k with
  | zero => exact ⟨Nat.le_refl _, Nat.le_refl _, fun s => by simp [esRun], by simp only [esRun]; omega, fun x hx => by cases hx⟩
  | succ k ih => exact esStep_ok C m F T hon ih hS hn

/-- the events of a right layout that a cursor draws -/
def evL (C : Nat → Int) (m : Nat) (S : Int) (n : Nat) (F T : Nat → Int) (hon : Bool) (c : Cu) : List (Int × Int × Int) :=
  if n = 0 then (if 0 < pkV C m c 30 then [(5, pkV C m (pkC C m c 30) S, 0)] else [])
  else (esRun C m S n F T hon (pkC C m c 30) (pkV C m c 30).toNat).out
theorem evL_facts (C : Nat → Int) (m : Nat) {S : Int} {n : Nat} (F T : Nat → Int) (hon : Bool) (c : Cu) (hS : 1 ≤ S) : (evL C m S n F T hon c).length ≤ 29 ∧ ∀ x ∈ evL C m S n F T hon c, evB S n x.1 x.2.1 x.2.2 = true := by
  have a1 := pk_range C m c 30
  have a2 := a1.2 (by omega)
  unfold evL
  split
  · split
    · have b1 := pk_range C m (pkC C m c 30) S
      refine ⟨by simp, fun x hx => ?_⟩
      simp only [List.mem_singleton] at hx
      subst hx
      exact ev_reset b1.1 (b1.2 hS)
    · exact ⟨by simp, fun x hx => by cases hx⟩
  · have h := esRun_ok C m F T hon (pkC C m c 30) hS (show 0 < n by omega) (pkV C m c 30).toNat
    exact ⟨Nat.le_trans h.len (by omega), h.ev⟩

end Go.Proofs.YtlpopfhaephfaaaDoor

namespace Go.Proofs.YtlpopfhaephfaaaDoor
open Go.RowKit

/-- m bytes of a slice that lies below B -/
def Cod (w : World) (B : Nat) (ao : Option Addr) (m : Nat) (C : Nat → Int) : Prop :=
  m = 0 ∨ ∃ b off, ao = some ⟨b, off, none⟩ ∧ b < B ∧ ∀ i, i < m → w.cell? ⟨b, off + i, none⟩ = some (.int .u8 (C i)) ∧ 0 ≤ C i ∧ C i < 256
theorem Cod.below {w w' : World} {B : Nat} {ao : Option Addr} {m : Nat} {C : Nat → Int} (h : Cod w B ao m C) (hb : Below B w w') : Cod w' B ao m C := by
  rcases h with h | ⟨b, off, h1, h2, h3⟩
  · exact .inl h
  · exact .inr ⟨b, off, h1, h2, fun i hi => ⟨(hb.cell (p := ⟨b, off + i, none⟩) h2).trans (h3 i hi).1, (h3 i hi).2⟩⟩

/-- a cursor at p, over bytes that lie below B -/
def Cur (w : World) (B p : Nat) (ao : Option Addr) (m cap : Nat) (C : Nat → Int) (c : Cu) : Prop :=
  Box3 w p 61 (.slice ao m cap) (.int .i64 c.pos) (.int .u64 c.sd) ∧ Cod w B ao m C ∧ B ≤ p ∧ 0 ≤ c.sd ∧ m ≤ maxLen

section
variable {w w' : World} {B p m cap : Nat} {ao : Option Addr} {C : Nat → Int} {c : Cu}
theorem Cur.lt (h : Cur w B p ao m cap C c) : p < w.heap.size := Blk.lt h.1
theorem Cur.on (h : Cur w B p ao m cap C c) (hb : Below w.heap.size w w') : Cur w' B p ao m cap C c := by
  have h1 := h.lt
  obtain ⟨a, b, d, e, f⟩ := h
  exact ⟨a.on hb, b.below (hb.mono (by omega)), d, e, f⟩
theorem Cur.alloc (h : Cur w B p ao m cap C c) (o : Obj) : Cur (w.alloc o) B p ao m cap C c := h.on (by repeat (first | exact Below.refl _ _ | assumption | refine below_alloc ?_ _ | refine Below.setCell ?_ (by first | omega | (simp; done) | (simp; omega)) _ | refine Below.alloc ?_ (by first | omega | (simp; done) | (simp; omega)) _ | refine Below.drew ?_))
theorem Cur.drew (h : Cur w B p ao m cap C c) : Cur w.drew B p ao m cap C c := h
theorem Cur.turned {E : Nat → Prop} {lo hi : Nat} (h : Cur w B p ao m cap C c) (ht : Turned w w' E lo hi) (hE : ¬ E 61 ∨ p < lo ∨ hi ≤ p) (hl : B ≤ lo) : Cur w' B p ao m cap C c := by
  have h1 := h.lt
  obtain ⟨a, b, d, e, f⟩ := h
  exact ⟨a.turned ht hE, b.below (ht.below hl (by omega)), d, e, f⟩
end

theorem Box3.put1 {w : World} {b e : Nat} {x y z : Value} (h : Box3 w b e x y z) (v : Value) : Box3 (w.setCell ⟨b, 1, none⟩ v) b e x v z :=
  (Blk.set h 1 v).congr fun i hi => by match i, hi with | 0, _ => rfl | 1, _ => rfl | 2, _ => rfl
theorem Box3.put2 {w : World} {b e : Nat} {x y z : Value} (h : Box3 w b e x y z) (v : Value) : Box3 (w.setCell ⟨b, 2, none⟩ v) b e x y v :=
  (Blk.set h 2 v).congr fun i hi => by match i, hi with | 0, _ => rfl | 1, _ => rfl | 2, _ => rfl
theorem Turned.set {w : World} {E : Nat → Prop} {b e m i : Nat} {f : Nat → Value} {lo hi : Nat} (h : Blk w b e m f) (hE : E e) (h1 : lo ≤ b) (h2 : b < hi) (v : Value) : Turned w (w.setCell ⟨b, i, none⟩ v) E lo hi :=
  Turned.of_grown (grown_set (World.grownBy.refl _ _) v) h1 h2 hE h

theorem Turned.more {w w1 w2 : World} {E : Nat → Prop} {lo hi : Nat} (h : Turned w w1 E lo hi) (hb : Below w.heap.size w1 w2) : Turned w w2 E lo hi := by
  refine ⟨hb.os.trans h.os, hb.tape.trans h.tape, hb.output.trans h.output, Nat.le_trans h.size hb.size, fun k hk => ?_⟩
  rw [hb.block k hk]
  exact h.block k hk
theorem Turned.draw {w w1 : World} {E : Nat → Prop} {lo hi : Nat} (h : Turned w w1 E lo hi) : Turned w w1.drew E lo hi := h.trans (Turned.of_below (Below.refl _ _).drew)

theorem wrap_u64_nn (x : Int) : 0 ≤ IntKind.u64.wrap x := by rw [IntKind.wrap_u64]; omega

theorem wrap_u64_lt (x : Int) : IntKind.u64.wrap x ≤ 18446744073709551615 := by rw [IntKind.wrap_u64]; omega
theorem low_byte (s : Int) (h0 : 0 ≤ s) (h1 : s ≤ 18446744073709551615) : wrap64 (bits BinOp.and IntKind.u64 (s / 1099511627776) 255) = sdV s := by
  have h := bits_and_u64_nat (s / 1099511627776).toNat 255 (by omega) (by omega)
  have e1 : (((s / 1099511627776).toNat : Nat) : Int) = s / 1099511627776 := by omega
  rw [e1] at h
  have e2 : ((255 : Nat) : Int) = 255 := rfl
  rw [e2] at h
  rw [h, show (255 : Nat) = 2 ^ 8 - 1 from rfl, Nat.and_two_pow_sub_one_eq_mod]
  unfold sdV wrap64
  omega

set_option maxHeartbeats 1000000 in
theorem next_in (B p m cap b off : Nat) (C : Nat → Int) (c : Cu) (w : World) (h : Cur w B p (some ⟨b, off, none⟩) m cap C c) (hb : b < B) (hp : c.pos < m) (hc : ∀ i, i < m → w.cell? ⟨b, off + i, none⟩ = some (.int .u8 (C i)) ∧ 0 ≤ C i ∧ C i < 256) :
    Calls Tryd.prog 59 #[.pointer (some ⟨p, 0, none⟩)] w fun e w' => e = .returned (.int .i64 (C c.pos)) ∧ Cur w' B p (some ⟨b, off, none⟩) m cap C ⟨c.pos + 1, sdA c.sd (C c.pos)⟩ ∧ Turned w w' (· = 61) p (p + 1) := by
  obtain ⟨k1, k2, k3, k4, k5⟩ := id h
  obtain ⟨c0, c1, c2⟩ := k1.cells
  have f0 := Blk.frozen k1 1
  have f1 := Blk.frozen k1 2
  obtain ⟨d0, d1, d2⟩ := hc _ hp
  have hlt := Blk.lt k1
  have hmm : m ≤ 9223372036854775807 := k5
  have hpi : (c.pos : Int) < m := by omega
  have hbp : ¬ b = p := by omega
  go_enter Tryd.func59, Tryd.ntmps59
  go_wp2
  go_region
  go_wp2
  go_region
  go_wp2
  go_ret
  have j1 : Box3 _ p 61 _ _ _ := (k1.put1 (.int .i64 ((c.pos : Int) + 1))).put2 (.int .u64 (sdA c.sd (C c.pos)))
  have t1 : Turned w _ (· = 61) p (p + 1) := (Turned.set (E := (· = 61)) (i := 1) k1 rfl (Nat.le_refl _) (Nat.lt_succ_self _) (.int .i64 ((c.pos : Int) + 1))).trans (Turned.set (E := (· = 61)) (i := 2) (k1.put1 (.int .i64 ((c.pos : Int) + 1))) rfl (Nat.le_refl _) (Nat.lt_succ_self _) (.int .u64 (sdA c.sd (C c.pos))))
  exact ⟨rfl, ⟨j1, k2.below (t1.draw.draw.below k3 (by omega)), k3, wrap_u64_nn _, k5⟩, t1.draw.draw⟩

set_option maxHeartbeats 1000000 in
theorem next_out (B p m cap : Nat) (ao : Option Addr) (C : Nat → Int) (c : Cu) (w : World) (h : Cur w B p ao m cap C c) (hp : ¬ c.pos < m) (hq : c.pos < 1000000) :
    Calls Tryd.prog 59 #[.pointer (some ⟨p, 0, none⟩)] w fun e w' => e = .returned (.int .i64 (sdV (sdB c.sd))) ∧ Cur w' B p ao m cap C ⟨c.pos + 1, sdB c.sd⟩ ∧ Turned w w' (· = 61) p (p + 1) := by
  obtain ⟨k1, k2, k3, k4, k5⟩ := id h
  obtain ⟨c0, c1, c2⟩ := k1.cells
  have f0 := Blk.frozen k1 1
  have f1 := Blk.frozen k1 2
  have hlt := Blk.lt k1
  have hpi : ¬ (c.pos : Int) < m := by omega
  have hqi : (c.pos : Int) < 1000000 := by omega
  go_enter Tryd.func59, Tryd.ntmps59
  go_wp2
  go_region
  go_wp2
  go_ret
  have j1 : Box3 _ p 61 _ _ _ := (k1.put2 (.int .u64 (sdB c.sd))).put1 (.int .i64 ((c.pos : Int) + 1))
  have t1 : Turned w _ (· = 61) p (p + 1) := (Turned.set (E := (· = 61)) (i := 2) k1 rfl (Nat.le_refl _) (Nat.lt_succ_self _) (.int .u64 (sdB c.sd))).trans (Turned.set (E := (· = 61)) (i := 1) (k1.put2 (.int .u64 (sdB c.sd))) rfl (Nat.le_refl _) (Nat.lt_succ_self _) (.int .i64 ((c.pos : Int) + 1)))
  refine ⟨?_, ⟨j1, k2.below (t1.draw.below k3 (by omega)), k3, wrap_u64_nn _, k5⟩, t1.draw⟩
  rw [show sdV (sdB c.sd) = wrap64 (bits BinOp.and IntKind.u64 (sdB c.sd / 1099511627776) 255) from (low_byte _ (wrap_u64_nn _) (wrap_u64_lt _)).symm]
  rfl

theorem next_any (B p m cap : Nat) (ao : Option Addr) (C : Nat → Int) (c : Cu) (w : World) (h : Cur w B p ao m cap C c) (hq : c.pos < 1000000) :
    Calls Tryd.prog 59 #[.pointer (some ⟨p, 0, none⟩)] w fun e w' => e = .returned (.int .i64 (nxV C m c)) ∧ Cur w' B p ao m cap C (nxC C m c) ∧ Turned w w' (· = 61) p (p + 1) := by
  unfold nxV nxC
  by_cases hp : c.pos < m
  · simp only [hp, if_true]
    rcases h.2.1 with h0 | ⟨b, off, rfl, h2, h3⟩
    · omega
    · exact next_in B p m cap b off C c w h h2 hp h3
  · simp only [hp, if_false]
    exact next_out B p m cap ao C c w h hp hq

theorem sdV_range (s : Int) : 0 ≤ sdV s ∧ sdV s < 256 := by unfold sdV; omega
theorem nxV_range {w : World} {B p m cap : Nat} {ao : Option Addr} {C : Nat → Int} {c : Cu} (h : Cur w B p ao m cap C c) : 0 ≤ nxV C m c ∧ nxV C m c < 256 := by
  unfold nxV
  split
  · rcases h.2.1 with h0 | ⟨b, off, _, _, h3⟩
    · omega
    · exact (h3 _ (by assumption)).2
  · exact sdV_range _

set_option maxHeartbeats 1000000 in
theorem pick_any (B p m cap : Nat) (ao : Option Addr) (C : Nat → Int) (c : Cu) (n : Int) (w : World) (h : Cur w B p ao m cap C c) (hq : c.pos < 1000000) (hn : n ≤ 200) :
    Calls Tryd.prog 38 #[.pointer (some ⟨p, 0, none⟩), .int .i64 n] w fun e w' => e = .returned (.int .i64 (pkV C m c n)) ∧ Cur w' B p ao m cap C (pkC C m c n) ∧ Turned w w' (· = 61) p (p + 1) := by
  unfold pkV pkC
  by_cases h1 : n ≤ 1
  · simp only [h1, if_true]
    go_enter Tryd.func38, Tryd.ntmps38
    go_wp2
    go_ret
    exact ⟨rfl, h, Turned.refl _ _ _ _⟩
  · simp only [h1, if_false]
    obtain ⟨r1, r2⟩ := nxV_range h
    have kc := next_any B p m cap ao C c w h hq
    obtain ⟨v, ev⟩ : ∃ v, nxV C m c = v := ⟨_, rfl⟩
    rw [ev] at r1 r2 kc
    rw [ev]
    have h1' : 1 < n := by omega
    have h2' : ¬ 200 < n := by omega
    go_enter Tryd.func38, Tryd.ntmps38
    go_wp2_with fail
    refine kc.mono ?_
    rintro e w1 ⟨rfl, k1, k2⟩
    go_wp2
    go_ret
    exact ⟨rfl, k1, k2⟩

end Go.Proofs.YtlpopfhaephfaaaDoor

namespace Go.Proofs.YtlpopfhaephfaaaDoor
open Go.RowKit

theorem Tryd.infoCn : (Tryd.prog.info? 74).map (fun i => (i.zero, i.size, i.bytes)) = some (some (.agg #[.int .i64 0, .int .i64 0]), 2, 16) := by kernel_rfl

def Box2 (w : World) (b : Nat) (e : TypeId) (x y : Value) : Prop := Blk w b e 2 (fun i => if i = 0 then x else y)
section
variable {w w' : World} {b e : Nat} {x y : Value}
theorem Box2.cells (h : Box2 w b e x y) : w.cell? ⟨b, 0, none⟩ = some x ∧ w.cell? ⟨b, 1, none⟩ = some y := ⟨Blk.cell h (by omega), Blk.cell h (by omega)⟩
theorem Box2.lt (h : Box2 w b e x y) : b < w.heap.size := Blk.lt h
theorem Box2.frozen (h : Box2 w b e x y) : w.frozen? ⟨b, 0, none⟩ = false ∧ w.frozen? ⟨b, 1, none⟩ = false := ⟨Blk.frozen h 0, Blk.frozen h 1⟩
theorem Box2.on (h : Box2 w b e x y) (hb : Below w.heap.size w w') : Box2 w' b e x y := Blk.on h hb
theorem Box2.alloc (h : Box2 w b e x y) (o : Obj) : Box2 (w.alloc o) b e x y := Blk.alloc h o
theorem Box2.turned {E : Nat → Prop} {lo hi : Nat} (hb : Box2 w b e x y) (h : Turned w w' E lo hi) (hd : ¬ E e ∨ b < lo ∨ hi ≤ b) : Box2 w' b e x y := Blk.turned hb h hd
theorem Box2.lay (w : World) (x y : Value) (e : TypeId) : Box2 (w.alloc (.cells #[x, y] e)) w.heap.size e x y :=
  Blk.new w #[x, y] e _ (fun i hi => by match i, hi with | 0, _ => rfl | 1, _ => rfl)
theorem Box2.set1 (h : Box2 w b e x y) (v : Value) : Box2 (w.setCell ⟨b, 1, none⟩ v) b e x v :=
  (Blk.set h 1 v).congr fun i hi => by match i, hi with | 0, _ => rfl | 1, _ => rfl
theorem Box2.set_other (h : Box2 w b e x y) {a : Addr} (ha : a.block ≠ b) (v : Value) : Box2 (w.setCell a v) b e x y := Blk.set_other h ha v
end
theorem ow_set {w : World} {base e sz n : Nat} {v : Value} {xs : List Value} (h : w.ownsRow base e sz v n xs) {a : Addr} (ha : a.block < base) (x : Value) : (w.setCell a x).ownsRow base e sz v n xs := by
  refine ⟨h.1, ?_⟩
  rcases h.2 with hn | ⟨g, cap, cur, rfl, hb, hgg, rest⟩
  · exact .inl hn
  · exact .inr ⟨g, cap, cur, rfl, hb, (Below.heap_setCell _ _ _ _ (by omega)).trans hgg, rest⟩
theorem Cur.set_other {w : World} {B p m cap : Nat} {ao : Option Addr} {C : Nat → Int} {c : Cu} (h : Cur w B p ao m cap C c) {a : Addr} (ha : p < a.block) (v : Value) : Cur (w.setCell a v) B p ao m cap C c := by
  obtain ⟨h1, h2, h3, h4, h5⟩ := h
  exact ⟨Blk.set_other h1 (by omega) v, h2.below ((Below.refl _ _).setCell (by omega) v), h3, h4, h5⟩

theorem Turned.of_set2 {w : World} {r e : Nat} {x y : Value} (h : Box2 w r e x y) (u v : Value) : Turned w ((w.setCell ⟨r, 0, none⟩ u).setCell ⟨r, 1, none⟩ v) (· = e) r (r + 1) :=
  (Turned.set (E := (· = e)) (i := 0) h rfl (Nat.le_refl _) (Nat.lt_succ_self _) u).trans (Turned.set (E := (· = e)) (i := 1) (Blk.set h 0 u) rfl (Nat.le_refl _) (Nat.lt_succ_self _) v)

/-- what stands ahead of a round of the first loop: the layout's block q, the result's block r -/
structure LyI (w wr : World) (B p : Nat) (ao : Option Addr) (m cap : Nat) (C : Nat → Int) (q r : Nat) (S : Int) (u : Value) (z : Cu × List (Int × Int)) : Prop where
  cur : Cur wr B p ao m cap C z.1
  lay : Box2 wr q 25 (.int .i64 S) u
  own : wr.ownsRow (q + 1) 74 2 u z.2.length (prC z.2)
  res : Box2 wr r 25 (.int .i64 0) (.slice none 0 0)
  tur : Turned w wr (· = 61) p (p + 1)
  rq : w.heap.size ≤ r ∧ r < q
theorem LyI.on {w wr w' : World} {B p : Nat} {ao : Option Addr} {m cap : Nat} {C : Nat → Int} {q r : Nat} {S : Int} {u : Value} {z : Cu × List (Int × Int)} (h : LyI w wr B p ao m cap C q r S u z) (hb : Below wr.heap.size wr w') : LyI w w' B p ao m cap C q r S u z :=
  ⟨h.cur.on hb, h.lay.on hb, ow_on h.own hb, h.res.on hb, h.tur.trans (Turned.of_below hb), h.rq⟩
theorem LyI.alloc {w wr : World} {B p : Nat} {ao : Option Addr} {m cap : Nat} {C : Nat → Int} {q r : Nat} {S : Int} {u : Value} {z : Cu × List (Int × Int)} (h : LyI w wr B p ao m cap C q r S u z) (o : Obj) : LyI w (wr.alloc o) B p ao m cap C q r S u z := h.on (by repeat (first | exact Below.refl _ _ | assumption | refine below_alloc ?_ _ | refine Below.setCell ?_ (by first | omega | (simp; done) | (simp; omega)) _ | refine Below.alloc ?_ (by first | omega | (simp; done) | (simp; omega)) _ | refine Below.drew ?_))
theorem LyI.pick {w wr w2 : World} {B p : Nat} {ao : Option Addr} {m cap : Nat} {C : Nat → Int} {q r : Nat} {S : Int} {u : Value} {z : Cu × List (Int × Int)} (h : LyI w wr B p ao m cap C q r S u z) {c : Cu} (hc : Cur w2 B p ao m cap C c) (ht : Turned wr w2 (· = 61) p (p + 1)) : LyI w w2 B p ao m cap C q r S u (c, z.2) :=
  ⟨hc, h.lay.turned ht (.inl (by decide)), ow_turned h.own ht (by decide), h.res.turned ht (.inl (by decide)), h.tur.trans ht, h.rq⟩
/-- one more counter -/
theorem LyI.app {w U w6 : World} {B p : Nat} {ao : Option Addr} {m cap : Nat} {C : Nat → Int} {q r : Nat} {S : Int} {u v : Value} {z : Cu × List (Int × Int)} (h : LyI w U B p ao m cap C q r S u z) (x : Int × Int) (hpw : p < w.heap.size) (hown : w6.ownsRow (q + 1) 74 2 v (z.2.length + 1) (prC z.2 ++ [.int .i64 x.1, .int .i64 x.2])) (hg : Turned U w6 (· = 74) (q + 1) U.heap.size) : LyI w (w6.setCell ⟨q, 1, none⟩ v) B p ao m cap C q r S v (z.1, z.2 ++ [x]) := by
  obtain ⟨h1, h2⟩ := h.rq
  have h3 := h.cur.2.2.1
  have h4 := h.lay.lt
  have c6 : Cur w6 B p ao m cap C z.1 := h.cur.turned hg (.inl (by decide)) (by omega)
  refine ⟨c6.set_other (show p < q by omega) v, (h.lay.turned hg (.inl (by decide))).set1 v, ?_, (h.res.turned hg (.inl (by decide))).set_other (show q ≠ r by omega) v, ?_, h.rq⟩
  · rw [prC_snoc, List.length_append]
    exact ow_set hown (show q < q + 1 by omega) v
  · exact h.tur.more (((hg.below (Nat.le_refl _) (by omega)).mono (by omega)).setCell (show w.heap.size ≤ q by omega) v)

set_option maxRecDepth 100000 in
set_option maxHeartbeats 4000000 in
theorem layout_any (B p m cap : Nat) (ao : Option Addr) (C : Nat → Int) (c : Cu) (w : World) (h : Cur w B p ao m cap C c) (hq : c.pos < 1000) :
    Calls Tryd.prog 21 #[.pointer (some ⟨p, 0, none⟩)] w fun e w' => ∃ g, e = .returned (.agg #[.int .i64 (lyS C m c : Int), .slice (gA g) (lyZ C m c).2.length (gC g)]) ∧ CRow w' g (lyZ C m c).2.length (fstF (lyZ C m c).2) (sndF (lyZ C m c).2) ∧ Cur w' B p ao m cap C (lyZ C m c).1 ∧ Turned w w' (· = 61) p (p + 1) := by
  obtain ⟨i0, hi, hz0, hz1, hz2⟩ := info_parts Tryd.infoCn
  obtain ⟨s1, s2, s3⟩ := lyS_range C m c
  have hpw := h.lt
  have eR : lyR C m c = lyA C m (lyS C m c : Int) (pkC C m c 5) (lyS C m c + 1) := rfl
  have eZ : lyZ C m c = lyB C m (lyS C m c : Int) (pkC C m (lyR C m c).1 3, (lyR C m c).2) (pkV C m (lyR C m c).1 3).toNat := rfl
  obtain ⟨zf1, zf2, zf3⟩ := lyR_facts C m c
  obtain ⟨S, eS⟩ : ∃ S, lyS C m c = S := ⟨_, rfl⟩
  rw [eS] at s1 s2 s3 eR eZ zf3 ⊢
  obtain ⟨Z, eZ'⟩ : ∃ Z, lyZ C m c = Z := ⟨_, rfl⟩
  rw [eZ'] at eZ ⊢
  go_enter Tryd.func21, Tryd.ntmps21
  go_wp2_with fail
  refine (pick_any B p m cap ao C c 5 _ (h.alloc _) (by omega) (by omega)).mono ?_
  rintro e w1 ⟨rfl, k1, t1⟩
  have r1 := (Box2.lay w (.int .i64 0) (.slice none 0 0) 25).turned t1 (.inl (by decide))
  have T1 : Turned w w1 (· = 61) p (p + 1) := (Turned.of_below (show Below w.heap.size w _ from (by repeat (first | exact Below.refl _ _ | assumption | refine below_alloc ?_ _ | refine Below.setCell ?_ (by first | omega | (simp; done) | (simp; omega)) _ | refine Below.alloc ?_ (by first | omega | (simp; done) | (simp; omega)) _ | refine Below.drew ?_)))).trans t1
  have p5 := pk_pos C m c 5
  obtain ⟨v, ev⟩ : ∃ v, pkV C m c 5 = v := ⟨_, rfl⟩
  rw [ev] at s1 ⊢
  obtain ⟨c1, ec1⟩ : ∃ c1, pkC C m c 5 = c1 := ⟨_, rfl⟩
  rw [ec1] at k1 p5 eR
  have I1 : LyI w (w1.alloc (.cells #[.int .i64 (1 + v), .slice none 0 0] 25)) B p ao m cap C w1.heap.size w.heap.size (1 + v) (.slice none 0 0) (lyA C m (S : Int) c1 0) :=
    ⟨k1.alloc _, Box2.lay w1 _ _ _, World.ownsRow_nil _ _ _ _, r1.alloc _, T1.trans (Turned.of_below (by repeat (first | exact Below.refl _ _ | assumption | refine below_alloc ?_ _ | refine Below.setCell ?_ (by first | omega | (simp; done) | (simp; omega)) _ | refine Below.alloc ?_ (by first | omega | (simp; done) | (simp; omega)) _ | refine Below.drew ?_))), Nat.le_refl _, r1.lt⟩
  have hv0 : 0 ≤ v := by omega
  have hv1 : v < 5 := by omega
  obtain ⟨q, eq⟩ : ∃ q, w1.heap.size = q := ⟨_, rfl⟩
  have S1 : Hid ((S : Int) = 1 + v) := s1
  have ER : Hid _ := eR
  have EZ : Hid _ := eZ
  have EQ : Hid _ := eq
  clear h k1 t1 T1 r1 eR eZ s1 ev ec1 eS eZ'
  go_wp2
  rw [EQ.out] at I1
  go_loopw [4] (fun i wr => ∃ (k : Nat) (u : Value), k ≤ S + 1 ∧ i = .int .i64 k ∧ LyI w wr B p ao m cap C q w.heap.size (1 + v) u (lyA C m (S : Int) c1 k)) (fun i _ => S + 1 - (intOf i).toNat)
  case atStart => exact ⟨0, _, Nat.zero_le _, rfl, I1⟩
  case round =>
    clear I1
    obtain ⟨k, u, hk, rfl, I⟩ := hrel
    obtain ⟨b0, b1⟩ := I.lay.cells
    have lq := I.lay.lt
    by_cases hlt : k ≤ S
    · have hi1 : (k : Int) ≤ 1 + v := by have := S1.out; omega
      obtain ⟨f1, f2, _⟩ := lyA_facts C m (S : Int) c1 k (by omega) (by omega)
      have eA : lyA C m (S : Int) c1 (k + 1) = (pkC C m (lyA C m (S : Int) c1 k).1 12, (lyA C m (S : Int) c1 k).2 ++ (if 0 < pkV C m (lyA C m (S : Int) c1 k).1 12 then [((k : Int) - 1, if (k : Int) = (S : Int) then -1 else (k : Int))] else [])) := rfl
      obtain ⟨z, ez⟩ : ∃ z, lyA C m (S : Int) c1 k = z := ⟨_, rfl⟩
      rw [ez] at I f1 f2 eA
      clear ez
      by_cases hkS : (k : Int) = 1 + v
      · have e : 1 + v = (k : Int) := hkS.symm
        rw [e] at I b0
        have HE : Hid (1 + v = (k : Int)) := e
        clear e hkS hi1 hv0 hv1
        have hU := I.on (show Below wr.heap.size wr (wr.alloc (.cells #[.int .i64 ((k : Int) - 1), .int .i64 (-1)] 74)) from (by repeat (first | exact Below.refl _ _ | assumption | refine below_alloc ?_ _ | refine Below.setCell ?_ (by first | omega | (simp; done) | (simp; omega)) _ | refine Below.alloc ?_ (by first | omega | (simp; done) | (simp; omega)) _ | refine Below.drew ?_)))
        have hx := Box2.lay wr (.int .i64 ((k : Int) - 1)) (.int .i64 (-1)) 74
        go_wp2_with fail
        refine (pick_any B p m cap ao C z.1 12 _ hU.cur (by omega) (by omega)).mono ?_
        rintro e w2 ⟨rfl, c2, t2⟩
        have J := hU.pick c2 t2
        have X2 := hx.turned t2 (.inl (by decide))
        obtain ⟨y, ey⟩ : ∃ y, pkV C m z.1 12 = y := ⟨_, rfl⟩
        rw [ey] at eA ⊢
        have EA : Hid _ := eA
        clear hU hx c2 t2 I b0 b1 lq ey eA
        obtain ⟨l0, l1⟩ := J.lay.cells
        obtain ⟨x0, x1⟩ := X2.cells
        have lq := J.lay.lt
        have lx := X2.lt
        have zl : z.2.length ≤ 6 := by omega
        have hrq := J.rq
        by_cases hy : 0 < y
        · have ownU := ow_on J.own (show Below w2.heap.size w2 (w2.alloc (.cells #[.int .i64 ((k : Int) - 1), .int .i64 (-1)] 74)) from (by repeat (first | exact Below.refl _ _ | assumption | refine below_alloc ?_ _ | refine Below.setCell ?_ (by first | omega | (simp; done) | (simp; omega)) _ | refine Below.alloc ?_ (by first | omega | (simp; done) | (simp; omega)) _ | refine Below.drew ?_)))
          have hnw := nw_cells2 w2 (.int .i64 ((k : Int) - 1)) (.int .i64 (-1)) 74
          have h1c : ∀ x ∈ [Value.int .i64 ((k : Int) - 1), .int .i64 (-1)], x.oneCell' = true := fun x hx => by
            simp only [List.mem_cons, List.not_mem_nil, or_false] at hx
            rcases hx with rfl | rfl <;> rfl
          have JU := J.alloc (.cells #[.int .i64 ((k : Int) - 1), .int .i64 (-1)] 74)
          have kq := fun w6 (hh : Nat) (tg : Turned (w2.alloc (.cells #[.int .i64 ((k : Int) - 1), .int .i64 (-1)] 74)) w6 (· = 74) (q + 1) hh) => JU.lay.turned tg (.inl (by decide))
          have HJ : Hid _ := JU
          have hbq : q + 1 ≤ (w2.alloc (.cells #[.int .i64 ((k : Int) - 1), .int .i64 (-1)] 74)).heap.size := by rw [World.size_alloc]; omega
          clear J X2 JU
          go_wp2_with (first
            | (at_builtin; refine wpList_append_own _ rfl _ _ 23 rfl (q + 1) 74 i0 _ 2 16 Tryd.underlying23 hi hz0 hz1 hz2 rfl (by decide) _ _ _ rfl ownU ⟨w2.heap.size, 0, none⟩ 1 1 [.int .i64 ((k : Int) - 1), .int .i64 (-1)] rfl rfl hnw h1c (by unfold maxLen; omega) (by omega) hbq ?_; intro v' w6 hown' hgrow hnil; obtain ⟨g6, cap6, rfl⟩ := ow_some hown' (by omega); have tg := ow_grown ownU hgrow; obtain ⟨n0, n1⟩ := (kq _ _ tg).cells; obtain ⟨m0, m1⟩ := (kq _ _ tg).frozen))
          go_roundw
          case rel => exact ⟨k + 1, _, by omega, by go_num, by rw [HE.out]; rw [EA.out, if_pos hy, (show (if (k : Int) = (S : Int) then (-1 : Int) else (k : Int)) = -1 from if_pos (by have := S1.out; have := HE.out; omega))]; exact LyI.app HJ.out ((k : Int) - 1, -1) hpw hown' tg⟩
          case measure => simp [intOf]; omega
        · have HJ : Hid _ := J
          clear J X2
          go_wp2
          go_roundw
          case rel => exact ⟨k + 1, u, by omega, by go_num, by rw [HE.out]; rw [EA.out, if_neg (by omega), List.append_nil]; exact HJ.out⟩
          case measure => simp [intOf]; omega
      · have hkS' : ¬ 1 + v = (k : Int) := fun e => hkS e.symm
        have hU := I.on (show Below wr.heap.size wr (wr.alloc (.cells #[.int .i64 ((k : Int) - 1), .int .i64 (k : Int)] 74)) from (by repeat (first | exact Below.refl _ _ | assumption | refine below_alloc ?_ _ | refine Below.setCell ?_ (by first | omega | (simp; done) | (simp; omega)) _ | refine Below.alloc ?_ (by first | omega | (simp; done) | (simp; omega)) _ | refine Below.drew ?_)))
        have hx := (Box2.lay wr (.int .i64 ((k : Int) - 1)) (.int .i64 (k : Int)) 74)
        go_wp2_with fail
        refine (pick_any B p m cap ao C z.1 12 _ hU.cur (by omega) (by omega)).mono ?_
        rintro e w2 ⟨rfl, c2, t2⟩
        have J := hU.pick c2 t2
        have X2 := hx.turned t2 (.inl (by decide))
        obtain ⟨y, ey⟩ : ∃ y, pkV C m z.1 12 = y := ⟨_, rfl⟩
        rw [ey] at eA ⊢
        have EA : Hid _ := eA
        clear hU hx c2 t2 I b0 b1 lq ey eA
        obtain ⟨l0, l1⟩ := J.lay.cells
        obtain ⟨x0, x1⟩ := X2.cells
        have lq := J.lay.lt
        have lx := X2.lt
        have zl : z.2.length ≤ 6 := by omega
        have hrq := J.rq
        by_cases hy : 0 < y
        · have ownU := ow_on J.own (show Below w2.heap.size w2 (w2.alloc (.cells #[.int .i64 ((k : Int) - 1), .int .i64 (k : Int)] 74)) from (by repeat (first | exact Below.refl _ _ | assumption | refine below_alloc ?_ _ | refine Below.setCell ?_ (by first | omega | (simp; done) | (simp; omega)) _ | refine Below.alloc ?_ (by first | omega | (simp; done) | (simp; omega)) _ | refine Below.drew ?_)))
          have hnw := nw_cells2 w2 (.int .i64 ((k : Int) - 1)) (.int .i64 (k : Int)) 74
          have h1c : ∀ x ∈ [Value.int .i64 ((k : Int) - 1), .int .i64 (k : Int)], x.oneCell' = true := fun x hx => by
            simp only [List.mem_cons, List.not_mem_nil, or_false] at hx
            rcases hx with rfl | rfl <;> rfl
          have JU := J.alloc (.cells #[.int .i64 ((k : Int) - 1), .int .i64 (k : Int)] 74)
          have kq := fun w6 (hh : Nat) (tg : Turned (w2.alloc (.cells #[.int .i64 ((k : Int) - 1), .int .i64 (k : Int)] 74)) w6 (· = 74) (q + 1) hh) => JU.lay.turned tg (.inl (by decide))
          have HJ : Hid _ := JU
          have hbq : q + 1 ≤ (w2.alloc (.cells #[.int .i64 ((k : Int) - 1), .int .i64 (k : Int)] 74)).heap.size := by rw [World.size_alloc]; omega
          clear J X2 JU
          go_wp2_with (first
            | (at_builtin; refine wpList_append_own _ rfl _ _ 23 rfl (q + 1) 74 i0 _ 2 16 Tryd.underlying23 hi hz0 hz1 hz2 rfl (by decide) _ _ _ rfl ownU ⟨w2.heap.size, 0, none⟩ 1 1 [.int .i64 ((k : Int) - 1), .int .i64 (k : Int)] rfl rfl hnw h1c (by unfold maxLen; omega) (by omega) hbq ?_; intro v' w6 hown' hgrow hnil; obtain ⟨g6, cap6, rfl⟩ := ow_some hown' (by omega); have tg := ow_grown ownU hgrow; obtain ⟨n0, n1⟩ := (kq _ _ tg).cells; obtain ⟨m0, m1⟩ := (kq _ _ tg).frozen))
          go_roundw
          case rel => exact ⟨k + 1, _, by omega, by go_num, by rw [EA.out, if_pos hy, (show (if (k : Int) = (S : Int) then (-1 : Int) else (k : Int)) = k from if_neg (by have := S1.out; omega))]; exact LyI.app HJ.out ((k : Int) - 1, (k : Int)) hpw hown' tg⟩
          case measure => simp [intOf]; omega
        · have HJ : Hid _ := J
          clear J X2
          go_wp2
          go_roundw
          case rel => exact ⟨k + 1, u, by omega, by go_num, by rw [EA.out, if_neg (by omega), List.append_nil]; exact HJ.out⟩
          case measure => simp [intOf]; omega
    · have hkS : k = S + 1 := by omega
      subst hkS
      have hi1 : ¬ ((S + 1 : Nat) : Int) ≤ 1 + v := by have := S1.out; omega
      rw [← ER.out] at I
      go_wp2_with fail
      refine (pick_any B p m cap ao C (lyR C m c).1 3 _ I.cur (by omega) (by omega)).mono ?_
      rintro e w2 ⟨rfl, c2, t2⟩
      have J := I.pick c2 t2
      rw [← S1.out] at J
      have y1 := pk_range C m (lyR C m c).1 3
      have y2 := y1.2 (by omega)
      have y3 := pk_pos C m (lyR C m c).1 3
      obtain ⟨N, eN⟩ : ∃ N : Nat, pkV C m (lyR C m c).1 3 = N := ⟨_, (Int.toNat_of_nonneg y1.1).symm⟩
      obtain ⟨z0, ez0⟩ : ∃ z0, (pkC C m (lyR C m c).1 3, (lyR C m c).2) = z0 := ⟨_, rfl⟩
      have ZZ : Hid (Z = lyB C m (S : Int) z0 N) := by
        show Z = _
        rw [EZ.out, ez0, eN]; rfl
      have zp : z0.1.pos ≤ c.pos + 8 := by rw [← ez0]; show (pkC C m (lyR C m c).1 3).pos ≤ _; omega
      have zl : z0.2.length ≤ 6 := by rw [← ez0]; exact zf2
      have zg : goodL (S : Int) z0.2 := by rw [← ez0]; exact zf3
      rw [ez0] at J
      rw [eN] at y1 y2 ⊢
      have hN : N < 3 := by omega
      clear I c2 t2 b0 b1 lq ER EZ ez0 eN y1 y2 y3 zf1 zf2 zf3 hi1 S1 hv0 hv1 hlt hk
      go_wp2
      go_loopw [6] (fun i wr => ∃ (k : Nat) (u : Value), k ≤ N ∧ i = .int .i64 ((N : Int) - k) ∧ LyI w wr B p ao m cap C q w.heap.size (S : Int) u (lyB C m (S : Int) z0 k)) (fun i _ => (intOf i).toNat)
      case atStart => exact ⟨0, u, Nat.zero_le _, by simp, J⟩
      case round =>
        clear J
        obtain ⟨k, u, hk, rfl, I⟩ := hrel
        rename World => wq
        obtain ⟨b0, b1⟩ := I.lay.cells
        have lq := I.lay.lt
        obtain ⟨f1, f2, _⟩ := lyB_facts C m (S : Int) z0 k (by omega) zg
        by_cases hlt : k < N
        · have hi1 : (k : Int) < (N : Int) := by omega
          have eA : lyB C m (S : Int) z0 (k + 1) = (pkC C m (pkC C m (lyB C m (S : Int) z0 k).1 ((S : Int) + 1)) ((S : Int) + 1), (lyB C m (S : Int) z0 k).2 ++ (if pkV C m (lyB C m (S : Int) z0 k).1 ((S : Int) + 1) - 1 = pkV C m (pkC C m (lyB C m (S : Int) z0 k).1 ((S : Int) + 1)) ((S : Int) + 1) - 1 then [] else [(pkV C m (lyB C m (S : Int) z0 k).1 ((S : Int) + 1) - 1, pkV C m (pkC C m (lyB C m (S : Int) z0 k).1 ((S : Int) + 1)) ((S : Int) + 1) - 1)])) := rfl
          obtain ⟨z, ez⟩ : ∃ z, lyB C m (S : Int) z0 k = z := ⟨_, rfl⟩
          rw [ez] at I f1 f2 eA
          clear ez
          have g1 := pk_pos C m z.1 ((S : Int) + 1)
          have a1 := pk_range C m z.1 ((S : Int) + 1)
          have a2 := a1.2 (by omega)
          have d1 := pk_range C m (pkC C m z.1 ((S : Int) + 1)) ((S : Int) + 1)
          have d2 := d1.2 (by omega)
          go_wp2_with fail
          refine (pick_any B p m cap ao C z.1 ((S : Int) + 1) _ I.cur (by omega) (by omega)).mono ?_
          rintro e w2 ⟨rfl, c2, t2⟩
          have J := I.pick c2 t2
          obtain ⟨xa, exa⟩ : ∃ xa, pkV C m z.1 ((S : Int) + 1) = xa := ⟨_, rfl⟩
          obtain ⟨ca, eca⟩ : ∃ ca, pkC C m z.1 ((S : Int) + 1) = ca := ⟨_, rfl⟩
          rw [exa, eca] at eA
          rw [eca] at J g1 d1 d2
          rw [exa] at a1 a2 ⊢
          obtain ⟨a0, _⟩ := a1
          clear I c2 t2 b0 b1 lq exa eca
          obtain ⟨b0, b1⟩ := J.lay.cells
          have lq := J.lay.lt
          go_wp2_with fail
          refine (pick_any B p m cap ao C ca ((S : Int) + 1) _ J.cur (by omega) (by omega)).mono ?_
          rintro e w3 ⟨rfl, c3, t3⟩
          have K := J.pick c3 t3
          obtain ⟨xb, exb⟩ : ∃ xb, pkV C m ca ((S : Int) + 1) = xb := ⟨_, rfl⟩
          rw [exb] at eA d1 d2 ⊢
          obtain ⟨d0, _⟩ := d1
          have EA : Hid _ := eA
          clear J c3 t3 b0 b1 lq exb eA
          obtain ⟨b0, b1⟩ := K.lay.cells
          have lq := K.lay.lt
          have zl : z.2.length ≤ 8 := by omega
          by_cases hy : xa = xb
          · subst hy
            have HJ : Hid _ := K
            clear K
            go_wp2
            go_roundw
            case rel => exact ⟨k + 1, u, by omega, by go_num, by rw [EA.out, if_pos trivial, List.append_nil]; exact HJ.out⟩
            case measure => simp [intOf]; omega
          · have hy' : ¬ xb = xa := fun e => hy e.symm
            have ownU := ow_on K.own (show Below w3.heap.size w3 (w3.alloc (.cells #[.int .i64 (xa - 1), .int .i64 (xb - 1)] 74)) from (by repeat (first | exact Below.refl _ _ | assumption | refine below_alloc ?_ _ | refine Below.setCell ?_ (by first | omega | (simp; done) | (simp; omega)) _ | refine Below.alloc ?_ (by first | omega | (simp; done) | (simp; omega)) _ | refine Below.drew ?_)))
            have hnw := nw_cells2 w3 (.int .i64 (xa - 1)) (.int .i64 (xb - 1)) 74
            have h1c : ∀ x ∈ [Value.int .i64 (xa - 1), .int .i64 (xb - 1)], x.oneCell' = true := fun x hx => by
              simp only [List.mem_cons, List.not_mem_nil, or_false] at hx
              rcases hx with rfl | rfl <;> rfl
            have JU := K.alloc (.cells #[.int .i64 (xa - 1), .int .i64 (xb - 1)] 74)
            have kq := fun w6 (hh : Nat) (tg : Turned (w3.alloc (.cells #[.int .i64 (xa - 1), .int .i64 (xb - 1)] 74)) w6 (· = 74) (q + 1) hh) => JU.lay.turned tg (.inl (by decide))
            have HJ : Hid _ := JU
            have hbq : q + 1 ≤ (w3.alloc (.cells #[.int .i64 (xa - 1), .int .i64 (xb - 1)] 74)).heap.size := by rw [World.size_alloc]; omega
            have hne : ¬ xa - 1 = xb - 1 := by omega
            clear K JU
            go_wp2_with (first
              | (at_builtin; refine wpList_append_own _ rfl _ _ 23 rfl (q + 1) 74 i0 _ 2 16 Tryd.underlying23 hi hz0 hz1 hz2 rfl (by decide) _ _ _ rfl ownU ⟨w3.heap.size, 0, none⟩ 1 1 [.int .i64 (xa - 1), .int .i64 (xb - 1)] rfl rfl hnw h1c (by unfold maxLen; omega) (by omega) hbq ?_; intro v' w6 hown' hgrow hnil; obtain ⟨g6, cap6, rfl⟩ := ow_some hown' (by omega); have tg := ow_grown ownU hgrow; obtain ⟨n0, n1⟩ := (kq _ _ tg).cells; obtain ⟨m0, m1⟩ := (kq _ _ tg).frozen))
            go_roundw
            case rel => exact ⟨k + 1, _, by omega, by go_num, by rw [EA.out, if_neg (by omega)]; exact LyI.app HJ.out (xa - 1, xb - 1) hpw hown' tg⟩
            case measure => simp [intOf]; omega
        · have hkN : k = N := by omega
          subst hkN
          rw [← ZZ.out] at I
          obtain ⟨g, rfl, hC⟩ := CRow.of_own I.own
          obtain ⟨r0, r1⟩ := I.res.cells
          obtain ⟨r2, r3⟩ := I.res.frozen
          have lr := I.res.lt
          have hrq := I.rq
          have hne : ¬ w.heap.size = q := by omega
          have hne' : ¬ q = w.heap.size := by omega
          have hi1 : ¬ (0 : Int) < 0 := by omega
          have fin : Below w.heap.size wq ((wq.setCell ⟨w.heap.size, 0, none⟩ (.int .i64 (S : Int))).setCell ⟨w.heap.size, 1, none⟩ (.slice (gA g) Z.2.length (gC g))) := (by repeat (first | exact Below.refl _ _ | assumption | refine below_alloc ?_ _ | refine Below.setCell ?_ (by first | omega | (simp; done) | (simp; omega)) _ | refine Below.alloc ?_ (by first | omega | (simp; done) | (simp; omega)) _ | refine Below.drew ?_))
          have hCf := hC.turned (Turned.of_set2 I.res (.int .i64 (S : Int)) (.slice (gA g) Z.2.length (gC g))) (by decide)
          have hcu := (I.cur.set_other (a := ⟨w.heap.size, 0, none⟩) hpw (.int .i64 (S : Int))).set_other (a := ⟨w.heap.size, 1, none⟩) hpw (.slice (gA g) Z.2.length (gC g))
          have htu := I.tur.more fin
          clear I hC
          go_wp2
          exact bodyPost_ret (v := .agg #[.int .i64 (S : Int), .slice (gA g) Z.2.length (gC g)]) (by simp [results, Tryd.results21, go_sem, r0, r1]) rfl ⟨g, rfl, hCf, hcu, htu⟩

end Go.Proofs.YtlpopfhaephfaaaDoor
