import Derived.Test.YtlpopfhaephfaabGreatDoorRN2
namespace Go.Proofs.YtlpopfhaephfaabGreatDoor
open Go.RowKit Go.Maps

/-- the number at which the marks of the k-th Done begin -/
def mkQ (q0 : Int) (ns nd : Nat) : Nat → Int
  | 0 => q0
  | k + 1 => mkQ q0 ns nd k + 1 + 1 + 5 * (ns : Int) + (nd : Int)

theorem mkQ_bound {q0 : Int} {ns nd k : Nat} (hs : ns ≤ 60) (hd : nd ≤ 120) (h0 : 0 ≤ q0) : 0 ≤ mkQ q0 ns nd k ∧ mkQ q0 ns nd k ≤ q0 + 422 * (k : Int) := by
  induction k with
  | zero => simp [mkQ]; omega
  | succ k ih => simp only [mkQ]; omega

/-- what stands of the Dones behind k rounds of marking -/
def mrkC (q0 : Int) (ns nd k : Nat) (C : Nat → Int) : Nat → Int := fun i => if i < k then mkQ q0 ns nd i else C i
def mrkB (q0 : Int) (ns nd k : Nat) (B : Nat → Bool) : Nat → Bool := fun i => if i < k then (mkQ q0 ns nd i + 1) % 3 == 0 else B i
def mrkX (q0 : Int) (ns nd k : Nat) (X : Nat → Nat → Sec) : Nat → Nat → Sec := fun i => if i < k then markSecs (mkQ q0 ns nd i + 1 + 1) else X i
def mrkD (q0 : Int) (ns nd k : Nat) (D : Nat → Nat → Bool) : Nat → Nat → Bool := fun i => if i < k then markB (mkQ q0 ns nd i + 1 + 1 + 5 * (ns : Int)) else D i

/-- a list of Dones that is marked from q0 on -/
def MkD (w : World) (lo hi : Nat) (v : Value) (m ns nd : Nat) (q0 : Int) : Prop :=
  DnF w lo hi v m ns nd (mkQ q0 ns nd) (fun i => (mkQ q0 ns nd i + 1) % 3 == 0) (fun i => markSecs (mkQ q0 ns nd i + 1 + 1)) (fun i => markB (mkQ q0 ns nd i + 1 + 1 + 5 * (ns : Int)))

def isDn (e : Nat) : Prop := e = 48 ∨ isSt e

/-- what stands behind k rounds of marking, the lists' places being given -/
def MrkI (w : World) (g mm m ns nd : Nat) (A1 A2 : Nat → Value) (L : Nat → Nat) (q0 : Int) (C : Nat → Int) (B : Nat → Bool) (X : Nat → Nat → Sec) (D : Nat → Nat → Bool) (k : Nat) : Prop :=
  ∃ f, Blk w g 48 mm f ∧ (∀ i, i < m → ∀ j, j < 4 → f (i * 4 + j) = dnF (mrkC q0 ns nd k C i) (mrkB q0 ns nd k B i) (A1 i) (A2 i) j) ∧ ∀ i, i < m → SlF w 50 5 (L i) (L (i + 1)) (A1 i) ns (secs (mrkX q0 ns nd k X i)) ∧ SlF w 4 1 (L i) (L (i + 1)) (A2 i) nd (bools (mrkD q0 ns nd k D i))

theorem rise {L : Nat → Nat} {m : Nat} (h : ∀ i, i < m → L i ≤ L (i + 1)) : ∀ j i, i + j ≤ m → L i ≤ L (i + j) := fun j => by
  induction j with
  | zero => intro i _; exact Nat.le_refl _
  | succ j ih => intro i hi; have := h (i + j) (by omega); have := ih i (by omega); rw [← Nat.add_assoc]; omega

theorem rise' {L : Nat → Nat} {m : Nat} (h : ∀ i, i < m → L i ≤ L (i + 1)) {a b : Nat} (hab : a ≤ b) (hb : b ≤ m) : L a ≤ L b := by
  have := rise h (b - a) a (by omega)
  rwa [show a + (b - a) = b by omega] at this

theorem mrk_step {wr w1 w2 : World} {g mm m ns nd k lo hi : Nat} {A1 A2 : Nat → Value} {L : Nat → Nat} {q0 : Int} {C : Nat → Int} {B : Nat → Bool} {X : Nat → Nat → Sec} {D : Nat → Nat → Bool}
    (hL : ∀ i, i < m → L i ≤ L (i + 1)) (hlo : lo ≤ g) (hhi : g < hi) (l1 : lo ≤ L 0) (l2 : L m ≤ hi) (hk : k < m) (h : MrkI wr g mm m ns nd A1 A2 L q0 C B X D k)
    (s1 : SlF w1 50 5 (L k) (L (k + 1)) (A1 k) ns (secs (markSecs (mkQ q0 ns nd k + 1 + 1)))) (t1 : Turned ((wr.setCell ⟨g, k * 4, none⟩ (.int .i64 (mkQ q0 ns nd k))).setCell ⟨g, k * 4 + 1, none⟩ (.bool ((mkQ q0 ns nd k + 1) % 3 == 0))) w1 (· = 50) (L k) (L (k + 1)))
    (s2 : SlF w2 4 1 (L k) (L (k + 1)) (A2 k) nd (bools (markB (mkQ q0 ns nd k + 1 + 1 + 5 * (ns : Int))))) (t2 : Turned w1 w2 (· = 4) (L k) (L (k + 1))) :
    MrkI w2 g mm m ns nd A1 A2 L q0 C B X D (k + 1) ∧ Turned wr w2 isDn lo hi := by
  obtain ⟨f, hB, hf, hS⟩ := h
  have T0 : Turned wr ((wr.setCell ⟨g, k * 4, none⟩ (.int .i64 (mkQ q0 ns nd k))).setCell ⟨g, k * 4 + 1, none⟩ (.bool ((mkQ q0 ns nd k + 1) % 3 == 0))) (· = 48) lo hi := Turned.of_grown (grown_set (grown_set (World.grownBy.refl _ _) _) _) hlo hhi rfl hB
  have b0 := (hB.set (k * 4) (.int .i64 (mkQ q0 ns nd k))).set (k * 4 + 1) (.bool ((mkQ q0 ns nd k + 1) % 3 == 0))
  have b2 := Blk.turned (Blk.turned b0 t1 (.inl (by decide))) t2 (.inl (by decide))
  have r0 := rise' hL (Nat.zero_le k) (Nat.le_of_lt hk)
  have r1 := rise' hL (a := k + 1) (b := m) hk (Nat.le_refl _)
  refine ⟨⟨_, b2, fun i hi j hj => ?_, fun i hi => ?_⟩, ?_⟩
  · by_cases hik : i = k
    · subst hik
      rcases (show j = 0 ∨ j = 1 ∨ j = 2 ∨ j = 3 by omega) with rfl | rfl | rfl | rfl
      · simp [dnF, mrkC]
      · simp [dnF, mrkB]
      · have := hf i hi 2 (by omega); simp [dnF] at this ⊢; exact this
      · have := hf i hi 3 (by omega); simp [dnF] at this ⊢; exact this
    · have e1 : ¬ i * 4 + j = k * 4 + 1 := by omega
      have e2 : ¬ i * 4 + j = k * 4 := by omega
      have e3 : mrkC q0 ns nd (k + 1) C i = mrkC q0 ns nd k C i := by unfold mrkC; by_cases h : i < k; rw [if_pos h, if_pos (by omega)]; rw [if_neg h, if_neg (by omega)]
      have e4 : mrkB q0 ns nd (k + 1) B i = mrkB q0 ns nd k B i := by unfold mrkB; by_cases h : i < k; rw [if_pos h, if_pos (by omega)]; rw [if_neg h, if_neg (by omega)]
      simp only [e1, e2, if_false, e3, e4]
      exact hf i hi j hj
  · by_cases hik : i = k
    · subst hik
      have e5 : mrkX q0 ns nd (i + 1) X i = markSecs (mkQ q0 ns nd i + 1 + 1) := by unfold mrkX; rw [if_pos (by omega)]
      have e6 : mrkD q0 ns nd (i + 1) D i = markB (mkQ q0 ns nd i + 1 + 1 + 5 * (ns : Int)) := by unfold mrkD; rw [if_pos (by omega)]
      rw [e5, e6]
      exact ⟨s1.turned t2 (.inl (by decide)), s2⟩
    · have e5 : mrkX q0 ns nd (k + 1) X i = mrkX q0 ns nd k X i := by unfold mrkX; by_cases h : i < k; rw [if_pos h, if_pos (by omega)]; rw [if_neg h, if_neg (by omega)]
      have e6 : mrkD q0 ns nd (k + 1) D i = mrkD q0 ns nd k D i := by unfold mrkD; by_cases h : i < k; rw [if_pos h, if_pos (by omega)]; rw [if_neg h, if_neg (by omega)]
      rw [e5, e6]
      have hd : L (k + 1) ≤ L i ∨ L (i + 1) ≤ L k := by
        rcases Nat.lt_or_gt_of_ne hik with h | h
        · exact .inr (rise' hL h (by omega))
        · exact .inl (rise' hL h (by omega))
      exact ⟨(((hS i hi).1.turned T0 (.inl (by decide))).turned t1 (.inr hd)).turned t2 (.inl (by decide)), (((hS i hi).2.turned T0 (.inl (by decide))).turned t1 (.inl (by decide))).turned t2 (.inr hd)⟩
  · refine (T0.mono (fun e he => .inl he) (Nat.le_refl _) (Nat.le_refl _)).trans ((t1.mono (fun e he => .inr (.inl he)) (by omega) (by omega)).trans (t2.mono (fun e he => .inr (.inr he)) (by omega) (by omega)))

end Go.Proofs.YtlpopfhaephfaabGreatDoor
