import Derived.Test.YtlpopfhaephfaabW4
import Derived.Test.YtlpopfhaephfaabRE1
import Derived.Test.YtlpopfhaephfaabMkL
import Derived.Deep.CutBlock
namespace Go.Proofs.Ytlpopfhaephfaab
open Go.RowKit

/-- What a list of events is answered with: a predicate of the answer's memory (between lo and hi), and of the answer when it is marked. -/
structure AnsOk (Ans Mk : World → Nat → Nat → Value → Prop) : Prop where
  on : ∀ {W W' : World} {lo hi : Nat} {v : Value}, Ans W lo hi v → Below W.heap.size W W' → Ans W' lo hi v
  turned : ∀ {W W' : World} {E : Nat → Prop} {lo' hi' lo hi : Nat} {v : Value}, Ans W lo hi v → Turned W W' E lo' hi' → (hi' ≤ lo ∨ hi ≤ lo') → Ans W' lo hi v
  mon : ∀ {W W' : World} {lo hi : Nat} {v : Value}, Mk W lo hi v → Below W.heap.size W W' → Mk W' lo hi v

def AnsC (fn : Nat) (S : Int) (n : Nat) (F T : Nat → Int) (m : Nat) (P : Nat → Nat → Int) (Ans : World → Nat → Nat → Value → Prop) : Prop :=
  ∀ (g le he : Nat) (ve : Value) (W : World), Row W g 88 2 n (two F T) → SlF W 33 3 le he ve m (evs P) →
    Calls Try.prog fn #[.agg #[.int .i64 S, .slice (some ⟨g, 0, none⟩) n n], ve] W fun e w' => ∃ u, e = .returned u ∧ Ans w' W.heap.size w'.heap.size u ∧ Below W.heap.size W w'
def EqC (fn : Nat) (Ans : World → Nat → Nat → Value → Prop) : Prop := ∀ (W : World) (lo hi lo' hi' : Nat) (v v' : Value), Ans W lo hi v → Ans W lo' hi' v' → Calls Try.prog fn #[v, v'] W fun e w' => e = .returned (.bool true) ∧ Below W.heap.size W w'
def MarkC (fn : Nat) (Ans Mk : World → Nat → Nat → Value → Prop) (Q : Int) : Prop := ∀ (W : World) (lo hi : Nat) (v : Value), lo ≤ hi → Ans W lo hi v → Calls Try.prog fn #[v, .int .i64 1] W fun e w' => e = .returned (.int .i64 Q) ∧ Mk w' lo hi v ∧ ∃ E : Nat → Prop, Turned W w' E lo hi
def HeldC (fn : Nat) (Mk : World → Nat → Nat → Value → Prop) (Q : Int) : Prop := ∀ (W : World) (lo hi : Nat) (v : Value), Mk W lo hi v → Calls Try.prog fn #[v, .int .i64 1] W fun e w' => e = .returned (.int .i64 Q) ∧ Below W.heap.size W w'

end Go.Proofs.Ytlpopfhaephfaab

namespace Go.Proofs.Ytlpopfhaephfaab
open Go.RowKit

/-- AnsC where the events are a row of their own. -/
def AnsC2 (fn : Nat) (S : Int) (n : Nat) (F T : Nat → Int) (m : Nat) (P : Nat → Nat → Int) (Ans : World → Nat → Nat → Value → Prop) : Prop :=
  ∀ (g ge : Nat) (W : World), Row W g 88 2 n (two F T) → Row W ge 33 3 m (evs P) →
    Calls Try.prog fn #[.agg #[.int .i64 S, .slice (some ⟨g, 0, none⟩) n n], .slice (some ⟨ge, 0, none⟩) m m] W fun e w' => ∃ u, e = .returned u ∧ Ans w' W.heap.size w'.heap.size u ∧ Below W.heap.size W w'

end Go.Proofs.Ytlpopfhaephfaab

namespace Go.Proofs.Ytlpopfhaephfaab
open Go.RowKit

theorem gaps_great (S : Int) (ao ae : Option Addr) (n cap m ce : Nat) (w : World) (hl : n ≤ maxLen) (hn : ¬ (n : Int) ≤ 1048576) :
    Calls Try.prog 8 #[.agg #[.int .i64 S, .slice ao n cap], .slice ae m ce] w fun e w' => e = .returned (.bool true) ∧ Below w.heap.size w w' := by
  go_enter Try.func8, Try.ntmps8
  go_wp2_with fail
  refine (szLayout_any _ _ _ _ _ hl).mono ?_
  rw [if_neg (Int.not_le.2 hn)]
  rintro e w1 ⟨rfl, hb1⟩
  go_wp2
  go_ret
  exact ⟨rfl, below_on (show Below w.heap.size w _ from (by repeat (first | exact Below.refl _ _ | assumption | refine below_alloc ?_ _ | refine Below.setCell ?_ (by first | omega | (simp; done) | (simp; omega)) _ | refine Below.alloc ?_ (by first | omega | (simp; done) | (simp; omega)) _ | refine Below.drew ?_))) hb1⟩

theorem gaps_great2 (S : Int) (ao ae : Option Addr) (n cap m ce : Nat) (w : World) (hl : n ≤ maxLen) (hm : m ≤ maxLen) (hn : (n : Int) ≤ 1048576) (hz : ¬ (m : Int) ≤ 1048576 - n) :
    Calls Try.prog 8 #[.agg #[.int .i64 S, .slice ao n cap], .slice ae m ce] w fun e w' => e = .returned (.bool true) ∧ Below w.heap.size w w' := by
  go_enter Try.func8, Try.ntmps8
  go_wp2_with fail
  refine (szLayout_any _ _ _ _ _ hl).mono ?_
  rw [if_pos hn]
  rintro e w1 ⟨rfl, hb1⟩
  have B1 := below_on (show Below w.heap.size w _ from (by repeat (first | exact Below.refl _ _ | assumption | refine below_alloc ?_ _ | refine Below.setCell ?_ (by first | omega | (simp; done) | (simp; omega)) _ | refine Below.alloc ?_ (by first | omega | (simp; done) | (simp; omega)) _ | refine Below.drew ?_))) hb1
  have h9 : (0 : Int) ≤ 1048576 - (n : Int) := by omega
  clear hb1
  go_wp2_with fail
  refine (szEventS_any _ _ _ (1048576 - (n : Int)) _ hm (by omega) (by omega)).mono ?_
  rw [if_neg (Int.not_le.2 hz)]
  rintro e w2 ⟨rfl, hw2⟩
  rw [hw2]
  go_wp2
  go_ret
  exact ⟨rfl, B1⟩

set_option maxRecDepth 100000 in
set_option maxHeartbeats 4000000 in
theorem gaps_small (S : Int) (ao ae : Option Addr) (n cap m ce : Nat) (F T : Nat → Int) (P : Nat → Nat → Int) (w : World) (hn : (n : Int) ≤ 1048576) (hz : (m : Int) ≤ 1048576 - n) (h : Came w ao n F T) (hE : Came3 w ae m P)
    (Ans Mk : World → Nat → Nat → Value → Prop) (Q : Int) (hQ : 0 ≤ Q) (hO : AnsOk Ans Mk) (cS : AnsC2 41 S n F T m P Ans) (cI : AnsC2 42 S n F T m P Ans) (cE : EqC 43 Ans) (cM : MarkC 44 Ans Mk Q) (cH : HeldC 45 Mk Q) :
    Calls Try.prog 8 #[.agg #[.int .i64 S, .slice ao n cap], .slice ae m ce] w fun e w' => e = .returned (.bool true) ∧ Below w.heap.size w w' := by
  have hn' : n ≤ 1048576 := by omega
  have hm' : m ≤ 1048576 := by omega
  have hl : n ≤ maxLen := by unfold maxLen; omega
  unfold AnsC2 at cS cI
  unfold EqC at cE
  unfold MarkC at cM
  unfold HeldC at cH
  obtain ⟨A, eA⟩ : ∃ A, w.alloc (.cells #[.int .i64 S, .slice ao n cap] 24) = A := ⟨_, rfl⟩
  have b0 : Below w.heap.size w A := by rw [← eA]; exact (by repeat (first | exact Below.refl _ _ | assumption | refine below_alloc ?_ _ | refine Below.setCell ?_ (by first | omega | (simp; done) | (simp; omega)) _ | refine Below.alloc ?_ (by first | omega | (simp; done) | (simp; omega)) _ | refine Below.drew ?_))
  have bL : Blk A w.heap.size 24 2 (fun i => if i = 0 then .int .i64 S else .slice ao n cap) := by
    rw [← eA]
    exact Blk.new w #[.int .i64 S, .slice ao n cap] 24 _ (fun i hi => by simp at hi; match i, hi with | 0, _ => rfl | 1, _ => rfl)
  have hA : ∀ W, Below A.heap.size A W → Came W ao n F T ∧ Came3 W ae m P ∧ W.cell? ⟨w.heap.size, 0, none⟩ = some (.int .i64 S) ∧ W.cell? ⟨w.heap.size, 1, none⟩ = some (.slice ao n cap) := fun W hb =>
    ⟨h.below (below_on b0 hb), hE.below (below_on b0 hb), (bL.on hb).cell (i := 0) (by omega), (bL.on hb).cell (i := 1) (by omega)⟩
  have EA : Hid _ := eA
  have h9 : (0 : Int) ≤ 1048576 - (n : Int) := by omega
  have h10 : (0 : Int) ≤ 1048576 - (n : Int) - (m : Int) := by omega
  clear h hE eA bL
  go_enter Try.func8, Try.ntmps8
  go_wp2_with fail
  rw [EA.out]
  refine (szLayout_any _ _ _ _ _ hl).mono ?_
  rw [if_pos hn]
  rintro e w1 ⟨rfl, B1⟩
  go_wp2_with fail
  refine (szEventS_any _ _ _ (1048576 - (n : Int)) _ (by unfold maxLen; omega) (by omega) (by omega)).mono ?_
  rw [if_pos hz]
  rintro e w1' ⟨rfl, hw1⟩
  rw [hw1]
  clear hw1 w1'
  obtain ⟨mL, mE, i0, i1⟩ := hA _ B1
  go_wp2_with fail
  refine (toLayout_any _ _ _ _ F T _ hn' mL).mono ?_
  rintro e w3 ⟨g3, rfl, hg3, r3, hb3⟩
  have B3 := below_on B1 hb3
  clear B1 hb3 mL mE i0 i1
  obtain ⟨mL, mE, i0, i1⟩ := hA _ B3
  go_wp2_with fail
  refine (toEventS_any ae m ce P _ hm' mE).mono ?_
  rintro e w4 ⟨rfl, q4, hb4⟩
  have B4 := below_on B3 hb4
  have r4 := r3.on hb4
  clear B3 hb4 mL mE i0 i1 r3
  go_wp2_with fail
  refine (cS _ _ _ r4 q4).mono ?_
  rintro e w5 ⟨u0, rfl, a5, hb5⟩
  have B5 := below_on B4 hb5
  clear B4 hb5 r4 q4
  obtain ⟨mL, mE, i0, i1⟩ := hA _ B5
  go_wp2_with fail
  refine (toLayout_any _ _ _ _ F T _ hn' mL).mono ?_
  rintro e w6 ⟨g6, rfl, hg6, r6, hb6⟩
  have B6 := below_alloc (below_on B5 hb6) (.cells #[.int .i64 S, .slice (some ⟨g6, 0, none⟩) n n] 31)
  have hb6' : Below w5.heap.size w5 (w6.alloc (.cells #[.int .i64 S, .slice (some ⟨g6, 0, none⟩) n n] 31)) := below_alloc hb6 _
  have a6 := hO.on a5 hb6'
  have r6' := r6.alloc (.cells #[.int .i64 S, .slice (some ⟨g6, 0, none⟩) n n] 31)
  have l6 : Blk (w6.alloc (.cells #[.int .i64 S, .slice (some ⟨g6, 0, none⟩) n n] 31)) w6.heap.size 31 2 (fun i => if i = 0 then .int .i64 S else .slice (some ⟨g6, 0, none⟩) n n) := Blk.new w6 #[.int .i64 S, .slice (some ⟨g6, 0, none⟩) n n] 31 _ (fun i hi => by simp at hi; match i, hi with | 0, _ => rfl | 1, _ => rfl)
  have zg6 : g6 < w6.heap.size := r6.lt
  have zA6 : A.heap.size ≤ g6 := by have := B5.size; omega
  obtain ⟨wb, eb⟩ : ∃ wb, w6.alloc (.cells #[.int .i64 S, .slice (some ⟨g6, 0, none⟩) n n] 31) = wb := ⟨_, rfl⟩
  have zb : w6.heap.size < wb.heap.size := by rw [← eb]; simp
  rw [eb] at B6 a6 r6' l6
  have EB : Hid _ := eb
  clear B5 hb6 hb6' a5 r6 mL mE i0 i1 eb
  obtain ⟨mL, mE, i0, i1⟩ := hA _ B6
  go_wp2_with fail
  rw [EB.out]
  refine (toEventS_any ae m ce P _ hm' mE).mono ?_
  rintro e w7 ⟨rfl, q7, hb7⟩
  have B7 := below_on B6 hb7
  have a7 := hO.on a6 hb7
  have r7 := r6'.on hb7
  have l7 := l6.on hb7
  have e7 : SlF w7 33 3 wb.heap.size (wb.heap.size + 1) _ m (evs P) := SlF.of_row q7 (Nat.le_refl _) (Nat.lt_succ_self _)
  have zq : wb.heap.size < w7.heap.size := q7.lt
  clear B6 hb7 a6 r6' l6 mL mE i0 i1 EB
  have j0 := l7.cell (i := 0) (by omega)
  have j1 := l7.cell (i := 1) (by omega)
  simp only [Nat.one_ne_zero, if_false, if_true] at j0 j1
  go_wp2_with fail
  refine (cI _ _ _ r7 q7).mono ?_
  rintro e w8 ⟨u1, rfl, g8, hb8⟩
  have B8 := below_on B7 hb8
  have a8 := hO.on a7 hb8
  have r8 := r7.on hb8
  have l8 := l7.on hb8
  have e8 := e7.on hb8
  have z8 := hb8.size
  clear B7 hb8 a7 r7 l7 e7 j0 j1 q7
  go_wp2_with fail
  refine (cE _ _ _ _ _ _ _ g8 a8).mono ?_
  rintro e w9 ⟨rfl, hb9⟩
  have B9 := below_on B8 hb9
  have a9 := hO.on a8 hb9
  have g9 := hO.on g8 hb9
  have r9 := r8.on hb9
  have l9 := l8.on hb9
  have e9 := e8.on hb9
  clear B8 hb9 a8 g8 r8 l8 e8
  have hA0 := fun W (hb : Below w9.heap.size w9 W) => hA W (below_on B9 hb)
  go_upto_region 14 with fail
  go_cut [44] from 40 (fun q wc => q = .bool false ∧ Below w9.heap.size w9 wc)
  case first =>
    have Bc : Below w9.heap.size w9 w9.drew := (Below.refl _ _).drew
    obtain ⟨mL, mE, i0, i1⟩ := hA0 _ Bc
    have lB := l9.on Bc
    have rL := r9.on Bc
    have q0 := lB.cell (i := 0) (by omega)
    have q1 := lB.cell (i := 1) (by omega)
    simp only [Nat.one_ne_zero, if_false, if_true] at q0 q1
    go_region_with (first
      | (go_at_call 11; refine (toLayout_any _ _ _ _ F T _ hn' mL).mono ?_; rintro e wL ⟨gL, rfl, hgL, rN, hbL⟩; have Bc := below_on Bc hbL; have lB := lB.on hbL; have q0 := lB.cell (i := 0) (by omega); have q1 := lB.cell (i := 1) (by omega); have rL := rL.on hbL)
      | (go_at_call 14; refine (eqLayout_same _ _ _ _ F T _ rL rN hn').mono ?_; rintro e w9' ⟨rfl, hb9⟩; have Bc := below_on Bc hb9))
    all_goals
      go_wp2_with fail
      go_meet
      case rel => exact ⟨rfl, Bc⟩
  case rest =>
    obtain ⟨rfl, hb14⟩ := hcut
    rename World => w14
    have B14 := below_on B9 hb14
    have a14 := hO.on a9 hb14
    have g14 := hO.on g9 hb14
    have r14 := r9.on hb14
    have l14 := l9.on hb14
    have e14 := e9.on hb14
    clear B9 a9 g9 r9 l9 e9 hb14 hA0
    obtain ⟨mL, mE, i0, i1⟩ := hA _ B14
    go_wp2_with fail
    refine (toEventS_any ae m ce P _ hm' mE).mono ?_
    rintro e w15 ⟨rfl, q15, hb15⟩
    have B15 := below_on B14 hb15
    have a15 := hO.on a14 hb15
    have g15 := hO.on g14 hb15
    have r15 := r14.on hb15
    have l15 := l14.on hb15
    have e15 := e14.on hb15
    clear B14 a14 g14 r14 l14 e14 hb15 mL mE i0 i1
    go_wp2_with fail
    refine (eqEventS_same _ _ _ _ _ _ _ P _ hm' e15 (SlF.of_row q15 (Nat.le_refl _) (Nat.lt_succ_self _))).mono ?_
    rintro e w16 ⟨rfl, hb16⟩
    have B16 := below_on B15 hb16
    have a16 := hO.on a15 hb16
    have g16 := hO.on g15 hb16
    have r16 := r15.on hb16
    have l16 := l15.on hb16
    have e16 := e15.on hb16
    clear B15 a15 g15 r15 l15 e15 hb16 q15
    have q0 := l16.cell (i := 0) (by omega)
    have q1 := l16.cell (i := 1) (by omega)
    simp only [Nat.one_ne_zero, if_false, if_true] at q0 q1
    go_wp2_with fail
    refine (markLayout_any _ _ _ _ _ hn' r16).mono ?_
    rintro e w17 ⟨rfl, hg17⟩
    have T17 : Turned _ w17 (· = 88) g6 (g6 + 1) := Turned.of_grown hg17 (Nat.le_refl _) (by omega) rfl r16
    have B17 : Below A.heap.size A w17 := B16.trans (T17.below zA6 B16.size)
    have a17 := hO.turned a16 T17 (.inr (by omega))
    have g17 := hO.turned g16 T17 (.inl (by omega))
    have e17 := e16.turned T17 (.inl (by decide))
    clear B16 a16 g16 r16 l16 e16 q0 q1 hg17 T17
    have hk0 : (0 : Int) ≤ 1 + 2 * (n : Int) := by omega
    go_wp2_with fail
    refine (markEventS_any _ _ _ _ (1 + 2 * (n : Int)) P _ hm' (by omega) (by omega) e17).mono ?_
    rintro e w18 ⟨rfl, T18⟩
    have B18 : Below A.heap.size A w18 := B17.trans (T18.below (by omega) B17.size)
    have a18 := hO.turned a17 T18 (.inr (by omega))
    have g18 := hO.turned g17 T18 (.inl (by omega))
    clear B17 a17 g17 e17 T18
    have hk1 : ¬ (1 + 2 * (n : Int) + 3 * (m : Int) < 0) := by omega
    go_wp2_with fail
    refine (cE _ _ _ _ _ _ _ g18 a18).mono ?_
    rintro e w21 ⟨rfl, hb21⟩
    have B21 := below_on B18 hb21
    have a21 := hO.on a18 hb21
    have g21 := hO.on g18 hb21
    clear B18 a18 g18 hb21
    go_wp2_with fail
    refine (cM _ _ _ _ z8 g21).mono ?_
    rintro e w24 ⟨rfl, mg, E24, T24⟩
    have B24 : Below A.heap.size A w24 := B21.trans (T24.below (by omega) B21.size)
    have a24 := hO.turned a21 T24 (.inr (by omega))
    clear B21 a21 g21 T24
    go_wp2_with fail
    refine (cH _ _ _ _ mg).mono ?_
    rintro e w26 ⟨rfl, hb26⟩
    have B26 := below_on B24 hb26
    have a26 := hO.on a24 hb26
    have mg := hO.mon mg hb26
    clear B24 a24 hb26
    obtain ⟨mL, mE, i0, i1⟩ := hA _ B26
    go_wp2_with fail
    refine (toLayout_any _ _ _ _ F T _ hn' mL).mono ?_
    rintro e w27 ⟨g27, rfl, hg27, r27, hb27⟩
    have B27 := below_on B26 hb27
    have a27 := hO.on a26 hb27
    have mg := hO.mon mg hb27
    clear B26 a26 hb27 mL mE i0 i1
    obtain ⟨mL, mE, i0, i1⟩ := hA _ B27
    go_wp2_with fail
    refine (toEventS_any ae m ce P _ hm' mE).mono ?_
    rintro e w28 ⟨rfl, q28, hb28⟩
    have B28 := below_on B27 hb28
    have a28 := hO.on a27 hb28
    have mg := hO.mon mg hb28
    have r28 := r27.on hb28
    clear B27 a27 hb28 r27 mL mE i0 i1
    go_wp2_with fail
    refine (cI _ _ _ r28 q28).mono ?_
    rintro e w31 ⟨u2, rfl, h31, hb31⟩
    have B31 := below_on B28 hb31
    have a31 := hO.on a28 hb31
    have mg := hO.mon mg hb31
    clear B28 a28 hb31 r28 q28
    go_wp2_with fail
    refine (cE _ _ _ _ _ _ _ h31 a31).mono ?_
    rintro e w32 ⟨rfl, hb32⟩
    have B32 := below_on B31 hb32
    have mg := hO.mon mg hb32
    clear B31 a31 h31 hb32
    go_wp2_with fail
    refine (cH _ _ _ _ mg).mono ?_
    rintro e w35 ⟨rfl, hb35⟩
    have B35 := below_on b0 (below_on B32 hb35)
    clear B32 hb35 mg
    go_wp2
    go_ret
    exact ⟨rfl, B35⟩

end Go.Proofs.Ytlpopfhaephfaab
