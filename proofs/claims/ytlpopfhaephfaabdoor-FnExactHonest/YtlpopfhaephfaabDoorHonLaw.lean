import Derived.Test.YtlpopfhaephfaabDoorHN2
import Derived.Test.YtlpopfhaephfaabDoorRE1
import Derived.Test.YtlpopfhaephfaabDoorW4
import Derived.Deep.CutBlock
import Derived.Test.YtlpopfhaephfaabDoorTR7
namespace Go.Proofs.YtlpopfhaephfaabDoor
open Go.RowKit

theorem honest_great (S : Int) (ao ae : Option Addr) (n cap m ce : Nat) (w : World) (hl : n ≤ maxLen) (hn : ¬ (n : Int) ≤ 1048576) :
    Calls Tryd.prog 3 #[.agg #[.int .i64 S, .slice ao n cap], .slice ae m ce] w fun e w' => e = .returned (.bool true) ∧ Below w.heap.size w w' := by
  go_enter Tryd.func3, Tryd.ntmps3
  go_wp2_with fail
  refine (szLayout_any _ _ _ _ _ hl).mono ?_
  rw [if_neg (Int.not_le.2 hn)]
  rintro e w1 ⟨rfl, hb1⟩
  go_wp2
  go_ret
  exact ⟨rfl, below_on (show Below w.heap.size w _ from (by repeat (first | exact Below.refl _ _ | assumption | refine below_alloc ?_ _ | refine Below.setCell ?_ (by first | omega | (simp; done) | (simp; omega)) _ | refine Below.alloc ?_ (by first | omega | (simp; done) | (simp; omega)) _ | refine Below.drew ?_))) hb1⟩

theorem honest_great2 (S : Int) (ao ae : Option Addr) (n cap m ce : Nat) (w : World) (hl : n ≤ maxLen) (hm : m ≤ maxLen) (hn : (n : Int) ≤ 1048576) (hz : ¬ (m : Int) ≤ 1048576 - n) :
    Calls Tryd.prog 3 #[.agg #[.int .i64 S, .slice ao n cap], .slice ae m ce] w fun e w' => e = .returned (.bool true) ∧ Below w.heap.size w w' := by
  go_enter Tryd.func3, Tryd.ntmps3
  go_wp2_with fail
  refine (szLayout_any _ _ _ _ _ hl).mono ?_
  rw [if_pos hn]
  rintro e w1 ⟨rfl, hb1⟩
  have B1 := below_on (show Below w.heap.size w _ from (by repeat (first | exact Below.refl _ _ | assumption | refine below_alloc ?_ _ | refine Below.setCell ?_ (by first | omega | (simp; done) | (simp; omega)) _ | refine Below.alloc ?_ (by first | omega | (simp; done) | (simp; omega)) _ | refine Below.drew ?_))) hb1
  have h9 : (0 : Int) ≤ 1048576 - (n : Int) := by omega
  clear hb1
  go_wp2_with fail
  refine (szEventS_any _ _ _ (1048576 - (n : Int)) _ hm (by omega) (by omega)).mono ?_
  rw [if_neg (Int.not_le.2 hz)]
  rintro e w2 ⟨rfl, hw2⟩
  rw [hw2]
  go_wp2
  go_ret
  exact ⟨rfl, B1⟩

set_option maxRecDepth 100000 in
set_option maxHeartbeats 4000000 in
theorem honest_small (S : Int) (ao ae : Option Addr) (n cap m ce : Nat) (F T : Nat → Int) (P : Nat → Nat → Int) (a : Nat → Addr) (w : World) (hn : (n : Int) ≤ 1048576) (hz : (m : Int) ≤ 1048576 - n) (h : Came w ao n F T) (hE : Came3 w ae m P) (ha : Snt w a) (B : Bool)
    (cS : ∀ g ge W, Row W g 81 2 n (two F T) → Row W ge 51 3 m (evs P) → Calls Tryd.prog 8 #[.agg #[.int .i64 S, .slice (some ⟨g, 0, none⟩) n n], .slice (some ⟨ge, 0, none⟩) m m] W fun e w' => e = .returned (.bool B) ∧ Below W.heap.size W w')
    (cI : ∀ g ge W, Row W g 81 2 n (two F T) → Row W ge 51 3 m (evs P) → Snt W a → Calls Tryd.prog 11 #[.agg #[.int .i64 S, .slice (some ⟨g, 0, none⟩) n n], .slice (some ⟨ge, 0, none⟩) m m] W fun e w' => e = .returned (.bool B) ∧ Below W.heap.size W w') :
    Calls Tryd.prog 3 #[.agg #[.int .i64 S, .slice ao n cap], .slice ae m ce] w fun e w' => e = .returned (.bool true) ∧ Below w.heap.size w w' := by
  have hn' : n ≤ 1048576 := by omega
  have hm' : m ≤ 1048576 := by omega
  have hl : n ≤ maxLen := by unfold maxLen; omega
  obtain ⟨A, eA⟩ : ∃ A, w.alloc (.cells #[.int .i64 S, .slice ao n cap] 24) = A := ⟨_, rfl⟩
  have b0 : Below w.heap.size w A := by rw [← eA]; exact (by repeat (first | exact Below.refl _ _ | assumption | refine below_alloc ?_ _ | refine Below.setCell ?_ (by first | omega | (simp; done) | (simp; omega)) _ | refine Below.alloc ?_ (by first | omega | (simp; done) | (simp; omega)) _ | refine Below.drew ?_))
  have bL : Blk A w.heap.size 24 2 (fun i => if i = 0 then .int .i64 S else .slice ao n cap) := by
    rw [← eA]
    exact Blk.new w #[.int .i64 S, .slice ao n cap] 24 _ (fun i hi => by simp at hi; match i, hi with | 0, _ => rfl | 1, _ => rfl)
  have hA : ∀ W, Below A.heap.size A W → Came W ao n F T ∧ Came3 W ae m P ∧ W.cell? ⟨w.heap.size, 0, none⟩ = some (.int .i64 S) ∧ W.cell? ⟨w.heap.size, 1, none⟩ = some (.slice ao n cap) := fun W hb =>
    ⟨h.below (below_on b0 hb), hE.below (below_on b0 hb), (bL.on hb).cell (i := 0) (by omega), (bL.on hb).cell (i := 1) (by omega)⟩
  have EA : Hid _ := eA
  have HA : Hid (Snt w a) := ha
  have h9 : (0 : Int) ≤ 1048576 - (n : Int) := by omega
  have h10 : (0 : Int) ≤ 1048576 - (n : Int) - (m : Int) := by omega
  clear h hE eA bL ha
  go_enter Tryd.func3, Tryd.ntmps3
  go_wp2_with fail
  rw [EA.out]
  refine (szLayout_any _ _ _ _ _ hl).mono ?_
  rw [if_pos hn]
  rintro e w1 ⟨rfl, B1⟩
  go_wp2_with fail
  refine (szEventS_any _ _ _ (1048576 - (n : Int)) _ (by unfold maxLen; omega) (by omega) (by omega)).mono ?_
  rw [if_pos hz]
  rintro e w1' ⟨rfl, hw1⟩
  rw [hw1]
  clear hw1 w1'
  obtain ⟨mL, mE, i0, i1⟩ := hA _ B1
  go_wp2_with fail
  refine (toLayout_any _ _ _ _ F T _ hn' mL).mono ?_
  rintro e w3 ⟨g3, rfl, hg3, r3, hb3⟩
  have B3 := below_on B1 hb3
  clear B1 hb3 mL mE i0 i1
  obtain ⟨mL, mE, i0, i1⟩ := hA _ B3
  go_wp2_with fail
  refine (toEventS_any ae m ce P _ hm' mE).mono ?_
  rintro e w4 ⟨rfl, q4, hb4⟩
  have B4 := below_on B3 hb4
  have r4 := r3.on hb4
  clear B3 hb4 mL mE i0 i1 r3
  go_wp2_with fail
  refine (cS _ _ _ r4 q4).mono ?_
  rintro e w5 ⟨rfl, hb5⟩
  have B5 := below_on B4 hb5
  clear B4 hb5 r4 q4
  obtain ⟨mL, mE, i0, i1⟩ := hA _ B5
  go_wp2_with fail
  refine (toLayout_any _ _ _ _ F T _ hn' mL).mono ?_
  rintro e w6 ⟨g6, rfl, hg6, r6, hb6⟩
  have B6 := below_alloc (below_on B5 hb6) (.cells #[.int .i64 S, .slice (some ⟨g6, 0, none⟩) n n] 31)
  have r6' := r6.alloc (.cells #[.int .i64 S, .slice (some ⟨g6, 0, none⟩) n n] 31)
  have l6 : Blk (w6.alloc (.cells #[.int .i64 S, .slice (some ⟨g6, 0, none⟩) n n] 31)) w6.heap.size 31 2 (fun i => if i = 0 then .int .i64 S else .slice (some ⟨g6, 0, none⟩) n n) := Blk.new w6 #[.int .i64 S, .slice (some ⟨g6, 0, none⟩) n n] 31 _ (fun i hi => by simp at hi; match i, hi with | 0, _ => rfl | 1, _ => rfl)
  have zg6 : g6 < w6.heap.size := r6.lt
  have zA6 : A.heap.size ≤ g6 := by have := B5.size; omega
  obtain ⟨wb, eb⟩ : ∃ wb, w6.alloc (.cells #[.int .i64 S, .slice (some ⟨g6, 0, none⟩) n n] 31) = wb := ⟨_, rfl⟩
  have zb : w6.heap.size < wb.heap.size := by rw [← eb]; simp
  rw [eb] at B6 r6' l6
  have EB : Hid _ := eb
  clear B5 hb6 r6 mL mE i0 i1 eb
  obtain ⟨mL, mE, i0, i1⟩ := hA _ B6
  go_wp2_with fail
  rw [EB.out]
  refine (toEventS_any ae m ce P _ hm' mE).mono ?_
  rintro e w7 ⟨rfl, q7, hb7⟩
  have B7 := below_on B6 hb7
  have r7 := r6'.on hb7
  have l7 := l6.on hb7
  have e7 : SlF w7 51 3 wb.heap.size (wb.heap.size + 1) _ m (evs P) := SlF.of_row q7 (Nat.le_refl _) (Nat.lt_succ_self _)
  have zq : wb.heap.size < w7.heap.size := q7.lt
  clear B6 hb7 r6' l6 mL mE i0 i1 EB
  have j0 := l7.cell (i := 0) (by omega)
  have j1 := l7.cell (i := 1) (by omega)
  simp only [Nat.one_ne_zero, if_false, if_true] at j0 j1
  go_wp2_with fail
  refine (cI _ _ _ r7 q7 (HA.out.on (below_on b0 B7))).mono ?_
  rintro e w8 ⟨rfl, hb8⟩
  have B8 := below_on B7 hb8
  have r8 := r7.on hb8
  have l8 := l7.on hb8
  have e8 := e7.on hb8
  have z8 := hb8.size
  clear B7 hb8 r7 l7 e7 j0 j1 q7
  have hA0 := fun W (hb : Below w8.heap.size w8 W) => hA W (below_on B8 hb)
  go_upto_region 14 with fail
  go_cut [39] from 35 (fun q wc => q = .bool false ∧ Below w8.heap.size w8 wc)
  case first =>
    have Bc : Below w8.heap.size w8 w8.drew := (Below.refl _ _).drew
    obtain ⟨mL, mE, i0, i1⟩ := hA0 _ Bc
    have lB := l8.on Bc
    have rL := r8.on Bc
    have q0 := lB.cell (i := 0) (by omega)
    have q1 := lB.cell (i := 1) (by omega)
    simp only [Nat.one_ne_zero, if_false, if_true] at q0 q1
    go_region_with (first
      | (go_at_call 9; refine (toLayout_any _ _ _ _ F T _ hn' mL).mono ?_; rintro e wL ⟨gL, rfl, hgL, rN, hbL⟩; have Bc := below_on Bc hbL; have lB := lB.on hbL; have q0 := lB.cell (i := 0) (by omega); have q1 := lB.cell (i := 1) (by omega); have rL := rL.on hbL)
      | (go_at_call 12; refine (eqLayout_same _ _ _ _ F T _ rL rN hn').mono ?_; rintro e w9' ⟨rfl, hb9⟩; have Bc := below_on Bc hb9))
    all_goals
      go_wp2_with fail
      go_meet
      case rel => exact ⟨rfl, Bc⟩
  case rest =>
    obtain ⟨rfl, hb14⟩ := hcut
    rename World => w14
    have B14 := below_on B8 hb14
    have e14 := e8.on hb14
    clear B8 r8 l8 e8 hb14 hA0
    obtain ⟨mL, mE, i0, i1⟩ := hA _ B14
    go_wp2_with fail
    refine (toEventS_any ae m ce P _ hm' mE).mono ?_
    rintro e w15 ⟨rfl, q15, hb15⟩
    have B15 := below_on B14 hb15
    have e15 := e14.on hb15
    clear B14 e14 hb15 mL mE i0 i1
    go_wp2_with fail
    refine (eqEventS_same _ _ _ _ _ _ _ P _ hm' e15 (SlF.of_row q15 (Nat.le_refl _) (Nat.lt_succ_self _))).mono ?_
    rintro e w16 ⟨rfl, hb16⟩
    have B16 := below_on b0 (below_on B15 hb16)
    clear B15 e15 hb16 q15
    go_wp2
    go_ret
    exact ⟨rfl, B16⟩

end Go.Proofs.YtlpopfhaephfaabDoor
